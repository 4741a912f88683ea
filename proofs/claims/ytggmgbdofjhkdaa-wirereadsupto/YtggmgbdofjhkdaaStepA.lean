/- The law's step: the program's reader and the document's answer a call alike, and stand alike behind it. -/
import Derived.Test.YtggmgbdofjhkdaaRefE
import Derived.Test.YtggmgbdofjhkdaaWordA
import Derived.Test.YtggmgbdofjhkdaaLawBack
import Derived.Deep.RegionHeld3
namespace Go.Proofs.Ytggmgbdofjhkdaa
open Go.RowKit

/-- the program's reader and the document's beside one another, over the same bytes; they stand alike -/
structure Pair (W : World) (base1 b1 : Nat) (v1 : Value) (base2 b2 : Nat) (v2 : Value) (bs : List UInt8) (a : Nat) (why wat : Int) : Prop where
  r : Rd W base1 b1 v1 bs a why wat
  q : Qd W base2 b2 v2 bs a why wat
  lt : b1 < base2
  own : ∀ k, v1.ownBlock = some k → k < base2

section
variable {W W' : World} {base1 b1 : Nat} {v1 : Value} {base2 b2 : Nat} {v2 : Value} {bs : List UInt8} {a a' : Nat} {why wat why' wat' : Int}
theorem Pair.below (h : Pair W base1 b1 v1 base2 b2 v2 bs a why wat) (hb : Below W.heap.size W W') : Pair W' base1 b1 v1 base2 b2 v2 bs a why wat :=
  ⟨h.r.below hb, h.q.below hb, h.lt, h.own⟩
theorem Pair.q_after (h : Pair W base1 b1 v1 base2 b2 v2 bs a why wat) (hg : W.grownBy W' (some b1)) : Qd W' base2 b2 v2 bs a why wat := by
  have := h.q.lo
  have := h.lt
  refine h.q.grown hg (by simp; omega) ?_
  cases e : v2.ownBlock with
  | none => exact Or.inl rfl
  | some k =>
    have := (h.q.own.lt k e).1
    exact Or.inr (by simp; omega)
theorem Pair.r_after (h : Pair W base1 b1 v1 base2 b2 v2 bs a why wat) {X Y : World} (hr : Rd X base1 b1 v1 bs a' why' wat') (hg : X.grownBy Y (some b2)) : Rd Y base1 b1 v1 bs a' why' wat' := by
  have := h.q.lo
  have := h.lt
  refine hr.grown hg (by simp; omega) ?_
  cases e : v1.ownBlock with
  | none => exact Or.inl rfl
  | some k =>
    have := h.own k e
    exact Or.inr (by simp; omega)
end

/-- behind a step: the two stand alike, and of what was there ahead of them nothing is turned -/
def After (w w' : World) (base1 b1 : Nat) (v1 : Value) (base2 b2 : Nat) (v2 : Value) (bs : List UInt8) : Prop :=
  (∃ a' why' wat', Pair w' base1 b1 v1 base2 b2 v2 bs a' why' wat') ∧ w.heap.size ≤ w'.heap.size ∧ ∀ w0 : World, Below w0.heap.size w0 w → w0.heap.size ≤ b1 → w0.heap.size ≤ b2 → Below w0.heap.size w0 w'

section
variable {w X Y Z : World} {base1 b1 : Nat} {v1 : Value} {base2 b2 : Nat} {v2 : Value} {bs : List UInt8} {a a' : Nat} {why wat why' wat' : Int}
theorem after_of (hP : Pair X base1 b1 v1 base2 b2 v2 bs a why wat) (hX : Below w.heap.size w X) (hR : Rd Y base1 b1 v1 bs a' why' wat') (hg1 : X.grownBy Y (some b1)) (hQ : Qd Z base2 b2 v2 bs a' why' wat') (hg2 : Y.grownBy Z (some b2)) :
    After w Z base1 b1 v1 base2 b2 v2 bs :=
  ⟨⟨a', why', wat', hP.r_after hR hg2, hQ, hP.lt, hP.own⟩, Nat.le_trans hX.size (Nat.le_trans hg1.size hg2.size), fun _ h0 h1 h2 => Below.of_gb (Below.of_gb (h0.trans (hX.mono h0.size)) hg1 h1) hg2 h2⟩
theorem After.below (h : After w Y base1 b1 v1 base2 b2 v2 bs) (hb : Below Y.heap.size Y Z) : After w Z base1 b1 v1 base2 b2 v2 bs :=
  ⟨h.1.elim fun a' ⟨why', wat', hp⟩ => ⟨a', why', wat', hp.below hb⟩, Nat.le_trans h.2.1 hb.size, fun w0 h0 h1 h2 => (h.2.2 w0 h0 h1 h2).trans (hb.mono (h.2.2 w0 h0 h1 h2).size)⟩
end

theorem below_self (w : World) (q : Nat) : Below w.heap.size w (w.drewN q) := gb_below (gb_drewN w q none)

set_option maxRecDepth 100000 in
set_option maxHeartbeats 4000000 in
theorem step_any {base1 b1 : Nat} {v1 : Value} {base2 b2 : Nat} {v2 : Value} {bs : List UInt8} {a : Nat} {why wat : Int} (K A B : Int) (w : World) (hA : A ≤ 9223372036854775807) (hB : B ≤ 9223372036854775807) (hbl : bs.length ≤ 549755813888) (h : Pair w base1 b1 v1 base2 b2 v2 bs a why wat) :
    Calls Try.prog 18 #[.pointer (some ⟨b1, 0, none⟩), .pointer (some ⟨b2, 0, none⟩), .agg #[.int .i64 K, .int .i64 A, .int .i64 B]] w fun e w' => e = .returned (.bool true) ∧ After w w' base1 b1 v1 base2 b2 v2 bs := by
  have HX := hid (below_walk w (.cells #[.int .i64 K, .int .i64 A, .int .i64 B] 43))
  have HP := hid (h.below HX.out)
  have hb1 := h.r.lt
  have hb2 := h.q.lt
  have hne1 : w.heap.size ≠ b1 := by omega
  have hne2 : w.heap.size ≠ b2 := by omega
  have hbl1 : bs.length ≤ 140737488355327 := by omega
  have hbl2 : bs.length ≤ 1099511627776 := by omega
  have HPD := hid (HP.out.below (gb_below (gb_drew _ none)))
  have HXD := hid HX.out.drew
  clear h
  go_enter Try.func18, Try.ntmps18
  go_wp2_with fail
  · refine (byte_R HP.out.r).mono ?_
    rintro e w1 ⟨rfl, hR1, hg1⟩
    have HR1 := hid hR1
    have HG1 := hid hg1
    have HQ1 := hid (HP.out.q_after hg1)
    clear hR1 hg1
    go_wp2_with fail
    refine (qbyte_R hbl1 HQ1.out).mono ?_
    rintro e w2 ⟨rfl, hQ2, hg2⟩
    have HZ := hid (after_of HP.out HX.out HR1.out HG1.out hQ2 hg2)
    clear hQ2 hg2
    go_wp2_with fail
    go_ret
    exact ⟨by simp, HZ.out⟩
  · refine (uint_R HP.out.r).mono ?_
    rintro e w1 ⟨rfl, hR1, hg1⟩
    have HR1 := hid hR1
    have HG1 := hid hg1
    have HQ1 := hid (HP.out.q_after hg1)
    clear hR1 hg1
    go_wp2_with fail
    refine (quint_R HQ1.out).mono ?_
    rintro e w2 ⟨rfl, hQ2, hg2⟩
    have HZ := hid (after_of HP.out HX.out HR1.out HG1.out hQ2 hg2)
    clear hQ2 hg2
    go_wp2_with fail
    go_ret
    exact ⟨by simp, HZ.out⟩
  · refine (int_R HP.out.r).mono ?_
    rintro e w1 ⟨rfl, hR1, hg1⟩
    have HR1 := hid hR1
    have HG1 := hid hg1
    have HQ1 := hid (HP.out.q_after hg1)
    clear hR1 hg1
    go_wp2_with fail
    refine (qint_R HQ1.out).mono ?_
    rintro e w2 ⟨rfl, hQ2, hg2⟩
    have HZ := hid (after_of HP.out HX.out HR1.out HG1.out hQ2 hg2)
    clear hQ2 hg2
    go_wp2_with fail
    go_ret
    exact ⟨by simp, HZ.out⟩
  · have HC1 := hid (count_R A hA HP.out.r.drew)
    have HC2 := hid (fun W' hg => qcount_R A hA (HP.out.q_after (gb_trans (gb_drew _ _) hg)) : ∀ W', (w.alloc (.cells #[.int .i64 K, .int .i64 A, .int .i64 B] 43)).drew.grownBy W' (some b1) → _)
    go_region_held3 (fun w' => w'.cell? ⟨w.heap.size, 1, none⟩ = some (.int .i64 A)) (first | go_keep | exact n6 | exact n7) (first
      | (go_at_call 48; with_reducible refine Calls.mono HC1.out ?_; rintro e w6 ⟨rfl, hR6, hg6⟩; have n6 : w6.cell? ⟨w.heap.size, 1, none⟩ = some (.int .i64 A) := cell_far (p := ⟨w.heap.size, 1, none⟩) hg6 (by simp) hne1 (by simp); have HR6 := hid hR6; have HG6 := hid hg6; clear hR6 hg6)
      | (go_at_call 49; with_reducible refine Calls.mono (HC2.out _ HG6.out) ?_; rintro e w7 ⟨rfl, hQ7, hg7⟩; have n7 : w7.cell? ⟨w.heap.size, 1, none⟩ = some (.int .i64 A) := cell_far (p := ⟨w.heap.size, 1, none⟩) hg7 (by have := HG6.out.size; simp at this ⊢; omega) hne2 n6; have HQ7 := hid hQ7; have HG7 := hid hg7; clear hQ7 hg7))
    clear HC1 HC2 n6 n7
    have HZ := hid (after_of HPD.out HXD.out HR6.out HG6.out HQ7.out HG7.out)
    clear HR6 HG6 HQ7 HG7
    go_wp2_with fail
    go_ret
    exact ⟨by simp, HZ.out⟩
  · refine (bool_R HP.out.r).mono ?_
    rintro e w1 ⟨rfl, hR1, hg1⟩
    have HR1 := hid hR1
    have HG1 := hid hg1
    have HQ1 := hid (HP.out.q_after hg1)
    clear hR1 hg1
    go_wp2_with fail
    refine (qbool_R hbl1 HQ1.out).mono ?_
    rintro e w2 ⟨rfl, hQ2, hg2⟩
    have HZ := hid (after_of HP.out HX.out HR1.out HG1.out hQ2 hg2)
    clear hQ2 hg2
    go_wp2_with fail
    go_ret
    exact ⟨by simp, HZ.out⟩
  · have HC1 := hid (text_R A hA hbl1 HP.out.r.drew)
    have HC2 := hid (fun W' hg => qtext_R A hA hbl1 (HP.out.q_after (gb_trans (gb_drew _ _) hg)) : ∀ W', (w.alloc (.cells #[.int .i64 K, .int .i64 A, .int .i64 B] 43)).drew.grownBy W' (some b1) → _)
    go_region_held3 (fun w' => w'.cell? ⟨w.heap.size, 1, none⟩ = some (.int .i64 A)) (first | go_keep | exact n6 | exact n7) (first
      | (go_at_call 23; with_reducible refine Calls.mono HC1.out ?_; rintro e w6 ⟨rfl, hR6, hg6⟩; have n6 : w6.cell? ⟨w.heap.size, 1, none⟩ = some (.int .i64 A) := cell_far (p := ⟨w.heap.size, 1, none⟩) hg6 (by simp) hne1 (by simp); have HR6 := hid hR6; have HG6 := hid hg6; clear hR6 hg6)
      | (go_at_call 51; with_reducible refine Calls.mono (HC2.out _ HG6.out) ?_; rintro e w7 ⟨rfl, hQ7, hg7⟩; have n7 : w7.cell? ⟨w.heap.size, 1, none⟩ = some (.int .i64 A) := cell_far (p := ⟨w.heap.size, 1, none⟩) hg7 (by have := HG6.out.size; simp at this ⊢; omega) hne2 n6; have HQ7 := hid hQ7; have HG7 := hid hg7; clear hQ7 hg7))
    clear HC1 HC2 n6 n7
    have HZ := hid (after_of HPD.out HXD.out HR6.out HG6.out HQ7.out HG7.out)
    clear HR6 HG6 HQ7 HG7
    go_wp2_with fail
    go_ret
    exact ⟨by simp, HZ.out⟩
  · have HC1 := hid (list_R A B hA hB hbl2 HP.out.r.drew)
    have HC2 := hid (fun W' hg => qlist_R A B hA hB hbl2 (HP.out.q_after (gb_trans (gb_drew _ _) hg)) : ∀ W', (w.alloc (.cells #[.int .i64 K, .int .i64 A, .int .i64 B] 43)).drew.grownBy W' (some b1) → _)
    have HLL := hid (listF_len bs a why wat A B)
    have hwl : b2 < (w.alloc (.cells #[.int .i64 K, .int .i64 A, .int .i64 B] 43)).drew.heap.size := HPD.out.q.lt
    go_region_held3 (fun w' => w'.cell? ⟨w.heap.size, 1, none⟩ = some (.int .i64 A) ∧ w'.cell? ⟨w.heap.size, 2, none⟩ = some (.int .i64 B)) (first | go_keep | exact n6 | exact n7 | exact n8) (first
      | (go_at_call 25; with_reducible refine Calls.mono HC1.out ?_; rintro e w6 ⟨x6, rfl, hO6, hR6, hg6⟩; have n6 : w6.cell? ⟨w.heap.size, 1, none⟩ = some (.int .i64 A) ∧ w6.cell? ⟨w.heap.size, 2, none⟩ = some (.int .i64 B) := ⟨cell_far (p := ⟨w.heap.size, 1, none⟩) hg6 (by simp) hne1 (by simp), cell_far (p := ⟨w.heap.size, 2, none⟩) hg6 (by simp) hne1 (by simp)⟩; have HO6 := hid hO6; have HR6 := hid hR6; have HG6 := hid hg6; clear hR6 hg6 hO6)
      | (go_at_call 52; with_reducible refine Calls.mono (HC2.out _ HG6.out) ?_; rintro e w7 ⟨x7, rfl, hO7, hQ7, hg7⟩; have n7 : w7.cell? ⟨w.heap.size, 1, none⟩ = some (.int .i64 A) ∧ w7.cell? ⟨w.heap.size, 2, none⟩ = some (.int .i64 B) := ⟨cell_far (p := ⟨w.heap.size, 1, none⟩) hg7 (by have := HG6.out.size; simp at this ⊢; omega) hne2 n6.1, cell_far (p := ⟨w.heap.size, 2, none⟩) hg7 (by have := HG6.out.size; simp at this ⊢; omega) hne2 n6.2⟩; have HS6 := hid (HO6.out.far hg7 (fun q e => by cases e; exact hwl)).strs; have HS7 := hid hO7.strs; have HQ7 := hid hQ7; have HG7 := hid hg7; clear hQ7 hg7 hO7)
      | (go_at_call 24; refine (same_true _ _ _ _ HS6.out HS7.out (by have := txs_count ((listF bs a why wat A B).1.map mk); have := HLL.out; omega)).mono ?_; rintro e w8 ⟨rfl, q8, rfl⟩; have n8 := n7))
    clear HC1 HC2 n6 n7 n8
    have HZ := hid ((after_of HPD.out HXD.out HR6.out HG6.out HQ7.out HG7.out).below (below_self _ q8))
    clear HR6 HG6 HQ7 HG7
    go_wp2_with fail
    go_ret
    exact ⟨rfl, HZ.out⟩
  · have HC1 := hid (raw_R A hA hbl1 HP.out.r.drew)
    have HC2 := hid (fun W' hg => qraw_R A hbl1 (HP.out.q_after (gb_trans (gb_drew _ _) hg)) : ∀ W', (w.alloc (.cells #[.int .i64 K, .int .i64 A, .int .i64 B] 43)).drew.grownBy W' (some b1) → _)
    have HLL := hid (rawF_len bs a why wat A)
    have hwl : b2 < (w.alloc (.cells #[.int .i64 K, .int .i64 A, .int .i64 B] 43)).drew.heap.size := HPD.out.q.lt
    go_region_held3 (fun w' => w'.cell? ⟨w.heap.size, 1, none⟩ = some (.int .i64 A)) (first | go_keep | exact n6 | exact n7 | exact n8) (first
      | (go_at_call 36; with_reducible refine Calls.mono HC1.out ?_; rintro e w6 ⟨x6, rfl, hO6, hR6, hg6⟩; have n6 : w6.cell? ⟨w.heap.size, 1, none⟩ = some (.int .i64 A) := cell_far (p := ⟨w.heap.size, 1, none⟩) hg6 (by simp) hne1 (by simp); have HO6 := hid hO6; have HR6 := hid hR6; have HG6 := hid hg6; clear hR6 hg6 hO6)
      | (go_at_call 53; with_reducible refine Calls.mono (HC2.out _ HG6.out) ?_; rintro e w7 ⟨x7, rfl, hO7, hQ7, hg7⟩; have n7 : w7.cell? ⟨w.heap.size, 1, none⟩ = some (.int .i64 A) := cell_far (p := ⟨w.heap.size, 1, none⟩) hg7 (by have := HG6.out.size; simp at this ⊢; omega) hne2 n6; have HS6 := hid ((HO6.out.far hg7 (fun q e => by cases e; exact hwl)).src (by have := HLL.out; omega)); have HS7 := hid (hO7.src (by have := HLL.out; omega)); have HQ7 := hid hQ7; have HG7 := hid hg7; clear hQ7 hg7 hO7)
      | (go_at_call 11; refine (equal_true _ _ _ _ HS6.out HS7.out).mono ?_; rintro e w8 ⟨rfl, h8⟩; have n8 : w8.cell? ⟨w.heap.size, 1, none⟩ = some (.int .i64 A) := (by rw [h8]; exact n7); have H8 := hid h8; clear h8))
    clear HC1 HC2 n6 n7 n8
    have HZ := hid (by rw [H8.out]; exact after_of HPD.out HXD.out HR6.out HG6.out HQ7.out HG7.out : After w w8 base1 b1 v1 base2 b2 v2 bs)
    clear HR6 HG6 HQ7 HG7
    go_wp2_with fail
    go_ret
    exact ⟨rfl, HZ.out⟩
  · refine (rfail_any _ _ _ _ _ _ _ _ A HP.out.r).mono ?_
    rintro e w1 ⟨rfl, hR1, hg1⟩
    have n1 : w1.cell? ⟨w.heap.size, 1, none⟩ = some (.int .i64 A) := cell_far (p := ⟨w.heap.size, 1, none⟩) hg1 (by simp) hne1 (by simp)
    have HR1 := hid hR1
    have HG1 := hid hg1
    have HQ1 := hid (HP.out.q_after hg1)
    clear hR1 hg1
    go_wp2_with fail
    refine (qfailm_R A HQ1.out).mono ?_
    rintro e w2 ⟨rfl, hQ2, hg2⟩
    have HZ := hid (after_of HP.out HX.out HR1.out HG1.out hQ2 hg2)
    clear hQ2 hg2 HR1 HG1 HQ1
    go_wp2_with fail
    go_ret
    exact ⟨rfl, HZ.out⟩
  · by_cases hend : why = 0 ∧ a < bs.length
    · obtain ⟨rfl, hal⟩ := hend
      refine (rend_more _ _ _ _ _ _ _ HP.out.r hal).mono ?_
      rintro e w1 ⟨rfl, hR1, hg1⟩
      have HB1 := hid (below_walk w1 (.cells #[.int .i64 6, .int .i64 (a : Int)] 56))
      have HR1 := hid (hR1.below HB1.out)
      have HG1 := hid (gb_trans hg1 (gb_alloc w1 (.cells #[.int .i64 6, .int .i64 (a : Int)] 56) (some b1)))
      have HQ1 := hid ((HP.out.q_after hg1).below HB1.out)
      have hsz1 := hg1.size
      simp at hsz1
      clear hR1 hg1
      go_wp2_with fail
      refine (qend_more HQ1.out hal).mono ?_
      rintro e w2 ⟨rfl, hQ2, hg2⟩
      have n0 : w2.cell? ⟨w1.heap.size, 0, none⟩ = some (.int .i64 6) := cell_far (p := ⟨w1.heap.size, 0, none⟩) hg2 (by simp) (by show w1.heap.size ≠ b2; omega) (by simp)
      have n1 : w2.cell? ⟨w1.heap.size, 1, none⟩ = some (.int .i64 (a : Int)) := cell_far (p := ⟨w1.heap.size, 1, none⟩) hg2 (by simp) (by show w1.heap.size ≠ b2; omega) (by simp)
      have HZ := hid (after_of HP.out HX.out HR1.out HG1.out hQ2 hg2)
      clear hQ2 hg2 HR1 HG1 HQ1 HB1
      go_wp2_with fail
      go_ret
      exact ⟨by simp, HZ.out⟩
    · have HI := hid (by have := HP.out.r.le; by_cases h0 : why = 0; exact Or.inr (by have : ¬ a < bs.length := fun h => hend ⟨h0, h⟩; omega); exact Or.inl h0 : why ≠ 0 ∨ a = bs.length)
      clear hend
      refine (rend_idle _ _ _ _ _ _ _ _ HP.out.r HI.out).mono ?_
      rintro e w1 ⟨rfl, hR1, hg1⟩
      have HB1 := hid (below_walk w1 (.cells #[.int .i64 why, .int .i64 wat] 56))
      have HR1 := hid (hR1.below HB1.out)
      have HG1 := hid (gb_trans hg1 (gb_alloc w1 (.cells #[.int .i64 why, .int .i64 wat] 56) (some b1)))
      have HQ1 := hid ((HP.out.q_after hg1).below HB1.out)
      have hsz1 := hg1.size
      simp at hsz1
      clear hR1 hg1
      go_wp2_with fail
      refine (qend_idle HQ1.out HI.out).mono ?_
      rintro e w2 ⟨rfl, hQ2, hg2⟩
      have n0 : w2.cell? ⟨w1.heap.size, 0, none⟩ = some (.int .i64 why) := cell_far (p := ⟨w1.heap.size, 0, none⟩) hg2 (by simp) (by show w1.heap.size ≠ b2; omega) (by simp)
      have n1 : w2.cell? ⟨w1.heap.size, 1, none⟩ = some (.int .i64 wat) := cell_far (p := ⟨w1.heap.size, 1, none⟩) hg2 (by simp) (by show w1.heap.size ≠ b2; omega) (by simp)
      have HZ := hid (after_of HP.out HX.out HR1.out HG1.out hQ2 hg2)
      clear hQ2 hg2 HR1 HG1 HQ1 HB1
      go_wp2_with fail
      go_ret
      exact ⟨by simp, HZ.out⟩

end Go.Proofs.Ytggmgbdofjhkdaa
