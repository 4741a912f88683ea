/- Contracts and pure facts that the proof needs, joined. -/
import Derived.Test.YtlpengaclkidiaaDoorG3
import Derived.Laws.StructEq
import Derived.Test.YtlpengaclkidiaaDoorG2
import Derived.Test.YtlpengaclkidiaaDoorRows
import Derived.ProofKit
import Derived.OpenShut
import Derived.Deep.Slices
import Derived.Deep.Strs
import Derived.ChangeSame
import Derived.SizedLaws
import Derived.JoinedCond
import Derived.LaidLaws
import Derived.Test.YtlpengaclkidiaaDoorG1
import Derived.Lib.LaidU8
import Derived.Lib.LaidTab

/- The program's end, Head and Names. -/
namespace Go.Proofs.YtlpengaclkidiaaDoor
open Go.RowKit

/-- includes are no more than bytes -/
theorem sc_many {l : List UInt8} (hl : l.length ≤ 65536) {L : List (List UInt8 × List UInt8 × Nat)} {tz : Nat} {e : Int} {g : Nat} (h : scP l 0 = (L, tz, e, g)) : L.length ≤ 65536 := by
  have key : ∀ (n a : Nat), a ≤ l.length → l.length - a = n → (scP l a).1.length ≤ l.length - a := by
    intro n
    induction n using Nat.strongRecOn with
    | _ n ih =>
      intro a ha hn
      rcases sc_view hl ha with ⟨t, e, h0, hp⟩ | ⟨k, f, x, _, _, _, hp, e, g, h0, _, hi⟩ | ⟨k, f, x, v, s, t2, h1, h2, h3, h4, hp, hi⟩
      · rw [sc_end hp h0]; simp
      · rw [sc_bad hp hi h0]; simp
      · rw [sc_step hl (by omega) (by omega) hp hi]
        have := ih (l.length - t2) (by omega) t2 h4 rfl
        unfold jnP
        split
        · simp
        · simp only [List.length_append, List.length_singleton]
          omega
  have := key l.length 0 (Nat.zero_le _) (by omega)
  rw [h] at this
  simp only at this
  omega
theorem include_ok {l : List UInt8} {a b k f m tz : Nat} {v n : List UInt8} (hl : l.length ≤ 65536) (ha : a ≤ l.length) (hp : plP l 0 a = ((k, f, m), 0)) (hm : m ≤ l.length) (hi : in1 l m = (0, 0, v, n, tz)) (W : World) (hT : Tabs W) (hR : Rs W b l a) :
    Calls Tryd.prog 21 #[.pointer (some ⟨b, 0, none⟩)] W fun r w' => r = .returned (.agg #[.string (mk v), .string (mk n), .int .i64 (f : Int)]) ∧ Rs w' b l tz ∧ W.grownBy w' (some b) := by
  rcases in_view hl (a := m) hm with ⟨e, g, h0, hg, hi2⟩ | ⟨f1, m1, k2, f2, m2, f3, m3, k4, f4, m4, i1, i2, i3, i4, i5, i6, i7, i8, i9, p1, p2, p3, p4, j3, j1, hi2⟩
  · rw [hi] at hi2
    simp only [Prod.mk.injEq] at hi2
    exact absurd hi2.1.symm h0
  · rw [hi] at hi2
    simp only [Prod.mk.injEq, true_and] at hi2
    obtain ⟨rfl, rfl, rfl⟩ := hi2
    exact inc_ok hl ha hp hm p1 (by omega) p2 (by omega) p3 (by omega) p4 (by omega) (by omega) j3 W hT hR

set_option maxRecDepth 20000 in
set_option maxHeartbeats 1000000 in
theorem end_none (l : List UInt8) (v : Value) (w : World) (h : Incs w v []) :
    Calls Tryd.prog 25 #[.string (mk l), v] w fun r w' => r = .returned (.int .i64 0) ∧ Below w.heap.size w w' := by
  obtain ⟨ao, c, rfl⟩ := h.shape
  clear h
  go_enter Tryd.func25, Tryd.ntmps25
  go_wp2
  go_ret
  exact ⟨rfl, Below.refl _ _⟩

set_option maxRecDepth 20000 in
set_option maxHeartbeats 1000000 in
theorem end_some (l : List UInt8) (v : Value) (L : List (List UInt8 × List UInt8 × Int)) (hL : 0 < L.length) (hLm : L.length ≤ 1000000) (x : List UInt8 × List UInt8 × Nat) (tz : Nat) (hx : L.getD (L.length - 1) noI = (x.1, x.2.1, (x.2.2 : Int))) (hl : l.length ≤ 65536) (hs : Lst l x tz) (w : World) (hT : Tabs w) (h : Incs w v L) :
    Calls Tryd.prog 25 #[.string (mk l), v] w fun r w' => r = .returned (.int .i64 (tz : Int)) ∧ Below w.heap.size w w' := by
  obtain ⟨ao, c, rfl⟩ := h.shape
  obtain ⟨g, o, rfl, hg, _, _, c2⟩ := h.at (L.length - 1) (by omega)
  rw [hx] at c2
  simp only at c2
  obtain ⟨k, m, s1, s2, s3, hp, hi⟩ := hs
  have HI := hid (fun b W hT hR => include_ok (b := b) hl (by omega) hp (by omega) hi W hT hR)
  obtain ⟨a, HAx⟩ : ∃ a, Hid (x.2.2 = a) := ⟨_, rfl⟩
  rw [HAx.out] at c2 HI
  have q0 : ¬ (L.length : Int) = 0 := by omega
  have q1 : (L.length : Int) - 1 < (L.length : Int) := by omega
  have q2 : (0 : Int) ≤ (L.length : Int) - 1 := by omega
  have HT := hid hT
  clear hT h hp hi s1 s2 hx
  go_enter Tryd.func25, Tryd.ntmps25
  go_upto_region 4 with fail
  have HB1 := hid (below_walk w (.cells #[.string (mk l), .int .i64 (a : Int)] 50))
  have HR1 : Hid (Rs (w.alloc (.cells #[.string (mk l), .int .i64 (a : Int)] 50)) w.heap.size l a) := hp_new _ _
  have hz := hp_size w (.cells #[.string (mk l), .int .i64 (a : Int)] 50)
  generalize w.alloc (.cells #[.string (mk l), .int .i64 (a : Int)] 50) = w1 at *
  go_wp2_with (go_at_call 21; refine (HI.out _ _ (HT.out.below HB1.out) HR1.out).mono ?_; rintro r w2 ⟨rfl, hr2, hg2⟩; have HG2 := hid hg2; have d1 := hr2.c1; clear hg2 hr2)
  go_ret
  exact ⟨rfl, HB1.out.grown HG2.out (by omega) (fun k hk => by injection hk with hk; omega)⟩

theorem is_last (l : List UInt8) : ((isP l).1 = [] ∧ (isP l).2.1 = 0) ∨ (l.length ≤ 65536 ∧ (isP l).1.length ≤ 65536 ∧ ∃ L' x, (isP l).1 = L' ++ [x] ∧ Lst l x (isP l).2.1) := by
  unfold isP
  by_cases hl : 65536 < l.length
  · rw [if_pos hl]; exact Or.inl ⟨rfl, rfl⟩
  · rw [if_neg hl]
    have hl : l.length ≤ 65536 := by omega
    have hf := sc_form hl (a := 0) (Nat.zero_le _)
    obtain ⟨L, tz, e, g, hq⟩ : ∃ L tz e g, scP l 0 = (L, tz, e, g) := ⟨_, _, _, _, rfl⟩
    rw [hq] at hf ⊢
    unfold jnP at hf
    simp only at hf ⊢
    split at hf
    · simp only [Prod.mk.injEq] at hf
      exact Or.inl ⟨hf.1, hf.2.1⟩
    · simp only [Prod.mk.injEq, List.nil_append, true_and] at hf
      obtain ⟨rfl, rfl⟩ := hf
      rcases sc_last hl (a := 0) (Nat.zero_le _) L tz hq with ⟨h1, h2⟩ | ⟨L', x, h1, h2⟩
      · exact Or.inl ⟨h1, h2⟩
      · refine Or.inr ⟨hl, ?_, L', x, h1, h2⟩
        exact sc_many hl hq

theorem incls_any (l : List UInt8) (w : World) (hT : Tabs w) :
    Calls Tryd.prog 8 #[.string (mk l)] w fun r w' => ∃ v, r = .returned (.tuple #[v, .agg #[.int .i64 (isP l).2.2.1, .int .i64 ((isP l).2.2.2 : Nat)]]) ∧ OwnN w' w.heap.size v (toI (isP l).1) ∧ Below w.heap.size w w' := by
  unfold isP
  by_cases hl : 65536 < l.length
  · rw [if_pos hl]; exact incls_long l hl w
  · rw [if_neg hl]; exact incls_ok l (by omega) w hT

theorem toI_last (L : List (List UInt8 × List UInt8 × Nat)) (x : List UInt8 × List UInt8 × Nat) : (toI (L ++ [x])).getD ((toI (L ++ [x])).length - 1) noI = (x.1, x.2.1, (x.2.2 : Int)) := by
  rw [toI_app, List.getD_eq_getElem?_getD, List.length_append, List.length_singleton, Nat.add_sub_cancel, List.getElem?_append_right (Nat.le_refl _), Nat.sub_self]
  rfl
/-- where the includes of a source end -/
theorem end_is (l : List UInt8) (v : Value) (w : World) (hT : Tabs w) (h : Incs w v (toI (isP l).1)) :
    Calls Tryd.prog 25 #[.string (mk l), v] w fun r w' => r = .returned (.int .i64 ((isP l).2.1 : Nat)) ∧ Below w.heap.size w w' := by
  rcases is_last l with ⟨h1, h2⟩ | ⟨hl, hm, L', x, h1, h2⟩
  · rw [h1] at h
    rw [h2]
    exact end_none l v w h
  · have hx := toI_last L' x
    have hlen : (toI (isP l).1).length = (isP l).1.length := toI_len _
    rw [← h1] at hx
    exact end_some l v _ (by rw [hlen, h1]; simp) (by omega) x _ hx hl h2 w hT h

set_option maxRecDepth 20000 in
set_option maxHeartbeats 1000000 in
theorem head_any (l : List UInt8) (w : World) (hT : Tabs w) :
    Calls Tryd.prog 11 #[.string (mk l)] w fun r w' => r = .returned (.int .i64 ((isP l).2.1 : Nat)) ∧ Below w.heap.size w w' := by
  have HI := hid (incls_any l w hT)
  have HE := hid (fun v W hT h => end_is l v W hT h)
  have HT := hid hT
  obtain ⟨e, HE1⟩ : ∃ e, Hid ((isP l).2.2.1 = e) := ⟨_, rfl⟩
  obtain ⟨g, HE2⟩ : ∃ e, Hid ((isP l).2.2.2 = e) := ⟨_, rfl⟩
  rw [HE1.out, HE2.out] at HI
  obtain ⟨tz, HE3⟩ : ∃ e, Hid ((isP l).2.1 = e) := ⟨_, rfl⟩
  rw [HE3.out] at HE
  rw [HE3.out]
  obtain ⟨L, HE4⟩ : ∃ e, Hid ((isP l).1 = e) := ⟨_, rfl⟩
  rw [HE4.out] at HE HI
  clear hT
  go_enter Tryd.func11, Tryd.ntmps11
  go_wp2_with first
    | (go_at_call 8; refine HI.out.mono ?_; rintro r w2 ⟨v, rfl, ho, hb⟩; have HO := hid ho; have HB := hid hb; obtain ⟨sa, sc, hv⟩ := ho.shape; subst hv; clear ho hb)
    | (go_at_call 25; refine (HE.out _ _ (HT.out.below (HB.out.trans ((below_walk _ _).mono HB.out.size))) (HO.out.below (below_walk _ _)).incs).mono ?_; rintro r w3 ⟨rfl, hb3⟩)
  go_ret
  exact ⟨rfl, (HB.out.trans ((below_walk _ _).mono HB.out.size)).trans (hb3.mono (by rw [hp_size]; have := HB.out.size; omega))⟩

end Go.Proofs.YtlpengaclkidiaaDoor

/- Includes and faults compared; one include is found, whatever else is so. -/
namespace Go.Proofs.YtlpengaclkidiaaDoor
open Go.RowKit

theorem fault_run (a b x y : Int) (w : World) : (Op.equalIn 10000 25 (.agg #[.int .i64 a, .int .i64 b]) (.agg #[.int .i64 x, .int .i64 y])).run Tryd.prog w = .ok (a == x && b == y) w := by
  have hS : Tryd.prog.underlying 25 = some (.struct (Tryd.prog.fieldsOf 25)) := by kernel_rfl
  have hp : Tryd.prog.stoodInHeld 25 = false := by kernel_rfl
  have u3 := Tryd.underlying3
  have a3 := Tryd.isAgg3
  have z3 := Tryd.sizeOf3
  have u9 := Tryd.underlying23
  have a9 := Tryd.isAgg23
  have z9 := Tryd.sizeOf23
  rw [show (10000 : Nat) = 9999 + 1 from rfl, run_equalIn_agg w 9999 25 _ _ hS hp]
  simp only [Program.fieldsOf, Tryd.underlying25]
  go_simp
  by_cases h1 : a = x <;> by_cases h2 : b = y <;> simp [h1, h2]
theorem fault_eql (a b x y : Int) (w : World) : (binOp .eql 25 (.agg #[.int .i64 a, .int .i64 b]) (.agg #[.int .i64 x, .int .i64 y])).run Tryd.prog w = .ok (.bool (decide ((a, b) = (x, y)))) w := by
  rw [run_eql_struct, fault_run]
  have : (a == x && b == y) = decide ((a, b) = (x, y)) := by
    rw [Bool.eq_iff_iff]
    simp
  rw [this]
  rfl
theorem inc_run (s1 s2 d1 d2 : ByteArray) (k1 k2 : Int) (w : World) : (Op.equalIn 10000 35 (.agg #[.string s1, .string d1, .int .i64 k1]) (.agg #[.string s2, .string d2, .int .i64 k2])).run Tryd.prog w = .ok (s1.toList == s2.toList && d1.toList == d2.toList && k1 == k2) w := by
  have hS : Tryd.prog.underlying 35 = some (.struct (Tryd.prog.fieldsOf 35)) := by kernel_rfl
  have hp : Tryd.prog.stoodInHeld 35 = false := by kernel_rfl
  have u3 := Tryd.underlying3
  have a3 := Tryd.isAgg3
  have z3 := Tryd.sizeOf3
  have u9 := Tryd.underlying9
  have a9 := Tryd.isAgg9
  have z9 := Tryd.sizeOf9
  rw [show (10000 : Nat) = 9999 + 1 from rfl, run_equalIn_agg w 9999 35 _ _ hS hp]
  simp only [Program.fieldsOf, Tryd.underlying35]
  go_simp
  by_cases h1 : s1.toList = s2.toList <;> by_cases h2 : k1 = k2 <;> by_cases h3 : d1.toList = d2.toList <;> simp [h1, h2, h3]
theorem inc_eql (s1 s2 d1 d2 : ByteArray) (k1 k2 : Int) (w : World) : (binOp .eql 35 (.agg #[.string s1, .string d1, .int .i64 k1]) (.agg #[.string s2, .string d2, .int .i64 k2])).run Tryd.prog w = .ok (.bool (s1.toList == s2.toList && d1.toList == d2.toList && k1 == k2)) w := by
  rw [run_eql_struct, inc_run]
  rfl

theorem al_1 : isP [105, 110, 99, 108, 117, 100, 101, 32, 34, 97, 46, 109, 34, 32, 97, 115, 32, 97, 59, 32, 99, 111, 110, 115, 116] = ([([97, 46, 109], [97], 0)], 19, 0, 0) := by decide +kernel
theorem al_2 : (isP [105, 110, 99, 108, 117, 100, 101, 32, 34, 97, 34, 32, 97, 115, 32, 97, 59]).2.1 = 17 := by decide +kernel

set_option maxRecDepth 20000 in
set_option maxHeartbeats 2000000 in
theorem alive_any (w : World) (hT : Tabs w) :
    Calls Tryd.prog 13 #[] w fun e w' => e = .returned (.bool true) ∧ Below w.heap.size w w' := by
  have H1 := incls_any [105, 110, 99, 108, 117, 100, 101, 32, 34, 97, 46, 109, 34, 32, 97, 115, 32, 97, 59, 32, 99, 111, 110, 115, 116] w hT
  rw [al_1] at H1
  have H1 : Hid (Calls Tryd.prog 8 #[.string ⟨#[105, 110, 99, 108, 117, 100, 101, 32, 34, 97, 46, 109, 34, 32, 97, 115, 32, 97, 59, 32, 99, 111, 110, 115, 116]⟩] w fun e w' => ∃ v, e = .returned (.tuple #[v, .agg #[.int .i64 0, .int .i64 0]]) ∧ OwnN w' w.heap.size v [([97, 46, 109], [97], 0)] ∧ Below w.heap.size w w') := H1
  have H2 : Hid (∀ w, Tabs w → Calls Tryd.prog 11 #[.string ⟨#[105, 110, 99, 108, 117, 100, 101, 32, 34, 97, 34, 32, 97, 115, 32, 97, 59]⟩] w fun e w' => e = .returned (.int .i64 17) ∧ Below w.heap.size w w') := fun w h => by
    have := head_any [105, 110, 99, 108, 117, 100, 101, 32, 34, 97, 34, 32, 97, 115, 32, 97, 59] w h
    rw [al_2] at this
    exact this
  have n1 : ∀ W, (binOp .eql 25 (.agg #[.int .i64 0, .int .i64 0]) (.agg #[.int .i64 0, .int .i64 0])).run Tryd.prog W = .ok (.bool true) W := fun W => fault_eql 0 0 0 0 W
  have n2 : ∀ W, (binOp .eql 35 (.agg #[.string (mk [97, 46, 109]), .string (mk [97]), .int .i64 0]) (.agg #[.string ⟨#[97, 46, 109]⟩, .string ⟨#[97]⟩, .int .i64 0])).run Tryd.prog W = .ok (.bool true) W := fun W => by
    have := inc_eql (mk [97, 46, 109]) (mk [97, 46, 109]) (mk [97]) (mk [97]) 0 0 W
    rw [show ((mk [97, 46, 109]).toList == (mk [97, 46, 109]).toList && (mk [97]).toList == (mk [97]).toList && (0 : Int) == 0) = true by simp] at this
    exact this
  have HT := hid hT
  clear hT
  go_enter Tryd.func13, Tryd.ntmps13
  go_upto_region 2 with (go_at_call 8; refine H1.out.mono ?_; rintro r w2 ⟨v, rfl, ho, hb⟩; have HO := hid ho; have HB := hid hb; obtain ⟨sa, sc, hv⟩ := ho.shape; subst hv; clear ho hb)
  have HB2 := hid (HB.out.trans ((below_walk w2 (.cells #[.int .i64 0, .int .i64 0] 25)).mono HB.out.size))
  have HO2 := hid (HO.out.below (below_walk w2 (.cells #[.int .i64 0, .int .i64 0] 25))).incs
  have hf := hp_new w2 (.cells #[.int .i64 0, .int .i64 0] 25)
  have f0 : (w2.alloc (.cells #[.int .i64 0, .int .i64 0] 25)).cell? ⟨w2.heap.size, 0, none⟩ = some (.int .i64 0) := by rw [cell_of_row _ _ _ _ _ _ hf]; rfl
  have f1 : (w2.alloc (.cells #[.int .i64 0, .int .i64 0] 25)).cell? ⟨w2.heap.size, 1, none⟩ = some (.int .i64 0) := by rw [cell_of_row _ _ _ _ _ _ hf]; rfl
  generalize w2.alloc (.cells #[.int .i64 0, .int .i64 0] 25) = w3 at *
  obtain ⟨g, o, hsa, _, e0, e1, e2⟩ := HO2.out.at 0 (by decide)
  subst hsa
  have e0 : w3.cell? ⟨g, o, none⟩ = some (.string (mk [97, 46, 109])) := e0
  have e1 : w3.cell? ⟨g, o + 1, none⟩ = some (.string (mk [97])) := e1
  have e2 : w3.cell? ⟨g, o + 2, none⟩ = some (.int .i64 0) := e2
  clear hf
  go_wp2_with (go_at_call 11; refine (H2.out _ (HT.out.below HB2.out)).mono ?_; rintro r w4 ⟨rfl, hb4⟩)
  go_ret
  exact ⟨rfl, HB2.out.trans (hb4.mono HB2.out.size)⟩

end Go.Proofs.YtlpengaclkidiaaDoor

/- The program's Names. -/
namespace Go.Proofs.YtlpengaclkidiaaDoor
open Go.RowKit

def nmL (L : List (List UInt8 × List UInt8 × Int)) : List (List UInt8) := L.map (·.2.1)
theorem nmL_succ (L : List (List UInt8 × List UInt8 × Int)) (k : Nat) (hk : k < L.length) : nmL (L.take k) ++ [(L.getD k noI).2.1] = nmL (L.take (k + 1)) := by
  unfold nmL
  rw [List.take_succ_eq_append_getElem hk, List.map_append, List.getD_eq_getElem?_getD, List.getElem?_eq_getElem hk]
  rfl
theorem strs_one (w : World) (s : List UInt8) : Strs (w.alloc (.cells #[.string (mk s)] 9)) (.slice (some ⟨w.heap.size, 0, none⟩) 1 1) [s] :=
  Or.inr ⟨w.heap.size, 0, 1, rfl, by rw [hp_size]; omega, by simp, fun j hj => by
    obtain rfl : j = 0 := by simp at hj; omega
    rw [Nat.zero_add, cell_of_row _ _ _ _ _ _ (hp_new _ _)]; rfl⟩

set_option maxRecDepth 20000 in
set_option maxHeartbeats 2000000 in
theorem names_any (v : Value) (L : List (List UInt8 × List UInt8 × Int)) (hn : L.length ≤ 8796093022207) (hs : ∀ x ∈ L, x.2.1.length ≤ 140737488355328) (w : World) (h : Incs w v L) :
    Calls Tryd.prog 12 #[v] w fun r w' => ∃ v', r = .returned v' ∧ OwnS w' w.heap.size v' (nmL L) ∧ Below w.heap.size w w' := by
  obtain ⟨ao, c, rfl⟩ := h.shape
  have HI := hid h
  have HSZ := hid hs
  obtain ⟨i0, hi, hz0, hz1, hz2⟩ := info_parts Tryd.infoStr
  clear h hs
  go_enter Tryd.func12, Tryd.ntmps12
  go_upto_region 2 with (refine wpList_make_own w (by rfl) _ _ 32 (by rfl) w.heap.size 9 i0 (.string ⟨#[]⟩) 1 Tryd.underlying32 hi hz0 hz1 .i64 .i64 (L.length : Int) L.length (by rfl) (by rfl) rfl (by rw [hz2]; omega) (by unfold maxLen; omega) (Nat.le_refl _) ?_; intro w2 ho2 hg2)
  have HO2 : Hid (OwnS w2 w.heap.size (.slice (some ⟨w.heap.size, 0, none⟩) 0 L.length) (nmL (L.take 0))) := hid (by rw [List.take_zero]; exact ho2)
  have HB2 := hid (gb_below hg2)
  clear ho2 hg2 hi hz0 hz1 hz2
  go_wp2
  go_loopw [3, 11] (fun vl i wr => ∃ (k : Nat), i = .int .i64 k ∧ k ≤ L.length ∧ OwnS wr w.heap.size vl (nmL (L.take k)) ∧ Below w.heap.size w wr) (fun _ i _ => L.length - (intOf i).toNat)
  case atStart => exact ⟨0, rfl, Nat.zero_le _, HO2.out, HB2.out⟩
  case round =>
    obtain ⟨k, rfl, hk, ho, hb⟩ := hrel
    by_cases hlt : k < L.length
    · have q1 : (k : Int) < (L.length : Int) := by omega
      have HB := hid hb
      have HO := hid ho
      have HIr := hid (HI.out.below hb)
      obtain ⟨g, o, rfl, hg, e0, e1, e2⟩ := HIr.out.at k hlt
      have HNM := hid (nmL_succ L k hlt)
      have hnl : (L.getD k noI).2.1.length ≤ 140737488355328 := HSZ.out _ (by rw [List.getD_eq_getElem?_getD, List.getElem?_eq_getElem hlt]; exact List.getElem_mem hlt)
      obtain ⟨⟨x, y, z⟩, HX⟩ : ∃ t, Hid (L.getD k noI = t) := ⟨_, rfl⟩
      rw [HX.out] at e0 e1 e2 HNM hnl
      have HC := hid (sclone_any (mk y) (by rw [mk_size]; simp only at hnl; omega))
      have hle : (nmL (L.take k)).length ≤ 8796093022206 := by unfold nmL; rw [List.length_map, List.length_take]; omega
      obtain ⟨ts, HTS⟩ : ∃ ts, Hid (nmL (L.take k) = ts) := ⟨_, rfl⟩
      rw [HTS.out] at HNM HO hle
      clear hb ho hg hnl
      go_wp2_with first
        | (go_at_call 26; refine (HC.out _).mono ?_; rintro r w3 ⟨rfl, hb3⟩; have HB3 := hid (((below_walk wr (.cells #[.string (mk x), .string (mk y), .int .i64 z] 35)).trans (hb3.mono (by rw [hp_size]; omega)))); clear hb3)
        | (refine app_text (by rfl) (.tmp 15) (.tmp 19) (by rfl) w.heap.size _ ts (by rfl) ((HO.out.below HB3.out).below (below_walk _ _)) [y] _ (by rfl) (strs_one w3 y) (by simp; omega) (by rw [hp_size]; have := HB.out.size; have := HB3.out.size; omega) ?_
           intro v' w4 ho4 hg4 hpl
           have HO4 := hid ho4
           have HB4 := hid ((((HB.out.trans (HB3.out.mono HB.out.size)).alloc (by have := HB.out.size; have := HB3.out.size; omega) (.cells #[.string (mk y)] 9))).grown hg4 (by rw [hp_size]; have := HB.out.size; have := HB3.out.size; omega) (fun q hq => (HO.out.lt q hq).1))
           clear ho4 hg4 hpl)
      exact ⟨⟨k + 1, by simp, by omega, by rw [← HNM.out]; exact HO4.out, HB4.out⟩, by simp [intOf]; omega⟩
    · have q1 : ¬ (k : Int) < (L.length : Int) := by omega
      obtain rfl : k = L.length := by omega
      rw [List.take_length] at ho
      have HO := hid ho
      have HB := hid hb
      clear ho hb
      go_wp2
      go_ret
      exact ⟨_, rfl, HO.out, HB.out⟩

end Go.Proofs.YtlpengaclkidiaaDoor

/- The document's Same of two lists of includes. -/
namespace Go.Proofs.YtlpengaclkidiaaDoor
open Go.RowKit

set_option maxRecDepth 20000 in
set_option maxHeartbeats 2000000 in
theorem rsameT (A : List (List UInt8 × List UInt8 × Int)) (v1 v2 : Value) (w : World) (h1 : Incs w v1 A) (h2 : Incs w v2 A) (hn : A.length ≤ 140737488355328) :
    Calls Tryd.prog 10 #[v1, v2, .bool true] w fun e w' => e = .returned (.bool true) ∧ ∃ n, w' = w.drewN n := by
  obtain ⟨a1, c1, rfl⟩ := h1.shape
  obtain ⟨a2, c2, rfl⟩ := h2.shape
  have HO1 := hid h1
  have HO2 := hid h2
  clear h1 h2
  go_enter Tryd.func10, Tryd.ntmps10
  go_wp2
  go_loopw [7] (fun i wr => ∃ k q : Nat, i = .int .i64 k ∧ k ≤ A.length ∧ wr = w.drewN q) (fun i _ => A.length - (intOf i).toNat)
  case atStart => exact ⟨0, 0, rfl, Nat.zero_le _, rfl⟩
  case round =>
    obtain ⟨i, q, rfl, hi, rfl⟩ := hrel
    by_cases hlt : i < A.length
    · have q1 : (i : Int) < (A.length : Int) := by omega
      obtain ⟨g1, o1, rfl, _, u0, u1, u2⟩ := HO1.out.at i hlt
      obtain ⟨g2, o2, rfl, _, y0, y1, y2⟩ := HO2.out.at i hlt
      obtain ⟨⟨p, n, t⟩, HK⟩ : ∃ t, Hid (A.getD i noI = t) := ⟨_, rfl⟩
      rw [HK.out] at u0 u1 u2 y0 y1 y2
      have f1 : ((mk p).toList == (mk p).toList) = true := by simp
      have f2 : ((mk n).toList == (mk n).toList) = true := by simp
      go_wp2_with fail
      go_quiet (fail)
      go_wp2
      exact ⟨⟨i + 1, _, by simp, by omega, rfl⟩, by simp [intOf]; omega⟩
    · have q1 : ¬ (i : Int) < (A.length : Int) := by omega
      go_wp2
      go_ret
      exact ⟨rfl, q, rfl⟩

set_option maxRecDepth 20000 in
set_option maxHeartbeats 2000000 in
theorem rsameF (A B : List (List UInt8 × List UInt8 × Int)) (v1 v2 : Value) (w : World) (h1 : Incs w v1 A) (h2 : Incs w v2 B) (hl : A.length = B.length) (hs : ∀ i, i < A.length → (A.getD i noI).1 = (B.getD i noI).1 ∧ (A.getD i noI).2.1 = (B.getD i noI).2.1) (hn : A.length ≤ 140737488355328) :
    Calls Tryd.prog 10 #[v1, v2, .bool false] w fun e w' => e = .returned (.bool true) ∧ ∃ n, w' = w.drewN n := by
  obtain ⟨a1, c1, rfl⟩ := h1.shape
  obtain ⟨a2, c2, e⟩ := h2.shape
  rw [← hl] at e
  subst e
  have HO1 := hid h1
  have HO2 := hid h2
  have HS := hid hs
  have HLE := hid hl
  clear h1 h2 hs hl
  go_enter Tryd.func10, Tryd.ntmps10
  go_wp2
  go_loopw [7] (fun i wr => ∃ k q : Nat, i = .int .i64 k ∧ k ≤ A.length ∧ wr = w.drewN q) (fun i _ => A.length - (intOf i).toNat)
  case atStart => exact ⟨0, 0, rfl, Nat.zero_le _, rfl⟩
  case round =>
    obtain ⟨i, q, rfl, hi, rfl⟩ := hrel
    by_cases hlt : i < A.length
    · have q1 : (i : Int) < (A.length : Int) := by omega
      obtain ⟨g1, o1, rfl, _, u0, u1, u2⟩ := HO1.out.at i hlt
      obtain ⟨g2, o2, rfl, _, y0, y1, y2⟩ := HO2.out.at i (by rw [← HLE.out]; exact hlt)
      obtain ⟨e1, e2⟩ := HS.out i hlt
      obtain ⟨⟨p, n, t⟩, HK⟩ : ∃ t, Hid (A.getD i noI = t) := ⟨_, rfl⟩
      rw [HK.out] at u0 u1 u2 e1 e2
      rw [← e1] at y0
      rw [← e2] at y1
      have f1 : ((mk p).toList == (mk p).toList) = true := by simp
      have f2 : ((mk n).toList == (mk n).toList) = true := by simp
      clear e1 e2 u2 y2
      go_wp2_with fail
      go_quiet (fail)
      go_wp2
      exact ⟨⟨i + 1, _, by simp, by omega, rfl⟩, by simp [intOf]; omega⟩
    · have q1 : ¬ (i : Int) < (A.length : Int) := by omega
      go_wp2
      go_ret
      exact ⟨rfl, q, rfl⟩

end Go.Proofs.YtlpengaclkidiaaDoor

/- Where includes aim: both sides, and ScanAims. -/
namespace Go.Proofs.YtlpengaclkidiaaDoor
open Go.RowKit

/-- where one include aims, and why nowhere -/
def amO (d p : List UInt8) : List UInt8 × Int := if aN (aimP d p) ≠ 0 then ([], aN (aimP d p)) else if aS (aimP d p) = [] then ([], 46) else (aS (aimP d p), 0)
def amL (d : List UInt8) : List (List UInt8 × List UInt8 × Int) → List (List UInt8) × Int × Int
  | [] => ([], 0, 0)
  | x :: r => if (amO d x.1).2 ≠ 0 then ([], (amO d x.1).2, x.2.2) else if (amL d r).2.1 ≠ 0 then ([], (amL d r).2) else ((amO d x.1).1 :: (amL d r).1, 0, 0)
def amT (d : List UInt8) (L : List (List UInt8 × List UInt8 × Int)) : List (List UInt8) := L.map fun x => (amO d x.1).1
def adP (m : List UInt8) (L : List (List UInt8 × List UInt8 × Int)) : List (List UInt8) × Int × Int := if spE m ≠ 0 then ([], spE m, 0) else amL (spD m) L
def AmOk (d : List UInt8) (L : List (List UInt8 × List UInt8 × Int)) (k : Nat) : Prop := ∀ j, j < k → (amO d (L.getD j noI).1).2 = 0
theorem am_bad {d : List UInt8} : ∀ {L : List (List UInt8 × List UInt8 × Int)} {k : Nat}, k < L.length → AmOk d L k → (amO d (L.getD k noI).1).2 ≠ 0 → amL d L = ([], (amO d (L.getD k noI).1).2, (L.getD k noI).2.2)
  | [], k, hk, _, _ => by simp at hk
  | x :: r, 0, _, _, h => by
    have h : (amO d x.1).2 ≠ 0 := h
    show amL d (x :: r) = ([], (amO d x.1).2, x.2.2)
    unfold amL
    rw [if_pos h]
  | x :: r, k + 1, hk, ho, h => by
    have h0 : (amO d x.1).2 = 0 := ho 0 (by omega)
    have ih := am_bad (d := d) (L := r) (k := k) (by simpa using hk) (fun j hj => ho (j + 1) (by omega)) h
    have h : (amO d (r.getD k noI).1).2 ≠ 0 := h
    show amL d (x :: r) = ([], (amO d (r.getD k noI).1).2, (r.getD k noI).2.2)
    unfold amL
    rw [if_neg (by rw [h0]; simp), ih, if_pos h]
theorem am_all {d : List UInt8} : ∀ {L : List (List UInt8 × List UInt8 × Int)}, AmOk d L L.length → amL d L = (amT d L, 0, 0)
  | [], _ => rfl
  | x :: r, ho => by
    have h0 : (amO d x.1).2 = 0 := ho 0 (by simp)
    have ih := am_all (d := d) (L := r) (fun j hj => ho (j + 1) (by simpa using hj))
    unfold amL
    rw [if_neg (by rw [h0]; simp), ih, if_neg (by simp)]
    rfl
theorem amT_succ (d : List UInt8) (L : List (List UInt8 × List UInt8 × Int)) (k : Nat) (hk : k < L.length) : amT d (L.take k) ++ [(amO d (L.getD k noI).1).1] = amT d (L.take (k + 1)) := by
  unfold amT
  rw [List.take_succ_eq_append_getElem hk, List.map_append, List.getD_eq_getElem?_getD, List.getElem?_eq_getElem hk]
  rfl
theorem AmOk.succ {d : List UInt8} {L : List (List UInt8 × List UInt8 × Int)} {k : Nat} (h : AmOk d L k) (h1 : (amO d (L.getD k noI).1).2 = 0) : AmOk d L (k + 1) := fun j hj => by
  rcases Nat.lt_or_ge j k with h2 | h2
  · exact h j h2
  · obtain rfl : j = k := by omega
    exact h1
theorem spD_len (s : List UInt8) : (spD s).length ≤ 2080 := by
  cases h : okP s with
  | false => unfold spD; rw [h]; simp
  | true =>
    by_cases h0 : s = []
    · rw [h0]; exact Nat.zero_le _
    · exact (splits_pure h h0).2.2.2.2

theorem aim_len (d s : List UInt8) : (aS (aimP d s)).length ≤ 2080 := by
  unfold aimP
  split
  · split
    · exact joinP_len
    · exact joinP_len
  · exact Nat.zero_le _

set_option maxRecDepth 20000 in
set_option maxHeartbeats 2000000 in
theorem aimof_any (d p : List UInt8) (w : World) (hd : d.length ≤ 1048576) (hp : p.length ≤ 1048576) :
    Calls Tryd.prog 28 #[.string (mk d), .string (mk p)] w fun e w' => e = .returned (.tuple #[.string (mk (amO d p).1), .int .i64 (amO d p).2]) ∧ Below w.heap.size w w' := by
  have H1 := aim_any (mk d) (mk p) w (by rw [bl_mk]; omega) (by rw [bl_mk]; omega)
  rw [bl_mk, bl_mk] at H1
  have H1 := hid H1
  have HC := hid (sclone_any (mk (aS (aimP d p))) (by rw [mk_size]; have := aim_len d p; omega))
  have hO : amO d p = if aN (aimP d p) ≠ 0 then ([], aN (aimP d p)) else if aS (aimP d p) = [] then ([], 46) else (aS (aimP d p), 0) := rfl
  have HO := hid hO
  clear hO
  obtain ⟨n, HN⟩ : ∃ n, Hid (aN (aimP d p) = n) := ⟨_, rfl⟩
  obtain ⟨s, HS⟩ : ∃ s, Hid (aS (aimP d p) = s) := ⟨_, rfl⟩
  rw [HN.out, HS.out] at H1 HO
  rw [HS.out] at HC
  by_cases hn : n = 0
  · subst hn
    by_cases hs : s = []
    · have f1 : ((mk s).toList == []) = true := by rw [tl_mk, hs]; rfl
      have f2 : (mk s).toList.isEmpty = true := by rw [tl_mk, hs]; rfl
      have FIN : Hid (amO d p = ([], 46)) := by show amO d p = _; rw [HO.out, if_neg (by simp), if_pos hs]
      rw [FIN.out]
      clear hs
      go_enter Tryd.func28, Tryd.ntmps28
      go_wp2_with (go_at_call 48; refine H1.out.mono ?_; rintro r w2 ⟨rfl, hb⟩; have HB := hid hb; clear hb)
      go_ret2
      exact ⟨rfl, HB.out⟩
    · have f1 : ((mk s).toList == []) = false := by rw [tl_mk, beq_eq_false_iff_ne]; exact hs
      have f2 : (mk s).toList.isEmpty = false := by rw [tl_mk]; cases s with | nil => exact absurd rfl hs | cons _ _ => rfl
      have FIN : Hid (amO d p = (s, 0)) := by show amO d p = _; rw [HO.out, if_neg (by simp), if_neg hs]
      rw [FIN.out]
      clear hs
      go_enter Tryd.func28, Tryd.ntmps28
      go_wp2_with first
        | (go_at_call 48; refine H1.out.mono ?_; rintro r w2 ⟨rfl, hb⟩; have HB := hid hb; clear hb)
        | (go_at_call 26; refine (HC.out _).mono ?_; rintro r w3 ⟨rfl, hb⟩; have HB3 := hid (HB.out.trans (hb.mono HB.out.size)); clear hb)
      go_ret2
      exact ⟨rfl, HB3.out⟩
  · have FIN : Hid (amO d p = ([], n)) := by show amO d p = _; rw [HO.out, if_pos hn]
    rw [FIN.out]
    have hn0 : ¬ n = 0 := hn
    clear hn
    go_enter Tryd.func28, Tryd.ntmps28
    go_wp2_with (go_at_call 48; refine H1.out.mono ?_; rintro r w2 ⟨rfl, hb⟩; have HB := hid hb; clear hb)
    go_ret2
    exact ⟨rfl, HB.out⟩

end Go.Proofs.YtlpengaclkidiaaDoor

/- The program's Aimed (written by yaim.py). -/
namespace Go.Proofs.YtlpengaclkidiaaDoor
open Go.RowKit

set_option maxRecDepth 20000 in
set_option maxHeartbeats 4000000 in
theorem aimed_any (m : List UInt8) (hm : m.length ≤ 1048576) (v : Value) (L : List (List UInt8 × List UInt8 × Int)) (hn : L.length ≤ 1048576) (hp : ∀ x ∈ L, x.1.length ≤ 1048576) (w : World) (h : Incs w v L) :
    Calls Tryd.prog 14 #[.string (mk m), v] w fun r w' => ∃ v', r = .returned (.tuple #[v', .agg #[.int .i64 (adP m L).2.1, .int .i64 (adP m L).2.2]]) ∧ OwnS w' w.heap.size v' (adP m L).1 ∧ Below w.heap.size w w' := by
  have H1 := fun W => psplit_any (mk m) W (by rw [bl_mk]; omega)
  rw [bl_mk] at H1
  have H1 := hid H1
  have HIN := hid h
  have HP := hid hp
  have hdl := spD_len m
  obtain ⟨ao, c, rfl⟩ := h.shape
  have hA : adP m L = if spE m ≠ 0 then ([], spE m, 0) else amL (spD m) L := rfl
  obtain ⟨d, HD⟩ : ∃ d, Hid (spD m = d) := ⟨_, rfl⟩
  obtain ⟨nm, HNM⟩ : ∃ d, Hid (spN m = d) := ⟨_, rfl⟩
  obtain ⟨e, HE⟩ : ∃ d, Hid (spE m = d) := ⟨_, rfl⟩
  rw [HD.out, HNM.out, HE.out] at H1
  rw [HD.out] at hdl
  rw [HD.out, HE.out] at hA
  have HA := hid hA
  have HF0 := hid (hp_new w (.cells #[.int .i64 0, .int .i64 0] 25))
  have HB0 := hid (below_walk w (.cells #[.int .i64 0, .int .i64 0] 25))
  have hsz := hp_size w (.cells #[.int .i64 0, .int .i64 0] 25)
  clear h hp hA
  by_cases he : e = 0
  · subst he
    have HA2 : Hid (adP m L = amL d L) := by show adP m L = _; rw [HA.out, if_neg (by simp)]
    obtain ⟨i0, hi, hz0, hz1, hz2⟩ := info_parts Tryd.infoStr
    go_enter Tryd.func14, Tryd.ntmps14
    go_upto_region 1 with fail
    generalize w.alloc (.cells #[.int .i64 0, .int .i64 0] 25) = w1 at *
    go_upto_region 4 with (go_at_call 27; refine (H1.out _).mono ?_; rintro r w2 ⟨rfl, q, rfl⟩)
    have HB1 : Hid (Below w.heap.size w (w1.drewN q)) := below_drewN HB0.out q
    have HF1 : Hid ((w1.drewN q).heap[w.heap.size]? = some (.cells #[.int .i64 0, .int .i64 0] 25 (0, 0))) := HF0.out
    have hsz1 : (w1.drewN q).heap.size = w.heap.size + 1 := hsz
    generalize w1.drewN q = w2 at *
    go_upto_region 5 with (refine wpList_make_own w2 (by rfl) _ _ 32 (by rfl) (w.heap.size + 1) 9 i0 (.string ⟨#[]⟩) 1 Tryd.underlying32 hi hz0 hz1 .i64 .i64 (L.length : Int) L.length (by rfl) (by rfl) rfl (by rw [hz2]; omega) (by unfold maxLen; omega) (by omega) ?_; intro w3 ho3 hg3)
    have HO3 : Hid (OwnS w3 (w.heap.size + 1) (.slice (some ⟨w2.heap.size, 0, none⟩) 0 L.length) (amT d (L.take 0))) := hid (by rw [List.take_zero]; exact ho3)
    have HB3 := hid (HB1.out.trans ((gb_below hg3).mono HB1.out.size))
    have HF3 := hid (((gb_below hg3).block _ (hp_lt HF1.out)).trans HF1.out)
    clear ho3 hg3 hi hz0 hz1 hz2 HB1 HF1 HB0 HF0
    go_wp2
    go_loopw [9, 29] (fun vl i wr => ∃ k : Nat, i = .int .i64 k ∧ k ≤ L.length ∧ AmOk d L k ∧ OwnS wr (w.heap.size + 1) vl (amT d (L.take k)) ∧ wr.heap[w.heap.size]? = some (.cells #[.int .i64 0, .int .i64 0] 25 (0, 0)) ∧ Below w.heap.size w wr) (fun _ i _ => L.length - (intOf i).toNat)
    case atStart => exact ⟨0, rfl, Nat.zero_le _, fun j hj => by omega, by have h3 := HO3.out; rw [hsz1] at h3; exact h3, HF3.out, HB3.out⟩
    case round =>
      clear HO3 HF3 HB3
      obtain ⟨k, rfl, hk, hok, ho, hf, hb⟩ := hrel
      have HOK := hid hok
      have HO := hid ho
      have HF := hid hf
      have HB := hid hb
      clear hok ho hf hb
      by_cases hlt : k < L.length
      · have q1 : (k : Int) < (L.length : Int) := by omega
        obtain ⟨g1, o1, hs1, _, e0, e1, e2⟩ := (HIN.out.below HB.out).at k hlt
        subst hs1
        have hpx := HP.out (L.getD k noI) (by rw [List.getD_eq_getElem?_getD, List.getElem?_eq_getElem hlt]; exact List.getElem_mem hlt)
        have HBAD := hid (fun h => am_bad hlt HOK.out h)
        have HNX := hid (fun h => HOK.out.succ h)
        have HTX := hid (amT_succ d L k hlt)
        have hle : (amT d (L.take k)).length ≤ 1048576 := by unfold amT; rw [List.length_map, List.length_take]; omega
        obtain ⟨⟨x, y, z⟩, HX⟩ : ∃ t, Hid (L.getD k noI = t) := ⟨_, rfl⟩
        rw [HX.out] at e0 e1 e2 hpx HBAD HNX HTX
        simp only at hpx HBAD HNX HTX
        have HAO := hid (fun W => aimof_any d x W (by omega) hpx)
        obtain ⟨s, HS⟩ : ∃ s, Hid ((amO d x).1 = s) := ⟨_, rfl⟩
        obtain ⟨er, HER⟩ : ∃ s, Hid ((amO d x).2 = s) := ⟨_, rfl⟩
        rw [HS.out] at HTX HAO
        rw [HER.out] at HBAD HNX HAO
        obtain ⟨ts, HTS⟩ : ∃ ts, Hid (amT d (L.take k) = ts) := ⟨_, rfl⟩
        rw [HTS.out] at HTX HO hle
        obtain ⟨sv, svc, hvv⟩ := HO.out.strs.shape
        subst hvv
        have HBW := hid (below_walk wr (.cells #[.string (mk x), .string (mk y), .int .i64 z] 35))
        have HK := hid (hp_new wr (.cells #[.string (mk x), .string (mk y), .int .i64 z] 35))
        by_cases her : er = 0
        · subst her
          go_upto_region 11 with (go_at_call 28; refine (HAO.out _).mono ?_; rintro r w4 ⟨rfl, hb⟩; have HB4 := hid (HBW.out.trans (hb.mono (by rw [hp_size]; omega))); clear hb)
          have HF4 := hid ((HB4.out.block _ (hp_lt HF.out)).trans HF.out)
          have HO4 := hid (HO.out.below HB4.out)
          have HC4 := hid (HB.out.trans (HB4.out.mono HB.out.size))
          go_wp2_with (refine app_text (by rfl) (.tmp 46) (.tmp 48) (by rfl) (w.heap.size + 1) _ ts (by rfl) (HO4.out.below (below_walk _ _)) [s] _ (by rfl) (strs_one w4 s) (by simp; omega) (by rw [hp_size]; have := hp_lt HF4.out; omega) ?_
                       intro v' w5 ho5 hg5 _
                       have HO5 := hid ho5
                       have hlo : ∀ q, (Value.slice sv ts.length svc).ownBlock = some q → w.heap.size + 1 ≤ q := fun q hq => (HO4.out.lt q hq).1
                       have HF5 := hid ((hg5.block _ (by rw [hp_size]; have := hp_lt HF4.out; omega) (fun e => by have := hlo _ e.symm; omega)).trans ((hp_old _ _ _ (hp_lt HF4.out)).trans HF4.out))
                       have HB5 := hid ((HC4.out.alloc HC4.out.size (.cells #[.string (mk s)] 9)).grown hg5 (by rw [hp_size]; have := HC4.out.size; omega) (fun q hq => by have := hlo _ hq; omega))
                       clear ho5 hg5 hlo)
          exact ⟨⟨k + 1, by simp, by omega, HNX.out (by trivial), by rw [← HTX.out]; exact HO5.out, HF5.out, HB5.out⟩, by simp [intOf]; omega⟩
        · have FIN : Hid (adP m L = ([], er, z)) := by show adP m L = _; rw [HA2.out, HBAD.out her]
          have her0 : ¬ er = 0 := her
          go_upto_region 10 with (go_at_call 28; refine (HAO.out _).mono ?_; rintro r w4 ⟨rfl, hb⟩; have HB4 := hid (HBW.out.trans (hb.mono (by rw [hp_size]; omega))); have HK4 := hid ((hb.block _ (hp_lt HK.out)).trans HK.out); clear hb)
          have HF4 := hid ((HB4.out.block _ (hp_lt HF.out)).trans HF.out)
          have HC4 := hid (HB.out.trans (HB4.out.mono HB.out.size))
          obtain ⟨gk, HGK⟩ : ∃ g, Hid (wr.heap.size = g) := ⟨_, rfl⟩
          rw [HGK.out] at HK4
          rw [HGK.out]
          have hne : w.heap.size ≠ gk := by have := hp_lt HF.out; have := HGK.out; omega
          refine wp_noPanic (wp_region_held_drew (S := fun W => W.heap[gk]? = some (.cells #[.string (mk x), .string (mk y), .int .i64 z] 35 (0, 0))) (by kernel_rfl) (by exact HK4.out) ?_)
          intro hHeld
          refine wpAnyH_take (i := 0) (v := .int .i64 er) rfl (by kernel_rfl) (by kernel_rfl) (by kernel_rfl) (fun _ _ _ h => h) (Or.inl ⟨by rfl, fun W _ => by go_simp⟩) hHeld ?_
          simp only [Act.put, List.getElem_toArray, List.getElem_cons_zero, List.setIfInBounds_toArray, List.set_cons_succ, List.set_cons_zero]
          refine wpAnyH_take (i := 1) (v := .pointer (some ⟨gk, 2, none⟩)) rfl (by kernel_rfl) (by kernel_rfl) (by kernel_rfl) (fun _ _ _ h => h) (Or.inl ⟨by rfl, fun W _ => by go_simp⟩) hHeld ?_
          simp only [Act.put, List.getElem_toArray, List.getElem_cons_zero, List.getElem_cons_succ, List.setIfInBounds_toArray, List.set_cons_succ, List.set_cons_zero]
          refine wpAnyH_take (i := 2) (v := .int .i64 z) rfl (by kernel_rfl) (by kernel_rfl) (by kernel_rfl) (fun _ _ _ h => h) (Or.inl ⟨by rfl, fun W hW => by have hcell := (show W.cell? ⟨gk, 2, none⟩ = some (.int .i64 z) by rw [cell_of_row _ _ _ _ _ _ hW]; rfl); clear hW; go_simp⟩) hHeld ?_
          simp only [Act.put, List.getElem_toArray, List.getElem_cons_zero, List.getElem_cons_succ, List.setIfInBounds_toArray, List.set_cons_succ, List.set_cons_zero]
          refine wpAnyH_take (i := 3) (v := .agg #[.int .i64 er, .int .i64 z]) rfl (by kernel_rfl) (by kernel_rfl) (by kernel_rfl) (fun _ _ _ h => h) (Or.inl ⟨by rfl, fun W _ => by go_simp⟩) hHeld ?_
          simp only [Act.put, List.getElem_toArray, List.getElem_cons_zero, List.getElem_cons_succ, List.setIfInBounds_toArray, List.set_cons_succ, List.set_cons_zero]
          refine wpAnyH_take (i := 4) (v := .slice none 0 0) rfl (by kernel_rfl) (by kernel_rfl) (by kernel_rfl) (fun _ _ _ h => h) (Or.inl ⟨by rfl, fun W _ => by go_simp⟩) hHeld ?_
          simp only [Act.put, List.getElem_toArray, List.getElem_cons_zero, List.getElem_cons_succ, List.setIfInBounds_toArray, List.set_cons_succ, List.set_cons_zero]
          refine wpAnyH_ready (rs := [5]) (by kernel_rfl) (by simp) ?_
          refine AllReadyH.cons rfl (fun K hK => ?_) AllReadyH.nil
          refine step_store_row (by rfl) 25 (.tmp 5) (.tmp 45) (by rfl) w.heap.size [.int .i64 er, .int .i64 z] (by rfl) (by rfl) 25 _ (by exact HF4.out) (by kernel_rfl) (by rfl) (by intro v hv; simp at hv; rcases hv with rfl | rfl <;> rfl) ?_
          intro w5 hs5
          have HS5 := hid hs5.blk
          have HB5 := hid ((HC4.out.drew).grown hs5.grown HC4.out.size (fun q hq => by injection hq with hq; omega))
          refine hK.out _ _ ((hs5.grown.block gk (hp_lt HK4.out) (by simpa using hne.symm)).trans HK4.out) (fun hHeld => ?_)
          clear hK K hs5
          try simp only [Act.put]
          refine wpAnyH_done (by kernel_rfl) ?_ _
          simp only [noPanic]
          clear hHeld
          go_wp2_with fail
          refine ret_tc 4 5 25 rfl _ rfl w.heap.size rfl [.int .i64 er, .int .i64 z] 25 HS5.out _ Tryd.underlying25 rfl (by kernel_rfl) rfl ?_
          rw [FIN.out]
          exact ⟨_, rfl, OwnS.nil _ _, HB5.out⟩
      · have q1 : ¬ (k : Int) < (L.length : Int) := by omega
        obtain rfl : k = L.length := by omega
        have FIN : Hid (adP m L = (amT d L, 0, 0)) := by show adP m L = _; rw [HA2.out, am_all HOK.out]
        rw [List.take_length] at HO
        obtain ⟨sa, sc, hv⟩ := HO.out.strs.shape
        obtain ⟨N, HN⟩ : ∃ n, Hid ((amT d L).length = n) := ⟨_, rfl⟩
        rw [HN.out] at hv
        subst hv
        go_wp2_with (refine st_row (by rfl) 25 (.tmp 5) (.tmp 52) (by rfl) w.heap.size [.int .i64 0, .int .i64 0] (by rfl) (by rfl) 25 _ HF.out (by kernel_rfl) (by rfl) (by intro v hv; simp at hv; rw [hv]; rfl) ?_; intro w5 hw5)
        refine ret_tc 4 5 25 rfl _ rfl w.heap.size rfl [.int .i64 0, .int .i64 0] 25 hw5.blk _ Tryd.underlying25 rfl (by kernel_rfl) rfl ?_
        rw [FIN.out]
        exact ⟨_, rfl, (HO.out.kept hw5.grown (Or.inr (fun e => by have := (HO.out.lt _ e).1; omega))).le (by omega), HB.out.grown hw5.grown HB.out.size (fun q hq => by injection hq with hq; omega)⟩
  · have FIN : Hid (adP m L = ([], e, 0)) := by show adP m L = _; rw [HA.out, if_pos he]
    have he0 : ¬ e = 0 := he
    rw [FIN.out]
    go_enter Tryd.func14, Tryd.ntmps14
    go_upto_region 1 with fail
    generalize w.alloc (.cells #[.int .i64 0, .int .i64 0] 25) = w1 at *
    go_wp2_with first
      | (go_at_call 27; refine (H1.out _).mono ?_; rintro r w2 ⟨rfl, q, rfl⟩)
      | (refine st_row (by rfl) 25 (.tmp 5) (.tmp 23) (by rfl) w.heap.size [.int .i64 e, .int .i64 0] (by rfl) (by rfl) 25 _ (by exact HF0.out) (by kernel_rfl) (by rfl) (by intro v hv; simp at hv; rcases hv with rfl | rfl <;> rfl) ?_; intro w5 hw5)
    refine ret_tc 4 5 25 rfl _ rfl w.heap.size rfl [.int .i64 e, .int .i64 0] 25 hw5.blk _ Tryd.underlying25 rfl (by kernel_rfl) rfl ?_
    exact ⟨_, rfl, OwnS.nil _ _, (below_drewN HB0.out q).grown hw5.grown (by have := HB0.out.size; exact this) (fun q hq => by injection hq with hq; omega)⟩

end Go.Proofs.YtlpengaclkidiaaDoor

/- The document's Aimed, and ScanAims. -/
namespace Go.Proofs.YtlpengaclkidiaaDoor
open Go.RowKit

set_option maxRecDepth 20000 in
set_option maxHeartbeats 4000000 in
theorem raimed_any (m : List UInt8) (hm : m.length ≤ 1048576) (v : Value) (L : List (List UInt8 × List UInt8 × Int)) (hn : L.length ≤ 1048576) (hp : ∀ x ∈ L, x.1.length ≤ 1048576) (w : World) (h : Incs w v L) :
    Calls Tryd.prog 15 #[.string (mk m), v] w fun r w' => ∃ v', r = .returned (.tuple #[v', .int .i64 (adP m L).2.1, .int .i64 (adP m L).2.2]) ∧ OwnS w' w.heap.size v' (adP m L).1 ∧ Below w.heap.size w w' := by
  have H1 := fun W => rsplit_any (mk m) W (by rw [bl_mk]; omega)
  rw [bl_mk] at H1
  have H1 := hid H1
  have HIN := hid h
  have HP := hid hp
  have hdl := spD_len m
  obtain ⟨ao, c, rfl⟩ := h.shape
  have hA : adP m L = if spE m ≠ 0 then ([], spE m, 0) else amL (spD m) L := rfl
  obtain ⟨d, HD⟩ : ∃ d, Hid (spD m = d) := ⟨_, rfl⟩
  obtain ⟨nm, HNM⟩ : ∃ d, Hid (spN m = d) := ⟨_, rfl⟩
  obtain ⟨e, HE⟩ : ∃ d, Hid (spE m = d) := ⟨_, rfl⟩
  rw [HD.out, HNM.out, HE.out] at H1
  rw [HD.out] at hdl
  rw [HD.out, HE.out] at hA
  have HA := hid hA
  clear h hp hA
  by_cases he : e = 0
  · subst he
    have HA2 : Hid (adP m L = amL d L) := by show adP m L = _; rw [HA.out, if_neg (by simp)]
    go_enter Tryd.func15, Tryd.ntmps15
    go_wp2_with (go_at_call 29; refine (H1.out _).mono ?_; rintro r w2 ⟨rfl, hb⟩; have HB1 := hid hb; clear hb)
    go_loopw [10, 11] (fun vl i wr => ∃ k : Nat, i = .int .i64 k ∧ k ≤ L.length ∧ AmOk d L k ∧ OwnS wr w.heap.size vl (amT d (L.take k)) ∧ Below w.heap.size w wr) (fun _ i _ => L.length - (intOf i).toNat)
    case atStart => exact ⟨0, rfl, Nat.zero_le _, fun j hj => by omega, by rw [List.take_zero]; exact OwnS.nil _ _, HB1.out⟩
    case round =>
      clear HB1
      obtain ⟨k, rfl, hk, hok, ho, hb⟩ := hrel
      have HOK := hid hok
      have HO := hid ho
      have HB := hid hb
      clear hok ho hb
      by_cases hlt : k < L.length
      · have q1 : (k : Int) < (L.length : Int) := by omega
        obtain ⟨g1, o1, hs1, _, e0, e1, e2⟩ := (HIN.out.below HB.out).at k hlt
        subst hs1
        have hpx := HP.out (L.getD k noI) (by rw [List.getD_eq_getElem?_getD, List.getElem?_eq_getElem hlt]; exact List.getElem_mem hlt)
        have HBAD := hid (fun h => am_bad hlt HOK.out h)
        have HNX := hid (fun h => HOK.out.succ h)
        have HTX := hid (amT_succ d L k hlt)
        have hle : (amT d (L.take k)).length ≤ 1048576 := by unfold amT; rw [List.length_map, List.length_take]; omega
        obtain ⟨⟨x, y, z⟩, HX⟩ : ∃ t, Hid (L.getD k noI = t) := ⟨_, rfl⟩
        rw [HX.out] at e0 e1 e2 hpx HBAD HNX HTX
        simp only at hpx HBAD HNX HTX
        have H2 := raim_any (mk d) (mk x) wr (by rw [bl_mk]; omega) (by rw [bl_mk]; omega)
        rw [bl_mk, bl_mk] at H2
        have H2 := hid H2
        have HO1 := hid (show amO d x = if aN (aimP d x) ≠ 0 then ([], aN (aimP d x)) else if aS (aimP d x) = [] then ([], 46) else (aS (aimP d x), 0) from rfl)
        obtain ⟨n, HN⟩ : ∃ n, Hid (aN (aimP d x) = n) := ⟨_, rfl⟩
        obtain ⟨s, HS⟩ : ∃ s, Hid (aS (aimP d x) = s) := ⟨_, rfl⟩
        rw [HN.out, HS.out] at H2 HO1
        obtain ⟨ts, HTS⟩ : ∃ ts, Hid (amT d (L.take k) = ts) := ⟨_, rfl⟩
        rw [HTS.out] at HTX HO hle
        obtain ⟨sv, svc, hvv⟩ := HO.out.strs.shape
        subst hvv
        by_cases hn0 : n = 0
        · subst hn0
          by_cases hs : s = []
          · have f1 : ((mk s).toList == []) = true := by rw [tl_mk, hs]; rfl
            have f2 : (mk s).toList.isEmpty = true := by rw [tl_mk, hs]; rfl
            have hO2 : amO d x = ([], 46) := by rw [HO1.out, if_neg (by simp), if_pos hs]
            have FIN : Hid (adP m L = ([], 46, z)) := by
              show adP m L = _
              have := HBAD.out (by rw [hO2]; simp)
              rw [hO2] at this
              rw [HA2.out, this]
            clear hs hO2
            go_upto_region 12 with (go_at_call 30; refine H2.out.mono ?_; rintro r w4 ⟨rfl, hb⟩; have HB4 := hid hb; have u2 := (hb.cell (p := ⟨g1, o1 + k * 3 + 2, none⟩) (by exact World.block_lt_of_cell? wr _ e2)).trans e2; clear hb)
            go_quiet (fail)
            go_wp2
            go_ret3
            rw [FIN.out]
            exact ⟨_, rfl, OwnS.nil _ _, below_drewN (HB.out.trans (HB4.out.mono HB.out.size)) _⟩
          · have f1 : ((mk s).toList == []) = false := by rw [tl_mk, beq_eq_false_iff_ne]; exact hs
            have f2 : (mk s).toList.isEmpty = false := by rw [tl_mk]; cases s with | nil => exact absurd rfl hs | cons _ _ => rfl
            have hO2 : amO d x = (s, 0) := by rw [HO1.out, if_neg (by simp), if_neg hs]
            have HNX2 := hid (HNX.out (by rw [hO2]))
            rw [hO2] at HTX
            simp only at HTX
            clear hs hO2
            go_wp2_with first
              | (go_at_call 30; refine H2.out.mono ?_; rintro r w4 ⟨rfl, hb⟩; have HB4 := hid hb; have HO4 := hid (HO.out.below hb); have HC4 := hid (HB.out.trans (hb.mono HB.out.size)); clear hb)
              | (refine app_text (by rfl) (.tmp 53) (.tmp 55) (by rfl) w.heap.size _ ts (by rfl) (HO4.out.below (below_walk _ _)) [s] _ (by rfl) (strs_one w4 s) (by simp; omega) (by rw [hp_size]; have := HC4.out.size; omega) ?_
                 intro v' w5 ho5 hg5 _
                 have HO5 := hid ho5
                 have HB5 := hid ((HC4.out.alloc HC4.out.size (.cells #[.string (mk s)] 9)).grown hg5 (by rw [hp_size]; have := HC4.out.size; omega) (fun q hq => (HO4.out.lt q hq).1))
                 clear ho5 hg5)
            exact ⟨⟨k + 1, by simp, by omega, HNX2.out, by rw [← HTX.out]; exact HO5.out, HB5.out⟩, by simp [intOf]; omega⟩
        · have hO2 : amO d x = ([], n) := by rw [HO1.out, if_pos hn0]
          have FIN : Hid (adP m L = ([], n, z)) := by
            show adP m L = _
            have := HBAD.out (by rw [hO2]; exact hn0)
            rw [hO2] at this
            rw [HA2.out, this]
          have hn1 : ¬ n = 0 := hn0
          have hn2 : (n == 0) = false := by rw [beq_eq_false_iff_ne]; exact hn0
          clear hO2
          go_upto_region 12 with (go_at_call 30; refine H2.out.mono ?_; rintro r w4 ⟨rfl, hb⟩; have HB4 := hid hb; have u2 := (hb.cell (p := ⟨g1, o1 + k * 3 + 2, none⟩) (by exact World.block_lt_of_cell? wr _ e2)).trans e2; clear hb)
          go_quiet (fail)
          go_wp2
          go_ret3
          rw [FIN.out]
          exact ⟨_, rfl, OwnS.nil _ _, below_drewN (HB.out.trans (HB4.out.mono HB.out.size)) _⟩
      · have q1 : ¬ (k : Int) < (L.length : Int) := by omega
        obtain rfl : k = L.length := by omega
        have FIN : Hid (adP m L = (amT d L, 0, 0)) := by show adP m L = _; rw [HA2.out, am_all HOK.out]
        rw [List.take_length] at HO
        obtain ⟨sa, sc, hv⟩ := HO.out.strs.shape
        obtain ⟨N, HN⟩ : ∃ n, Hid ((amT d L).length = n) := ⟨_, rfl⟩
        rw [HN.out] at hv
        subst hv
        go_wp2
        go_ret3
        rw [FIN.out]
        exact ⟨_, rfl, HO.out, HB.out⟩
  · have FIN : Hid (adP m L = ([], e, 0)) := by show adP m L = _; rw [HA.out, if_pos he]
    have he0 : ¬ e = 0 := he
    rw [FIN.out]
    go_enter Tryd.func15, Tryd.ntmps15
    go_wp2_with (go_at_call 29; refine (H1.out _).mono ?_; rintro r w2 ⟨rfl, hb⟩; have HB1 := hid hb; clear hb)
    go_ret3
    exact ⟨_, rfl, OwnS.nil _ _, HB1.out⟩

theorem ad_len (m : List UInt8) (L : List (List UInt8 × List UInt8 × Int)) : (adP m L).1.length ≤ L.length := by
  have key : ∀ d L, (amL d L).1.length ≤ L.length := by
    intro d L
    induction L with
    | nil => exact Nat.le_refl _
    | cons x r ih =>
      unfold amL
      split
      · exact Nat.zero_le _
      · split
        · exact Nat.zero_le _
        · simp only [List.length_cons]; omega
  unfold adP
  split
  · exact Nat.zero_le _
  · exact key _ _

set_option maxRecDepth 20000 in
set_option maxHeartbeats 2000000 in
theorem aims_any (w : World) (m : List UInt8) (hm : m.length ≤ 1048576) (v : Value) (L : List (List UInt8 × List UInt8 × Int)) (hn : L.length ≤ 1048576) (hp : ∀ x ∈ L, x.1.length ≤ 1048576) (hT : Tabs w) (h : Incs w v L) :
    Calls Tryd.prog 4 #[.string (mk m), v] w fun e w' => e = .returned (.bool true) ∧ Below w.heap.size w w' := by
  have H1 := hid (aimed_any m hm v L hn hp w h)
  have H2 := hid (fun W hW => raimed_any m hm v L hn hp W hW)
  have hal := ad_len m L
  have HS := hid (fun v1 v2 W h1 h2 => same_true v1 v2 (adP m L).1 W h1 h2 (by omega))
  obtain ⟨ts, HE0⟩ : ∃ e, Hid ((adP m L).1 = e) := ⟨_, rfl⟩
  obtain ⟨e, HE1⟩ : ∃ e, Hid ((adP m L).2.1 = e) := ⟨_, rfl⟩
  obtain ⟨a, HE2⟩ : ∃ e, Hid ((adP m L).2.2 = e) := ⟨_, rfl⟩
  rw [HE0.out, HE1.out, HE2.out] at H1 H2
  rw [HE0.out] at HS
  have HAL := hid alive_any
  have HT := hid hT
  have HIN := hid h
  clear hT h hp hal
  obtain ⟨ao, c, rfl⟩ := HIN.out.shape
  go_enter Tryd.func4, Tryd.ntmps4
  go_upto_region 2 with (go_at_call 14; refine H1.out.mono ?_; rintro r w2 ⟨v1, rfl, ho, hb⟩; have HO1 := hid ho; have HB1 := hid hb; obtain ⟨sa1, sc1, hv⟩ := ho.strs.shape; subst hv; clear ho hb)
  have HB2 := hid (HB1.out.trans ((below_walk w2 (.cells #[.int .i64 e, .int .i64 a] 25)).mono HB1.out.size))
  have HO2 := hid (HO1.out.below (below_walk w2 (.cells #[.int .i64 e, .int .i64 a] 25)))
  have HF2 := hid (hp_new w2 (.cells #[.int .i64 e, .int .i64 a] 25))
  generalize w2.alloc (.cells #[.int .i64 e, .int .i64 a] 25) = w3 at *
  obtain ⟨gf, HGF⟩ : ∃ g, Hid (w2.heap.size = g) := ⟨_, rfl⟩
  rw [HGF.out] at HF2
  rw [HGF.out]
  go_upto_region 3 with (go_at_call 15; refine (H2.out _ (HIN.out.below HB2.out)).mono ?_; rintro r w4 ⟨v2, rfl, ho, hb⟩; have HO4 := hid ho; have HB4 := hid hb; obtain ⟨sa2, sc2, hv⟩ := ho.strs.shape; subst hv; clear ho hb)
  have HP4 := hid (HO2.out.below HB4.out)
  have HF4 := hid ((HB4.out.block gf (hp_lt HF2.out)).trans HF2.out)
  have HC4 := hid (HB2.out.trans (HB4.out.mono HB2.out.size))
  have k0 : ∀ q, (w4.drewN q).cell? ⟨gf, 0, none⟩ = some (.int .i64 e) := fun q => by show w4.cell? _ = _; rw [cell_of_row _ _ _ _ _ _ HF4.out]; rfl
  have k1 : ∀ q, (w4.drewN q).cell? ⟨gf, 1, none⟩ = some (.int .i64 a) := fun q => by show w4.cell? _ = _; rw [cell_of_row _ _ _ _ _ _ HF4.out]; rfl
  go_wp2_with first
    | (go_at_call 16; refine (HS.out _ _ _ HP4.out.strs HO4.out.strs).mono ?_; rintro r w5 ⟨rfl, q, rfl⟩)
    | (go_at_call 13; refine (HAL.out _ (HT.out.below (below_drewN HC4.out _))).mono ?_; rintro r w6 ⟨rfl, hb6⟩)
  go_ret
  exact ⟨rfl, (below_drewN HC4.out _).trans (hb6.mono HC4.out.size)⟩

end Go.Proofs.YtlpengaclkidiaaDoor

/- Includes out of their reading, in the full form. -/
namespace Go.Proofs.YtlpengaclkidiaaDoor
open Go.ChangeShapes Go.WideShapes Go.ChangeAt Go.RowKit

theorem cellsInc : Tryd.prog.cellsOf 35 = 3 := by kernel_rfl
theorem cellsInt : Tryd.prog.cellsOf 3 = 1 := by kernel_rfl
theorem cellsStr : Tryd.prog.cellsOf 9 = 1 := by kernel_rfl
theorem bytesInc : Tryd.prog.bytesOf 35 = 40 := by kernel_rfl
theorem three_of {α : Type} {l : List α} (h : l.length = 3) : ∃ a b c, l = [a, b, c] := by
  match l, h with
  | [a, b, c], _ => exact ⟨a, b, c, rfl⟩
theorem addr_plain {w : World} {a : Addr} {v : Value} (h : w.cell? a = some v) : a = ⟨a.block, a.off, none⟩ := by
  obtain ⟨b, o, sp⟩ := a
  cases sp with
  | none => rfl
  | some s =>
    unfold World.cell? at h
    split at h <;> simp at h
theorem add_plain (b o j : Nat) : (⟨b, o, none⟩ : Addr).add j = ⟨b, o + j, none⟩ := by
  by_cases h : j = 0
  · subst h; simp [Addr.add]
  · simp [Addr.add, h]
theorem list_of {α : Type} {P : Nat → α → Prop} : ∀ {n : Nat}, (∀ i, i < n → ∃ x, P i x) → ∃ l : List α, l.length = n ∧ ∀ j x, l[j]? = some x → P j x
  | 0, _ => ⟨[], rfl, by intro j x h; simp at h⟩
  | n + 1, h => by
    obtain ⟨l, hl, hp⟩ := list_of (n := n) (fun i hi => h i (by omega))
    obtain ⟨x, hx⟩ := h n (by omega)
    refine ⟨l ++ [x], by simp [hl], fun j y hj => ?_⟩
    rcases Nat.lt_or_ge j n with hjn | hjn
    · rw [List.getElem?_append_left (by omega)] at hj
      exact hp j y hj
    · rw [List.getElem?_append_right (by omega)] at hj
      have : j - l.length = 0 := by
        rcases Nat.eq_zero_or_pos (j - l.length) with h0 | h0
        · exact h0
        · rw [List.getElem?_eq_none (by simp; omega)] at hj; cases hj
      rw [this] at hj
      simp at hj
      subst hj
      obtain rfl : j = n := by omega
      exact hx
theorem weightsAll_mem {H : Type} {P : Program} {e : TypeId} : ∀ {l : List (DataW H)} {d : DataW H}, d ∈ l → ∀ n ∈ d.weights P e, n ∈ DataW.weightsAll P e l
  | d' :: r, d, hd, n, hn => by
    simp only [DataW.weightsAll, List.mem_append]
    rcases List.mem_cons.1 hd with rfl | h
    · exact Or.inl hn
    · exact Or.inr (weightsAll_mem h n hn)


section
variable {H : Type} {enc : TypeId × Value → H} {W : World} {spare : Nat → Bool} {held : Bool}
theorem sized_at {ts : List TypeId} {ds : List (DataW H)} (h : ((DataW.weightsEach Tryd.prog ts ds).all fun x => decide (x ≤ reachBytes)) = true) {j : Nat} {t : TypeId} {d : DataW H} (ht : ts[j]? = some t) (hd : ds[j]? = some d) : ∀ x ∈ d.weights Tryd.prog t, x ≤ reachBytes :=
  fun x hx => of_decide_eq_true (List.all_eq_true.1 h _ (DataW.weights_mem_each ht hd x hx))

/-- one entry -/
theorem inc_w {fuel : Nat} {cs : List Value} {x : DataW H × List MemPlace} (h : DataW.trod enc Tryd.prog W 0 spare held fuel 35 cs = some x) (hk : ∀ n ∈ x.1.weights Tryd.prog 35, n ≤ reachBytes) :
    ∃ e : List UInt8 × List UInt8 × Int, cs = icC e ∧ e.1.length ≤ reachBytes ∧ e.2.1.length ≤ reachBytes := by
  obtain ⟨y0, y1, y2, n, hx, hl, t0, t1, t2⟩ := Go.Deep.trod_struct3 Tryd.underlying35 h
  rw [cellsInc] at hl
  obtain ⟨a, b, c, rfl⟩ := three_of hl
  simp only [cellsStr, cellsInt] at t0 t1 t2
  obtain ⟨s0, e0, f0, _⟩ := DataW.trod_string Tryd.underlying9 t0
  obtain ⟨s2, e1, f2, _⟩ := DataW.trod_string Tryd.underlying9 t1
  obtain ⟨K, e2, f1⟩ := DataW.trod_int Tryd.underlying3 t2
  simp at e0 e1 e2
  subst e0 e1 e2
  rw [hx, f0, f2] at hk
  refine ⟨(bl s0, bl s2, K), by unfold icC; rw [mk_bl, mk_bl], ?_, ?_⟩
  · refine hk _ ?_
    simp [DataW.weights, DataW.weightsEach, Tryd.underlying35, bl_eq]
  · refine hk _ ?_
    simp [DataW.weights, DataW.weightsEach, Tryd.underlying35, bl_eq]

set_option maxRecDepth 100000 in
theorem incs_w {ao : Option Addr} {n c : Nat} {d : DataW H} {pl : List MemPlace} (h : DataW.Trod enc Tryd.prog W 0 spare held 22 (.slice ao n c) d pl) (hk : ∀ x ∈ d.weights Tryd.prog 22, x ≤ reachBytes) :
    ∃ es : List (List UInt8 × List UInt8 × Int), Incs W (.slice ao n c) es ∧ (∀ x ∈ es, x.1.length ≤ 140737488355328 ∧ x.2.1.length ≤ 140737488355328) ∧ es.length ≤ 3518437208883 := by
  have hr : reachBytes < 2 ^ 47 := reachBytes_lt
  obtain ⟨fuel, hf⟩ := h
  rcases Go.Deep.open_slice Tryd.underlying22 hf with ⟨hcs, _⟩ | ⟨a, len, cap, m, n', D, Pl, hcs, _, hl, hm, hmm, hx, hel⟩
  · simp [Value.cells] at hcs
    obtain ⟨rfl, rfl, rfl⟩ := hcs
    exact ⟨[], Or.inl ⟨_, _, rfl, rfl, fun _ => rfl⟩, fun e h => (by cases h), by simp⟩
  · simp [Value.cells] at hcs
    obtain ⟨rfl, rfl, rfl⟩ := hcs
    have hlm : n ≤ m := by rw [hmm]; split <;> omega
    rw [cellsInc] at hel
    simp only [Prod.mk.injEq] at hx
    obtain ⟨rfl, _⟩ := hx
    have hn : n ≤ 3518437208883 := by
      have := hk (((List.range n).map D).length * Tryd.prog.bytesOf 35 + ((List.range (m - n)).map fun j => D (n + j)).length * Tryd.prog.bytesOf 35) (by simp [DataW.weights, Tryd.underlying22, Nat.add_mul])
      rw [bytesInc] at this
      simp at this
      omega
    have hw : ∀ i, i < n → ∀ x ∈ (D i).weights Tryd.prog 35, x ≤ reachBytes := fun i hi x hxm => hk x (by
      simp only [DataW.weights, Tryd.underlying22, List.mem_cons, List.mem_append]
      exact Or.inr (Or.inl (weightsAll_mem (List.mem_map.2 ⟨i, List.mem_range.2 hi, rfl⟩) x hxm)))
    obtain ⟨es, hes, hp⟩ := list_of (P := fun i (e : List UInt8 × List UInt8 × Int) => W.cell? (a.add (i * 3)) = some (.string (mk e.1)) ∧ W.cell? ((a.add (i * 3)).add 1) = some (.string (mk e.2.1)) ∧ W.cell? ((a.add (i * 3)).add 2) = some (.int .i64 e.2.2) ∧ e.1.length ≤ reachBytes ∧ e.2.1.length ≤ reachBytes) (n := n) (by
      intro i hi
      obtain ⟨cs', hc, ht⟩ := hel i (by omega)
      obtain ⟨e, rfl, hb⟩ := inc_w ht (hw i hi)
      have hh := World.cells?_some hc
      exact ⟨e, by simpa [Addr.add, icC] using hh.2.2 0 (by omega), by simpa [icC] using hh.2.2 1 (by omega), by simpa [icC] using hh.2.2 2 (by omega), hb⟩)
    refine ⟨es, ?_, ?_, by omega⟩
    · rcases Nat.eq_zero_or_pos n with rfl | hpos
      · exact Or.inl ⟨_, _, rfl, List.length_eq_zero_iff.1 hes, fun e => by cases e⟩
      · have hg : ∀ j, j < n → es[j]? = some (es.getD j noI) := fun j hj => by rw [List.getD_eq_getElem?_getD, List.getElem?_eq_getElem (show j < es.length by omega)]; rfl
        have h0 := (hp 0 _ (hg 0 hpos)).1
        have ha : a = ⟨a.block, a.off, none⟩ := addr_plain (v := .string (mk (es.getD 0 noI).1)) (by simpa [Addr.add] using h0)
        have hlt : a.block < W.heap.size := World.block_lt_of_cell? W a (u := .string (mk (es.getD 0 noI).1)) (by simpa [Addr.add] using h0)
        generalize a.block = g at ha hlt
        generalize a.off = o at ha
        subst ha
        refine Or.inr ⟨g, o, c, by rw [hes], hlt, by rw [hes]; exact hl, fun j hj => ?_⟩
        obtain ⟨c0, c1, c2, _⟩ := hp j _ (hg j (by omega))
        simp only [add_plain] at c0 c1 c2
        exact ⟨c0, c1, c2⟩
    · intro e he
      obtain ⟨j, hj, rfl⟩ := List.mem_iff_getElem.1 he
      have h1 := (hp j _ (List.getElem?_eq_getElem hj)).2.2.2
      omega
end

end Go.Proofs.YtlpengaclkidiaaDoor

/- Rows of the second form whose tables are laid; includes out of their reading, by their bulk. -/
namespace Go.Proofs.YtlpengaclkidiaaDoor
open Go.ChangeShapes Go.WideShapes Go.ChangeAt Go.RowKit

section
variable {H : Type} {enc : TypeId × Value → H}
theorem returns_cond_and {a : Assume} {C : Checked} {os : Os} {f : FuncId} {fn : Func} {s : OpenSpec} {k : (H : Type) → List (DataW H) → Bool} (hk : s.cond = some k) {F : Stop.Interp} {conds : List PathCond} {apart fresh handsOn again : Bool} {X : World → Array Value → Prop}
    (hX : ∀ (w w' : World) (args : Array Value), w.heap = w'.heap → X w args → X w' args)
    (own : ownKnob C.prog.godebug = none) (started : os.Started) (noInit : C.prog.inits.idxOf? f = none) (hfn : C.prog.funcs[f]? = some fn)
    (witness : ∃ (w : World) (tape : Tape) (i : Input), w.os = os ∧ (w.forCall tape i).Shaped C.prog ∧ i.vars = [] ∧ Input.okWide C.prog (w.forCall tape i) .any w.heap.size f i ∧
      ((s.pre enc C.prog fn conds apart (w.forCall tape i).memory i.args ∧ X (w.forCall tape i).memory i.args) ∧ sizedMet enc C.prog fn s apart (w.forCall tape i).memory i.args) ∧ a.holds C.prog (lone (Frame.enter C.prog f i.args .normal) [] (w.forCall tape i)))
    (contract : ∀ (W : World) (base : Nat) (args : Array Value) (ds gs : List (DataW H)) (before : List MemPlace),
      (∀ (j : Nat) t v, fn.params[j]? = some t → args[j]? = some v → Value.okWide C.prog W .any base t v) →
      DataW.Whole enc C.prog fn.params.toList s.vars apart W args.toList ds gs before →
      k H (ds ++ gs) = true → X W args →
      Calls C.prog f args W fun e W' => ∃ v, e = .returned v ∧ (s.at F).post enc C.prog fn apart fresh handsOn again W args v W') :
    ReturnsInHanded a C os f .any (fun w args => (s.pre enc C.prog fn conds apart w args ∧ X w args) ∧ sizedMet enc C.prog fn s apart w args) ((s.at F).post enc C.prog fn apart fresh handsOn again) := by
  refine returnsInHanded_of_calls own started noInit witness ?_
  intro w tape i _ _ _ hok hpre _
  obtain ⟨_, _, _, fn', hfn', _, _, _, _, hval⟩ := hok
  have e : fn' = fn := Option.some.inj (hfn'.symm.trans hfn)
  subst e
  obtain ⟨⟨hp, hx⟩, _⟩ := hpre
  obtain ⟨ds, gs, before, hw, _, hkk⟩ := (OpenSpec.pre_some hk conds apart _ _).1 hp
  have hw' := DataW.Whole.of_heap (w' := w.forCall tape i) (by rfl) hw
  refine (contract (w.forCall tape i) w.heap.size i.args ds gs before hval hw' hkk (hX _ _ _ (by rfl) hx)).mono fun e W' ⟨v, he, hp⟩ => ?_
  subst he
  exact ChangeSpec.post_blind hp

theorem witness_cond {C : Checked} {os : Os} {f : FuncId} {fn : Func} {s : OpenSpec} {k : (H : Type) → List (DataW H) → Bool} (hk : s.cond = some k) {conds : List PathCond} {apart : Bool} {X : World → Array Value → Prop} (modest : Bool) (w0 : World) (args : Array Value) (fuel : Nat) (hos : w0.os = os)
    (hsh : (w0.forCall (fun _ _ => 0) ⟨#[], args, []⟩).Shaped C.prog)
    (hok : Input.okWideB C.prog (w0.forCall (fun _ _ => 0) ⟨#[], args, []⟩) f ⟨#[], args, []⟩ = true)
    {x : List (DataW H) × List (DataW H) × List MemPlace} (hx : DataW.whole enc C.prog (w0.forCall (fun _ _ => 0) ⟨#[], args, []⟩).memory fn.params.toList s.vars apart args.toList fuel = some x)
    (hconds : conds.all (PathCond.test C.prog ⟨fn.params.toList, x.1, s.bare.plain.varTypes C.prog, x.2.1⟩) = true) (hkk : k H (x.1 ++ x.2.1) = true)
    (hsz : s.bare.sizedB enc C.prog fn apart (w0.forCall (fun _ _ => 0) ⟨#[], args, []⟩).memory args fuel = true)
    (hX : X (w0.forCall (fun _ _ => 0) ⟨#[], args, []⟩).memory args) :
    ∃ (w : World) (tape : Tape) (i : Input), w.os = os ∧ (w.forCall tape i).Shaped C.prog ∧ i.vars = [] ∧ Input.okWide C.prog (w.forCall tape i) .any w.heap.size f i ∧
      ((s.pre enc C.prog fn conds apart (w.forCall tape i).memory i.args ∧ X (w.forCall tape i).memory i.args) ∧ sizedMet enc C.prog fn s apart (w.forCall tape i).memory i.args) ∧ ({ modest := modest } : Assume).holds C.prog (lone (Frame.enter C.prog f i.args .normal) [] (w.forCall tape i)) :=
  ⟨w0, fun _ _ => 0, ⟨#[], args, []⟩, hos, hsh, (Input.okWide_of_okWideB (base := 0) hok).1, (Input.okWide_of_okWideB hok).2,
    ⟨⟨(OpenSpec.pre_some hk conds apart _ _).2 ⟨x.1, x.2.1, x.2.2, DataW.Whole_of_whole hx, hconds, hkk⟩, hX⟩, sizedMet_of_sizedB hsz⟩, by
    simp only [Assume.holds]
    exact ⟨by simp, by simp, fun _ => Modest.zero, by simp, by simp⟩⟩
end

section
variable {H : Type}
theorem bulk_pos (d : DataW H) : 1 ≤ Rows.uptoBulk d := by
  cases d with
  | lit l => cases l <;> simp [Rows.uptoBulk]
  | _ => simp [Rows.uptoBulk]
theorem bulk_mem {d : DataW H} : ∀ {l : List (DataW H)}, d ∈ l → Rows.uptoBulk d ≤ Rows.uptoBulkAll l
  | [], h => by cases h
  | x :: r, h => by
    simp only [Rows.uptoBulkAll]
    rcases List.mem_cons.1 h with rfl | h
    · omega
    · have := bulk_mem h; omega
theorem bulk_count : ∀ (l : List (DataW H)), l.length ≤ Rows.uptoBulkAll l
  | [] => by simp
  | x :: r => by
    have h1 := bulk_pos x
    have h2 := bulk_count r
    simp only [Rows.uptoBulkAll, List.length_cons]
    omega
theorem small {l : List (DataW H)} (hk : Rows.uptoSmall H l = true) : Rows.uptoBulkAll l ≤ 1048576 := of_decide_eq_true hk
end

section
variable {H : Type} {enc : TypeId × Value → H} {W : World} {spare : Nat → Bool} {held : Bool}
/-- one entry -/
theorem inc_b {fuel : Nat} {cs : List Value} {x : DataW H × List MemPlace} (h : DataW.trod enc Tryd.prog W 0 spare held fuel 35 cs = some x) :
    ∃ e : List UInt8 × List UInt8 × Int, cs = icC e ∧ e.1.length + e.2.1.length < Rows.uptoBulk x.1 := by
  obtain ⟨y0, y1, y2, n, hx, hl, t0, t1, t2⟩ := Go.Deep.trod_struct3 Tryd.underlying35 h
  rw [cellsInc] at hl
  obtain ⟨a, b, c, rfl⟩ := three_of hl
  simp only [cellsStr, cellsInt] at t0 t1 t2
  obtain ⟨s0, e0, f0, _⟩ := DataW.trod_string Tryd.underlying9 t0
  obtain ⟨s2, e1, f2, _⟩ := DataW.trod_string Tryd.underlying9 t1
  obtain ⟨K, e2, f1⟩ := DataW.trod_int Tryd.underlying3 t2
  simp at e0 e1 e2
  subst e0 e1 e2
  refine ⟨(bl s0, bl s2, K), by unfold icC; rw [mk_bl, mk_bl], ?_⟩
  rw [hx, f0, f2]
  have := bulk_pos y2.1
  simp only [Rows.uptoBulk, Rows.uptoBulkAll, bl_eq]
  omega

set_option maxRecDepth 100000 in
theorem incs_b {ao : Option Addr} {n c : Nat} {d : DataW H} {pl : List MemPlace} (h : DataW.Trod enc Tryd.prog W 0 spare held 22 (.slice ao n c) d pl) (hk : Rows.uptoBulk d ≤ 1048576) :
    ∃ es : List (List UInt8 × List UInt8 × Int), Incs W (.slice ao n c) es ∧ (∀ x ∈ es, x.1.length ≤ 1048576 ∧ x.2.1.length ≤ 1048576) ∧ es.length ≤ 1048576 := by
  obtain ⟨fuel, hf⟩ := h
  rcases Go.Deep.open_slice Tryd.underlying22 hf with ⟨hcs, _⟩ | ⟨a, len, cap, m, n', D, Pl, hcs, _, hl, hm, hmm, hx, hel⟩
  · simp [Value.cells] at hcs
    obtain ⟨rfl, rfl, rfl⟩ := hcs
    exact ⟨[], Or.inl ⟨_, _, rfl, rfl, fun _ => rfl⟩, fun e h => (by cases h), by simp⟩
  · simp [Value.cells] at hcs
    obtain ⟨rfl, rfl, rfl⟩ := hcs
    have hlm : n ≤ m := by rw [hmm]; split <;> omega
    rw [cellsInc] at hel
    simp only [Prod.mk.injEq] at hx
    have hbd : Rows.uptoBulkAll ((List.range n).map D) ≤ 1048576 := by rw [hx.1] at hk; simp only [Rows.uptoBulk] at hk; omega
    have hn : n ≤ 1048576 := by
      have := bulk_count ((List.range n).map D)
      simp at this
      omega
    obtain ⟨es, hes, hp⟩ := list_of (P := fun i (e : List UInt8 × List UInt8 × Int) => W.cell? (a.add (i * 3)) = some (.string (mk e.1)) ∧ W.cell? ((a.add (i * 3)).add 1) = some (.string (mk e.2.1)) ∧ W.cell? ((a.add (i * 3)).add 2) = some (.int .i64 e.2.2) ∧ e.1.length + e.2.1.length < Rows.uptoBulk (D i)) (n := n) (by
      intro i hi
      obtain ⟨cs', hc, ht⟩ := hel i (by omega)
      obtain ⟨e, rfl, hb⟩ := inc_b ht
      have hh := World.cells?_some hc
      exact ⟨e, by simpa [Addr.add, icC] using hh.2.2 0 (by omega), by simpa [icC] using hh.2.2 1 (by omega), by simpa [icC] using hh.2.2 2 (by omega), hb⟩)
    refine ⟨es, ?_, ?_, by omega⟩
    · rcases Nat.eq_zero_or_pos n with rfl | hpos
      · exact Or.inl ⟨_, _, rfl, List.length_eq_zero_iff.1 hes, fun e => by cases e⟩
      · have hg : ∀ j, j < n → es[j]? = some (es.getD j noI) := fun j hj => by rw [List.getD_eq_getElem?_getD, List.getElem?_eq_getElem (show j < es.length by omega)]; rfl
        have h0 := (hp 0 _ (hg 0 hpos)).1
        have ha : a = ⟨a.block, a.off, none⟩ := addr_plain (v := .string (mk (es.getD 0 noI).1)) (by simpa [Addr.add] using h0)
        have hlt : a.block < W.heap.size := World.block_lt_of_cell? W a (u := .string (mk (es.getD 0 noI).1)) (by simpa [Addr.add] using h0)
        generalize a.block = g at ha hlt
        generalize a.off = o at ha
        subst ha
        refine Or.inr ⟨g, o, c, by rw [hes], hlt, by rw [hes]; exact hl, fun j hj => ?_⟩
        obtain ⟨c0, c1, c2, _⟩ := hp j _ (hg j (by omega))
        simp only [add_plain] at c0 c1 c2
        exact ⟨c0, c1, c2⟩
    · intro e he
      obtain ⟨j, hj, rfl⟩ := List.mem_iff_getElem.1 he
      have h1 := (hp j _ (List.getElem?_eq_getElem hj)).2.2.2
      have h2 : Rows.uptoBulk (D j) ≤ 1048576 := Nat.le_trans (bulk_mem (List.mem_map.2 ⟨j, List.mem_range.2 (by omega), rfl⟩)) hbd
      omega
end

end Go.Proofs.YtlpengaclkidiaaDoor

/- From what the rows list of the program's tables of texts to what the walks ask of the world. -/
namespace Go.Proofs.YtlpengaclkidiaaDoor
open Go.RowKit

def strD {H : Type} (ts : List (List UInt8)) : DataW H := .agg (ts.map fun t => .lit (.string t))
theorem cells_of_strs {H : Type} {enc : TypeId × Value → H} {P : Program} {w : World} {base : Nat} {sp : Nat → Bool} {held : Bool} {fuel : Nat} {t e : TypeId} {n : Nat} {cs : List Value} {ts : List (List UInt8)} {p : List MemPlace}
    (ht : P.underlying t = some (.array n e)) (he : P.underlying e = some .string) (hce : P.cellsOf e = 1) (hct : P.cellsOf t = n)
    (h : DataW.trod enc P w base sp held fuel t cs = some (strD ts, p)) : cs = strV ts := by
  cases fuel with
  | zero => simp [DataW.trod] at h
  | succ fuel =>
    simp only [DataW.trod, ht, hce, hct, Nat.mul_one] at h
    split at h
    · rename_i hl
      obtain ⟨xs, hm, hx⟩ := Option.map_eq_some_iff.1 h
      have hxs : xs.map (·.1) = ts.map fun z => (DataW.lit (.string z) : DataW H) := by
        have := congrArg Prod.fst hx
        simpa [strD] using this
      have hxl : xs.length = n := by simpa using Lib.mapM_length hm
      have hzl : ts.length = n := by
        have := congrArg List.length hxs
        simp at this
        omega
      apply List.ext_getElem?
      intro i
      by_cases hi : i < n
      · obtain ⟨b, hb, hf⟩ := Lib.mapM_at hm i i (by simp [hi])
        obtain ⟨s, hc, rfl, _⟩ := DataW.trod_string he hf
        have h1 : cs[i]? = some (.string s) := by
          have := congrArg (·[0]?) hc
          simpa [List.getElem?_take, List.getElem?_drop] using this
        have h2 : (xs.map (·.1))[i]? = some (DataW.lit (.string s.data.toList) : DataW H) := by simp [hb]
        rw [hxs] at h2
        simp only [List.getElem?_map, Option.map_eq_some_iff, DataW.lit.injEq, Lit.string.injEq] at h2
        obtain ⟨z', hz', he'⟩ := h2
        rw [h1]
        simp only [strV, List.getElem?_map, hz', Option.map_some, Option.some.injEq, Value.string.injEq]
        rw [he', ← bl_eq, mk_bl]
      · rw [List.getElem?_eq_none (by omega), List.getElem?_eq_none (by rw [strV_length]; omega)]
    · cases h
theorem strs_of_reads {P : Program} {w : World} {name : String} {d : DataW Unit} (hr : Lib.VarReads P w name d) (ts : List (List UInt8)) (g0 : Nat) (t e : TypeId) (n : Nat) (hg : P.globalNamed name = some g0) (hty : (P.globals[g0]?).map (·.type) = some t)
    (ht : P.underlying t = some (.array n e)) (he : P.underlying e = some .string) (hce : P.cellsOf e = 1) (hct : P.cellsOf t = n) (hd : d = strD ts) : w.rangeAt g0 0 (strV ts) ∧ g0 < w.heap.size := by
  obtain ⟨g, t', cs, fuel, p, h1, h2, h3, h4⟩ := hr
  obtain rfl : g0 = g := by rw [hg] at h1; exact Option.some.inj h1
  obtain rfl : t = t' := by rw [hty] at h2; exact Option.some.inj h2
  subst hd
  have hcs := cells_of_strs ht he hce hct h4
  unfold World.var? at h3
  rw [hg] at h3
  simp only [Option.bind_some] at h3
  cases hb : w.heap[g0]? with
  | none => rw [hb] at h3; cases h3
  | some o =>
    rw [hb] at h3
    refine ⟨?_, hp_lt hb⟩
    intro j v hv
    rw [Nat.zero_add]
    cases o with
    | cells C ty fr =>
      simp only [Option.some.injEq] at h3
      subst h3
      rw [cell_of_row w g0 j _ _ _ hb]
      have : C.toList[j]? = some v := by rw [hcs]; exact hv
      simpa using this
    | _ => cases h3

end Go.Proofs.YtlpengaclkidiaaDoor
