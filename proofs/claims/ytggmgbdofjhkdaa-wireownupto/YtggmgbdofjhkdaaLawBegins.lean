/- The law WireBegins, walked: it answers true, and only makes memory. -/
import Derived.Test.YtggmgbdofjhkdaaWordA
import Derived.Test.YtggmgbdofjhkdaaLawBack
import Derived.Deep.RegionHeld3
namespace Go.Proofs.Ytggmgbdofjhkdaa
open Go.RowKit

/-- how a slice that came in is cut at its beginning, whatever it holds -/
theorem cut_begin' {w : World} {v : Value} {bs : List UInt8} (h : Src w v bs) (k : Nat) (hk : k ≤ bs.length) :
    ∃ vx, Src w vx (bs.take k) ∧ (∀ W, (Instr.slice 23 v none (some (.int .i64 (k : Int))) none).run Try.prog W = .ok vx W) := by
  obtain ⟨hl, ⟨rfl, rfl⟩ | ⟨ad, cap, rfl, h1, h2, hlt, hc⟩⟩ := h
  · simp at hk
    subst hk
    exact ⟨.slice none 0 0, ⟨by simp, Or.inl ⟨rfl, rfl⟩⟩, fun W => by go_simp⟩
  · have hlen : (bs.take k).length = k := by simp; omega
    refine ⟨.slice (some ad) k cap, ⟨by omega, Or.inr ⟨ad, cap, by rw [hlen], by omega, h2, fun h => hlt (by omega), fun j hj => ?_⟩⟩, fun W => ?_⟩
    · rw [hlen] at hj
      rw [hc j (by omega)]
      simp [List.getD_eq_getElem?_getD, hj]
    · have hk2 : (k : Int) ≤ (cap : Int) := by omega
      go_simp

/-- two readers beside one another, one over a beginning of the other's bytes; they stand alike -/
structure Two (W : World) (base1 b1 : Nat) (v1 : Value) (base2 b2 : Nat) (v2 : Value) (bs : List UInt8) (n a : Nat) (why wat : Int) : Prop where
  r : Rd W base1 b1 v1 (bs.take n) a why wat
  s : Rd W base2 b2 v2 bs a why wat
  lt : b1 < base2
  own : ∀ k, v1.ownBlock = some k → k < base2

section
variable {W W' : World} {base1 b1 : Nat} {v1 : Value} {base2 b2 : Nat} {v2 : Value} {bs : List UInt8} {n a a' : Nat} {why wat why' wat' : Int}
theorem Two.below (h : Two W base1 b1 v1 base2 b2 v2 bs n a why wat) (hb : Below W.heap.size W W') : Two W' base1 b1 v1 base2 b2 v2 bs n a why wat :=
  ⟨h.r.below hb, h.s.below hb, h.lt, h.own⟩
theorem Two.s_after (h : Two W base1 b1 v1 base2 b2 v2 bs n a why wat) (hg : W.grownBy W' (some b1)) : Rd W' base2 b2 v2 bs a why wat := by
  have := h.s.lo
  have := h.lt
  refine h.s.grown hg (by simp; omega) ?_
  cases e : v2.ownBlock with
  | none => exact Or.inl rfl
  | some k =>
    have := (h.s.own.lt k e).1
    exact Or.inr (by simp; omega)
theorem Two.r_after (h : Two W base1 b1 v1 base2 b2 v2 bs n a why wat) {X Y : World} (hr : Rd X base1 b1 v1 (bs.take n) a' why' wat') (hg : X.grownBy Y (some b2)) : Rd Y base1 b1 v1 (bs.take n) a' why' wat' := by
  have := h.s.lo
  have := h.lt
  refine hr.grown hg (by simp; omega) ?_
  cases e : v1.ownBlock with
  | none => exact Or.inl rfl
  | some k =>
    have := h.own k e
    exact Or.inr (by simp; omega)
end

theorem fault_why (why wat : Int) (W : World) : (Instr.field 56 (.agg #[.int .i64 why, .int .i64 wat]) 0).run Try.prog W = .ok (.int .i64 why) W := by kernel_rfl
theorem fault_at (why wat : Int) (W : World) : (Instr.field 56 (.agg #[.int .i64 why, .int .i64 wat]) 1).run Try.prog W = .ok (.int .i64 wat) W := by kernel_rfl

theorem clamp (n : Int) (L : Nat) : ∃ k : Nat, k ≤ L ∧ min (max n 0) (L : Int) = k := ⟨(min (max n 0) (L : Int)).toNat, by omega, by omega⟩

theorem wordF_len (bs : List UInt8) (a : Nat) (why wat K A B : Int) : (wordF bs a why wat K A B).1.length ≤ bs.length + 20 := by
  have h1 := sn_length_le (uintF bs a why wat).1
  have h2 := sn_length_le (zz (uz (uintF bs a why wat).1))
  have h3 := sn_length_le (zz (((countF bs a why wat A).1 : Nat) : Int))
  have h5 := textF_len bs a why wat A
  have h5' := sn_length_le (textF bs a why wat A).1.length
  have h6 := listF_len bs a why wat A B
  have h6' := sn_length_le (((listF bs a why wat A B).1).map mk).length
  have h7 := rawF_len bs a why wat A
  unfold wordF
  split
  · simp
  split
  · simp only; omega
  split
  · simp only; omega
  split
  · simp only; omega
  split
  · simp
  split
  · simp only [tx_mk, List.length_append]; omega
  split
  · simp only [ls, List.length_append]; omega
  simp only; omega

set_option maxRecDepth 100000 in
set_option maxHeartbeats 4000000 in
theorem lawBegins_some (g o c : Nat) (cs : List (Int × Int × Int)) (v0 : Value) (bs : List UInt8) (n : Int) (w : World) (hn : cs.length ≤ 1048576) (hlt : g < w.heap.size) (hs : Src w v0 bs) (hbl : bs.length ≤ 1048576)
    (hp : ∀ j d, cs[j]? = some d → w.cell? ⟨g, o + j * 3, none⟩ = some (.int .i64 d.1) ∧ w.cell? ⟨g, o + j * 3 + 1, none⟩ = some (.int .i64 d.2.1) ∧ w.cell? ⟨g, o + j * 3 + 2, none⟩ = some (.int .i64 d.2.2) ∧ d.2.1 ≤ 9223372036854775807 ∧ d.2.2 ≤ 9223372036854775807) :
    Calls Try.prog 7 #[v0, .int .i64 n, .slice (some ⟨g, o, none⟩) cs.length c] w fun e w' => e = .returned (.bool true) ∧ Below w.heap.size w w' := by
  have HP := hid hp
  have HS := hid hs
  obtain ⟨av, cv, hv1⟩ : ∃ a0 c0, v0 = .slice a0 bs.length c0 := by
    obtain ⟨_, ⟨h1, h2⟩ | ⟨ad, cp, h1, _⟩⟩ := hs
    · exact ⟨none, 0, by rw [h1, h2]; rfl⟩
    · exact ⟨_, _, h1⟩
  subst hv1
  clear hp hs
  obtain ⟨k, hkl, hk⟩ := clamp n bs.length
  obtain ⟨vx, hvx, hcut⟩ := cut_begin' HS.out k hkl
  have HVX := hid hvx
  clear hvx
  have hki : (k : Int) ≤ (bs.length : Int) := by omega
  have hki0 : (0 : Int) ≤ (k : Int) := by omega
  go_enter Try.func7, Try.ntmps7
  go_wp2_with (at_builtin; refine app_src rfl _ _ rfl w.heap.size _ _ rfl (OwnB.nil _ _) _ _ rfl HVX.out ?c1 (Nat.le_refl _) ?_)
  case c1 => simp; omega
  intro v1 w1 ho1 hg1
  have HO1 := hid (by simpa using ho1 : OwnB w1 w.heap.size v1 (bs.take k))
  have HB1 := hid (gb_below hg1)
  clear ho1 hg1 hcut
  go_wp2_with fail
  refine (newReader_any _ _ _ (HO1.out.src (by simp; omega))).mono ?_
  rintro e w2 ⟨b1, u1, rfl, hR2, hb2⟩
  have HR2 := hid hR2
  have HB2 := hid (HB1.out.trans (hb2.mono HB1.out.size))
  have hbw1 : w.heap.size ≤ b1 := Nat.le_trans HB1.out.size hR2.lo
  clear hR2 hb2 HO1
  go_wp2_with (at_builtin; refine app_src rfl _ _ rfl w2.heap.size _ _ rfl (OwnB.nil _ _) _ _ rfl (HS.out.below HB2.out) ?c2 (Nat.le_refl _) ?_)
  case c2 => simp; omega
  intro v3 w3 ho3 hg3
  have HO3 := hid (by simpa using ho3 : OwnB w3 w2.heap.size v3 bs)
  have HB3 := hid (HB2.out.trans ((gb_below hg3).mono HB2.out.size))
  have HR3 := hid (HR2.out.below (gb_below hg3))
  have hz3 : w2.heap.size ≤ w3.heap.size := hg3.size
  have HLT := hid (Nat.lt_of_lt_of_le HR2.out.lt hz3)
  have HOW := hid (fun j e => Nat.lt_of_lt_of_le (HR2.out.own.lt j e).2 hz3 : ∀ j, u1.ownBlock = some j → j < w3.heap.size)
  clear ho3 hg3 HR2 HB2 HB1
  go_wp2_with fail
  refine (newReader_any _ _ _ (HO3.out.src (by omega))).mono ?_
  rintro e w4 ⟨b2, u2, rfl, hR4, hb4⟩
  have HR4 := hid hR4
  have HT4 := hid (⟨HR3.out.below hb4, hR4, HLT.out, HOW.out⟩ : Two w4 w1.heap.size b1 u1 w3.heap.size b2 u2 bs k 0 0 0)
  have HB4 := hid (HB3.out.trans (hb4.mono HB3.out.size))
  have hbw2 : w.heap.size ≤ b2 := Nat.le_trans HB3.out.size hR4.lo
  clear hR4 hb4 HO3 HR4 HR3 HB3 HLT HOW
  go_wp2_with fail
  refine (alive_true _).mono ?_
  rintro e w5 ⟨rfl, hb5⟩
  have HT5 := hid (HT4.out.below hb5)
  have HB5 := hid (HB4.out.trans (hb5.mono HB4.out.size))
  clear hb5 HT4 HB4
  go_wp2_with fail
  generalize w1.heap.size = base1 at *
  generalize w3.heap.size = base2 at *
  go_loopw [38] (fun i wq => ∃ (j a : Nat) (why wat : Int), j ≤ cs.length ∧ i = .int .i64 j ∧ Two wq base1 b1 u1 base2 b2 u2 bs k a why wat ∧ Below w.heap.size w wq) (fun i _ => cs.length - (intOf i).toNat)
  case atStart => exact ⟨0, 0, 0, 0, Nat.zero_le _, rfl, HT5.out, HB5.out⟩
  case round =>
    obtain ⟨j, a, why, wat, hj, rfl, hT, hB⟩ := hrel
    have HT := hid hT
    have HB := hid hB
    have hsz := hB.size
    have hb1 := hT.r.lt
    have hb2 := hT.s.lt
    clear hT hB HT5 HB5
    by_cases hjn : j < cs.length
    · obtain ⟨d, hd⟩ : ∃ d, cs[j]? = some d := ⟨_, List.getElem?_eq_getElem hjn⟩
      obtain ⟨pK, pA, pB, hA, hB⟩ := HP.out j d hd
      have cK := (HB.out.cell (p := ⟨g, o + j * 3, none⟩) hlt).trans pK
      have cA := (HB.out.cell (p := ⟨g, o + j * 3 + 1, none⟩) hlt).trans pA
      have cB := (HB.out.cell (p := ⟨g, o + j * 3 + 2, none⟩) hlt).trans pB
      clear pK pA pB hd
      obtain ⟨K, A, B⟩ := d
      simp only at cK cA cB hA hB
      have HX := hid (below_walk wr (.cells #[.int .i64 K, .int .i64 A, .int .i64 B] 43))
      have HTX := hid (HT.out.below HX.out)
      have HBX := hid (HB.out.trans (HX.out.mono hsz))
      clear HX HT
      by_cases h8 : 8 ≤ (wrap64 (K.tmod 10 + 10)).tmod 10
      · go_wp2_with fail
        go_roundw
        case rel => exact ⟨j + 1, a, why, wat, by omega, by go_num, HTX.out, HBX.out⟩
        case measure => simp [intOf]; omega
      · have HC1 := hid (word_made K A B _ hA hB (by simp; omega) HTX.out.r.drew)
        have HC2 := hid (fun W' hg => word_made K A B W' hA hB (by omega) (HTX.out.s_after (gb_trans (gb_drew _ _) hg)) : ∀ W', (wr.alloc (.cells #[.int .i64 K, .int .i64 A, .int .i64 B] 43)).drew.grownBy W' (some b1) → _)
        go_wp2_with fail
        clear cK cA cB
        have hne1 : wr.heap.size ≠ b1 := by omega
        have hne2 : wr.heap.size ≠ b2 := by omega
        go_region_held3 (fun w' => w'.cell? ⟨wr.heap.size, 0, none⟩ = some (.int .i64 K) ∧ w'.cell? ⟨wr.heap.size, 1, none⟩ = some (.int .i64 A) ∧ w'.cell? ⟨wr.heap.size, 2, none⟩ = some (.int .i64 B)) (first | go_keep | exact n6 | exact n7) (first
          | (go_at_call 34; with_reducible refine Calls.mono HC1.out ?_; rintro e w6 ⟨x6, rfl, hO6, hR6, hg6⟩; have n6 : w6.cell? ⟨wr.heap.size, 0, none⟩ = some (.int .i64 K) ∧ w6.cell? ⟨wr.heap.size, 1, none⟩ = some (.int .i64 A) ∧ w6.cell? ⟨wr.heap.size, 2, none⟩ = some (.int .i64 B) := ⟨cell_far (p := ⟨wr.heap.size, 0, none⟩) hg6 (by simp) hne1 (by simp), cell_far (p := ⟨wr.heap.size, 1, none⟩) hg6 (by simp) hne1 (by simp), cell_far (p := ⟨wr.heap.size, 2, none⟩) hg6 (by simp) hne1 (by simp)⟩; have HO6 := hid hO6; have HR6 := hid hR6; have HG6 := hid hg6; clear hO6 hR6 hg6)
          | (go_at_call 34; with_reducible refine Calls.mono (HC2.out _ HG6.out) ?_; rintro e w7 ⟨x7, rfl, hO7, hR7, hg7⟩; have n7 : w7.cell? ⟨wr.heap.size, 0, none⟩ = some (.int .i64 K) ∧ w7.cell? ⟨wr.heap.size, 1, none⟩ = some (.int .i64 A) ∧ w7.cell? ⟨wr.heap.size, 2, none⟩ = some (.int .i64 B) := ⟨cell_far (p := ⟨wr.heap.size, 0, none⟩) hg7 (by have := HG6.out.size; simp at this ⊢; omega) hne2 n6.1, cell_far (p := ⟨wr.heap.size, 1, none⟩) hg7 (by have := HG6.out.size; simp at this ⊢; omega) hne2 n6.2.1, cell_far (p := ⟨wr.heap.size, 2, none⟩) hg7 (by have := HG6.out.size; simp at this ⊢; omega) hne2 n6.2.2⟩; have HO7 := hid hO7; have HR7 := hid hR7; have HG7 := hid hg7; clear hO7 hR7 hg7))
        have hwl : b2 < (wr.alloc (.cells #[.int .i64 K, .int .i64 A, .int .i64 B] 43)).drew.heap.size := HTX.out.s.drew.lt
        have HX6 := hid (HO6.out.far HG7.out (fun q e => by cases e; exact hwl))
        have HRR := hid (HTX.out.r_after HR6.out HG7.out)
        have HBB := hid (Below.of_gb (Below.of_gb HBX.out.drew HG6.out hbw1) HG7.out hbw2)
        have HFB := hid (wordF_begin bs k a why wat K A B)
        have HTL := hid HTX.out
        clear HO6 HR6 HG6 HG7 n6 n7 HC1 HC2 hwl HTX HBX hne1 hne2
        by_cases h4 : (wordF (bs.take k) a why wat K A B).2.2.1 = 4
        · generalize wordF (bs.take k) a why wat K A B = F at *
          obtain ⟨xs, a', why', wat'⟩ := F
          simp only at h4 HRR HX6
          subst h4
          go_wp2_with fail
          refine (rfault_any _ _ _ _ _ _ _ _ HRR.out).mono ?_
          rintro e w8 ⟨rfl, hb8⟩
          have HB8 := hid (HBB.out.trans (hb8.mono HBB.out.size))
          clear hb8 HBB HRR HX6 HR7 HO7
          have hfd := fault_why 4 wat'
          go_wp2_with fail
          go_ret
          exact ⟨rfl, HB8.out⟩
        · have hE := HFB.out h4
          rw [hE] at HRR HX6 h4
          have HLX := hid (wordF_len bs a why wat K A B)
          clear hE HFB
          generalize wordF bs a why wat K A B = F at *
          obtain ⟨xs, a', why', wat'⟩ := F
          simp only at h4 HRR HX6 HR7 HO7 HLX
          have h4' : (why' == 4) = false := by simpa using h4
          clear h4
          have HT7 := hid (⟨HRR.out, HR7.out, HTL.out.lt, HTL.out.own⟩ : Two w7 base1 b1 u1 base2 b2 u2 bs k a' why' wat')
          have HS6 := hid (HX6.out.src (by have := HLX.out; omega))
          have HS7 := hid (HO7.out.src (by have := HLX.out; omega))
          clear HRR HR7 HTL HX6 HO7 HLX
          go_wp2_with fail
          refine (rfault_any _ _ _ _ _ _ _ _ HT7.out.r).mono ?_
          rintro e w8 ⟨rfl, hb8⟩
          have HB8 := hid (HBB.out.trans (hb8.mono HBB.out.size))
          have HT8 := hid (HT7.out.below hb8)
          have HS68 := hid (HS6.out.below hb8)
          have HS78 := hid (HS7.out.below hb8)
          clear hb8 HBB HT7 HS6 HS7
          have hfd := fault_why why' wat'
          go_wp2_with fail
          refine (equal_true _ _ xs _ HS68.out HS78.out).mono ?_
          rintro e w9 ⟨rfl, rfl⟩
          clear HS68 HS78
          go_wp2_with fail
          refine (rfault_any _ _ _ _ _ _ _ _ HT8.out.r).mono ?_
          rintro e w10 ⟨rfl, hb10⟩
          have HB10 := hid (HB8.out.trans (hb10.mono HB8.out.size))
          have HT10 := hid (HT8.out.below hb10)
          clear hb10 HT8 HB8
          go_wp2_with fail
          refine (rfault_any _ _ _ _ _ _ _ _ HT10.out.s).mono ?_
          rintro e w11 ⟨rfl, hb11⟩
          have HB11 := hid (HB10.out.trans (hb11.mono HB10.out.size))
          have HT11 := hid (HT10.out.below hb11)
          clear hb11 HT10 HB10
          go_wp2_with fail
          refine (rat_any _ _ _ _ _ _ _ _ HT11.out.r).mono ?_
          rintro e w12 ⟨rfl, rfl⟩
          go_wp2_with fail
          refine (rat_any _ _ _ _ _ _ _ _ HT11.out.s).mono ?_
          rintro e w13 ⟨rfl, rfl⟩
          go_wp2_with fail
          go_roundw
          case rel => exact ⟨j + 1, a', why', wat', by omega, by go_num, HT11.out, HB11.out⟩
          case measure => simp [intOf]; omega
    · go_wp2_with fail
      go_ret
      exact ⟨rfl, HB.out⟩

theorem lawBegins_none (ao : Option Addr) (c : Nat) (v0 : Value) (bs : List UInt8) (n : Int) (w : World) (hs : Src w v0 bs) (hbl : bs.length ≤ 1048576) :
    Calls Try.prog 7 #[v0, .int .i64 n, .slice ao 0 c] w fun e w' => e = .returned (.bool true) ∧ Below w.heap.size w w' := by
  have HS := hid hs
  obtain ⟨av, cv, hv1⟩ : ∃ a0 c0, v0 = .slice a0 bs.length c0 := by
    obtain ⟨_, ⟨h1, h2⟩ | ⟨ad, cp, h1, _⟩⟩ := hs
    · exact ⟨none, 0, by rw [h1, h2]; rfl⟩
    · exact ⟨_, _, h1⟩
  subst hv1
  clear hs
  obtain ⟨k, hkl, hk⟩ := clamp n bs.length
  obtain ⟨vx, hvx, hcut⟩ := cut_begin' HS.out k hkl
  have HVX := hid hvx
  clear hvx
  have hki : (k : Int) ≤ (bs.length : Int) := by omega
  have hki0 : (0 : Int) ≤ (k : Int) := by omega
  go_enter Try.func7, Try.ntmps7
  go_wp2_with (at_builtin; refine app_src rfl _ _ rfl w.heap.size _ _ rfl (OwnB.nil _ _) _ _ rfl HVX.out ?c1 (Nat.le_refl _) ?_)
  case c1 => simp; omega
  intro v1 w1 ho1 hg1
  have HO1 := hid (by simpa using ho1 : OwnB w1 w.heap.size v1 (bs.take k))
  have HB1 := hid (gb_below hg1)
  clear ho1 hg1 hcut
  go_wp2_with fail
  refine (newReader_any _ _ _ (HO1.out.src (by simp; omega))).mono ?_
  rintro e w2 ⟨b1, u1, rfl, hR2, hb2⟩
  have HB2 := hid (HB1.out.trans (hb2.mono HB1.out.size))
  clear hR2 hb2 HO1
  go_wp2_with (at_builtin; refine app_src rfl _ _ rfl w2.heap.size _ _ rfl (OwnB.nil _ _) _ _ rfl (HS.out.below HB2.out) ?c2 (Nat.le_refl _) ?_)
  case c2 => simp; omega
  intro v3 w3 ho3 hg3
  have HO3 := hid (by simpa using ho3 : OwnB w3 w2.heap.size v3 bs)
  have HB3 := hid (HB2.out.trans ((gb_below hg3).mono HB2.out.size))
  clear ho3 hg3 HB2 HB1
  go_wp2_with fail
  refine (newReader_any _ _ _ (HO3.out.src (by omega))).mono ?_
  rintro e w4 ⟨b2, u2, rfl, hR4, hb4⟩
  have HB4 := hid (HB3.out.trans (hb4.mono HB3.out.size))
  clear hR4 hb4 HO3 HB3
  go_wp2_with fail
  refine (alive_true _).mono ?_
  rintro e w5 ⟨rfl, hb5⟩
  have HB5 := hid (HB4.out.trans (hb5.mono HB4.out.size))
  clear hb5 HB4
  go_wp2_with fail
  go_loop [38] (fun i => i = .int .i64 0) (fun _ => 0)
  case atStart => rfl
  case round =>
    subst hrel
    go_wp2_with fail
    go_ret
    exact ⟨rfl, HB5.out⟩

/-- calls that came in, as a list -/
def CallsL (w : World) (v : Value) (cs : List (Int × Int × Int)) : Prop :=
  (∃ ao c, v = .slice ao 0 c ∧ cs = []) ∨
  ∃ g o c, v = .slice (some ⟨g, o, none⟩) cs.length c ∧ g < w.heap.size ∧ ∀ j d, cs[j]? = some d → w.cell? ⟨g, o + j * 3, none⟩ = some (.int .i64 d.1) ∧ w.cell? ⟨g, o + j * 3 + 1, none⟩ = some (.int .i64 d.2.1) ∧ w.cell? ⟨g, o + j * 3 + 2, none⟩ = some (.int .i64 d.2.2) ∧ (-9223372036854775808 ≤ d.2.1 ∧ d.2.1 ≤ 9223372036854775807) ∧ -9223372036854775808 ≤ d.2.2 ∧ d.2.2 ≤ 9223372036854775807

theorem lawBegins_any (v0 : Value) (bs : List UInt8) (n : Int) (v2 : Value) (cs : List (Int × Int × Int)) (w : World) (hs : Src w v0 bs) (hbl : bs.length ≤ 1048576) (_ : -9223372036854775808 ≤ n) (_ : n ≤ 9223372036854775807) (h : CallsL w v2 cs) (hn : cs.length ≤ 1048576) :
    Calls Try.prog 7 #[v0, .int .i64 n, v2] w fun e w' => e = .returned (.bool true) ∧ Below w.heap.size w w' := by
  rcases h with ⟨ao, c, rfl, rfl⟩ | ⟨g, o, c, rfl, hlt, hp⟩
  · exact lawBegins_none ao c v0 bs n w hs hbl
  · exact lawBegins_some g o c cs v0 bs n w hn hlt hs hbl fun j d hd => ⟨(hp j d hd).1, (hp j d hd).2.1, (hp j d hd).2.2.1, (hp j d hd).2.2.2.1.2, (hp j d hd).2.2.2.2.2⟩

end Go.Proofs.Ytggmgbdofjhkdaa
