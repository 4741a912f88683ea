/- ShaExtends answers true. -/
import Derived.Test.YticmdmnjajjpbabDoorSAwake
import Derived.Test.YticmdmnjajjpbabDoorSClone
import Derived.Test.YticmdmnjajjpbabDoorSEq
import Derived.Test.YticmdmnjajjpbabDoorSExt
import Derived.Test.YticmdmnjajjpbabDoorSLoad
import Derived.Test.YticmdmnjajjpbabDoorSLawClones
namespace Go.Proofs.YticmdmnjajjpbabDoor
open Go.RowKit

theorem lists_three {X : Nat → Prop} {w : World} {v u t : Value} {bs cs ds : List UInt8} (h : Src w v bs) (g : Src w u cs) (f : Src w t ds) (hX : ∀ k, 0 < bs.length → v.ownBlock = some k → X k) (gX : ∀ k, 0 < cs.length → u.ownBlock = some k → X k) (fX : ∀ k, 0 < ds.length → t.ownBlock = some k → X k) (hn : X w.heap.size) :
    Lists X (w.alloc (.cells #[v, u, t] 24)) (.slice (some ⟨w.heap.size, 0, none⟩) 3 3) [bs, cs, ds] := by
  have hb := hp_new w (.cells #[v, u, t] 24)
  refine Or.inr ⟨w.heap.size, 0, 3, rfl, hp_lt hb, hn, fun j hj => ?_⟩
  match j, hj with
  | 0, _ => exact ⟨v, by rw [cell_of_row _ _ _ _ _ _ hb]; rfl, h.below (below_walk _ _), hX⟩
  | 1, _ => exact ⟨u, by rw [cell_of_row _ _ _ _ _ _ hb]; rfl, g.below (below_walk _ _), gX⟩
  | 2, _ => exact ⟨t, by rw [cell_of_row _ _ _ _ _ _ hb]; rfl, f.below (below_walk _ _), fX⟩

theorem add32_in (x y : Int) : 0 ≤ add32 x y ∧ add32 x y < 4294967296 := by unfold add32; omega
theorem comp_in (H B : List Int) (h : H.length = 8) : In32 (comp H B) := by
  match H, h with
  | [a, b, c, d, e, f, g, i], _ =>
    intro x hx
    simp only [comp, List.mem_cons, List.not_mem_nil, or_false] at hx
    rcases hx with rfl | rfl | rfl | rfl | rfl | rfl | rfl | rfl <;> exact add32_in _ _
theorem absorb_in (s : List Int × List UInt8) (bs : List UInt8) (hl : s.1.length = 8) (h : In32 s.1) : In32 (absorb s bs).1 := by
  induction bs generalizing s with
  | nil => exact h
  | cons c r ih =>
    show In32 (absorb (step1 s c) r).1
    refine ih _ ?_ ?_
    · unfold step1
      split
      · exact comp_length _ _ hl
      · exact hl
    · unfold step1
      split
      · exact comp_in _ _ hl
      · exact h
theorem Hs_in : In32 Hs := by
  intro x hx
  simp only [Hs, List.mem_cons, List.not_mem_nil, or_false] at hx
  rcases hx with rfl | rfl | rfl | rfl | rfl | rfl | rfl | rfl <;> omega
theorem pad_full (n : Nat) : (n + (padB n).length) % 64 = 0 := by
  rw [padB_length]
  unfold noughts
  omega
/-- the words behind bytes and their padding -/
def padW (m : List UInt8) : List Int := (absorb (Hs, []) (m ++ padB m.length)).1
theorem padW_length (m : List UInt8) : (padW m).length = 8 := absorb_H _ _ Hs_length
theorem padW_in (m : List UInt8) : In32 (padW m) := absorb_in _ _ Hs_length Hs_in
theorem padW_all (m : List UInt8) : absorb (Hs, []) (m ++ padB m.length) = (padW m, []) := by
  have h := absorb_len (Hs, []) (m ++ padB m.length) (by simp)
  rw [List.length_append] at h
  have h2 := pad_full m.length
  have h3 : (absorb (Hs, []) (m ++ padB m.length)).2 = [] := List.eq_nil_of_length_eq_zero (by rw [h]; simpa using h2)
  exact Prod.ext rfl h3
theorem of_words (m : List UInt8) : ofP m = dig (padW m) := by
  unfold ofP sumP padW
  rw [absorb_append]
theorem words_of (m : List UInt8) : wrdS (ofP m) 32 = padW m := by
  rw [of_words]
  exact words_back _ (padW_length m) (padW_in m)
theorem ext_sum (m x : List UInt8) : sumP (absorb (padW m, []) x).1 (absorb (padW m, []) x).2 (m.length + (padB m.length).length + x.length) = ofP (m ++ padB m.length ++ x) := by
  unfold ofP
  rw [absorb_append (Hs, []) (m ++ padB m.length) x, padW_all, List.length_append, List.length_append]
theorem st_built (a b c d e f g i N : Int) : Tryd.prog.built 27 [(0, .agg (u32V [a, b, c, d, e, f, g, i]).toArray), (2, .int .u64 N)] = some (scells [a, b, c, d, e, f, g, i] (.slice none 0 0) N).toArray := by kernel_rfl
theorem st_built' (H : List Int) (N : Int) (h : H.length = 8) : Tryd.prog.built 27 [(0, .agg (u32V H).toArray), (2, .int .u64 N)] = some (scells H (.slice none 0 0) N).toArray := by
  obtain ⟨a, b, c, d, e, f, g, i, rfl⟩ := eight_of h
  exact st_built a b c d e f g i N
theorem of_one (w : World) (v : Value) (m : List UInt8) (hT : Tabs w) (h : Src w v m) :
    Calls Tryd.prog 21 #[.slice (some ⟨w.heap.size, 0, none⟩) 1 1] (w.alloc (.cells #[v] 24)) fun e w' => e = .returned (.agg (u8V (ofP m)).toArray) ∧ Below w.heap.size w w' := by
  have hl := h.1
  have := of_any (w.alloc (.cells #[v] 24)) _ [m] (hT.below (below_walk _ _)) (lists_one h (fun k hp hk => by have := src_low h k hp hk; rw [hp_size]; omega) (by rw [hp_size]; omega)) (by simp) (by rw [fl_one]; omega)
  rw [fl_one] at this
  exact this.mono fun e w' ⟨he, hb⟩ => ⟨he, (below_walk w _).trans (hb.mono (by rw [hp_size]; omega))⟩
theorem fl_three (m a x : List UInt8) : fl [m, a, x] = m ++ a ++ x := by simp [fl]
theorem of_three (w : World) (v u t : Value) (m a x : List UInt8) (hT : Tabs w) (h : Src w v m) (g : Src w u a) (f : Src w t x) :
    Calls Tryd.prog 21 #[.slice (some ⟨w.heap.size, 0, none⟩) 3 3] (w.alloc (.cells #[v, u, t] 24)) fun e w' => e = .returned (.agg (u8V (ofP (m ++ a ++ x))).toArray) ∧ Below w.heap.size w w' := by
  have hl := h.1
  have gl := g.1
  have xl := f.1
  have := of_any (w.alloc (.cells #[v, u, t] 24)) _ [m, a, x] (hT.below (below_walk _ _)) (lists_three h g f (fun k hp hk => by have := src_low h k hp hk; rw [hp_size]; omega) (fun k hp hk => by have := src_low g k hp hk; rw [hp_size]; omega) (fun k hp hk => by have := src_low f k hp hk; rw [hp_size]; omega) (by rw [hp_size]; omega)) (by simp) (by rw [fl_three, List.length_append, List.length_append]; omega)
  rw [fl_three] at this
  exact this.mono fun e w' ⟨he, hb⟩ => ⟨he, (below_walk w _).trans (hb.mono (by rw [hp_size]; omega))⟩

set_option maxRecDepth 100000 in
set_option maxHeartbeats 2000000 in
theorem extends_any (w : World) (vm vx : Value) (m x : List UInt8) (hT : Tabs w) (hm : Src w vm m) (hx : Src w vx x) :
    Calls Tryd.prog 5 #[vm, vx] w fun e w' => e = .returned (.bool true) ∧ Below w.heap.size w w' := by
  obtain ⟨D, hD⟩ : ∃ D, D = u8V (ofP (m ++ padB m.length ++ x)) := ⟨_, rfl⟩
  have q := fun (W : World) => eql_row (P := Tryd.prog) W 53 5 32 .u8 Tryd.underlying53 Tryd.underlying5 (by kernel_rfl) (ofP (m ++ padB m.length ++ x)) (ofP_length _)
  rw [show List.map (Value.int .u8) (ofP (m ++ padB m.length ++ x)) = D from hD.symm] at q
  have HD := hid hD
  obtain ⟨am, cm, rfl⟩ := src_shape hm
  obtain ⟨ax, cx, rfl⟩ := src_shape hx
  have HM := hid hm
  have HX := hid hx
  have LX := hid (src_low hx)
  have lm := hm.1
  have lx := hx.1
  have HT := hid hT
  clear hm hx hT hD
  obtain ⟨P, HP⟩ : ∃ P, Hid (P = (padB m.length).length) := ⟨_, rfl⟩
  have hP := padB_le m.length
  rw [← HP.out] at hP
  have hmod := hid (pad_full m.length)
  rw [← HP.out] at hmod
  go_enter Tryd.func5, Tryd.ntmps5
  go_wp2_with fail
  refine (pad_ok w m.length (by omega)).mono ?_
  rintro e w1 ⟨vp, rfl, ho1, hb1⟩
  obtain ⟨ap, cp, rfl⟩ := ho1.shape
  rw [← HP.out]
  rw [← HP.out] at ho1
  have HO1 := hid ho1
  have HB1 := hid hb1
  clear ho1 hb1
  go_wp2_with fail
  refine (of_one w1 _ m (HT.out.below HB1.out) (HM.out.below HB1.out)).mono ?_
  rintro e w2 ⟨rfl, hb2⟩
  have HO2 := hid (HO1.out.below hb2)
  have HB2 := hid (HB1.out.trans (hb2.mono HB1.out.size))
  clear hb2 HB1 HO1
  go_wp2_with fail
  refine (words_any w2 _ (ofP_length m)).mono ?_
  rintro e w3 ⟨rfl, hb3⟩
  rw [words_of]
  have HO3 := hid (HO2.out.below hb3)
  have HO3L := hid (fun (k : Nat) (e : (Value.slice ap P cp).ownBlock = some k) => (HO3.out.lt k e).2)
  have HB3 := hid (HB2.out.trans (hb3.mono HB2.out.size))
  clear hb3 HB2 HO2
  obtain ⟨Wd, HW⟩ : ∃ Wd, Hid (Wd = padW m) := ⟨_, rfl⟩
  rw [← HW.out]
  have HWL := hid (show Wd.length = 8 by rw [HW.out]; exact padW_length m)
  obtain ⟨h0, h1, h2, h3, h4, h5, h6, h7, hWe⟩ := eight_of HWL.out
  have HWE := hid hWe
  rw [hWe]
  clear hWe
  rw [show u32V [h0, h1, h2, h3, h4, h5, h6, h7] = [.int .u32 h0, .int .u32 h1, .int .u32 h2, .int .u32 h3, .int .u32 h4, .int .u32 h5, .int .u32 h6, .int .u32 h7] from rfl]
  obtain ⟨NN, HNN⟩ : ∃ NN, Hid (NN = m.length + P) := ⟨_, rfl⟩
  have hadd : IntKind.i64.wrap ((m.length : Int) + (P : Int)) = (NN : Int) := by rw [IntKind.wrap_i64, HNN.out]; omega
  have hNN : NN ≤ 140737488355399 := by rw [HNN.out]; omega
  go_wp2_with fail
  have HLD := hid (load_nil w3 [h0, h1, h2, h3, h4, h5, h6, h7] NN rfl (by omega) (by rw [HNN.out]; exact hmod.out) (HT.out.below HB3.out))
  refine HLD.out.mono ?_
  rintro e w4 ⟨rfl, hs4, hb4⟩
  rw [← HWE.out] at hs4
  have HS4 := hid hs4
  have HO4 := hid (HO3.out.below hb4)
  have HB4 := hid (HB3.out.trans (hb4.mono HB3.out.size))
  have HBZ := hid HB3.out.size
  clear hb4 hs4 HO3 HLD
  go_wp2_with fail
  have HT4 := hid ((HT.out.below HB4.out).below (below_walk w4 (.cells #[.slice ax x.length cx] 24)))
  have HL4 := hid (lists_one (X := (· ≠ w3.heap.size + 1)) (HX.out.below HB4.out) (fun k hp hk => by have := LX.out k hp hk; have := HBZ.out; omega) (by have := HS4.out.lt; omega))
  have HS4' := hid (HS4.out.below (below_walk w4 (.cells #[.slice ax x.length cx] 24)))
  refine (write_ok _ (w3.heap.size + 1) Wd [] NN _ [x] HT4.out HS4'.out.hg HL4.out (by simp) (by rw [fl_one]; omega)).mono ?_
  rintro e w5 ⟨rfl, hs5, ht5, hg5⟩
  rw [fl_one] at hs5
  have HS5 := hid hs5
  have HT5 := hid ht5
  have HO5 := hid ((HO4.out.below (below_walk w4 (.cells #[.slice ax x.length cx] 24))).kept hg5 (by
    refine Or.inr (fun e => ?_)
    have h1 := HO3L.out _ e
    omega))
  have HB5 := hid ((HB4.out.alloc HB4.out.size (.cells #[.slice ax x.length cx] 24)).grown hg5 (by rw [hp_size]; have := HB4.out.size; omega) (by intro k hk; cases hk; have := HBZ.out; omega))
  clear hs5 ht5 hg5 HT4 HL4 HS4' HS4 HO4 HB4
  go_wp2_with fail
  have HSM := hid (sum_any w5 (w3.heap.size + 1) _ _ _ HT5.out HS5.out.hg (by omega))
  rw [HNN.out, HP.out, HW.out, ext_sum m x, ← HD.out] at HSM
  refine HSM.out.mono ?_
  rintro e w6 ⟨rfl, hb6⟩
  have HB6 := hid (HB5.out.trans (hb6.mono HB5.out.size))
  have HO6 := hid (HO5.out.below hb6)
  have HT6 := hid (HT5.out.below hb6)
  clear hb6 HSM
  go_wp2_with fail
  have HOF := hid (of_three w6 (.slice am m.length cm) (.slice ap P cp) (.slice ax x.length cx) m (padB m.length) x HT6.out (HM.out.below HB6.out) (HO6.out.src (by rw [← HP.out]; omega)) (HX.out.below HB6.out))
  rw [← HD.out] at HOF
  refine HOF.out.mono ?_
  rintro e w7 ⟨rfl, hb7⟩
  have HB7 := hid (HB6.out.trans (hb7.mono HB6.out.size))
  have HT7 := hid (HT6.out.below hb7)
  clear hb7 HOF
  go_wp2_with fail
  refine (awake_any _ HT7.out).mono ?_
  rintro e w8 ⟨rfl, hb8⟩
  have HB8 := hid (HB7.out.trans (hb8.mono HB7.out.size))
  clear hb8
  go_wp2
  go_ret
  exact ⟨rfl, HB8.out⟩

end Go.Proofs.YticmdmnjajjpbabDoor
