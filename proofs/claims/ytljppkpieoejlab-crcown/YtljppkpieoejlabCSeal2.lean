/- Seal: the program's and the document's. -/
import Derived.Test.YtljppkpieoejlabCSeal
namespace Go.Proofs.Ytljppkpieoejlab
open Go.RowKit

/-- how a small array is cut whole -/
theorem cut_array {w : World} {b : Nat} {bs : List UInt8} (hb : w.heap[b]? = some (.cells (bytesV bs).toArray 23 (0, 0))) (h4 : bs.length = 4) : Src w (.slice (some ⟨b, 0, none⟩) 4 4) bs := by
  refine ⟨by omega, Or.inr ⟨⟨b, 0, none⟩, 4, by rw [h4], by omega, by unfold maxLen; omega, fun _ => hp_lt hb, fun j hj => ?_⟩⟩
  rw [addr_add, cell_of_row w b j _ _ _ hb]
  simp [bytesV, List.getD_eq_getElem?_getD, hj]

theorem cut_tail (g n : Nat) (W : World) : (Instr.sliceAt 22 (.slice (some ⟨g, 0, none⟩) (n + 4) (n + 4)) (some (.int .i64 (n : Int))) none none).run Try.prog W = .ok (.slice (some ⟨g, n, none⟩) 4 4) W := by
  have h1 : (n : Int) ≤ (n : Int) + 4 := by omega
  go_simp
theorem splice_two (cur : List Value) (A B : List Value) (n : Nat) (hA : A.length = n) : (splice (splice cur 0 A) n B).take (n + B.length) = A ++ B := by
  subst hA
  have e : (splice cur 0 A).take A.length = A := by simp [splice]
  show List.take _ ((splice cur 0 A).take A.length ++ (B ++ (splice cur 0 A).drop (A.length + B.length))) = _
  rw [e, ← List.append_assoc, List.take_left' (by simp)]
theorem splice_len2 (cur : List Value) (A B : List Value) (n : Nat) (hA : A.length = n) (hc : cur.length = n + B.length) : (splice (splice cur 0 A) n B).length = n + B.length := by
  rw [length_splice _ _ _ (by rw [length_splice _ _ _ (by omega)]; omega), length_splice _ _ _ (by omega), hc]

set_option maxRecDepth 100000 in
set_option maxHeartbeats 1000000 in
theorem seal_any (w : World) (v : Value) (bs : List UInt8) (hv : Src w v bs) (hl : bs.length ≤ 140737488355000) :
    Calls Try.prog 11 #[v] w fun e w' => ∃ v', e = .returned v' ∧ OwnB w' w.heap.size v' (sealP bs) ∧ Below w.heap.size w w' := by
  obtain ⟨av, cv, rfl⟩ := src_shape hv
  have HV := hid hv
  clear hv
  go_enter Try.func11, Try.ntmps11
  go_wp2_with (at_make; refine make_len rfl _ _ rfl _ _ _ _ (bs.length + 4) (bs.length + 4) rfl rfl ?c1 ?c2 ?c3 ?c4 ?_)
  case c1 => push_cast; rfl
  case c2 => push_cast; rfl
  case c3 => exact Nat.le_refl _
  case c4 => omega
  intro w1 ho1 hb1
  have HO1 := hid ho1
  have HB1 := hid hb1
  clear ho1 hb1
  obtain ⟨cur, hcb, hcl⟩ : ∃ cur : List Value, w1.heap[w.heap.size]? = some (.cells cur.toArray 5 (0, 0)) ∧ cur.length = bs.length + 4 := by
    obtain ⟨_, ⟨h2, _⟩ | ⟨g', cap', cur, hv, hb, hh, h3, h4, h5, h6⟩⟩ := HO1.out
    · simp at h2
    · simp only [Value.slice.injEq, Option.some.injEq, Addr.mk.injEq, and_true] at hv
      obtain ⟨rfl, _, rfl⟩ := hv
      exact ⟨cur.toList, by simpa using hh, by simpa using h5⟩
  have HCB := hid hcb
  have HCL := hid hcl
  clear hcb hcl HO1
  obtain ⟨X1, HX1⟩ : ∃ X1, Hid (X1 = bytesV bs) := ⟨_, rfl⟩
  have HXL := hid (show X1.length = bs.length by rw [HX1.out, bytesV_length])
  have HX1C := hid (show ∀ u ∈ X1, u.oneCell' = true by rw [HX1.out]; exact bytesV_one bs)
  have HU := hid (show (Try.prog.info? 5).map (·.size) = some 1 by kernel_rfl)
  have HXS := hid (show 0 < X1.length → (some (⟨w.heap.size, 0, none⟩ : Addr)) = some ⟨w.heap.size, 0, none⟩ ∧ ∃ ad, av = some ad ∧ ∀ j u, X1[j]? = some u → w1.cell? (ad.add j) = some u by
    intro hp
    refine ⟨rfl, ?_⟩
    rcases (HV.out.below HB1.out).2 with ⟨_, h0⟩ | ⟨ad, cap, hv, _, _, _, hc⟩
    · rw [HXL.out, h0] at hp; simp at hp
    · injection hv with h1
      rw [HX1.out]
      exact ⟨ad, h1, src_cells hc⟩)
  go_upto_region 2 with fail
  refine wp_region_list ?_
  show wpList _ _ _ (_ :: _) _ _
  refine mv_row (by rfl) (.tmp 3) (by rfl) (.slice (some ⟨w.heap.size, 0, none⟩) (bs.length + 4) (bs.length + 4)) (by rfl) ?_
  refine mv_row (by rfl) (.tmp 0) (by rfl) (.slice av bs.length cv) (by rfl) ?_
  refine wpList_copy_splice (by rfl) (.tmp 9) (.tmp 10) 22 22 (by rfl) 5 Try.underlying22 HU.out _ _ _ _ _ _ (by rfl) (by rfl) w.heap.size 0 cur 5 HCB.out X1 (by rw [HXL.out]; exact (Nat.min_eq_left (Nat.le_add_right _ _)).symm) HXS.out (by have := HXL.out; have := HCL.out; omega) HX1C.out w.heap.size w HB1.out (Nat.le_refl _) ?_
  intro w2 HC2 hb2
  have HB2 := hid hb2
  clear hb2 HXS HX1C HCB HB1
  have HV2 := hid (HV.out.below HB2.out)
  clear HV
  go_wp2_with fail
  refine (sum_one w2 _ bs HV2.out).mono ?_
  rintro e w3 ⟨rfl, hb3⟩
  have HB3 := hid (HB2.out.trans (hb3.mono HB2.out.size))
  have HC3 := hid ((hb3.block w.heap.size (hp_lt HC2.out)).trans HC2.out)
  clear hb3 HC2 HB2 HV2
  go_wp2_with fail
  refine (bytes_any w3 _).mono ?_
  rintro e w4 ⟨rfl, hb4⟩
  have HB4 := hid (HB3.out.trans (hb4.mono HB3.out.size))
  have HC4 := hid ((hb4.block w.heap.size (hp_lt HC3.out)).trans HC3.out)
  clear hb4 HC3 HB3
  obtain ⟨X2, HX2⟩ : ∃ X2, Hid (X2 = bytesV (le4 (sumP bs))) := ⟨_, rfl⟩
  have HX2L := hid (show X2.length = 4 by rw [HX2.out, bytesV_length]; rfl)
  rw [← HX2.out]
  rename_i Kx hKx
  refine hKx _ _ ?_
  clear hKx
  obtain ⟨z, s⟩ := zero_of_info (P := Try.prog) (t := 23) (v := .agg (bytesV [0, 0, 0, 0]).toArray) (n := 4) (by kernel_rfl)
  refine al_row (by rfl) 23 (by rfl) _ z ?_
  refine st_new (by rfl) 23 (.tmp 4) (.tmp 15) (by rfl) X2 (by rfl) (by rfl) _ _ (by rw [HX2L.out]; exact s) (by rw [List.size_toArray, HX2L.out]; rfl) (by rw [HX2.out]; exact bytesV_one _) ?_
  have HN := hid (hp_new w4 (.cells X2.toArray 23))
  have HB5 := hid (HB4.out.alloc HB4.out.size (.cells X2.toArray 23))
  have HC5 := hid ((hp_old w4 (.cells X2.toArray 23) _ (hp_lt HC4.out)).trans HC4.out)
  have HNE := hid (show w.heap.size ≠ w4.heap.size by have := hp_lt HC4.out; omega)
  clear z s
  generalize w4.alloc (.cells X2.toArray 23) = w5 at HN HB5 HC5 ⊢
  have HS2 := hid (show 0 < X2.length → some (⟨w.heap.size, bs.length, none⟩ : Addr) = some ⟨w.heap.size, bs.length, none⟩ ∧ ∃ ad, some (⟨w4.heap.size, 0, none⟩ : Addr) = some ad ∧ ∀ j u, X2[j]? = some u → w5.cell? (ad.add j) = some u by
    intro _
    refine ⟨rfl, _, rfl, fun j u hj => ?_⟩
    rw [addr_add, cell_of_row _ _ _ _ _ _ HN.out]
    simpa using hj)
  have hcut := cut_tail w.heap.size bs.length
  have HF := hid (show bs.length + X2.length ≤ (splice cur 0 X1).length by
    have h1 := HXL.out
    have h2 := HCL.out
    have h3 := HX2L.out
    rw [length_splice _ _ _ (by omega)]
    omega)
  have H1C := hid (show ∀ u ∈ X2, u.oneCell' = true by rw [HX2.out]; exact bytesV_one _)
  have HML := hid (show X2.length = Nat.min 4 4 by rw [HX2L.out]; rfl)
  clear HC4 HB4
  go_upto_region 4 with fail
  go_region_law ((refine step_copy_splice (by rfl) (.tmp 19) (.tmp 20) 22 22 (by rfl) 5 Try.underlying22 HU.out (some ⟨w.heap.size, bs.length, none⟩) (some ⟨w4.heap.size, 0, none⟩) 4 4 4 4 (by rfl) (by rfl) w.heap.size bs.length (splice cur 0 X1) 5 (by exact HC5.out) X2 HML.out (by exact HS2.out) HF.out H1C.out w.heap.size w (by exact ⟨HB5.out.os, HB5.out.tape, HB5.out.output, HB5.out.size, HB5.out.block⟩) (Nat.le_refl _) ?_; intro w6 HC6 hb6; have HB6 := hid hb6; clear hb6))
  go_wp2
  go_ret
  refine ⟨_, rfl, ?_, HB6.out⟩
  refine own_splice HC6.out (Nat.le_refl _) (by rw [sealP_length]) (Nat.le_refl _) (by unfold maxLen; omega) ?_ ?_
  · rw [show bs.length + 4 = bs.length + X2.length by rw [HX2L.out]]
    exact splice_len2 cur X1 X2 bs.length HXL.out (by rw [HCL.out, HX2L.out])
  · rw [show bs.length + 4 = bs.length + X2.length by rw [HX2L.out], splice_two cur X1 X2 bs.length HXL.out, HX1.out, HX2.out, ← bytesV_append]
    rfl

end Go.Proofs.Ytljppkpieoejlab
