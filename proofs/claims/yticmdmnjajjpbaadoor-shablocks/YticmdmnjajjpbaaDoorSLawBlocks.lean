/- ShaBlocks answers true. -/
import Derived.Test.YticmdmnjajjpbaaDoorSAwake
import Derived.Test.YticmdmnjajjpbaaDoorSRefC
import Derived.Test.YticmdmnjajjpbaaDoorSEq
namespace Go.Proofs.YticmdmnjajjpbaaDoor
open Go.RowKit

set_option maxRecDepth 100000 in
set_option maxHeartbeats 1000000 in
theorem blocks_any (w : World) (H B : List Int) (hH : H.length = 8) (hB : B.length = 64) (hT : Tabs w) (hR : TabR w) :
    Calls Tryd.prog 3 #[.agg (u32V H).toArray, .agg (u8V B).toArray] w fun e w' => e = .returned (.bool true) ∧ Below w.heap.size w w' := by
  have HB0 := hid (below_walk2 w (.cells (u32V H).toArray 23) (.cells (u8V B).toArray 24))
  have HT0 := hid (hT.below HB0.out)
  have HR0 := hid (hR.below HB0.out)
  have hr0 : ((w.alloc (.cells (u32V H).toArray 23)).alloc (.cells (u8V B).toArray 24)).rangeAt w.heap.size 0 (u32V H) := fun j v hv => by
    rw [Nat.zero_add, cell_of_row _ _ j (u32V H).toArray 23 (0, 0) (by rw [hp_old _ _ _ (by rw [hp_size]; omega), hp_new])]
    simpa using hv
  have hr1 : ((w.alloc (.cells (u32V H).toArray 23)).alloc (.cells (u8V B).toArray 24)).rangeAt (w.heap.size + 1) 0 (u8V B) := fun j v hv => by
    have h1 := hp_new (w.alloc (.cells (u32V H).toArray 23)) (.cells (u8V B).toArray 24)
    rw [hp_size] at h1
    rw [Nat.zero_add, cell_of_row _ _ j _ _ _ h1]
    simpa using hv
  have hi8 : (Tryd.prog.info? 23).map (·.size) = some (u32V H).length := by rw [u32V_length, hH]; kernel_rfl
  have hi64 : (Tryd.prog.info? 24).map (·.size) = some (u8V B).length := by rw [u8V_length, hB]; kernel_rfl
  have hu8 := Tryd.underlying23
  have hu64 := Tryd.underlying24
  have HEQ := fun W => eql_row (P := Tryd.prog) W 23 22 8 .u32 Tryd.underlying23 Tryd.underlying22 (by kernel_rfl) (comp H B) (comp_length H B hH)
  obtain ⟨D, hD⟩ : ∃ D, D = u32V (comp H B) := ⟨_, rfl⟩
  rw [show List.map (Value.int .u32) (comp H B) = D from hD.symm] at HEQ
  have HH := hid hH
  have HB := hid hB
  have HD := hid hD
  clear hH hB hT hR hD
  go_enter Tryd.func3, Tryd.ntmps3
  go_upto_region 1 with fail
  generalize (w.alloc (.cells (u32V H).toArray 23)).alloc (.cells (u8V B).toArray 24) = wv at HB0 HT0 HR0 hr0 hr1 ⊢
  have hrd : wv.drew.rangeAt w.heap.size 0 (u32V H) ∧ wv.drew.rangeAt (w.heap.size + 1) 0 (u8V B) := ⟨hr0, hr1⟩
  have HTd := hid (show Tabs wv.drew from ⟨HT0.out.k, HT0.out.h⟩)
  have HRd := hid (show TabR wv.drew from HR0.out)
  have HBd := hid (show Below w.heap.size w wv.drew from ⟨HB0.out.os, HB0.out.tape, HB0.out.output, HB0.out.size, HB0.out.block⟩)
  clear hr0 hr1 HT0 HR0 HB0
  refine wp_noPanic (wp_region_held_drew (S := fun w' => w'.rangeAt w.heap.size 0 (u32V H) ∧ w'.rangeAt (w.heap.size + 1) 0 (u8V B)) (by kernel_rfl) hrd ?_)
  intro hHeld
  refine wpAnyH_take (i := 0) (v := .agg (u32V H).toArray) rfl (by kernel_rfl) (by kernel_rfl) (by kernel_rfl) (fun _ _ _ h => h) (yieldsIf_load_mid (by rfl) 23 (.tmp 2) rfl w.heap.size 0 rfl (u32V H) _ (fun W hW => hW.1) hu8 rfl hi8) hHeld ?_
  simp only [Act.put, List.getElem_toArray, List.getElem_cons_zero, List.setIfInBounds_toArray, List.set_cons_succ, List.set_cons_zero]
  refine wpAnyH_take (i := 1) (v := .agg (u8V B).toArray) rfl (by kernel_rfl) (by kernel_rfl) (by kernel_rfl) (fun _ _ _ h => h) (yieldsIf_load_mid (by rfl) 24 (.tmp 3) rfl (w.heap.size + 1) 0 rfl (u8V B) _ (fun W hW => hW.2) hu64 rfl hi64) hHeld ?_
  simp only [Act.put, List.getElem_toArray, List.getElem_cons_zero, List.getElem_cons_succ, List.setIfInBounds_toArray, List.set_cons_succ, List.set_cons_zero]
  refine wpAnyH_take (i := 3) (v := .agg (u32V H).toArray) rfl (by kernel_rfl) (by kernel_rfl) (by kernel_rfl) (fun _ _ _ h => h) (yieldsIf_load_mid (by rfl) 23 (.tmp 2) rfl w.heap.size 0 rfl (u32V H) _ (fun W hW => hW.1) hu8 rfl hi8) hHeld ?_
  simp only [Act.put, List.getElem_toArray, List.getElem_cons_zero, List.getElem_cons_succ, List.setIfInBounds_toArray, List.set_cons_succ, List.set_cons_zero]
  refine wpAnyH_take (i := 4) (v := .agg (u8V B).toArray) rfl (by kernel_rfl) (by kernel_rfl) (by kernel_rfl) (fun _ _ _ h => h) (yieldsIf_load_mid (by rfl) 24 (.tmp 3) rfl (w.heap.size + 1) 0 rfl (u8V B) _ (fun W hW => hW.2) hu64 rfl hi64) hHeld ?_
  simp only [Act.put, List.getElem_toArray, List.getElem_cons_zero, List.getElem_cons_succ, List.setIfInBounds_toArray, List.set_cons_succ, List.set_cons_zero]
  clear hi8 hi64 hu8 hu64
  refine wpAnyH_ready (rs := [2]) (by kernel_rfl) (by simp) ?_
  refine AllReadyH.cons rfl (fun K hK => ?_) AllReadyH.nil
  go_simp
  refine (compress_any H B HH.out HB.out _ HTd.out).mono ?_
  rintro e w1 ⟨rfl, hb1⟩
  rw [← HD.out]
  have HB1 := hid hb1
  clear hb1
  go_wp2_with fail
  refine hK.out _ _ ⟨range_below hrd.1 HB1.out, range_below hrd.2 HB1.out⟩ (fun hHeld => ?_)
  clear hK K
  refine wpAnyH_ready (rs := [5]) (by kernel_rfl) (by simp) ?_
  refine AllReadyH.cons rfl (fun K hK => ?_) AllReadyH.nil
  go_simp
  refine (rcompress_any H B HH.out HB.out _ (HRd.out.below HB1.out)).mono ?_
  rintro e w2 ⟨rfl, hb2⟩
  rw [← HD.out]
  have HB2 := hid (HB1.out.trans (hb2.mono HB1.out.size))
  clear hb2
  go_wp2_with fail
  refine hK.out _ _ ⟨range_below hrd.1 HB2.out, range_below hrd.2 HB2.out⟩ (fun hHeld => ?_)
  clear hK K
  refine wpAnyH_take (i := 6) (v := (.bool true)) rfl (by kernel_rfl) (by kernel_rfl) (by kernel_rfl) (fun _ _ _ h => h) (Or.inl ⟨by rfl, fun W _ => by go_simp⟩) hHeld ?_
  simp only [Act.put, List.getElem_toArray, List.getElem_cons_zero, List.getElem_cons_succ, List.setIfInBounds_toArray, List.set_cons_succ, List.set_cons_zero]
  refine wpAnyH_take (i := 7) (v := (.bool true)) rfl (by kernel_rfl) (by kernel_rfl) (by kernel_rfl) (fun _ _ _ h => h) (Or.inl ⟨by rfl, fun W _ => by go_simp⟩) hHeld ?_
  simp only [Act.put, List.getElem_toArray, List.getElem_cons_zero, List.getElem_cons_succ, List.setIfInBounds_toArray, List.set_cons_succ, List.set_cons_zero]
  refine wpAnyH_ready (rs := [8]) (by kernel_rfl) (by simp) ?_
  refine AllReadyH.cons rfl (fun K hK => ?_) AllReadyH.nil
  go_simp
  refine (awake_any _ (HTd.out.below HB2.out)).mono ?_
  rintro e w3 ⟨rfl, hb3⟩
  have HB3 := hid (HB2.out.trans (hb3.mono HB2.out.size))
  clear hb3
  go_wp2_with fail
  refine hK.out _ _ ⟨range_below hrd.1 HB3.out, range_below hrd.2 HB3.out⟩ (fun hHeld => ?_)
  clear hK K
  refine wpAnyH_take (i := 9) (v := (.bool true)) rfl (by kernel_rfl) (by kernel_rfl) (by kernel_rfl) (fun _ _ _ h => h) (Or.inl ⟨by rfl, fun W _ => by go_simp⟩) hHeld ?_
  simp only [Act.put, List.getElem_toArray, List.getElem_cons_zero, List.getElem_cons_succ, List.setIfInBounds_toArray, List.set_cons_succ, List.set_cons_zero]
  refine wpAnyH_take (i := 10) (v := (.bool true)) rfl (by kernel_rfl) (by kernel_rfl) (by kernel_rfl) (fun _ _ _ h => h) (Or.inl ⟨by rfl, fun W _ => by go_simp⟩) hHeld ?_
  simp only [Act.put, List.getElem_toArray, List.getElem_cons_zero, List.getElem_cons_succ, List.setIfInBounds_toArray, List.set_cons_succ, List.set_cons_zero]
  refine wpAnyH_done (by kernel_rfl) ?_ _
  simp only [noPanic]
  go_wp2
  go_ret
  exact ⟨rfl, HBd.out.trans (HB3.out.mono HBd.out.size)⟩

end Go.Proofs.YticmdmnjajjpbaaDoor
