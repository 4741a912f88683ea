/- Contracts and pure facts that the proof needs, joined. -/
import Derived.Test.YtiibhccbbpgehaaGreatG2
import Derived.Test.YtiibhccbbpgehaaGreatG1
import Derived.Deep.RegionWith
import Derived.Deep.RegionLaw

/- How many bytes a frame's body has, told by the program. -/
namespace Go.Proofs.YtiibhccbbpgehaaGreat
open Go.RowKit Go.BigFrame

def noBody (f : Fr) : Fr := { f with body := [] }
theorem fcells_noBody (f : Fr) (va : Value) (h : f.tool.length = 32) : (fcells f va).toArray.setIfInBounds 41 (.string ⟨#[]⟩) = (fcells (noBody f) va).toArray := by
  obtain ⟨t0, t1, t2, t3, t4, t5, t6, t7, t8, t9, t10, t11, t12, t13, t14, t15, t16, t17, t18, t19, t20, t21, t22, t23, t24, t25, t26, t27, t28, t29, t30, t31, hT⟩ := list32 h
  unfold noBody fcells
  rw [hT]
  rfl

set_option maxRecDepth 100000 in
set_option maxHeartbeats 8000000 in
theorem ksize1_any (f : Fr) (va : Value) (K : Nat) (L0 : List UInt8) (w : World) (hf : f.tool.length = 32) (ha : Strs w va f.args) (hk : f.kind = (K : Int)) (hK : K ≤ 6) (hB : f.body.length ≤ 140737488355327) (hL0 : L0.length ≤ 1000000)
    (hlay : ∀ W vb bs, Src W vb bs → bs.length ≤ 1000 → Strs W va f.args → Calls Tryz.prog 121 #[vb, .agg (fcells (noBody f) va).toArray] W fun e w' => ∃ v, e = .returned v ∧ Src w' v (bs ++ L0) ∧ Below W.heap.size W w') :
    Calls Tryz.prog 109 #[.agg k1.toArray, .agg (fcells f va).toArray] w fun e w' => e = .returned (.int .i64 (((sn K ++ L0).length : Int) + ((sn f.body.length).length : Int) - 1 + (f.body.length : Int))) ∧ Below w.heap.size w w' := by
  have HNB := hid (hp_two w (.cells k1.toArray 135) (.cells (fcells f va).toArray 30))
  have HBL := hid (below_walk2 w (.cells k1.toArray 135) (.cells (fcells f va).toArray 30))
  have HZ : Hid ((w.alloc (.cells k1.toArray 135)).heap.size = w.heap.size + 1) := hid (by simp)
  have HF := hid hf
  have HLAY := hid hlay
  have HKK := hid hk
  have hsb := sn_length_le f.body.length
  have hsk := sn_length_le K
  obtain ⟨M, HM⟩ : ∃ M, Hid ((sn K ++ L0).length = M) := ⟨_, rfl⟩
  obtain ⟨SB, HSB⟩ : ∃ M, Hid ((sn f.body.length).length = M) := ⟨_, rfl⟩
  have hM : M ≤ 1000010 := by have := HM.out; rw [List.length_append] at this; omega
  rw [HSB.out] at hsb
  have HSA := hid ha
  have HFN := hid (fcells_noBody f va hf)
  have HSZ := hid (frame_size (noBody f) va hf)
  have hmk := mk_size f.body
  clear hf hlay hk ha
  go_enter Tryz.func109, Tryz.ntmps109
  go_upto_region 1 with fail
  try rw [HZ.out]
  generalize (w.alloc (.cells k1.toArray 135)).alloc (.cells (fcells f va).toArray 30) = w2 at HNB HBL ⊢
  have x41 := (Fb.of HNB.out.2 HF.out).bd
  have f41 := row_fz HNB.out.2 41
  go_upto_region 3 with fail
  have HN3 := hid (show (w2.setCell ⟨w.heap.size + 1, 41, none⟩ (.string ⟨#[]⟩)).heap[w.heap.size + 1]? = some (.cells (fcells (noBody f) va).toArray 30 (0, 0)) by rw [← HFN.out]; exact blk_set HNB.out.2 _)
  have HN1 := hid (show (w2.setCell ⟨w.heap.size + 1, 41, none⟩ (.string ⟨#[]⟩)).heap[w.heap.size]? = some (.cells k1.toArray 135 (0, 0)) from (Below.heap_setCell w2 _ _ w.heap.size (by simp)).trans HNB.out.1)
  have HB3 := hid (show Below w.heap.size w (w2.setCell ⟨w.heap.size + 1, 41, none⟩ (.string ⟨#[]⟩)) from HBL.out.setCell (by simp) _)
  have HSB2 := hid (show Strs (w2.setCell ⟨w.heap.size + 1, 41, none⟩ (.string ⟨#[]⟩)) va f.args from (HSA.out.below HB3.out))
  generalize w2.setCell ⟨w.heap.size + 1, 41, none⟩ (.string ⟨#[]⟩) = w3 at HN3 HN1 HB3 HSB2 ⊢
  clear x41 f41 HNB HBL HSA
  have HL1 := hid (hp_lt HN1.out)
  have HL2 := hid (hp_lt HN3.out)
  have HC3 : Hid (w3.cell? ⟨w.heap.size, 3, none⟩ = some (.func (.func 121) #[] #[])) := hid (by rw [cell_of_row w3 w.heap.size 3 _ _ _ HN1.out]; rfl)
  have HC0 : Hid (w3.cell? ⟨w.heap.size + 1, 0, none⟩ = some (.int .i64 (K : Nat))) := hid (by have h9 := (Fb.of HN3.out HF.out).k; rw [show (noBody f).kind = f.kind from rfl, HKK.out] at h9; exact h9)
  have HRW := hid (range_row HN3.out)
  generalize fcells (noBody f) va = F0 at *
  obtain ⟨NB, HNL⟩ : ∃ n, Hid (f.body.length = n) := ⟨_, rfl⟩
  rw [HNL.out] at hB HSB ⊢
  have HWB := hid (show IntKind.u64.wrap (NB : Int) = (NB : Int) by rw [IntKind.wrap_u64]; omega)
  have HW1 := hid (show IntKind.i64.wrap ((M : Int) + (SB : Int)) = (M : Int) + (SB : Int) by rw [IntKind.wrap_i64]; omega)
  have HW2 := hid (show IntKind.i64.wrap ((M : Int) + (SB : Int) - 1) = (M : Int) + (SB : Int) - 1 by rw [IntKind.wrap_i64]; omega)
  have HW3 := hid (show IntKind.i64.wrap ((M : Int) + (SB : Int) - 1 + (NB : Int)) = (M : Int) + (SB : Int) - 1 + (NB : Int) by rw [IntKind.wrap_i64]; omega)
  refine wp_noPanic (wp_region_held_drew (S := fun W => Below w3.heap.size w3 W) (by kernel_rfl) ⟨rfl, rfl, rfl, Nat.le_refl _, fun _ _ => rfl⟩ ?_)
  intro hHeld
  refine wpAnyH_take (i := 0) (v := .pointer (some ⟨w.heap.size, 3, none⟩)) rfl (by kernel_rfl) (by kernel_rfl) (by kernel_rfl) (fun _ _ _ h => h) (Or.inl ⟨by rfl, fun W _ => by go_simp⟩) hHeld ?_
  simp only [Act.put, List.getElem_toArray, List.getElem_cons_zero, List.setIfInBounds_toArray, List.set_cons_succ, List.set_cons_zero]
  refine wpAnyH_take (i := 1) (v := .func (.func 121) #[] #[]) rfl (by kernel_rfl) (by kernel_rfl) (by kernel_rfl) (fun _ _ _ h => h) (Or.inl ⟨by rfl, fun W hW => by have hcell := (hW.cell (p := ⟨w.heap.size, 3, none⟩) HL1.out).trans HC3.out; clear hW; go_simp⟩) hHeld ?_
  simp only [Act.put, List.getElem_toArray, List.getElem_cons_zero, List.getElem_cons_succ, List.setIfInBounds_toArray, List.set_cons_succ, List.set_cons_zero]
  refine wpAnyH_take (i := 2) (v := .pointer (some ⟨w.heap.size + 1, 0, none⟩)) rfl (by kernel_rfl) (by kernel_rfl) (by kernel_rfl) (fun _ _ _ h => h) (Or.inl ⟨by rfl, fun W _ => by go_simp⟩) hHeld ?_
  simp only [Act.put, List.getElem_toArray, List.getElem_cons_zero, List.getElem_cons_succ, List.setIfInBounds_toArray, List.set_cons_succ, List.set_cons_zero]
  refine wpAnyH_take (i := 3) (v := .int .i64 (K : Nat)) rfl (by kernel_rfl) (by kernel_rfl) (by kernel_rfl) (fun _ _ _ h => h) (Or.inl ⟨by rfl, fun W hW => by have hcell := (hW.cell (p := ⟨w.heap.size + 1, 0, none⟩) HL2.out).trans HC0.out; clear hW; go_simp⟩) hHeld ?_
  simp only [Act.put, List.getElem_toArray, List.getElem_cons_zero, List.getElem_cons_succ, List.setIfInBounds_toArray, List.set_cons_succ, List.set_cons_zero]
  refine wpAnyH_take (i := 6) (v := .agg F0.toArray) rfl (by kernel_rfl) (by kernel_rfl) (by kernel_rfl) (fun _ _ _ h => h) (yieldsIf_load_mid (by rfl) 30 (.tmp 3) rfl (w.heap.size + 1) 0 rfl F0 _ (fun W hW => fun j v hv => (hW.cell (p := ⟨w.heap.size + 1, 0 + j, none⟩) HL2.out).trans (HRW.out j v hv)) Tryz.underlying30 rfl HSZ.out) hHeld ?_
  simp only [Act.put, List.getElem_toArray, List.getElem_cons_zero, List.getElem_cons_succ, List.setIfInBounds_toArray, List.set_cons_succ, List.set_cons_zero]
  refine wpAnyH_take (i := 9) (v := .int .i64 (NB : Nat)) rfl (by kernel_rfl) (by kernel_rfl) (by kernel_rfl) (fun _ _ _ h => h) (Or.inl ⟨by rfl, fun W _ => by go_simp⟩) hHeld ?_
  simp only [Act.put, List.getElem_toArray, List.getElem_cons_zero, List.getElem_cons_succ, List.setIfInBounds_toArray, List.set_cons_succ, List.set_cons_zero]
  refine wpAnyH_take (i := 10) (v := .int .u64 (NB : Nat)) rfl (by kernel_rfl) (by kernel_rfl) (by kernel_rfl) (fun _ _ _ h => h) (Or.inl ⟨by rfl, fun W _ => by have hfact := HWB.out; go_simp; first | done | simp [hfact] | omega⟩) hHeld ?_
  simp only [Act.put, List.getElem_toArray, List.getElem_cons_zero, List.getElem_cons_succ, List.setIfInBounds_toArray, List.set_cons_succ, List.set_cons_zero]
  refine wpAnyH_take (i := 15) (v := .int .i64 (NB : Nat)) rfl (by kernel_rfl) (by kernel_rfl) (by kernel_rfl) (fun _ _ _ h => h) (Or.inl ⟨by rfl, fun W _ => by go_simp⟩) hHeld ?_
  simp only [Act.put, List.getElem_toArray, List.getElem_cons_zero, List.getElem_cons_succ, List.setIfInBounds_toArray, List.set_cons_succ, List.set_cons_zero]
  obtain ⟨wx, HWX⟩ : ∃ x, Hid (w3.drew = x) := ⟨_, rfl⟩
  rw [HWX.out] at hHeld ⊢
  have hH0 := hHeld
  refine wpAnyH_ready (rs := [4]) (by kernel_rfl) (by simp) ?_
  refine AllReadyH.cons rfl (fun KC hKC => ?_) AllReadyH.nil
  go_simp
  have hq1 := below_tr hH0 ((below_walk wx (.cells #[.int .i64 (K : Nat)] 3)).mono hH0.size)
  refine hKC.out _ _ hq1 (fun hHeld => ?_)
  clear hKC KC
  try simp only [Act.put, List.getElem_toArray, List.getElem_cons_zero, List.getElem_cons_succ, List.setIfInBounds_toArray, List.set_cons_succ, List.set_cons_zero]
  refine wpAnyH_ready (rs := [5]) (by kernel_rfl) (by simp) ?_
  refine AllReadyH.cons rfl (fun KC hKC => ?_) AllReadyH.nil
  go_simp
  refine (putCounts_any nS _ [] [K] _ (srcNil _) (nums_one wx K) (by simp; omega) (by simp) (by simp)).mono ?_
  rintro e w4 ⟨v4, rfl, hs4, hb4⟩
  have hs4b : Src w4 v4 (sn K) := by simpa [sns] using hs4
  have HS4 := hid hs4b
  have hq2 := below_tr hq1 (hb4.mono hq1.size)
  obtain ⟨a4, c4, e4⟩ := src_shape hs4b
  subst e4
  clear hs4 hs4b hb4
  go_wp2_with fail
  refine hKC.out _ _ hq2 (fun hHeld => ?_)
  clear hKC KC
  try simp only [Act.put, List.getElem_toArray, List.getElem_cons_zero, List.getElem_cons_succ, List.setIfInBounds_toArray, List.set_cons_succ, List.set_cons_zero]
  refine wpAnyH_ready (rs := [7]) (by kernel_rfl) (by simp) ?_
  refine AllReadyH.cons rfl (fun KC hKC => ?_) AllReadyH.nil
  go_simp
  refine (HLAY.out w4 _ (sn K) HS4.out (by have := sn_length_le K; omega) (HSB2.out.below hq2)).mono ?_
  rintro e w5 ⟨v5, rfl, hs5, hb5⟩
  have hq3 := below_tr hq2 (hb5.mono hq2.size)
  obtain ⟨a5, c5, e5⟩ := src_shape hs5
  rw [show (sn K ++ L0).length = M from HM.out] at e5
  subst e5
  clear hs5 hb5
  go_wp2_with fail
  refine hKC.out _ _ hq3 (fun hHeld => ?_)
  clear hKC KC
  try simp only [Act.put, List.getElem_toArray, List.getElem_cons_zero, List.getElem_cons_succ, List.setIfInBounds_toArray, List.set_cons_succ, List.set_cons_zero]
  refine wpAnyH_take (i := 8) (v := .int .i64 (M : Nat)) rfl (by kernel_rfl) (by kernel_rfl) (by kernel_rfl) (fun _ _ _ h => h) (Or.inl ⟨by rfl, fun W _ => by go_simp⟩) hHeld ?_
  simp only [Act.put, List.getElem_toArray, List.getElem_cons_zero, List.getElem_cons_succ, List.setIfInBounds_toArray, List.set_cons_succ, List.set_cons_zero]
  refine wpAnyH_ready (rs := [11]) (by kernel_rfl) (by simp) ?_
  refine AllReadyH.cons rfl (fun KC hKC => ?_) AllReadyH.nil
  go_simp
  refine (size_any NB w5 (by omega)).mono ?_
  rintro e wz ⟨rfl, ez⟩
  have ey := ez.symm
  subst ey
  rw [HSB.out]
  go_wp2_with fail
  refine hKC.out _ _ hq3 (fun hHeld => ?_)
  clear hKC KC
  try simp only [Act.put, List.getElem_toArray, List.getElem_cons_zero, List.getElem_cons_succ, List.setIfInBounds_toArray, List.set_cons_succ, List.set_cons_zero]
  refine wpAnyH_take (i := 12) (v := .int .i64 ((M : Int) + (SB : Int))) rfl (by kernel_rfl) (by kernel_rfl) (by kernel_rfl) (fun _ _ _ h => h) (Or.inl ⟨by rfl, fun W _ => by have hfact := HW1.out; go_simp; first | done | simp [hfact] | omega⟩) hHeld ?_
  simp only [Act.put, List.getElem_toArray, List.getElem_cons_zero, List.getElem_cons_succ, List.setIfInBounds_toArray, List.set_cons_succ, List.set_cons_zero]
  refine wpAnyH_ready (rs := [13]) (by kernel_rfl) (by simp) ?_
  refine AllReadyH.cons rfl (fun KC hKC => ?_) AllReadyH.nil
  go_simp
  refine (size_zero w5).mono ?_
  rintro e wz ⟨rfl, ez⟩
  have ey := ez.symm
  subst ey
  go_wp2_with fail
  refine hKC.out _ _ hq3 (fun hHeld => ?_)
  clear hKC KC
  try simp only [Act.put, List.getElem_toArray, List.getElem_cons_zero, List.getElem_cons_succ, List.setIfInBounds_toArray, List.set_cons_succ, List.set_cons_zero]
  refine wpAnyH_take (i := 14) (v := .int .i64 ((M : Int) + (SB : Int) - 1)) rfl (by kernel_rfl) (by kernel_rfl) (by kernel_rfl) (fun _ _ _ h => h) (Or.inl ⟨by rfl, fun W _ => by have hfact := HW2.out; go_simp; first | done | simp [hfact] | omega⟩) hHeld ?_
  simp only [Act.put, List.getElem_toArray, List.getElem_cons_zero, List.getElem_cons_succ, List.setIfInBounds_toArray, List.set_cons_succ, List.set_cons_zero]
  refine wpAnyH_take (i := 16) (v := .int .i64 ((M : Int) + (SB : Int) - 1 + (NB : Int))) rfl (by kernel_rfl) (by kernel_rfl) (by kernel_rfl) (fun _ _ _ h => h) (Or.inl ⟨by rfl, fun W _ => by have hfact := HW3.out; go_simp; first | done | simp [hfact] | omega⟩) hHeld ?_
  simp only [Act.put, List.getElem_toArray, List.getElem_cons_zero, List.getElem_cons_succ, List.setIfInBounds_toArray, List.set_cons_succ, List.set_cons_zero]
  refine wpAnyH_take (i := 17) (v := .int .i64 ((M : Int) + (SB : Int) - 1 + (NB : Int))) rfl (by kernel_rfl) (by kernel_rfl) (by kernel_rfl) (fun _ _ _ h => h) (Or.inl ⟨by rfl, fun W _ => by go_simp⟩) hHeld ?_
  simp only [Act.put, List.getElem_toArray, List.getElem_cons_zero, List.getElem_cons_succ, List.setIfInBounds_toArray, List.set_cons_succ, List.set_cons_zero]
  refine wpAnyH_done (by kernel_rfl) ?_ _
  simp only [noPanic]
  clear hHeld
  go_wp2
  go_ret
  exact ⟨by rw [HM.out, HNL.out, HSB.out]; first | done | rfl, below_then HB3.out hq3⟩

set_option maxRecDepth 100000 in
set_option maxHeartbeats 8000000 in
theorem ksize2_any (f : Fr) (va : Value) (K : Nat) (L0 : List UInt8) (w : World) (hf : f.tool.length = 32) (ha : Strs w va f.args) (hk : f.kind = (K : Int)) (hK : K ≤ 6) (hB : f.body.length ≤ 140737488355327) (hL0 : L0.length ≤ 1000000)
    (hlay : ∀ W vb bs, Src W vb bs → bs.length ≤ 1000 → Strs W va f.args → Calls Tryz.prog 125 #[vb, .agg (fcells (noBody f) va).toArray] W fun e w' => ∃ v, e = .returned v ∧ Src w' v (bs ++ L0) ∧ Below W.heap.size W w') :
    Calls Tryz.prog 109 #[.agg k2.toArray, .agg (fcells f va).toArray] w fun e w' => e = .returned (.int .i64 (((sn K ++ L0).length : Int) + ((sn f.body.length).length : Int) - 1 + (f.body.length : Int))) ∧ Below w.heap.size w w' := by
  have HNB := hid (hp_two w (.cells k2.toArray 135) (.cells (fcells f va).toArray 30))
  have HBL := hid (below_walk2 w (.cells k2.toArray 135) (.cells (fcells f va).toArray 30))
  have HZ : Hid ((w.alloc (.cells k2.toArray 135)).heap.size = w.heap.size + 1) := hid (by simp)
  have HF := hid hf
  have HLAY := hid hlay
  have HKK := hid hk
  have hsb := sn_length_le f.body.length
  have hsk := sn_length_le K
  obtain ⟨M, HM⟩ : ∃ M, Hid ((sn K ++ L0).length = M) := ⟨_, rfl⟩
  obtain ⟨SB, HSB⟩ : ∃ M, Hid ((sn f.body.length).length = M) := ⟨_, rfl⟩
  have hM : M ≤ 1000010 := by have := HM.out; rw [List.length_append] at this; omega
  rw [HSB.out] at hsb
  have HSA := hid ha
  have HFN := hid (fcells_noBody f va hf)
  have HSZ := hid (frame_size (noBody f) va hf)
  have hmk := mk_size f.body
  clear hf hlay hk ha
  go_enter Tryz.func109, Tryz.ntmps109
  go_upto_region 1 with fail
  try rw [HZ.out]
  generalize (w.alloc (.cells k2.toArray 135)).alloc (.cells (fcells f va).toArray 30) = w2 at HNB HBL ⊢
  have x41 := (Fb.of HNB.out.2 HF.out).bd
  have f41 := row_fz HNB.out.2 41
  go_upto_region 3 with fail
  have HN3 := hid (show (w2.setCell ⟨w.heap.size + 1, 41, none⟩ (.string ⟨#[]⟩)).heap[w.heap.size + 1]? = some (.cells (fcells (noBody f) va).toArray 30 (0, 0)) by rw [← HFN.out]; exact blk_set HNB.out.2 _)
  have HN1 := hid (show (w2.setCell ⟨w.heap.size + 1, 41, none⟩ (.string ⟨#[]⟩)).heap[w.heap.size]? = some (.cells k2.toArray 135 (0, 0)) from (Below.heap_setCell w2 _ _ w.heap.size (by simp)).trans HNB.out.1)
  have HB3 := hid (show Below w.heap.size w (w2.setCell ⟨w.heap.size + 1, 41, none⟩ (.string ⟨#[]⟩)) from HBL.out.setCell (by simp) _)
  have HSB2 := hid (show Strs (w2.setCell ⟨w.heap.size + 1, 41, none⟩ (.string ⟨#[]⟩)) va f.args from (HSA.out.below HB3.out))
  generalize w2.setCell ⟨w.heap.size + 1, 41, none⟩ (.string ⟨#[]⟩) = w3 at HN3 HN1 HB3 HSB2 ⊢
  clear x41 f41 HNB HBL HSA
  have HL1 := hid (hp_lt HN1.out)
  have HL2 := hid (hp_lt HN3.out)
  have HC3 : Hid (w3.cell? ⟨w.heap.size, 3, none⟩ = some (.func (.func 125) #[] #[])) := hid (by rw [cell_of_row w3 w.heap.size 3 _ _ _ HN1.out]; rfl)
  have HC0 : Hid (w3.cell? ⟨w.heap.size + 1, 0, none⟩ = some (.int .i64 (K : Nat))) := hid (by have h9 := (Fb.of HN3.out HF.out).k; rw [show (noBody f).kind = f.kind from rfl, HKK.out] at h9; exact h9)
  have HRW := hid (range_row HN3.out)
  generalize fcells (noBody f) va = F0 at *
  obtain ⟨NB, HNL⟩ : ∃ n, Hid (f.body.length = n) := ⟨_, rfl⟩
  rw [HNL.out] at hB HSB ⊢
  have HWB := hid (show IntKind.u64.wrap (NB : Int) = (NB : Int) by rw [IntKind.wrap_u64]; omega)
  have HW1 := hid (show IntKind.i64.wrap ((M : Int) + (SB : Int)) = (M : Int) + (SB : Int) by rw [IntKind.wrap_i64]; omega)
  have HW2 := hid (show IntKind.i64.wrap ((M : Int) + (SB : Int) - 1) = (M : Int) + (SB : Int) - 1 by rw [IntKind.wrap_i64]; omega)
  have HW3 := hid (show IntKind.i64.wrap ((M : Int) + (SB : Int) - 1 + (NB : Int)) = (M : Int) + (SB : Int) - 1 + (NB : Int) by rw [IntKind.wrap_i64]; omega)
  refine wp_noPanic (wp_region_held_drew (S := fun W => Below w3.heap.size w3 W) (by kernel_rfl) ⟨rfl, rfl, rfl, Nat.le_refl _, fun _ _ => rfl⟩ ?_)
  intro hHeld
  refine wpAnyH_take (i := 0) (v := .pointer (some ⟨w.heap.size, 3, none⟩)) rfl (by kernel_rfl) (by kernel_rfl) (by kernel_rfl) (fun _ _ _ h => h) (Or.inl ⟨by rfl, fun W _ => by go_simp⟩) hHeld ?_
  simp only [Act.put, List.getElem_toArray, List.getElem_cons_zero, List.setIfInBounds_toArray, List.set_cons_succ, List.set_cons_zero]
  refine wpAnyH_take (i := 1) (v := .func (.func 125) #[] #[]) rfl (by kernel_rfl) (by kernel_rfl) (by kernel_rfl) (fun _ _ _ h => h) (Or.inl ⟨by rfl, fun W hW => by have hcell := (hW.cell (p := ⟨w.heap.size, 3, none⟩) HL1.out).trans HC3.out; clear hW; go_simp⟩) hHeld ?_
  simp only [Act.put, List.getElem_toArray, List.getElem_cons_zero, List.getElem_cons_succ, List.setIfInBounds_toArray, List.set_cons_succ, List.set_cons_zero]
  refine wpAnyH_take (i := 2) (v := .pointer (some ⟨w.heap.size + 1, 0, none⟩)) rfl (by kernel_rfl) (by kernel_rfl) (by kernel_rfl) (fun _ _ _ h => h) (Or.inl ⟨by rfl, fun W _ => by go_simp⟩) hHeld ?_
  simp only [Act.put, List.getElem_toArray, List.getElem_cons_zero, List.getElem_cons_succ, List.setIfInBounds_toArray, List.set_cons_succ, List.set_cons_zero]
  refine wpAnyH_take (i := 3) (v := .int .i64 (K : Nat)) rfl (by kernel_rfl) (by kernel_rfl) (by kernel_rfl) (fun _ _ _ h => h) (Or.inl ⟨by rfl, fun W hW => by have hcell := (hW.cell (p := ⟨w.heap.size + 1, 0, none⟩) HL2.out).trans HC0.out; clear hW; go_simp⟩) hHeld ?_
  simp only [Act.put, List.getElem_toArray, List.getElem_cons_zero, List.getElem_cons_succ, List.setIfInBounds_toArray, List.set_cons_succ, List.set_cons_zero]
  refine wpAnyH_take (i := 6) (v := .agg F0.toArray) rfl (by kernel_rfl) (by kernel_rfl) (by kernel_rfl) (fun _ _ _ h => h) (yieldsIf_load_mid (by rfl) 30 (.tmp 3) rfl (w.heap.size + 1) 0 rfl F0 _ (fun W hW => fun j v hv => (hW.cell (p := ⟨w.heap.size + 1, 0 + j, none⟩) HL2.out).trans (HRW.out j v hv)) Tryz.underlying30 rfl HSZ.out) hHeld ?_
  simp only [Act.put, List.getElem_toArray, List.getElem_cons_zero, List.getElem_cons_succ, List.setIfInBounds_toArray, List.set_cons_succ, List.set_cons_zero]
  refine wpAnyH_take (i := 9) (v := .int .i64 (NB : Nat)) rfl (by kernel_rfl) (by kernel_rfl) (by kernel_rfl) (fun _ _ _ h => h) (Or.inl ⟨by rfl, fun W _ => by go_simp⟩) hHeld ?_
  simp only [Act.put, List.getElem_toArray, List.getElem_cons_zero, List.getElem_cons_succ, List.setIfInBounds_toArray, List.set_cons_succ, List.set_cons_zero]
  refine wpAnyH_take (i := 10) (v := .int .u64 (NB : Nat)) rfl (by kernel_rfl) (by kernel_rfl) (by kernel_rfl) (fun _ _ _ h => h) (Or.inl ⟨by rfl, fun W _ => by have hfact := HWB.out; go_simp; first | done | simp [hfact] | omega⟩) hHeld ?_
  simp only [Act.put, List.getElem_toArray, List.getElem_cons_zero, List.getElem_cons_succ, List.setIfInBounds_toArray, List.set_cons_succ, List.set_cons_zero]
  refine wpAnyH_take (i := 15) (v := .int .i64 (NB : Nat)) rfl (by kernel_rfl) (by kernel_rfl) (by kernel_rfl) (fun _ _ _ h => h) (Or.inl ⟨by rfl, fun W _ => by go_simp⟩) hHeld ?_
  simp only [Act.put, List.getElem_toArray, List.getElem_cons_zero, List.getElem_cons_succ, List.setIfInBounds_toArray, List.set_cons_succ, List.set_cons_zero]
  obtain ⟨wx, HWX⟩ : ∃ x, Hid (w3.drew = x) := ⟨_, rfl⟩
  rw [HWX.out] at hHeld ⊢
  have hH0 := hHeld
  refine wpAnyH_ready (rs := [4]) (by kernel_rfl) (by simp) ?_
  refine AllReadyH.cons rfl (fun KC hKC => ?_) AllReadyH.nil
  go_simp
  have hq1 := below_tr hH0 ((below_walk wx (.cells #[.int .i64 (K : Nat)] 3)).mono hH0.size)
  refine hKC.out _ _ hq1 (fun hHeld => ?_)
  clear hKC KC
  try simp only [Act.put, List.getElem_toArray, List.getElem_cons_zero, List.getElem_cons_succ, List.setIfInBounds_toArray, List.set_cons_succ, List.set_cons_zero]
  refine wpAnyH_ready (rs := [5]) (by kernel_rfl) (by simp) ?_
  refine AllReadyH.cons rfl (fun KC hKC => ?_) AllReadyH.nil
  go_simp
  refine (putCounts_any nS _ [] [K] _ (srcNil _) (nums_one wx K) (by simp; omega) (by simp) (by simp)).mono ?_
  rintro e w4 ⟨v4, rfl, hs4, hb4⟩
  have hs4b : Src w4 v4 (sn K) := by simpa [sns] using hs4
  have HS4 := hid hs4b
  have hq2 := below_tr hq1 (hb4.mono hq1.size)
  obtain ⟨a4, c4, e4⟩ := src_shape hs4b
  subst e4
  clear hs4 hs4b hb4
  go_wp2_with fail
  refine hKC.out _ _ hq2 (fun hHeld => ?_)
  clear hKC KC
  try simp only [Act.put, List.getElem_toArray, List.getElem_cons_zero, List.getElem_cons_succ, List.setIfInBounds_toArray, List.set_cons_succ, List.set_cons_zero]
  refine wpAnyH_ready (rs := [7]) (by kernel_rfl) (by simp) ?_
  refine AllReadyH.cons rfl (fun KC hKC => ?_) AllReadyH.nil
  go_simp
  refine (HLAY.out w4 _ (sn K) HS4.out (by have := sn_length_le K; omega) (HSB2.out.below hq2)).mono ?_
  rintro e w5 ⟨v5, rfl, hs5, hb5⟩
  have hq3 := below_tr hq2 (hb5.mono hq2.size)
  obtain ⟨a5, c5, e5⟩ := src_shape hs5
  rw [show (sn K ++ L0).length = M from HM.out] at e5
  subst e5
  clear hs5 hb5
  go_wp2_with fail
  refine hKC.out _ _ hq3 (fun hHeld => ?_)
  clear hKC KC
  try simp only [Act.put, List.getElem_toArray, List.getElem_cons_zero, List.getElem_cons_succ, List.setIfInBounds_toArray, List.set_cons_succ, List.set_cons_zero]
  refine wpAnyH_take (i := 8) (v := .int .i64 (M : Nat)) rfl (by kernel_rfl) (by kernel_rfl) (by kernel_rfl) (fun _ _ _ h => h) (Or.inl ⟨by rfl, fun W _ => by go_simp⟩) hHeld ?_
  simp only [Act.put, List.getElem_toArray, List.getElem_cons_zero, List.getElem_cons_succ, List.setIfInBounds_toArray, List.set_cons_succ, List.set_cons_zero]
  refine wpAnyH_ready (rs := [11]) (by kernel_rfl) (by simp) ?_
  refine AllReadyH.cons rfl (fun KC hKC => ?_) AllReadyH.nil
  go_simp
  refine (size_any NB w5 (by omega)).mono ?_
  rintro e wz ⟨rfl, ez⟩
  have ey := ez.symm
  subst ey
  rw [HSB.out]
  go_wp2_with fail
  refine hKC.out _ _ hq3 (fun hHeld => ?_)
  clear hKC KC
  try simp only [Act.put, List.getElem_toArray, List.getElem_cons_zero, List.getElem_cons_succ, List.setIfInBounds_toArray, List.set_cons_succ, List.set_cons_zero]
  refine wpAnyH_take (i := 12) (v := .int .i64 ((M : Int) + (SB : Int))) rfl (by kernel_rfl) (by kernel_rfl) (by kernel_rfl) (fun _ _ _ h => h) (Or.inl ⟨by rfl, fun W _ => by have hfact := HW1.out; go_simp; first | done | simp [hfact] | omega⟩) hHeld ?_
  simp only [Act.put, List.getElem_toArray, List.getElem_cons_zero, List.getElem_cons_succ, List.setIfInBounds_toArray, List.set_cons_succ, List.set_cons_zero]
  refine wpAnyH_ready (rs := [13]) (by kernel_rfl) (by simp) ?_
  refine AllReadyH.cons rfl (fun KC hKC => ?_) AllReadyH.nil
  go_simp
  refine (size_zero w5).mono ?_
  rintro e wz ⟨rfl, ez⟩
  have ey := ez.symm
  subst ey
  go_wp2_with fail
  refine hKC.out _ _ hq3 (fun hHeld => ?_)
  clear hKC KC
  try simp only [Act.put, List.getElem_toArray, List.getElem_cons_zero, List.getElem_cons_succ, List.setIfInBounds_toArray, List.set_cons_succ, List.set_cons_zero]
  refine wpAnyH_take (i := 14) (v := .int .i64 ((M : Int) + (SB : Int) - 1)) rfl (by kernel_rfl) (by kernel_rfl) (by kernel_rfl) (fun _ _ _ h => h) (Or.inl ⟨by rfl, fun W _ => by have hfact := HW2.out; go_simp; first | done | simp [hfact] | omega⟩) hHeld ?_
  simp only [Act.put, List.getElem_toArray, List.getElem_cons_zero, List.getElem_cons_succ, List.setIfInBounds_toArray, List.set_cons_succ, List.set_cons_zero]
  refine wpAnyH_take (i := 16) (v := .int .i64 ((M : Int) + (SB : Int) - 1 + (NB : Int))) rfl (by kernel_rfl) (by kernel_rfl) (by kernel_rfl) (fun _ _ _ h => h) (Or.inl ⟨by rfl, fun W _ => by have hfact := HW3.out; go_simp; first | done | simp [hfact] | omega⟩) hHeld ?_
  simp only [Act.put, List.getElem_toArray, List.getElem_cons_zero, List.getElem_cons_succ, List.setIfInBounds_toArray, List.set_cons_succ, List.set_cons_zero]
  refine wpAnyH_take (i := 17) (v := .int .i64 ((M : Int) + (SB : Int) - 1 + (NB : Int))) rfl (by kernel_rfl) (by kernel_rfl) (by kernel_rfl) (fun _ _ _ h => h) (Or.inl ⟨by rfl, fun W _ => by go_simp⟩) hHeld ?_
  simp only [Act.put, List.getElem_toArray, List.getElem_cons_zero, List.getElem_cons_succ, List.setIfInBounds_toArray, List.set_cons_succ, List.set_cons_zero]
  refine wpAnyH_done (by kernel_rfl) ?_ _
  simp only [noPanic]
  clear hHeld
  go_wp2
  go_ret
  exact ⟨by rw [HM.out, HNL.out, HSB.out]; first | done | rfl, below_then HB3.out hq3⟩

set_option maxRecDepth 100000 in
set_option maxHeartbeats 8000000 in
theorem ksize3_any (f : Fr) (va : Value) (K : Nat) (L0 : List UInt8) (w : World) (hf : f.tool.length = 32) (ha : Strs w va f.args) (hk : f.kind = (K : Int)) (hK : K ≤ 6) (hB : f.body.length ≤ 140737488355327) (hL0 : L0.length ≤ 1000000)
    (hlay : ∀ W vb bs, Src W vb bs → bs.length ≤ 1000 → Strs W va f.args → Calls Tryz.prog 129 #[vb, .agg (fcells (noBody f) va).toArray] W fun e w' => ∃ v, e = .returned v ∧ Src w' v (bs ++ L0) ∧ Below W.heap.size W w') :
    Calls Tryz.prog 109 #[.agg k3.toArray, .agg (fcells f va).toArray] w fun e w' => e = .returned (.int .i64 (((sn K ++ L0).length : Int) + ((sn f.body.length).length : Int) - 1 + (f.body.length : Int))) ∧ Below w.heap.size w w' := by
  have HNB := hid (hp_two w (.cells k3.toArray 135) (.cells (fcells f va).toArray 30))
  have HBL := hid (below_walk2 w (.cells k3.toArray 135) (.cells (fcells f va).toArray 30))
  have HZ : Hid ((w.alloc (.cells k3.toArray 135)).heap.size = w.heap.size + 1) := hid (by simp)
  have HF := hid hf
  have HLAY := hid hlay
  have HKK := hid hk
  have hsb := sn_length_le f.body.length
  have hsk := sn_length_le K
  obtain ⟨M, HM⟩ : ∃ M, Hid ((sn K ++ L0).length = M) := ⟨_, rfl⟩
  obtain ⟨SB, HSB⟩ : ∃ M, Hid ((sn f.body.length).length = M) := ⟨_, rfl⟩
  have hM : M ≤ 1000010 := by have := HM.out; rw [List.length_append] at this; omega
  rw [HSB.out] at hsb
  have HSA := hid ha
  have HFN := hid (fcells_noBody f va hf)
  have HSZ := hid (frame_size (noBody f) va hf)
  have hmk := mk_size f.body
  clear hf hlay hk ha
  go_enter Tryz.func109, Tryz.ntmps109
  go_upto_region 1 with fail
  try rw [HZ.out]
  generalize (w.alloc (.cells k3.toArray 135)).alloc (.cells (fcells f va).toArray 30) = w2 at HNB HBL ⊢
  have x41 := (Fb.of HNB.out.2 HF.out).bd
  have f41 := row_fz HNB.out.2 41
  go_upto_region 3 with fail
  have HN3 := hid (show (w2.setCell ⟨w.heap.size + 1, 41, none⟩ (.string ⟨#[]⟩)).heap[w.heap.size + 1]? = some (.cells (fcells (noBody f) va).toArray 30 (0, 0)) by rw [← HFN.out]; exact blk_set HNB.out.2 _)
  have HN1 := hid (show (w2.setCell ⟨w.heap.size + 1, 41, none⟩ (.string ⟨#[]⟩)).heap[w.heap.size]? = some (.cells k3.toArray 135 (0, 0)) from (Below.heap_setCell w2 _ _ w.heap.size (by simp)).trans HNB.out.1)
  have HB3 := hid (show Below w.heap.size w (w2.setCell ⟨w.heap.size + 1, 41, none⟩ (.string ⟨#[]⟩)) from HBL.out.setCell (by simp) _)
  have HSB2 := hid (show Strs (w2.setCell ⟨w.heap.size + 1, 41, none⟩ (.string ⟨#[]⟩)) va f.args from (HSA.out.below HB3.out))
  generalize w2.setCell ⟨w.heap.size + 1, 41, none⟩ (.string ⟨#[]⟩) = w3 at HN3 HN1 HB3 HSB2 ⊢
  clear x41 f41 HNB HBL HSA
  have HL1 := hid (hp_lt HN1.out)
  have HL2 := hid (hp_lt HN3.out)
  have HC3 : Hid (w3.cell? ⟨w.heap.size, 3, none⟩ = some (.func (.func 129) #[] #[])) := hid (by rw [cell_of_row w3 w.heap.size 3 _ _ _ HN1.out]; rfl)
  have HC0 : Hid (w3.cell? ⟨w.heap.size + 1, 0, none⟩ = some (.int .i64 (K : Nat))) := hid (by have h9 := (Fb.of HN3.out HF.out).k; rw [show (noBody f).kind = f.kind from rfl, HKK.out] at h9; exact h9)
  have HRW := hid (range_row HN3.out)
  generalize fcells (noBody f) va = F0 at *
  obtain ⟨NB, HNL⟩ : ∃ n, Hid (f.body.length = n) := ⟨_, rfl⟩
  rw [HNL.out] at hB HSB ⊢
  have HWB := hid (show IntKind.u64.wrap (NB : Int) = (NB : Int) by rw [IntKind.wrap_u64]; omega)
  have HW1 := hid (show IntKind.i64.wrap ((M : Int) + (SB : Int)) = (M : Int) + (SB : Int) by rw [IntKind.wrap_i64]; omega)
  have HW2 := hid (show IntKind.i64.wrap ((M : Int) + (SB : Int) - 1) = (M : Int) + (SB : Int) - 1 by rw [IntKind.wrap_i64]; omega)
  have HW3 := hid (show IntKind.i64.wrap ((M : Int) + (SB : Int) - 1 + (NB : Int)) = (M : Int) + (SB : Int) - 1 + (NB : Int) by rw [IntKind.wrap_i64]; omega)
  refine wp_noPanic (wp_region_held_drew (S := fun W => Below w3.heap.size w3 W) (by kernel_rfl) ⟨rfl, rfl, rfl, Nat.le_refl _, fun _ _ => rfl⟩ ?_)
  intro hHeld
  refine wpAnyH_take (i := 0) (v := .pointer (some ⟨w.heap.size, 3, none⟩)) rfl (by kernel_rfl) (by kernel_rfl) (by kernel_rfl) (fun _ _ _ h => h) (Or.inl ⟨by rfl, fun W _ => by go_simp⟩) hHeld ?_
  simp only [Act.put, List.getElem_toArray, List.getElem_cons_zero, List.setIfInBounds_toArray, List.set_cons_succ, List.set_cons_zero]
  refine wpAnyH_take (i := 1) (v := .func (.func 129) #[] #[]) rfl (by kernel_rfl) (by kernel_rfl) (by kernel_rfl) (fun _ _ _ h => h) (Or.inl ⟨by rfl, fun W hW => by have hcell := (hW.cell (p := ⟨w.heap.size, 3, none⟩) HL1.out).trans HC3.out; clear hW; go_simp⟩) hHeld ?_
  simp only [Act.put, List.getElem_toArray, List.getElem_cons_zero, List.getElem_cons_succ, List.setIfInBounds_toArray, List.set_cons_succ, List.set_cons_zero]
  refine wpAnyH_take (i := 2) (v := .pointer (some ⟨w.heap.size + 1, 0, none⟩)) rfl (by kernel_rfl) (by kernel_rfl) (by kernel_rfl) (fun _ _ _ h => h) (Or.inl ⟨by rfl, fun W _ => by go_simp⟩) hHeld ?_
  simp only [Act.put, List.getElem_toArray, List.getElem_cons_zero, List.getElem_cons_succ, List.setIfInBounds_toArray, List.set_cons_succ, List.set_cons_zero]
  refine wpAnyH_take (i := 3) (v := .int .i64 (K : Nat)) rfl (by kernel_rfl) (by kernel_rfl) (by kernel_rfl) (fun _ _ _ h => h) (Or.inl ⟨by rfl, fun W hW => by have hcell := (hW.cell (p := ⟨w.heap.size + 1, 0, none⟩) HL2.out).trans HC0.out; clear hW; go_simp⟩) hHeld ?_
  simp only [Act.put, List.getElem_toArray, List.getElem_cons_zero, List.getElem_cons_succ, List.setIfInBounds_toArray, List.set_cons_succ, List.set_cons_zero]
  refine wpAnyH_take (i := 6) (v := .agg F0.toArray) rfl (by kernel_rfl) (by kernel_rfl) (by kernel_rfl) (fun _ _ _ h => h) (yieldsIf_load_mid (by rfl) 30 (.tmp 3) rfl (w.heap.size + 1) 0 rfl F0 _ (fun W hW => fun j v hv => (hW.cell (p := ⟨w.heap.size + 1, 0 + j, none⟩) HL2.out).trans (HRW.out j v hv)) Tryz.underlying30 rfl HSZ.out) hHeld ?_
  simp only [Act.put, List.getElem_toArray, List.getElem_cons_zero, List.getElem_cons_succ, List.setIfInBounds_toArray, List.set_cons_succ, List.set_cons_zero]
  refine wpAnyH_take (i := 9) (v := .int .i64 (NB : Nat)) rfl (by kernel_rfl) (by kernel_rfl) (by kernel_rfl) (fun _ _ _ h => h) (Or.inl ⟨by rfl, fun W _ => by go_simp⟩) hHeld ?_
  simp only [Act.put, List.getElem_toArray, List.getElem_cons_zero, List.getElem_cons_succ, List.setIfInBounds_toArray, List.set_cons_succ, List.set_cons_zero]
  refine wpAnyH_take (i := 10) (v := .int .u64 (NB : Nat)) rfl (by kernel_rfl) (by kernel_rfl) (by kernel_rfl) (fun _ _ _ h => h) (Or.inl ⟨by rfl, fun W _ => by have hfact := HWB.out; go_simp; first | done | simp [hfact] | omega⟩) hHeld ?_
  simp only [Act.put, List.getElem_toArray, List.getElem_cons_zero, List.getElem_cons_succ, List.setIfInBounds_toArray, List.set_cons_succ, List.set_cons_zero]
  refine wpAnyH_take (i := 15) (v := .int .i64 (NB : Nat)) rfl (by kernel_rfl) (by kernel_rfl) (by kernel_rfl) (fun _ _ _ h => h) (Or.inl ⟨by rfl, fun W _ => by go_simp⟩) hHeld ?_
  simp only [Act.put, List.getElem_toArray, List.getElem_cons_zero, List.getElem_cons_succ, List.setIfInBounds_toArray, List.set_cons_succ, List.set_cons_zero]
  obtain ⟨wx, HWX⟩ : ∃ x, Hid (w3.drew = x) := ⟨_, rfl⟩
  rw [HWX.out] at hHeld ⊢
  have hH0 := hHeld
  refine wpAnyH_ready (rs := [4]) (by kernel_rfl) (by simp) ?_
  refine AllReadyH.cons rfl (fun KC hKC => ?_) AllReadyH.nil
  go_simp
  have hq1 := below_tr hH0 ((below_walk wx (.cells #[.int .i64 (K : Nat)] 3)).mono hH0.size)
  refine hKC.out _ _ hq1 (fun hHeld => ?_)
  clear hKC KC
  try simp only [Act.put, List.getElem_toArray, List.getElem_cons_zero, List.getElem_cons_succ, List.setIfInBounds_toArray, List.set_cons_succ, List.set_cons_zero]
  refine wpAnyH_ready (rs := [5]) (by kernel_rfl) (by simp) ?_
  refine AllReadyH.cons rfl (fun KC hKC => ?_) AllReadyH.nil
  go_simp
  refine (putCounts_any nS _ [] [K] _ (srcNil _) (nums_one wx K) (by simp; omega) (by simp) (by simp)).mono ?_
  rintro e w4 ⟨v4, rfl, hs4, hb4⟩
  have hs4b : Src w4 v4 (sn K) := by simpa [sns] using hs4
  have HS4 := hid hs4b
  have hq2 := below_tr hq1 (hb4.mono hq1.size)
  obtain ⟨a4, c4, e4⟩ := src_shape hs4b
  subst e4
  clear hs4 hs4b hb4
  go_wp2_with fail
  refine hKC.out _ _ hq2 (fun hHeld => ?_)
  clear hKC KC
  try simp only [Act.put, List.getElem_toArray, List.getElem_cons_zero, List.getElem_cons_succ, List.setIfInBounds_toArray, List.set_cons_succ, List.set_cons_zero]
  refine wpAnyH_ready (rs := [7]) (by kernel_rfl) (by simp) ?_
  refine AllReadyH.cons rfl (fun KC hKC => ?_) AllReadyH.nil
  go_simp
  refine (HLAY.out w4 _ (sn K) HS4.out (by have := sn_length_le K; omega) (HSB2.out.below hq2)).mono ?_
  rintro e w5 ⟨v5, rfl, hs5, hb5⟩
  have hq3 := below_tr hq2 (hb5.mono hq2.size)
  obtain ⟨a5, c5, e5⟩ := src_shape hs5
  rw [show (sn K ++ L0).length = M from HM.out] at e5
  subst e5
  clear hs5 hb5
  go_wp2_with fail
  refine hKC.out _ _ hq3 (fun hHeld => ?_)
  clear hKC KC
  try simp only [Act.put, List.getElem_toArray, List.getElem_cons_zero, List.getElem_cons_succ, List.setIfInBounds_toArray, List.set_cons_succ, List.set_cons_zero]
  refine wpAnyH_take (i := 8) (v := .int .i64 (M : Nat)) rfl (by kernel_rfl) (by kernel_rfl) (by kernel_rfl) (fun _ _ _ h => h) (Or.inl ⟨by rfl, fun W _ => by go_simp⟩) hHeld ?_
  simp only [Act.put, List.getElem_toArray, List.getElem_cons_zero, List.getElem_cons_succ, List.setIfInBounds_toArray, List.set_cons_succ, List.set_cons_zero]
  refine wpAnyH_ready (rs := [11]) (by kernel_rfl) (by simp) ?_
  refine AllReadyH.cons rfl (fun KC hKC => ?_) AllReadyH.nil
  go_simp
  refine (size_any NB w5 (by omega)).mono ?_
  rintro e wz ⟨rfl, ez⟩
  have ey := ez.symm
  subst ey
  rw [HSB.out]
  go_wp2_with fail
  refine hKC.out _ _ hq3 (fun hHeld => ?_)
  clear hKC KC
  try simp only [Act.put, List.getElem_toArray, List.getElem_cons_zero, List.getElem_cons_succ, List.setIfInBounds_toArray, List.set_cons_succ, List.set_cons_zero]
  refine wpAnyH_take (i := 12) (v := .int .i64 ((M : Int) + (SB : Int))) rfl (by kernel_rfl) (by kernel_rfl) (by kernel_rfl) (fun _ _ _ h => h) (Or.inl ⟨by rfl, fun W _ => by have hfact := HW1.out; go_simp; first | done | simp [hfact] | omega⟩) hHeld ?_
  simp only [Act.put, List.getElem_toArray, List.getElem_cons_zero, List.getElem_cons_succ, List.setIfInBounds_toArray, List.set_cons_succ, List.set_cons_zero]
  refine wpAnyH_ready (rs := [13]) (by kernel_rfl) (by simp) ?_
  refine AllReadyH.cons rfl (fun KC hKC => ?_) AllReadyH.nil
  go_simp
  refine (size_zero w5).mono ?_
  rintro e wz ⟨rfl, ez⟩
  have ey := ez.symm
  subst ey
  go_wp2_with fail
  refine hKC.out _ _ hq3 (fun hHeld => ?_)
  clear hKC KC
  try simp only [Act.put, List.getElem_toArray, List.getElem_cons_zero, List.getElem_cons_succ, List.setIfInBounds_toArray, List.set_cons_succ, List.set_cons_zero]
  refine wpAnyH_take (i := 14) (v := .int .i64 ((M : Int) + (SB : Int) - 1)) rfl (by kernel_rfl) (by kernel_rfl) (by kernel_rfl) (fun _ _ _ h => h) (Or.inl ⟨by rfl, fun W _ => by have hfact := HW2.out; go_simp; first | done | simp [hfact] | omega⟩) hHeld ?_
  simp only [Act.put, List.getElem_toArray, List.getElem_cons_zero, List.getElem_cons_succ, List.setIfInBounds_toArray, List.set_cons_succ, List.set_cons_zero]
  refine wpAnyH_take (i := 16) (v := .int .i64 ((M : Int) + (SB : Int) - 1 + (NB : Int))) rfl (by kernel_rfl) (by kernel_rfl) (by kernel_rfl) (fun _ _ _ h => h) (Or.inl ⟨by rfl, fun W _ => by have hfact := HW3.out; go_simp; first | done | simp [hfact] | omega⟩) hHeld ?_
  simp only [Act.put, List.getElem_toArray, List.getElem_cons_zero, List.getElem_cons_succ, List.setIfInBounds_toArray, List.set_cons_succ, List.set_cons_zero]
  refine wpAnyH_take (i := 17) (v := .int .i64 ((M : Int) + (SB : Int) - 1 + (NB : Int))) rfl (by kernel_rfl) (by kernel_rfl) (by kernel_rfl) (fun _ _ _ h => h) (Or.inl ⟨by rfl, fun W _ => by go_simp⟩) hHeld ?_
  simp only [Act.put, List.getElem_toArray, List.getElem_cons_zero, List.getElem_cons_succ, List.setIfInBounds_toArray, List.set_cons_succ, List.set_cons_zero]
  refine wpAnyH_done (by kernel_rfl) ?_ _
  simp only [noPanic]
  clear hHeld
  go_wp2
  go_ret
  exact ⟨by rw [HM.out, HNL.out, HSB.out]; first | done | rfl, below_then HB3.out hq3⟩

set_option maxRecDepth 100000 in
set_option maxHeartbeats 8000000 in
theorem ksize4_any (f : Fr) (va : Value) (K : Nat) (L0 : List UInt8) (w : World) (hf : f.tool.length = 32) (ha : Strs w va f.args) (hk : f.kind = (K : Int)) (hK : K ≤ 6) (hB : f.body.length ≤ 140737488355327) (hL0 : L0.length ≤ 1000000)
    (hlay : ∀ W vb bs, Src W vb bs → bs.length ≤ 1000 → Strs W va f.args → Calls Tryz.prog 133 #[vb, .agg (fcells (noBody f) va).toArray] W fun e w' => ∃ v, e = .returned v ∧ Src w' v (bs ++ L0) ∧ Below W.heap.size W w') :
    Calls Tryz.prog 109 #[.agg k4.toArray, .agg (fcells f va).toArray] w fun e w' => e = .returned (.int .i64 (((sn K ++ L0).length : Int) + ((sn f.body.length).length : Int) - 1 + (f.body.length : Int))) ∧ Below w.heap.size w w' := by
  have HNB := hid (hp_two w (.cells k4.toArray 135) (.cells (fcells f va).toArray 30))
  have HBL := hid (below_walk2 w (.cells k4.toArray 135) (.cells (fcells f va).toArray 30))
  have HZ : Hid ((w.alloc (.cells k4.toArray 135)).heap.size = w.heap.size + 1) := hid (by simp)
  have HF := hid hf
  have HLAY := hid hlay
  have HKK := hid hk
  have hsb := sn_length_le f.body.length
  have hsk := sn_length_le K
  obtain ⟨M, HM⟩ : ∃ M, Hid ((sn K ++ L0).length = M) := ⟨_, rfl⟩
  obtain ⟨SB, HSB⟩ : ∃ M, Hid ((sn f.body.length).length = M) := ⟨_, rfl⟩
  have hM : M ≤ 1000010 := by have := HM.out; rw [List.length_append] at this; omega
  rw [HSB.out] at hsb
  have HSA := hid ha
  have HFN := hid (fcells_noBody f va hf)
  have HSZ := hid (frame_size (noBody f) va hf)
  have hmk := mk_size f.body
  clear hf hlay hk ha
  go_enter Tryz.func109, Tryz.ntmps109
  go_upto_region 1 with fail
  try rw [HZ.out]
  generalize (w.alloc (.cells k4.toArray 135)).alloc (.cells (fcells f va).toArray 30) = w2 at HNB HBL ⊢
  have x41 := (Fb.of HNB.out.2 HF.out).bd
  have f41 := row_fz HNB.out.2 41
  go_upto_region 3 with fail
  have HN3 := hid (show (w2.setCell ⟨w.heap.size + 1, 41, none⟩ (.string ⟨#[]⟩)).heap[w.heap.size + 1]? = some (.cells (fcells (noBody f) va).toArray 30 (0, 0)) by rw [← HFN.out]; exact blk_set HNB.out.2 _)
  have HN1 := hid (show (w2.setCell ⟨w.heap.size + 1, 41, none⟩ (.string ⟨#[]⟩)).heap[w.heap.size]? = some (.cells k4.toArray 135 (0, 0)) from (Below.heap_setCell w2 _ _ w.heap.size (by simp)).trans HNB.out.1)
  have HB3 := hid (show Below w.heap.size w (w2.setCell ⟨w.heap.size + 1, 41, none⟩ (.string ⟨#[]⟩)) from HBL.out.setCell (by simp) _)
  have HSB2 := hid (show Strs (w2.setCell ⟨w.heap.size + 1, 41, none⟩ (.string ⟨#[]⟩)) va f.args from (HSA.out.below HB3.out))
  generalize w2.setCell ⟨w.heap.size + 1, 41, none⟩ (.string ⟨#[]⟩) = w3 at HN3 HN1 HB3 HSB2 ⊢
  clear x41 f41 HNB HBL HSA
  have HL1 := hid (hp_lt HN1.out)
  have HL2 := hid (hp_lt HN3.out)
  have HC3 : Hid (w3.cell? ⟨w.heap.size, 3, none⟩ = some (.func (.func 133) #[] #[])) := hid (by rw [cell_of_row w3 w.heap.size 3 _ _ _ HN1.out]; rfl)
  have HC0 : Hid (w3.cell? ⟨w.heap.size + 1, 0, none⟩ = some (.int .i64 (K : Nat))) := hid (by have h9 := (Fb.of HN3.out HF.out).k; rw [show (noBody f).kind = f.kind from rfl, HKK.out] at h9; exact h9)
  have HRW := hid (range_row HN3.out)
  generalize fcells (noBody f) va = F0 at *
  obtain ⟨NB, HNL⟩ : ∃ n, Hid (f.body.length = n) := ⟨_, rfl⟩
  rw [HNL.out] at hB HSB ⊢
  have HWB := hid (show IntKind.u64.wrap (NB : Int) = (NB : Int) by rw [IntKind.wrap_u64]; omega)
  have HW1 := hid (show IntKind.i64.wrap ((M : Int) + (SB : Int)) = (M : Int) + (SB : Int) by rw [IntKind.wrap_i64]; omega)
  have HW2 := hid (show IntKind.i64.wrap ((M : Int) + (SB : Int) - 1) = (M : Int) + (SB : Int) - 1 by rw [IntKind.wrap_i64]; omega)
  have HW3 := hid (show IntKind.i64.wrap ((M : Int) + (SB : Int) - 1 + (NB : Int)) = (M : Int) + (SB : Int) - 1 + (NB : Int) by rw [IntKind.wrap_i64]; omega)
  refine wp_noPanic (wp_region_held_drew (S := fun W => Below w3.heap.size w3 W) (by kernel_rfl) ⟨rfl, rfl, rfl, Nat.le_refl _, fun _ _ => rfl⟩ ?_)
  intro hHeld
  refine wpAnyH_take (i := 0) (v := .pointer (some ⟨w.heap.size, 3, none⟩)) rfl (by kernel_rfl) (by kernel_rfl) (by kernel_rfl) (fun _ _ _ h => h) (Or.inl ⟨by rfl, fun W _ => by go_simp⟩) hHeld ?_
  simp only [Act.put, List.getElem_toArray, List.getElem_cons_zero, List.setIfInBounds_toArray, List.set_cons_succ, List.set_cons_zero]
  refine wpAnyH_take (i := 1) (v := .func (.func 133) #[] #[]) rfl (by kernel_rfl) (by kernel_rfl) (by kernel_rfl) (fun _ _ _ h => h) (Or.inl ⟨by rfl, fun W hW => by have hcell := (hW.cell (p := ⟨w.heap.size, 3, none⟩) HL1.out).trans HC3.out; clear hW; go_simp⟩) hHeld ?_
  simp only [Act.put, List.getElem_toArray, List.getElem_cons_zero, List.getElem_cons_succ, List.setIfInBounds_toArray, List.set_cons_succ, List.set_cons_zero]
  refine wpAnyH_take (i := 2) (v := .pointer (some ⟨w.heap.size + 1, 0, none⟩)) rfl (by kernel_rfl) (by kernel_rfl) (by kernel_rfl) (fun _ _ _ h => h) (Or.inl ⟨by rfl, fun W _ => by go_simp⟩) hHeld ?_
  simp only [Act.put, List.getElem_toArray, List.getElem_cons_zero, List.getElem_cons_succ, List.setIfInBounds_toArray, List.set_cons_succ, List.set_cons_zero]
  refine wpAnyH_take (i := 3) (v := .int .i64 (K : Nat)) rfl (by kernel_rfl) (by kernel_rfl) (by kernel_rfl) (fun _ _ _ h => h) (Or.inl ⟨by rfl, fun W hW => by have hcell := (hW.cell (p := ⟨w.heap.size + 1, 0, none⟩) HL2.out).trans HC0.out; clear hW; go_simp⟩) hHeld ?_
  simp only [Act.put, List.getElem_toArray, List.getElem_cons_zero, List.getElem_cons_succ, List.setIfInBounds_toArray, List.set_cons_succ, List.set_cons_zero]
  refine wpAnyH_take (i := 6) (v := .agg F0.toArray) rfl (by kernel_rfl) (by kernel_rfl) (by kernel_rfl) (fun _ _ _ h => h) (yieldsIf_load_mid (by rfl) 30 (.tmp 3) rfl (w.heap.size + 1) 0 rfl F0 _ (fun W hW => fun j v hv => (hW.cell (p := ⟨w.heap.size + 1, 0 + j, none⟩) HL2.out).trans (HRW.out j v hv)) Tryz.underlying30 rfl HSZ.out) hHeld ?_
  simp only [Act.put, List.getElem_toArray, List.getElem_cons_zero, List.getElem_cons_succ, List.setIfInBounds_toArray, List.set_cons_succ, List.set_cons_zero]
  refine wpAnyH_take (i := 9) (v := .int .i64 (NB : Nat)) rfl (by kernel_rfl) (by kernel_rfl) (by kernel_rfl) (fun _ _ _ h => h) (Or.inl ⟨by rfl, fun W _ => by go_simp⟩) hHeld ?_
  simp only [Act.put, List.getElem_toArray, List.getElem_cons_zero, List.getElem_cons_succ, List.setIfInBounds_toArray, List.set_cons_succ, List.set_cons_zero]
  refine wpAnyH_take (i := 10) (v := .int .u64 (NB : Nat)) rfl (by kernel_rfl) (by kernel_rfl) (by kernel_rfl) (fun _ _ _ h => h) (Or.inl ⟨by rfl, fun W _ => by have hfact := HWB.out; go_simp; first | done | simp [hfact] | omega⟩) hHeld ?_
  simp only [Act.put, List.getElem_toArray, List.getElem_cons_zero, List.getElem_cons_succ, List.setIfInBounds_toArray, List.set_cons_succ, List.set_cons_zero]
  refine wpAnyH_take (i := 15) (v := .int .i64 (NB : Nat)) rfl (by kernel_rfl) (by kernel_rfl) (by kernel_rfl) (fun _ _ _ h => h) (Or.inl ⟨by rfl, fun W _ => by go_simp⟩) hHeld ?_
  simp only [Act.put, List.getElem_toArray, List.getElem_cons_zero, List.getElem_cons_succ, List.setIfInBounds_toArray, List.set_cons_succ, List.set_cons_zero]
  obtain ⟨wx, HWX⟩ : ∃ x, Hid (w3.drew = x) := ⟨_, rfl⟩
  rw [HWX.out] at hHeld ⊢
  have hH0 := hHeld
  refine wpAnyH_ready (rs := [4]) (by kernel_rfl) (by simp) ?_
  refine AllReadyH.cons rfl (fun KC hKC => ?_) AllReadyH.nil
  go_simp
  have hq1 := below_tr hH0 ((below_walk wx (.cells #[.int .i64 (K : Nat)] 3)).mono hH0.size)
  refine hKC.out _ _ hq1 (fun hHeld => ?_)
  clear hKC KC
  try simp only [Act.put, List.getElem_toArray, List.getElem_cons_zero, List.getElem_cons_succ, List.setIfInBounds_toArray, List.set_cons_succ, List.set_cons_zero]
  refine wpAnyH_ready (rs := [5]) (by kernel_rfl) (by simp) ?_
  refine AllReadyH.cons rfl (fun KC hKC => ?_) AllReadyH.nil
  go_simp
  refine (putCounts_any nS _ [] [K] _ (srcNil _) (nums_one wx K) (by simp; omega) (by simp) (by simp)).mono ?_
  rintro e w4 ⟨v4, rfl, hs4, hb4⟩
  have hs4b : Src w4 v4 (sn K) := by simpa [sns] using hs4
  have HS4 := hid hs4b
  have hq2 := below_tr hq1 (hb4.mono hq1.size)
  obtain ⟨a4, c4, e4⟩ := src_shape hs4b
  subst e4
  clear hs4 hs4b hb4
  go_wp2_with fail
  refine hKC.out _ _ hq2 (fun hHeld => ?_)
  clear hKC KC
  try simp only [Act.put, List.getElem_toArray, List.getElem_cons_zero, List.getElem_cons_succ, List.setIfInBounds_toArray, List.set_cons_succ, List.set_cons_zero]
  refine wpAnyH_ready (rs := [7]) (by kernel_rfl) (by simp) ?_
  refine AllReadyH.cons rfl (fun KC hKC => ?_) AllReadyH.nil
  go_simp
  refine (HLAY.out w4 _ (sn K) HS4.out (by have := sn_length_le K; omega) (HSB2.out.below hq2)).mono ?_
  rintro e w5 ⟨v5, rfl, hs5, hb5⟩
  have hq3 := below_tr hq2 (hb5.mono hq2.size)
  obtain ⟨a5, c5, e5⟩ := src_shape hs5
  rw [show (sn K ++ L0).length = M from HM.out] at e5
  subst e5
  clear hs5 hb5
  go_wp2_with fail
  refine hKC.out _ _ hq3 (fun hHeld => ?_)
  clear hKC KC
  try simp only [Act.put, List.getElem_toArray, List.getElem_cons_zero, List.getElem_cons_succ, List.setIfInBounds_toArray, List.set_cons_succ, List.set_cons_zero]
  refine wpAnyH_take (i := 8) (v := .int .i64 (M : Nat)) rfl (by kernel_rfl) (by kernel_rfl) (by kernel_rfl) (fun _ _ _ h => h) (Or.inl ⟨by rfl, fun W _ => by go_simp⟩) hHeld ?_
  simp only [Act.put, List.getElem_toArray, List.getElem_cons_zero, List.getElem_cons_succ, List.setIfInBounds_toArray, List.set_cons_succ, List.set_cons_zero]
  refine wpAnyH_ready (rs := [11]) (by kernel_rfl) (by simp) ?_
  refine AllReadyH.cons rfl (fun KC hKC => ?_) AllReadyH.nil
  go_simp
  refine (size_any NB w5 (by omega)).mono ?_
  rintro e wz ⟨rfl, ez⟩
  have ey := ez.symm
  subst ey
  rw [HSB.out]
  go_wp2_with fail
  refine hKC.out _ _ hq3 (fun hHeld => ?_)
  clear hKC KC
  try simp only [Act.put, List.getElem_toArray, List.getElem_cons_zero, List.getElem_cons_succ, List.setIfInBounds_toArray, List.set_cons_succ, List.set_cons_zero]
  refine wpAnyH_take (i := 12) (v := .int .i64 ((M : Int) + (SB : Int))) rfl (by kernel_rfl) (by kernel_rfl) (by kernel_rfl) (fun _ _ _ h => h) (Or.inl ⟨by rfl, fun W _ => by have hfact := HW1.out; go_simp; first | done | simp [hfact] | omega⟩) hHeld ?_
  simp only [Act.put, List.getElem_toArray, List.getElem_cons_zero, List.getElem_cons_succ, List.setIfInBounds_toArray, List.set_cons_succ, List.set_cons_zero]
  refine wpAnyH_ready (rs := [13]) (by kernel_rfl) (by simp) ?_
  refine AllReadyH.cons rfl (fun KC hKC => ?_) AllReadyH.nil
  go_simp
  refine (size_zero w5).mono ?_
  rintro e wz ⟨rfl, ez⟩
  have ey := ez.symm
  subst ey
  go_wp2_with fail
  refine hKC.out _ _ hq3 (fun hHeld => ?_)
  clear hKC KC
  try simp only [Act.put, List.getElem_toArray, List.getElem_cons_zero, List.getElem_cons_succ, List.setIfInBounds_toArray, List.set_cons_succ, List.set_cons_zero]
  refine wpAnyH_take (i := 14) (v := .int .i64 ((M : Int) + (SB : Int) - 1)) rfl (by kernel_rfl) (by kernel_rfl) (by kernel_rfl) (fun _ _ _ h => h) (Or.inl ⟨by rfl, fun W _ => by have hfact := HW2.out; go_simp; first | done | simp [hfact] | omega⟩) hHeld ?_
  simp only [Act.put, List.getElem_toArray, List.getElem_cons_zero, List.getElem_cons_succ, List.setIfInBounds_toArray, List.set_cons_succ, List.set_cons_zero]
  refine wpAnyH_take (i := 16) (v := .int .i64 ((M : Int) + (SB : Int) - 1 + (NB : Int))) rfl (by kernel_rfl) (by kernel_rfl) (by kernel_rfl) (fun _ _ _ h => h) (Or.inl ⟨by rfl, fun W _ => by have hfact := HW3.out; go_simp; first | done | simp [hfact] | omega⟩) hHeld ?_
  simp only [Act.put, List.getElem_toArray, List.getElem_cons_zero, List.getElem_cons_succ, List.setIfInBounds_toArray, List.set_cons_succ, List.set_cons_zero]
  refine wpAnyH_take (i := 17) (v := .int .i64 ((M : Int) + (SB : Int) - 1 + (NB : Int))) rfl (by kernel_rfl) (by kernel_rfl) (by kernel_rfl) (fun _ _ _ h => h) (Or.inl ⟨by rfl, fun W _ => by go_simp⟩) hHeld ?_
  simp only [Act.put, List.getElem_toArray, List.getElem_cons_zero, List.getElem_cons_succ, List.setIfInBounds_toArray, List.set_cons_succ, List.set_cons_zero]
  refine wpAnyH_done (by kernel_rfl) ?_ _
  simp only [noPanic]
  clear hHeld
  go_wp2
  go_ret
  exact ⟨by rw [HM.out, HNL.out, HSB.out]; first | done | rfl, below_then HB3.out hq3⟩

set_option maxRecDepth 100000 in
set_option maxHeartbeats 8000000 in
theorem ksize5_any (f : Fr) (va : Value) (K : Nat) (L0 : List UInt8) (w : World) (hf : f.tool.length = 32) (ha : Strs w va f.args) (hk : f.kind = (K : Int)) (hK : K ≤ 6) (hB : f.body.length ≤ 140737488355327) (hL0 : L0.length ≤ 1000000)
    (hlay : ∀ W vb bs, Src W vb bs → bs.length ≤ 1000 → Strs W va f.args → Calls Tryz.prog 136 #[vb, .agg (fcells (noBody f) va).toArray] W fun e w' => ∃ v, e = .returned v ∧ Src w' v (bs ++ L0) ∧ Below W.heap.size W w') :
    Calls Tryz.prog 109 #[.agg k5.toArray, .agg (fcells f va).toArray] w fun e w' => e = .returned (.int .i64 (((sn K ++ L0).length : Int) + ((sn f.body.length).length : Int) - 1 + (f.body.length : Int))) ∧ Below w.heap.size w w' := by
  have HNB := hid (hp_two w (.cells k5.toArray 135) (.cells (fcells f va).toArray 30))
  have HBL := hid (below_walk2 w (.cells k5.toArray 135) (.cells (fcells f va).toArray 30))
  have HZ : Hid ((w.alloc (.cells k5.toArray 135)).heap.size = w.heap.size + 1) := hid (by simp)
  have HF := hid hf
  have HLAY := hid hlay
  have HKK := hid hk
  have hsb := sn_length_le f.body.length
  have hsk := sn_length_le K
  obtain ⟨M, HM⟩ : ∃ M, Hid ((sn K ++ L0).length = M) := ⟨_, rfl⟩
  obtain ⟨SB, HSB⟩ : ∃ M, Hid ((sn f.body.length).length = M) := ⟨_, rfl⟩
  have hM : M ≤ 1000010 := by have := HM.out; rw [List.length_append] at this; omega
  rw [HSB.out] at hsb
  have HSA := hid ha
  have HFN := hid (fcells_noBody f va hf)
  have HSZ := hid (frame_size (noBody f) va hf)
  have hmk := mk_size f.body
  clear hf hlay hk ha
  go_enter Tryz.func109, Tryz.ntmps109
  go_upto_region 1 with fail
  try rw [HZ.out]
  generalize (w.alloc (.cells k5.toArray 135)).alloc (.cells (fcells f va).toArray 30) = w2 at HNB HBL ⊢
  have x41 := (Fb.of HNB.out.2 HF.out).bd
  have f41 := row_fz HNB.out.2 41
  go_upto_region 3 with fail
  have HN3 := hid (show (w2.setCell ⟨w.heap.size + 1, 41, none⟩ (.string ⟨#[]⟩)).heap[w.heap.size + 1]? = some (.cells (fcells (noBody f) va).toArray 30 (0, 0)) by rw [← HFN.out]; exact blk_set HNB.out.2 _)
  have HN1 := hid (show (w2.setCell ⟨w.heap.size + 1, 41, none⟩ (.string ⟨#[]⟩)).heap[w.heap.size]? = some (.cells k5.toArray 135 (0, 0)) from (Below.heap_setCell w2 _ _ w.heap.size (by simp)).trans HNB.out.1)
  have HB3 := hid (show Below w.heap.size w (w2.setCell ⟨w.heap.size + 1, 41, none⟩ (.string ⟨#[]⟩)) from HBL.out.setCell (by simp) _)
  have HSB2 := hid (show Strs (w2.setCell ⟨w.heap.size + 1, 41, none⟩ (.string ⟨#[]⟩)) va f.args from (HSA.out.below HB3.out))
  generalize w2.setCell ⟨w.heap.size + 1, 41, none⟩ (.string ⟨#[]⟩) = w3 at HN3 HN1 HB3 HSB2 ⊢
  clear x41 f41 HNB HBL HSA
  have HL1 := hid (hp_lt HN1.out)
  have HL2 := hid (hp_lt HN3.out)
  have HC3 : Hid (w3.cell? ⟨w.heap.size, 3, none⟩ = some (.func (.func 136) #[] #[])) := hid (by rw [cell_of_row w3 w.heap.size 3 _ _ _ HN1.out]; rfl)
  have HC0 : Hid (w3.cell? ⟨w.heap.size + 1, 0, none⟩ = some (.int .i64 (K : Nat))) := hid (by have h9 := (Fb.of HN3.out HF.out).k; rw [show (noBody f).kind = f.kind from rfl, HKK.out] at h9; exact h9)
  have HRW := hid (range_row HN3.out)
  generalize fcells (noBody f) va = F0 at *
  obtain ⟨NB, HNL⟩ : ∃ n, Hid (f.body.length = n) := ⟨_, rfl⟩
  rw [HNL.out] at hB HSB ⊢
  have HWB := hid (show IntKind.u64.wrap (NB : Int) = (NB : Int) by rw [IntKind.wrap_u64]; omega)
  have HW1 := hid (show IntKind.i64.wrap ((M : Int) + (SB : Int)) = (M : Int) + (SB : Int) by rw [IntKind.wrap_i64]; omega)
  have HW2 := hid (show IntKind.i64.wrap ((M : Int) + (SB : Int) - 1) = (M : Int) + (SB : Int) - 1 by rw [IntKind.wrap_i64]; omega)
  have HW3 := hid (show IntKind.i64.wrap ((M : Int) + (SB : Int) - 1 + (NB : Int)) = (M : Int) + (SB : Int) - 1 + (NB : Int) by rw [IntKind.wrap_i64]; omega)
  refine wp_noPanic (wp_region_held_drew (S := fun W => Below w3.heap.size w3 W) (by kernel_rfl) ⟨rfl, rfl, rfl, Nat.le_refl _, fun _ _ => rfl⟩ ?_)
  intro hHeld
  refine wpAnyH_take (i := 0) (v := .pointer (some ⟨w.heap.size, 3, none⟩)) rfl (by kernel_rfl) (by kernel_rfl) (by kernel_rfl) (fun _ _ _ h => h) (Or.inl ⟨by rfl, fun W _ => by go_simp⟩) hHeld ?_
  simp only [Act.put, List.getElem_toArray, List.getElem_cons_zero, List.setIfInBounds_toArray, List.set_cons_succ, List.set_cons_zero]
  refine wpAnyH_take (i := 1) (v := .func (.func 136) #[] #[]) rfl (by kernel_rfl) (by kernel_rfl) (by kernel_rfl) (fun _ _ _ h => h) (Or.inl ⟨by rfl, fun W hW => by have hcell := (hW.cell (p := ⟨w.heap.size, 3, none⟩) HL1.out).trans HC3.out; clear hW; go_simp⟩) hHeld ?_
  simp only [Act.put, List.getElem_toArray, List.getElem_cons_zero, List.getElem_cons_succ, List.setIfInBounds_toArray, List.set_cons_succ, List.set_cons_zero]
  refine wpAnyH_take (i := 2) (v := .pointer (some ⟨w.heap.size + 1, 0, none⟩)) rfl (by kernel_rfl) (by kernel_rfl) (by kernel_rfl) (fun _ _ _ h => h) (Or.inl ⟨by rfl, fun W _ => by go_simp⟩) hHeld ?_
  simp only [Act.put, List.getElem_toArray, List.getElem_cons_zero, List.getElem_cons_succ, List.setIfInBounds_toArray, List.set_cons_succ, List.set_cons_zero]
  refine wpAnyH_take (i := 3) (v := .int .i64 (K : Nat)) rfl (by kernel_rfl) (by kernel_rfl) (by kernel_rfl) (fun _ _ _ h => h) (Or.inl ⟨by rfl, fun W hW => by have hcell := (hW.cell (p := ⟨w.heap.size + 1, 0, none⟩) HL2.out).trans HC0.out; clear hW; go_simp⟩) hHeld ?_
  simp only [Act.put, List.getElem_toArray, List.getElem_cons_zero, List.getElem_cons_succ, List.setIfInBounds_toArray, List.set_cons_succ, List.set_cons_zero]
  refine wpAnyH_take (i := 6) (v := .agg F0.toArray) rfl (by kernel_rfl) (by kernel_rfl) (by kernel_rfl) (fun _ _ _ h => h) (yieldsIf_load_mid (by rfl) 30 (.tmp 3) rfl (w.heap.size + 1) 0 rfl F0 _ (fun W hW => fun j v hv => (hW.cell (p := ⟨w.heap.size + 1, 0 + j, none⟩) HL2.out).trans (HRW.out j v hv)) Tryz.underlying30 rfl HSZ.out) hHeld ?_
  simp only [Act.put, List.getElem_toArray, List.getElem_cons_zero, List.getElem_cons_succ, List.setIfInBounds_toArray, List.set_cons_succ, List.set_cons_zero]
  refine wpAnyH_take (i := 9) (v := .int .i64 (NB : Nat)) rfl (by kernel_rfl) (by kernel_rfl) (by kernel_rfl) (fun _ _ _ h => h) (Or.inl ⟨by rfl, fun W _ => by go_simp⟩) hHeld ?_
  simp only [Act.put, List.getElem_toArray, List.getElem_cons_zero, List.getElem_cons_succ, List.setIfInBounds_toArray, List.set_cons_succ, List.set_cons_zero]
  refine wpAnyH_take (i := 10) (v := .int .u64 (NB : Nat)) rfl (by kernel_rfl) (by kernel_rfl) (by kernel_rfl) (fun _ _ _ h => h) (Or.inl ⟨by rfl, fun W _ => by have hfact := HWB.out; go_simp; first | done | simp [hfact] | omega⟩) hHeld ?_
  simp only [Act.put, List.getElem_toArray, List.getElem_cons_zero, List.getElem_cons_succ, List.setIfInBounds_toArray, List.set_cons_succ, List.set_cons_zero]
  refine wpAnyH_take (i := 15) (v := .int .i64 (NB : Nat)) rfl (by kernel_rfl) (by kernel_rfl) (by kernel_rfl) (fun _ _ _ h => h) (Or.inl ⟨by rfl, fun W _ => by go_simp⟩) hHeld ?_
  simp only [Act.put, List.getElem_toArray, List.getElem_cons_zero, List.getElem_cons_succ, List.setIfInBounds_toArray, List.set_cons_succ, List.set_cons_zero]
  obtain ⟨wx, HWX⟩ : ∃ x, Hid (w3.drew = x) := ⟨_, rfl⟩
  rw [HWX.out] at hHeld ⊢
  have hH0 := hHeld
  refine wpAnyH_ready (rs := [4]) (by kernel_rfl) (by simp) ?_
  refine AllReadyH.cons rfl (fun KC hKC => ?_) AllReadyH.nil
  go_simp
  have hq1 := below_tr hH0 ((below_walk wx (.cells #[.int .i64 (K : Nat)] 3)).mono hH0.size)
  refine hKC.out _ _ hq1 (fun hHeld => ?_)
  clear hKC KC
  try simp only [Act.put, List.getElem_toArray, List.getElem_cons_zero, List.getElem_cons_succ, List.setIfInBounds_toArray, List.set_cons_succ, List.set_cons_zero]
  refine wpAnyH_ready (rs := [5]) (by kernel_rfl) (by simp) ?_
  refine AllReadyH.cons rfl (fun KC hKC => ?_) AllReadyH.nil
  go_simp
  refine (putCounts_any nS _ [] [K] _ (srcNil _) (nums_one wx K) (by simp; omega) (by simp) (by simp)).mono ?_
  rintro e w4 ⟨v4, rfl, hs4, hb4⟩
  have hs4b : Src w4 v4 (sn K) := by simpa [sns] using hs4
  have HS4 := hid hs4b
  have hq2 := below_tr hq1 (hb4.mono hq1.size)
  obtain ⟨a4, c4, e4⟩ := src_shape hs4b
  subst e4
  clear hs4 hs4b hb4
  go_wp2_with fail
  refine hKC.out _ _ hq2 (fun hHeld => ?_)
  clear hKC KC
  try simp only [Act.put, List.getElem_toArray, List.getElem_cons_zero, List.getElem_cons_succ, List.setIfInBounds_toArray, List.set_cons_succ, List.set_cons_zero]
  refine wpAnyH_ready (rs := [7]) (by kernel_rfl) (by simp) ?_
  refine AllReadyH.cons rfl (fun KC hKC => ?_) AllReadyH.nil
  go_simp
  refine (HLAY.out w4 _ (sn K) HS4.out (by have := sn_length_le K; omega) (HSB2.out.below hq2)).mono ?_
  rintro e w5 ⟨v5, rfl, hs5, hb5⟩
  have hq3 := below_tr hq2 (hb5.mono hq2.size)
  obtain ⟨a5, c5, e5⟩ := src_shape hs5
  rw [show (sn K ++ L0).length = M from HM.out] at e5
  subst e5
  clear hs5 hb5
  go_wp2_with fail
  refine hKC.out _ _ hq3 (fun hHeld => ?_)
  clear hKC KC
  try simp only [Act.put, List.getElem_toArray, List.getElem_cons_zero, List.getElem_cons_succ, List.setIfInBounds_toArray, List.set_cons_succ, List.set_cons_zero]
  refine wpAnyH_take (i := 8) (v := .int .i64 (M : Nat)) rfl (by kernel_rfl) (by kernel_rfl) (by kernel_rfl) (fun _ _ _ h => h) (Or.inl ⟨by rfl, fun W _ => by go_simp⟩) hHeld ?_
  simp only [Act.put, List.getElem_toArray, List.getElem_cons_zero, List.getElem_cons_succ, List.setIfInBounds_toArray, List.set_cons_succ, List.set_cons_zero]
  refine wpAnyH_ready (rs := [11]) (by kernel_rfl) (by simp) ?_
  refine AllReadyH.cons rfl (fun KC hKC => ?_) AllReadyH.nil
  go_simp
  refine (size_any NB w5 (by omega)).mono ?_
  rintro e wz ⟨rfl, ez⟩
  have ey := ez.symm
  subst ey
  rw [HSB.out]
  go_wp2_with fail
  refine hKC.out _ _ hq3 (fun hHeld => ?_)
  clear hKC KC
  try simp only [Act.put, List.getElem_toArray, List.getElem_cons_zero, List.getElem_cons_succ, List.setIfInBounds_toArray, List.set_cons_succ, List.set_cons_zero]
  refine wpAnyH_take (i := 12) (v := .int .i64 ((M : Int) + (SB : Int))) rfl (by kernel_rfl) (by kernel_rfl) (by kernel_rfl) (fun _ _ _ h => h) (Or.inl ⟨by rfl, fun W _ => by have hfact := HW1.out; go_simp; first | done | simp [hfact] | omega⟩) hHeld ?_
  simp only [Act.put, List.getElem_toArray, List.getElem_cons_zero, List.getElem_cons_succ, List.setIfInBounds_toArray, List.set_cons_succ, List.set_cons_zero]
  refine wpAnyH_ready (rs := [13]) (by kernel_rfl) (by simp) ?_
  refine AllReadyH.cons rfl (fun KC hKC => ?_) AllReadyH.nil
  go_simp
  refine (size_zero w5).mono ?_
  rintro e wz ⟨rfl, ez⟩
  have ey := ez.symm
  subst ey
  go_wp2_with fail
  refine hKC.out _ _ hq3 (fun hHeld => ?_)
  clear hKC KC
  try simp only [Act.put, List.getElem_toArray, List.getElem_cons_zero, List.getElem_cons_succ, List.setIfInBounds_toArray, List.set_cons_succ, List.set_cons_zero]
  refine wpAnyH_take (i := 14) (v := .int .i64 ((M : Int) + (SB : Int) - 1)) rfl (by kernel_rfl) (by kernel_rfl) (by kernel_rfl) (fun _ _ _ h => h) (Or.inl ⟨by rfl, fun W _ => by have hfact := HW2.out; go_simp; first | done | simp [hfact] | omega⟩) hHeld ?_
  simp only [Act.put, List.getElem_toArray, List.getElem_cons_zero, List.getElem_cons_succ, List.setIfInBounds_toArray, List.set_cons_succ, List.set_cons_zero]
  refine wpAnyH_take (i := 16) (v := .int .i64 ((M : Int) + (SB : Int) - 1 + (NB : Int))) rfl (by kernel_rfl) (by kernel_rfl) (by kernel_rfl) (fun _ _ _ h => h) (Or.inl ⟨by rfl, fun W _ => by have hfact := HW3.out; go_simp; first | done | simp [hfact] | omega⟩) hHeld ?_
  simp only [Act.put, List.getElem_toArray, List.getElem_cons_zero, List.getElem_cons_succ, List.setIfInBounds_toArray, List.set_cons_succ, List.set_cons_zero]
  refine wpAnyH_take (i := 17) (v := .int .i64 ((M : Int) + (SB : Int) - 1 + (NB : Int))) rfl (by kernel_rfl) (by kernel_rfl) (by kernel_rfl) (fun _ _ _ h => h) (Or.inl ⟨by rfl, fun W _ => by go_simp⟩) hHeld ?_
  simp only [Act.put, List.getElem_toArray, List.getElem_cons_zero, List.getElem_cons_succ, List.setIfInBounds_toArray, List.set_cons_succ, List.set_cons_zero]
  refine wpAnyH_done (by kernel_rfl) ?_ _
  simp only [noPanic]
  clear hHeld
  go_wp2
  go_ret
  exact ⟨by rw [HM.out, HNL.out, HSB.out]; first | done | rfl, below_then HB3.out hq3⟩

set_option maxRecDepth 100000 in
set_option maxHeartbeats 8000000 in
theorem ksize6_any (f : Fr) (va : Value) (K : Nat) (L0 : List UInt8) (w : World) (hf : f.tool.length = 32) (ha : Strs w va f.args) (hk : f.kind = (K : Int)) (hK : K ≤ 6) (hB : f.body.length ≤ 140737488355327) (hL0 : L0.length ≤ 1000000)
    (hlay : ∀ W vb bs, Src W vb bs → bs.length ≤ 1000 → Strs W va f.args → Calls Tryz.prog 139 #[vb, .agg (fcells (noBody f) va).toArray] W fun e w' => ∃ v, e = .returned v ∧ Src w' v (bs ++ L0) ∧ Below W.heap.size W w') :
    Calls Tryz.prog 109 #[.agg k6.toArray, .agg (fcells f va).toArray] w fun e w' => e = .returned (.int .i64 (((sn K ++ L0).length : Int) + ((sn f.body.length).length : Int) - 1 + (f.body.length : Int))) ∧ Below w.heap.size w w' := by
  have HNB := hid (hp_two w (.cells k6.toArray 135) (.cells (fcells f va).toArray 30))
  have HBL := hid (below_walk2 w (.cells k6.toArray 135) (.cells (fcells f va).toArray 30))
  have HZ : Hid ((w.alloc (.cells k6.toArray 135)).heap.size = w.heap.size + 1) := hid (by simp)
  have HF := hid hf
  have HLAY := hid hlay
  have HKK := hid hk
  have hsb := sn_length_le f.body.length
  have hsk := sn_length_le K
  obtain ⟨M, HM⟩ : ∃ M, Hid ((sn K ++ L0).length = M) := ⟨_, rfl⟩
  obtain ⟨SB, HSB⟩ : ∃ M, Hid ((sn f.body.length).length = M) := ⟨_, rfl⟩
  have hM : M ≤ 1000010 := by have := HM.out; rw [List.length_append] at this; omega
  rw [HSB.out] at hsb
  have HSA := hid ha
  have HFN := hid (fcells_noBody f va hf)
  have HSZ := hid (frame_size (noBody f) va hf)
  have hmk := mk_size f.body
  clear hf hlay hk ha
  go_enter Tryz.func109, Tryz.ntmps109
  go_upto_region 1 with fail
  try rw [HZ.out]
  generalize (w.alloc (.cells k6.toArray 135)).alloc (.cells (fcells f va).toArray 30) = w2 at HNB HBL ⊢
  have x41 := (Fb.of HNB.out.2 HF.out).bd
  have f41 := row_fz HNB.out.2 41
  go_upto_region 3 with fail
  have HN3 := hid (show (w2.setCell ⟨w.heap.size + 1, 41, none⟩ (.string ⟨#[]⟩)).heap[w.heap.size + 1]? = some (.cells (fcells (noBody f) va).toArray 30 (0, 0)) by rw [← HFN.out]; exact blk_set HNB.out.2 _)
  have HN1 := hid (show (w2.setCell ⟨w.heap.size + 1, 41, none⟩ (.string ⟨#[]⟩)).heap[w.heap.size]? = some (.cells k6.toArray 135 (0, 0)) from (Below.heap_setCell w2 _ _ w.heap.size (by simp)).trans HNB.out.1)
  have HB3 := hid (show Below w.heap.size w (w2.setCell ⟨w.heap.size + 1, 41, none⟩ (.string ⟨#[]⟩)) from HBL.out.setCell (by simp) _)
  have HSB2 := hid (show Strs (w2.setCell ⟨w.heap.size + 1, 41, none⟩ (.string ⟨#[]⟩)) va f.args from (HSA.out.below HB3.out))
  generalize w2.setCell ⟨w.heap.size + 1, 41, none⟩ (.string ⟨#[]⟩) = w3 at HN3 HN1 HB3 HSB2 ⊢
  clear x41 f41 HNB HBL HSA
  have HL1 := hid (hp_lt HN1.out)
  have HL2 := hid (hp_lt HN3.out)
  have HC3 : Hid (w3.cell? ⟨w.heap.size, 3, none⟩ = some (.func (.func 139) #[] #[])) := hid (by rw [cell_of_row w3 w.heap.size 3 _ _ _ HN1.out]; rfl)
  have HC0 : Hid (w3.cell? ⟨w.heap.size + 1, 0, none⟩ = some (.int .i64 (K : Nat))) := hid (by have h9 := (Fb.of HN3.out HF.out).k; rw [show (noBody f).kind = f.kind from rfl, HKK.out] at h9; exact h9)
  have HRW := hid (range_row HN3.out)
  generalize fcells (noBody f) va = F0 at *
  obtain ⟨NB, HNL⟩ : ∃ n, Hid (f.body.length = n) := ⟨_, rfl⟩
  rw [HNL.out] at hB HSB ⊢
  have HWB := hid (show IntKind.u64.wrap (NB : Int) = (NB : Int) by rw [IntKind.wrap_u64]; omega)
  have HW1 := hid (show IntKind.i64.wrap ((M : Int) + (SB : Int)) = (M : Int) + (SB : Int) by rw [IntKind.wrap_i64]; omega)
  have HW2 := hid (show IntKind.i64.wrap ((M : Int) + (SB : Int) - 1) = (M : Int) + (SB : Int) - 1 by rw [IntKind.wrap_i64]; omega)
  have HW3 := hid (show IntKind.i64.wrap ((M : Int) + (SB : Int) - 1 + (NB : Int)) = (M : Int) + (SB : Int) - 1 + (NB : Int) by rw [IntKind.wrap_i64]; omega)
  refine wp_noPanic (wp_region_held_drew (S := fun W => Below w3.heap.size w3 W) (by kernel_rfl) ⟨rfl, rfl, rfl, Nat.le_refl _, fun _ _ => rfl⟩ ?_)
  intro hHeld
  refine wpAnyH_take (i := 0) (v := .pointer (some ⟨w.heap.size, 3, none⟩)) rfl (by kernel_rfl) (by kernel_rfl) (by kernel_rfl) (fun _ _ _ h => h) (Or.inl ⟨by rfl, fun W _ => by go_simp⟩) hHeld ?_
  simp only [Act.put, List.getElem_toArray, List.getElem_cons_zero, List.setIfInBounds_toArray, List.set_cons_succ, List.set_cons_zero]
  refine wpAnyH_take (i := 1) (v := .func (.func 139) #[] #[]) rfl (by kernel_rfl) (by kernel_rfl) (by kernel_rfl) (fun _ _ _ h => h) (Or.inl ⟨by rfl, fun W hW => by have hcell := (hW.cell (p := ⟨w.heap.size, 3, none⟩) HL1.out).trans HC3.out; clear hW; go_simp⟩) hHeld ?_
  simp only [Act.put, List.getElem_toArray, List.getElem_cons_zero, List.getElem_cons_succ, List.setIfInBounds_toArray, List.set_cons_succ, List.set_cons_zero]
  refine wpAnyH_take (i := 2) (v := .pointer (some ⟨w.heap.size + 1, 0, none⟩)) rfl (by kernel_rfl) (by kernel_rfl) (by kernel_rfl) (fun _ _ _ h => h) (Or.inl ⟨by rfl, fun W _ => by go_simp⟩) hHeld ?_
  simp only [Act.put, List.getElem_toArray, List.getElem_cons_zero, List.getElem_cons_succ, List.setIfInBounds_toArray, List.set_cons_succ, List.set_cons_zero]
  refine wpAnyH_take (i := 3) (v := .int .i64 (K : Nat)) rfl (by kernel_rfl) (by kernel_rfl) (by kernel_rfl) (fun _ _ _ h => h) (Or.inl ⟨by rfl, fun W hW => by have hcell := (hW.cell (p := ⟨w.heap.size + 1, 0, none⟩) HL2.out).trans HC0.out; clear hW; go_simp⟩) hHeld ?_
  simp only [Act.put, List.getElem_toArray, List.getElem_cons_zero, List.getElem_cons_succ, List.setIfInBounds_toArray, List.set_cons_succ, List.set_cons_zero]
  refine wpAnyH_take (i := 6) (v := .agg F0.toArray) rfl (by kernel_rfl) (by kernel_rfl) (by kernel_rfl) (fun _ _ _ h => h) (yieldsIf_load_mid (by rfl) 30 (.tmp 3) rfl (w.heap.size + 1) 0 rfl F0 _ (fun W hW => fun j v hv => (hW.cell (p := ⟨w.heap.size + 1, 0 + j, none⟩) HL2.out).trans (HRW.out j v hv)) Tryz.underlying30 rfl HSZ.out) hHeld ?_
  simp only [Act.put, List.getElem_toArray, List.getElem_cons_zero, List.getElem_cons_succ, List.setIfInBounds_toArray, List.set_cons_succ, List.set_cons_zero]
  refine wpAnyH_take (i := 9) (v := .int .i64 (NB : Nat)) rfl (by kernel_rfl) (by kernel_rfl) (by kernel_rfl) (fun _ _ _ h => h) (Or.inl ⟨by rfl, fun W _ => by go_simp⟩) hHeld ?_
  simp only [Act.put, List.getElem_toArray, List.getElem_cons_zero, List.getElem_cons_succ, List.setIfInBounds_toArray, List.set_cons_succ, List.set_cons_zero]
  refine wpAnyH_take (i := 10) (v := .int .u64 (NB : Nat)) rfl (by kernel_rfl) (by kernel_rfl) (by kernel_rfl) (fun _ _ _ h => h) (Or.inl ⟨by rfl, fun W _ => by have hfact := HWB.out; go_simp; first | done | simp [hfact] | omega⟩) hHeld ?_
  simp only [Act.put, List.getElem_toArray, List.getElem_cons_zero, List.getElem_cons_succ, List.setIfInBounds_toArray, List.set_cons_succ, List.set_cons_zero]
  refine wpAnyH_take (i := 15) (v := .int .i64 (NB : Nat)) rfl (by kernel_rfl) (by kernel_rfl) (by kernel_rfl) (fun _ _ _ h => h) (Or.inl ⟨by rfl, fun W _ => by go_simp⟩) hHeld ?_
  simp only [Act.put, List.getElem_toArray, List.getElem_cons_zero, List.getElem_cons_succ, List.setIfInBounds_toArray, List.set_cons_succ, List.set_cons_zero]
  obtain ⟨wx, HWX⟩ : ∃ x, Hid (w3.drew = x) := ⟨_, rfl⟩
  rw [HWX.out] at hHeld ⊢
  have hH0 := hHeld
  refine wpAnyH_ready (rs := [4]) (by kernel_rfl) (by simp) ?_
  refine AllReadyH.cons rfl (fun KC hKC => ?_) AllReadyH.nil
  go_simp
  have hq1 := below_tr hH0 ((below_walk wx (.cells #[.int .i64 (K : Nat)] 3)).mono hH0.size)
  refine hKC.out _ _ hq1 (fun hHeld => ?_)
  clear hKC KC
  try simp only [Act.put, List.getElem_toArray, List.getElem_cons_zero, List.getElem_cons_succ, List.setIfInBounds_toArray, List.set_cons_succ, List.set_cons_zero]
  refine wpAnyH_ready (rs := [5]) (by kernel_rfl) (by simp) ?_
  refine AllReadyH.cons rfl (fun KC hKC => ?_) AllReadyH.nil
  go_simp
  refine (putCounts_any nS _ [] [K] _ (srcNil _) (nums_one wx K) (by simp; omega) (by simp) (by simp)).mono ?_
  rintro e w4 ⟨v4, rfl, hs4, hb4⟩
  have hs4b : Src w4 v4 (sn K) := by simpa [sns] using hs4
  have HS4 := hid hs4b
  have hq2 := below_tr hq1 (hb4.mono hq1.size)
  obtain ⟨a4, c4, e4⟩ := src_shape hs4b
  subst e4
  clear hs4 hs4b hb4
  go_wp2_with fail
  refine hKC.out _ _ hq2 (fun hHeld => ?_)
  clear hKC KC
  try simp only [Act.put, List.getElem_toArray, List.getElem_cons_zero, List.getElem_cons_succ, List.setIfInBounds_toArray, List.set_cons_succ, List.set_cons_zero]
  refine wpAnyH_ready (rs := [7]) (by kernel_rfl) (by simp) ?_
  refine AllReadyH.cons rfl (fun KC hKC => ?_) AllReadyH.nil
  go_simp
  refine (HLAY.out w4 _ (sn K) HS4.out (by have := sn_length_le K; omega) (HSB2.out.below hq2)).mono ?_
  rintro e w5 ⟨v5, rfl, hs5, hb5⟩
  have hq3 := below_tr hq2 (hb5.mono hq2.size)
  obtain ⟨a5, c5, e5⟩ := src_shape hs5
  rw [show (sn K ++ L0).length = M from HM.out] at e5
  subst e5
  clear hs5 hb5
  go_wp2_with fail
  refine hKC.out _ _ hq3 (fun hHeld => ?_)
  clear hKC KC
  try simp only [Act.put, List.getElem_toArray, List.getElem_cons_zero, List.getElem_cons_succ, List.setIfInBounds_toArray, List.set_cons_succ, List.set_cons_zero]
  refine wpAnyH_take (i := 8) (v := .int .i64 (M : Nat)) rfl (by kernel_rfl) (by kernel_rfl) (by kernel_rfl) (fun _ _ _ h => h) (Or.inl ⟨by rfl, fun W _ => by go_simp⟩) hHeld ?_
  simp only [Act.put, List.getElem_toArray, List.getElem_cons_zero, List.getElem_cons_succ, List.setIfInBounds_toArray, List.set_cons_succ, List.set_cons_zero]
  refine wpAnyH_ready (rs := [11]) (by kernel_rfl) (by simp) ?_
  refine AllReadyH.cons rfl (fun KC hKC => ?_) AllReadyH.nil
  go_simp
  refine (size_any NB w5 (by omega)).mono ?_
  rintro e wz ⟨rfl, ez⟩
  have ey := ez.symm
  subst ey
  rw [HSB.out]
  go_wp2_with fail
  refine hKC.out _ _ hq3 (fun hHeld => ?_)
  clear hKC KC
  try simp only [Act.put, List.getElem_toArray, List.getElem_cons_zero, List.getElem_cons_succ, List.setIfInBounds_toArray, List.set_cons_succ, List.set_cons_zero]
  refine wpAnyH_take (i := 12) (v := .int .i64 ((M : Int) + (SB : Int))) rfl (by kernel_rfl) (by kernel_rfl) (by kernel_rfl) (fun _ _ _ h => h) (Or.inl ⟨by rfl, fun W _ => by have hfact := HW1.out; go_simp; first | done | simp [hfact] | omega⟩) hHeld ?_
  simp only [Act.put, List.getElem_toArray, List.getElem_cons_zero, List.getElem_cons_succ, List.setIfInBounds_toArray, List.set_cons_succ, List.set_cons_zero]
  refine wpAnyH_ready (rs := [13]) (by kernel_rfl) (by simp) ?_
  refine AllReadyH.cons rfl (fun KC hKC => ?_) AllReadyH.nil
  go_simp
  refine (size_zero w5).mono ?_
  rintro e wz ⟨rfl, ez⟩
  have ey := ez.symm
  subst ey
  go_wp2_with fail
  refine hKC.out _ _ hq3 (fun hHeld => ?_)
  clear hKC KC
  try simp only [Act.put, List.getElem_toArray, List.getElem_cons_zero, List.getElem_cons_succ, List.setIfInBounds_toArray, List.set_cons_succ, List.set_cons_zero]
  refine wpAnyH_take (i := 14) (v := .int .i64 ((M : Int) + (SB : Int) - 1)) rfl (by kernel_rfl) (by kernel_rfl) (by kernel_rfl) (fun _ _ _ h => h) (Or.inl ⟨by rfl, fun W _ => by have hfact := HW2.out; go_simp; first | done | simp [hfact] | omega⟩) hHeld ?_
  simp only [Act.put, List.getElem_toArray, List.getElem_cons_zero, List.getElem_cons_succ, List.setIfInBounds_toArray, List.set_cons_succ, List.set_cons_zero]
  refine wpAnyH_take (i := 16) (v := .int .i64 ((M : Int) + (SB : Int) - 1 + (NB : Int))) rfl (by kernel_rfl) (by kernel_rfl) (by kernel_rfl) (fun _ _ _ h => h) (Or.inl ⟨by rfl, fun W _ => by have hfact := HW3.out; go_simp; first | done | simp [hfact] | omega⟩) hHeld ?_
  simp only [Act.put, List.getElem_toArray, List.getElem_cons_zero, List.getElem_cons_succ, List.setIfInBounds_toArray, List.set_cons_succ, List.set_cons_zero]
  refine wpAnyH_take (i := 17) (v := .int .i64 ((M : Int) + (SB : Int) - 1 + (NB : Int))) rfl (by kernel_rfl) (by kernel_rfl) (by kernel_rfl) (fun _ _ _ h => h) (Or.inl ⟨by rfl, fun W _ => by go_simp⟩) hHeld ?_
  simp only [Act.put, List.getElem_toArray, List.getElem_cons_zero, List.getElem_cons_succ, List.setIfInBounds_toArray, List.set_cons_succ, List.set_cons_zero]
  refine wpAnyH_done (by kernel_rfl) ?_ _
  simp only [noPanic]
  clear hHeld
  go_wp2
  go_ret
  exact ⟨by rw [HM.out, HNL.out, HSB.out]; first | done | rfl, below_then HB3.out hq3⟩

end Go.Proofs.YtiibhccbbpgehaaGreat

/- How many bytes a Bye's body has, told by the program. -/
namespace Go.Proofs.YtiibhccbbpgehaaGreat
open Go.RowKit Go.BigFrame

end Go.Proofs.YtiibhccbbpgehaaGreat

/- A Bye, written by the program: its plan, its bytes. -/
namespace Go.Proofs.YtiibhccbbpgehaaGreat
open Go.RowKit Go.BigFrame

theorem results_cell3 {fn : Func} {p q s : Tmp} {ty : TypeId} (h : fn.results = #[.cell p ty, .tmp q, .tmp s]) (tmps : Array Value) (P : Program) (w : World) :
    (results fn tmps).run P w = ((asAddr (tmps.getD p undef)).run P w).andThen fun a w₁ => ((loadVar ty a).run P w₁).andThen fun v w₂ => .ok (.tuple #[v, tmps.getD q undef, tmps.getD s undef]) w₂ := by
  simp only [results, h]
  simp [Sem.run_bind, Result.andThen]
theorem ret_row3 {P : Program} {fn : Func} {R : Ending → World → Prop} {a : Act} {w : World} (p q s : Tmp) (ty : TypeId) (h : fn.results = #[.cell p ty, .tmp q, .tmp s]) (g : Nat) (hp : a.tmps.getD p undef = .pointer (some ⟨g, 0, none⟩))
    (cs : List Value) (t : TypeId) (hb : w.heap[g]? = some (.cells cs.toArray t (0, 0))) (d : TypeDesc) (hu : P.underlying ty = some d) (hd : d.isRow = true) (hi : (P.info? ty).map (·.size) = some cs.length)
    (v u : Value) (hq : a.tmps.getD q undef = v) (hs : a.tmps.getD s undef = u) (hdf : a.defers = []) (hR : R (.returned (.tuple #[.agg cs.toArray, v, u])) w) : bodyPost P fn R .ret a w := by
  refine bodyPost_ret (v := .tuple #[.agg cs.toArray, v, u]) ?_ hdf hR
  rw [results_cell3 h, hp, hq, hs]
  have := run_loadVar_mid (P := P) w g 0 ty cs d (fun j v hv => by rw [Nat.zero_add, cell_of_row w g j cs.toArray t (0, 0) hb]; simpa using hv) hu hd hi
  simp [asAddr, this]

end Go.Proofs.YtiibhccbbpgehaaGreat

/- Whether what a request's fields hold may be. -/
namespace Go.Proofs.YtiibhccbbpgehaaGreat
open Go.RowKit Go.BigFrame

set_option maxHeartbeats 1000000 in
theorem tooLong_any (s : List UInt8) (w : World) :
    Calls Tryz.prog 145 #[.string (mk s)] w fun e w' => e = .returned (.bool (decide (4096 < s.length))) ∧ w' = w := by
  have hsz : (mk s).size = s.length := mk_size s
  by_cases h : 4096 < s.length
  · have q : (4096 : Int) < (s.length : Int) := by omega
    have q2 : decide ((4096 : Int) < (s.length : Int)) = true := by simpa using q
    rw [decide_eq_true h]
    clear h
    go_enter Tryz.func145, Tryz.ntmps145
    go_wp2
    go_ret
    exact ⟨rfl, rfl⟩
  · have q : ¬ (4096 : Int) < (s.length : Int) := by omega
    have q2 : decide ((4096 : Int) < (s.length : Int)) = false := by simpa using q
    rw [decide_eq_false h]
    clear h
    go_enter Tryz.func145, Tryz.ntmps145
    go_wp2
    go_ret
    exact ⟨rfl, rfl⟩

theorem long_no {A : List (List UInt8)} {k : Nat} (hk : k < A.length) (h : longA (A.take k) = false) (h2 : ¬ 4096 < (A.getD k []).length) : longA (A.take (k + 1)) = false := by
  rw [List.take_succ_eq_append_getElem hk]
  unfold longA at h ⊢
  rw [List.any_append, h]
  rw [List.getD_eq_getElem?_getD, List.getElem?_eq_getElem hk] at h2
  simp only [Option.getD_some] at h2
  simp only [Bool.false_or, List.any_cons, List.any_nil, Bool.or_false]
  exact decide_eq_false h2
theorem long_yes {A : List (List UInt8)} {k : Nat} (hk : k < A.length) (h2 : 4096 < (A.getD k []).length) : longA A = true := by
  unfold longA
  rw [List.any_eq_true]
  rw [List.getD_eq_getElem?_getD, List.getElem?_eq_getElem hk] at h2
  exact ⟨A[k], List.getElem_mem hk, decide_eq_true h2⟩

set_option maxRecDepth 100000 in
set_option maxHeartbeats 1000000 in
theorem indexFunc_any (va : Value) (A : List (List UInt8)) (w : World) (ha : Strs w va A) (hn : A.length ≤ 9223372036854775807) :
    Calls Tryz.prog 152 #[va, .func (.func 145) #[] #[]] w fun e w' => ∃ i : Int, e = .returned (.int .i64 i) ∧ decide (0 ≤ i) = longA A ∧ w' = w := by
  obtain ⟨aa, ca, rfl⟩ := ha.shape
  have HA := hid ha
  clear ha
  go_enter Tryz.func152, Tryz.ntmps152
  go_wp2
  go_loopw [8] (fun i wr => ∃ k : Nat, k ≤ A.length ∧ i = .int .i64 k ∧ wr = w ∧ Hid (longA (A.take k) = false)) (fun i _ => A.length - (intOf i).toNat)
  case atStart => exact ⟨0, by omega, rfl, rfl, hid (by simp [longA])⟩
  case round =>
    obtain ⟨k, hk, rfl, rfl, HL⟩ := hrel
    by_cases hlt : k < A.length
    · obtain ⟨g1, o1, rfl, c1⟩ := HA.out.at k hlt
      have HT := hid (tooLong_any (A.getD k []) wr)
      have hki : (k : Int) < (A.length : Int) := by omega
      have hd : decide ((k : Int) < (A.length : Int)) = true := by simpa using hki
      have hkw : IntKind.i64.wrap ((k : Int) + 1) = (k : Int) + 1 := by rw [IntKind.wrap_i64]; omega
      by_cases hlg : 4096 < (A.getD k []).length
      · have HY := hid (long_yes hlt hlg)
        rw [decide_eq_true hlg] at HT
        clear hlg
        generalize mk (A.getD k []) = s at *
        go_wp2_with fail
        refine HT.out.mono ?_
        rintro e w2 ⟨rfl, hw2⟩
        subst hw2
        go_wp2
        go_ret
        exact ⟨_, rfl, by rw [HY.out]; exact decide_eq_true (by omega), rfl⟩
      · have HN := hid (long_no hlt HL.out hlg)
        rw [decide_eq_false hlg] at HT
        clear hlg
        generalize mk (A.getD k []) = s at *
        go_wp2_with fail
        refine HT.out.mono ?_
        rintro e w2 ⟨rfl, hw2⟩
        subst hw2
        go_wp2
        exact ⟨⟨k + 1, by omega, by simp, by first | rfl | trivial, HN⟩, by simp [intOf]; omega⟩
    · obtain rfl : k = A.length := by omega
      rw [List.take_length] at HL
      go_wp2
      go_ret
      exact ⟨_, rfl, by rw [HL.out]; rfl, rfl⟩

set_option maxRecDepth 100000 in
set_option maxHeartbeats 1000000 in
theorem containsFunc_any (va : Value) (A : List (List UInt8)) (w : World) (ha : Strs w va A) (hn : A.length ≤ 9223372036854775807) :
    Calls Tryz.prog 146 #[va, .func (.func 145) #[] #[]] w fun e w' => e = .returned (.bool (longA A)) ∧ w' = w := by
  have HI := hid (indexFunc_any va A w ha hn)
  obtain ⟨aa, ca, rfl⟩ := ha.shape
  clear ha
  go_enter Tryz.func146, Tryz.ntmps146
  go_wp2_with fail
  refine HI.out.mono ?_
  rintro e w2 ⟨i, rfl, hi, hw2⟩
  subst hw2
  have HQ := hid hi
  clear hi HI
  go_wp2
  go_ret
  exact ⟨ret_eq HQ.out, rfl⟩

end Go.Proofs.YtiibhccbbpgehaaGreat

/- A request's fields: all conditions together. -/
namespace Go.Proofs.YtiibhccbbpgehaaGreat
open Go.RowKit Go.BigFrame

set_option maxRecDepth 100000 in
set_option maxHeartbeats 2000000 in
theorem mayRequest_any (f : Fr) (va : Value) (w : World) (hf : f.tool.length = 32) (ha : Strs w va f.args) (hn : f.args.length ≤ 9223372036854775807) :
    Calls Tryz.prog 124 #[.agg (fcells f va).toArray] w fun e w' => e = .returned (.bool (mayReqP f)) ∧ Below w.heap.size w w' := by
  have HNB := hid (hp_new w (.cells (fcells f va).toArray 30))
  have HBL := hid (below_walk w (.cells (fcells f va).toArray 30))
  have HS := hid (ha.below HBL.out)
  have HF := hid hf
  have HN := hid hn
  unfold mayReqP
  obtain ⟨ao, c, rfl⟩ := ha.shape
  clear hf ha hn
  go_enter Tryz.func124, Tryz.ntmps124
  go_upto_region 1 with fail
  generalize w.alloc (.cells (fcells f (.slice ao f.args.length c)).toArray 30) = w1 at HNB HBL HS ⊢
  have HL1 := hid (hp_lt HNB.out)
  have HFB := hid (Fb.of HNB.out HF.out)
  have x1 := HFB.out.l1
  have x2 := HFB.out.l2
  have x3 := HFB.out.l3
  go_upto_region 3 with fail
  have HBL2 := hid (below_then HBL.out (below_walk w1 (.cells #[.int .i64 f.lim.1, .int .i64 f.lim.2.1, .int .i64 f.lim.2.2] 27)))
  have HNX := hid (hp_new w1 (.cells #[.int .i64 f.lim.1, .int .i64 f.lim.2.1, .int .i64 f.lim.2.2] 27))
  have HS2 := hid (HS.out.below (below_walk w1 (.cells #[.int .i64 f.lim.1, .int .i64 f.lim.2.1, .int .i64 f.lim.2.2] 27)))
  have y40 : (w1.alloc (.cells #[.int .i64 f.lim.1, .int .i64 f.lim.2.1, .int .i64 f.lim.2.2] 27)).cell? ⟨w.heap.size, 40, none⟩ = some (.slice ao f.args.length c) := ((below_walk w1 (.cells #[.int .i64 f.lim.1, .int .i64 f.lim.2.1, .int .i64 f.lim.2.2] 27)).cell (p := ⟨w.heap.size, 40, none⟩) HL1.out).trans HFB.out.a
  obtain ⟨B3, HB3⟩ : ∃ b : Nat, Hid (w1.heap.size = b) := ⟨_, rfl⟩
  rw [HB3.out] at HNX ⊢
  generalize w1.alloc (.cells #[.int .i64 f.lim.1, .int .i64 f.lim.2.1, .int .i64 f.lim.2.2] 27) = w2 at HBL2 HNX HS2 y40 ⊢
  have z0 := cell_of_row w2 B3 0 _ _ _ HNX.out
  have z1 := cell_of_row w2 B3 1 _ _ _ HNX.out
  have z2 := cell_of_row w2 B3 2 _ _ _ HNX.out
  simp at z0 z1 z2
  have HCF := hid (containsFunc_any _ f.args w2 HS2.out HN.out)
  clear x1 x2 x3 HFB HNB HBL HS HL1 HNX HS2 HN HF
  by_cases h0 : 0 ≤ f.lim.1
  · have q0 : decide (0 ≤ f.lim.1) = true := by simpa using h0
    by_cases h1 : 0 ≤ f.lim.2.1
    · have q1 : decide (0 ≤ f.lim.2.1) = true := by simpa using h1
      by_cases h2 : 0 ≤ f.lim.2.2
      · have q2 : decide (0 ≤ f.lim.2.2) = true := by simpa using h2
        by_cases h3 : f.args.length ≤ 8
        · have q3 : decide ((f.args.length : Int) ≤ 8) = true := by simp; omega
          have q3b : (f.args.length : Int) ≤ 8 := by omega
          obtain ⟨b, HBB⟩ : ∃ b, Hid (longA f.args = b) := ⟨_, rfl⟩
          rw [HBB.out] at HCF
          have HR := hid (show (!b) = decide (0 ≤ f.lim.1 ∧ 0 ≤ f.lim.2.1 ∧ 0 ≤ f.lim.2.2 ∧ f.args.length ≤ 8 ∧ longA f.args = false) by rw [HBB.out]; cases b <;> simp [h0, h1, h2, h3])
          go_wp2_with fail
          refine HCF.out.mono ?_
          rintro e w3 ⟨rfl, hw3⟩
          subst hw3
          cases b with
          | false =>
            go_wp2
            go_ret
            first | exact ⟨ret_eq HR.out, HBL2.out⟩ | exact ⟨rfl, HBL2.out⟩
          | true =>
            go_wp2
            go_ret
            first | exact ⟨ret_eq HR.out, HBL2.out⟩ | exact ⟨rfl, HBL2.out⟩
        · have q3 : decide ((f.args.length : Int) ≤ 8) = false := by simp; omega
          have q3b : ¬ (f.args.length : Int) ≤ 8 := by omega
          have HR := hid (show false = decide (0 ≤ f.lim.1 ∧ 0 ≤ f.lim.2.1 ∧ 0 ≤ f.lim.2.2 ∧ f.args.length ≤ 8 ∧ longA f.args = false) from (decide_eq_false (fun h => h3 h.2.2.2.1)).symm)
          clear HCF
          go_wp2
          go_ret
          first | exact ⟨ret_eq HR.out, HBL2.out⟩ | exact ⟨rfl, HBL2.out⟩
      · have q2 : decide (0 ≤ f.lim.2.2) = false := by simpa using h2
        have HR := hid (show false = decide (0 ≤ f.lim.1 ∧ 0 ≤ f.lim.2.1 ∧ 0 ≤ f.lim.2.2 ∧ f.args.length ≤ 8 ∧ longA f.args = false) from (decide_eq_false (fun h => h2 h.2.2.1)).symm)
        clear HCF
        go_wp2
        go_ret
        first | exact ⟨ret_eq HR.out, HBL2.out⟩ | exact ⟨rfl, HBL2.out⟩
    · have q1 : decide (0 ≤ f.lim.2.1) = false := by simpa using h1
      have HR := hid (show false = decide (0 ≤ f.lim.1 ∧ 0 ≤ f.lim.2.1 ∧ 0 ≤ f.lim.2.2 ∧ f.args.length ≤ 8 ∧ longA f.args = false) from (decide_eq_false (fun h => h1 h.2.1)).symm)
      clear HCF
      go_wp2
      go_ret
      first | exact ⟨ret_eq HR.out, HBL2.out⟩ | exact ⟨rfl, HBL2.out⟩
  · have q0 : decide (0 ≤ f.lim.1) = false := by simpa using h0
    have HR := hid (show false = decide (0 ≤ f.lim.1 ∧ 0 ≤ f.lim.2.1 ∧ 0 ≤ f.lim.2.2 ∧ f.args.length ≤ 8 ∧ longA f.args = false) from (decide_eq_false (fun h => h0 h.1)).symm)
    clear HCF
    go_wp2
    go_ret
    first | exact ⟨ret_eq HR.out, HBL2.out⟩ | exact ⟨rfl, HBL2.out⟩

end Go.Proofs.YtiibhccbbpgehaaGreat

/- What a frame's plan is, plainly; the plan of a frame of no kind. -/
namespace Go.Proofs.YtiibhccbbpgehaaGreat
open Go.RowKit Go.BigFrame

def planA (k : List Value) (S M : Bool) (Z : Int) : Value :=
  if (S && M) = true then (if 2097152 < Z then .tuple #[.agg zRow.toArray, .int .i64 0, .int .i64 3] else .tuple #[.agg k.toArray, .int .i64 Z, .int .i64 0]) else .tuple #[.agg zRow.toArray, .int .i64 0, .int .i64 70]
theorem own_strs {W : World} {va : Value} {f : Fr} (h : Strs W va f.args) : Strs W (ownV f va) (ownF f).args := by
  unfold ownV ownF
  repeat' split
  all_goals first | exact h | exact strs_nil W | omega
theorem built_zRow : Tryz.prog.built 135 [] = some zRow.toArray := by kernel_rfl

end Go.Proofs.YtiibhccbbpgehaaGreat

/- Encode, Check and Size of the program, out of the plan. -/
namespace Go.Proofs.YtiibhccbbpgehaaGreat
open Go.RowKit Go.BigFrame

end Go.Proofs.YtiibhccbbpgehaaGreat

/- Of how many bytes a body has, plainly. -/
namespace Go.Proofs.YtiibhccbbpgehaaGreat
open Go.RowKit

theorem mk_data (B : List UInt8) : (mk B).data.toList = B := rfl
theorem tx_body (B : List UInt8) : tx (mk B) = sn B.length ++ B := by
  unfold tx
  rw [mk_size, mk_data]
theorem sn_zero : (sn 0).length = 1 := rfl
theorem tx_empty : (tx (mk [])).length = 1 := rfl
theorem reck_body (X : List UInt8) (B : List UInt8) : (((X ++ tx (mk [])).length : Int) + ((sn B.length).length : Int) - 1 + (B.length : Int)) = ((X ++ tx (mk B)).length : Int) := by
  rw [List.length_append, List.length_append, tx_empty, tx_body, List.length_append]
  omega
theorem reck_none (X : List UInt8) : ((X.length : Int) + ((sn ([] : List UInt8).length).length : Int) - 1 + (([] : List UInt8).length : Int)) = (X.length : Int) := by
  rw [show ([] : List UInt8).length = 0 from rfl, sn_zero]
  omega
theorem txs_len : ∀ A : List (List UInt8), (∀ t ∈ A, t.length ≤ 4096) → (txs (A.map mk)).length ≤ A.length * 4106
  | [], _ => by simp [txs]
  | a :: r, h => by
    have ih := txs_len r (fun t ht => h t (by simp [ht]))
    have h1 := tx_len2 (mk a)
    rw [mk_size] at h1
    have h2 := h a (by simp)
    simp only [txs, List.map_cons, List.flatMap_cons, List.length_append, List.length_cons] at ih ⊢
    omega
theorem long_all {A : List (List UInt8)} (h : longA A = false) : ∀ t ∈ A, t.length ≤ 4096 := by
  intro t ht
  unfold longA at h
  rw [List.any_eq_false] at h
  have := h t ht
  simp at this
  omega
theorem args_len {A : List (List UInt8)} (h : longA A = false) (hn : A.length ≤ 8) : (txs (A.map mk)).length ≤ 100000 := by
  have := txs_len A (long_all h)
  omega
end Go.Proofs.YtiibhccbbpgehaaGreat

/- Frames as bytes, plainly. -/
namespace Go.Proofs.YtiibhccbbpgehaaGreat
open Go.RowKit

def layP (f : Fr) : List UInt8 :=
  if f.kind = 1 then sns [f.ver.toNat, f.slots.toNat] ++ f.tool else if f.kind = 2 then layReqP f.id.toNat f.lim.1.toNat f.lim.2.1.toNat f.lim.2.2.toNat f.args f.body else if f.kind = 3 then sn f.id.toNat ++ (sns [f.status.toNat] ++ tx (mk f.body)) else if f.kind = 4 then sn f.id.toNat else if f.kind = 6 then tx (mk f.body) else []
def bodyP (f : Fr) : List UInt8 := sn f.kind.toNat ++ layP f
def mayF (f : Fr) : Bool := if f.kind = 1 then mayHelloP f else if f.kind = 2 then mayReqP f else if f.kind = 3 then mayResP f else true
def okFr (f : Fr) : Bool := decide (1 ≤ f.kind ∧ f.kind ≤ 6) && (sameP f (ownF f) && mayF f)
def chkE (f : Fr) : Int := if okFr f = true then (if 2097152 < (bodyP f).length then 3 else 0) else 70
def encP (f : Fr) : List UInt8 := sealP (sn (bodyP f).length ++ bodyP f)
structure Rng (f : Fr) : Prop where
  intro ::
  tool : f.tool.length = 32
  idl : 0 ≤ f.id
  idh : f.id ≤ 18446744073709551615
  ver : f.ver ≤ 9223372036854775807
  slots : f.slots ≤ 9223372036854775807
  status : f.status ≤ 9223372036854775807
  l1 : f.lim.1 ≤ 9223372036854775807
  l2 : f.lim.2.1 ≤ 9223372036854775807
  l3 : f.lim.2.2 ≤ 9223372036854775807
  body : f.body.length ≤ 140737488355327
  many : f.args.length ≤ 9223372036854775807
theorem Rng.noBody {f : Fr} (h : Rng f) : Rng (noBody f) := ⟨h.tool, h.idl, h.idh, h.ver, h.slots, h.status, h.l1, h.l2, h.l3, by simp [Go.Proofs.YtiibhccbbpgehaaGreat.noBody], h.many⟩

theorem lay_1 (f : Fr) (h : f.kind = 1) : layP f = sns [f.ver.toNat, f.slots.toNat] ++ f.tool := by unfold layP; rw [if_pos h]
theorem lay_2 (f : Fr) (h : f.kind = 2) : layP f = layReqP f.id.toNat f.lim.1.toNat f.lim.2.1.toNat f.lim.2.2.toNat f.args f.body := by unfold layP; rw [if_neg (by omega), if_pos h]
theorem lay_3 (f : Fr) (h : f.kind = 3) : layP f = sn f.id.toNat ++ (sns [f.status.toNat] ++ tx (mk f.body)) := by unfold layP; rw [if_neg (by omega), if_neg (by omega), if_pos h]
theorem lay_4 (f : Fr) (h : f.kind = 4) : layP f = sn f.id.toNat := by unfold layP; rw [if_neg (by omega), if_neg (by omega), if_neg (by omega), if_pos h]
theorem lay_5 (f : Fr) (h : f.kind = 5) : layP f = [] := by unfold layP; rw [if_neg (by omega), if_neg (by omega), if_neg (by omega), if_neg (by omega), if_neg (by omega)]
theorem lay_6 (f : Fr) (h : f.kind = 6) : layP f = tx (mk f.body) := by unfold layP; rw [if_neg (by omega), if_neg (by omega), if_neg (by omega), if_neg (by omega), if_pos h]
theorem own_1 (f : Fr) (h : f.kind = 1) : ownF f = ⟨1, 0, f.ver, f.slots, f.tool, 0, (0, 0, 0), [], []⟩ := by unfold ownF; rw [if_pos h]
theorem own_2 (f : Fr) (h : f.kind = 2) : ownF f = reqF f.id f.lim f.args f.body := by unfold ownF; rw [if_neg (by omega), if_pos h]
theorem own_3 (f : Fr) (h : f.kind = 3) : ownF f = resF f.id f.status f.body := by unfold ownF; rw [if_neg (by omega), if_neg (by omega), if_pos h]
theorem own_4 (f : Fr) (h : f.kind = 4) : ownF f = canF f.id := by unfold ownF; rw [if_neg (by omega), if_neg (by omega), if_neg (by omega), if_pos h]
theorem own_5 (f : Fr) (h : f.kind = 5) : ownF f = byeF := by unfold ownF; rw [if_neg (by omega), if_neg (by omega), if_neg (by omega), if_neg (by omega), if_pos h]
theorem own_6 (f : Fr) (h : f.kind = 6) : ownF f = noteF f.body := by unfold ownF; rw [if_neg (by omega), if_neg (by omega), if_neg (by omega), if_neg (by omega), if_neg (by omega), if_pos h]
theorem same_eq {f g : Fr} (h : sameP f g = true) : f = g := by
  unfold sameP at h
  obtain ⟨a, b, c, d, e, x, y, z, u⟩ := of_decide_eq_true h
  cases f; cases g
  simp only at a b c d e x y z u
  subst a b c d e x y z u
  rfl
theorem same_own_body {f : Fr} (h : sameP f (ownF f) = true) (hk : f.kind = 1 ∨ f.kind = 4 ∨ f.kind = 5) : f.body = [] := by
  have e := congrArg Fr.body (same_eq h)
  rcases hk with k | k | k
  · rw [own_1 f k] at e; exact e
  · rw [own_4 f k] at e; exact e
  · rw [own_5 f k] at e; exact e
theorem sns_two (a b : Nat) : sns [a, b] = sn a ++ sn b := by simp [sns]
theorem sns_one (a : Nat) : sns [a] = sn a := by simp [sns]
theorem sns_thr (a b c : Nat) : sns [a, b, c] = sn a ++ (sn b ++ sn c) := by simp [sns]
theorem ls_len {A : List (List UInt8)} (h : longA A = false) (hn : A.length ≤ 8) : (ls (A.map mk)).length ≤ 100010 := by
  have := args_len h hn
  have h2 := sn_length_le (A.map mk).length
  unfold ls
  rw [List.length_append]
  omega
theorem reck_any (f : Fr) (h : sameP f (ownF f) = true) (hk : 1 ≤ f.kind ∧ f.kind ≤ 6) (K : Nat) (hK : f.kind = (K : Int)) :
    ((sn K ++ layP (noBody f)).length : Int) + ((sn f.body.length).length : Int) - 1 + (f.body.length : Int) = ((bodyP f).length : Int) := by
  unfold bodyP
  rw [show f.kind.toNat = K by omega]
  have hc : f.kind = 1 ∨ f.kind = 2 ∨ f.kind = 3 ∨ f.kind = 4 ∨ f.kind = 5 ∨ f.kind = 6 := by omega
  rcases hc with k | k | k | k | k | k
  · rw [same_own_body h (Or.inl k), lay_1 f k, lay_1 (noBody f) k]
    exact reck_none _
  · rw [lay_2 f k, lay_2 (noBody f) k]
    unfold layReqP
    simp only [← List.append_assoc]
    exact reck_body _ _
  · rw [lay_3 f k, lay_3 (noBody f) k]
    simp only [← List.append_assoc]
    exact reck_body _ _
  · rw [same_own_body h (Or.inr (Or.inl k)), lay_4 f k, lay_4 (noBody f) k]
    exact reck_none _
  · rw [same_own_body h (Or.inr (Or.inr k)), lay_5 f k, lay_5 (noBody f) k]
    exact reck_none _
  · rw [lay_6 f k, lay_6 (noBody f) k]
    exact reck_body _ _
theorem mayReq_of {f : Fr} (h : mayReqP f = true) : 0 ≤ f.lim.1 ∧ 0 ≤ f.lim.2.1 ∧ 0 ≤ f.lim.2.2 ∧ f.args.length ≤ 8 ∧ longA f.args = false := of_decide_eq_true h
theorem mayHello_of {f : Fr} (h : mayHelloP f = true) : f.ver = 1 ∧ 1 ≤ f.slots ∧ f.slots ≤ 64 := of_decide_eq_true h
theorem mayRes_of {f : Fr} (h : mayResP f = true) : 1 ≤ f.status ∧ f.status ≤ 3 := by
  rcases of_decide_eq_true h with h | ⟨h | h, _⟩ <;> omega
theorem lay_short (f : Fr) (hm : mayF f = true) (ht : f.tool.length = 32) : (layP (noBody f)).length ≤ 1000000 := by
  unfold mayF at hm
  have h1 := sn_length_le f.id.toNat
  have hm0 : (tx (mk (noBody f).body)).length = 1 := rfl
  by_cases k1 : f.kind = 1
  · have := sns_length [f.ver.toNat, f.slots.toNat]
    rw [lay_1 (noBody f) k1]
    simp only [List.length_append, List.length_cons, List.length_nil] at this ⊢
    show (sns [f.ver.toNat, f.slots.toNat]).length + f.tool.length ≤ 1000000
    omega
  · rw [if_neg k1] at hm
    by_cases k2 : f.kind = 2
    · rw [if_pos k2] at hm
      obtain ⟨_, _, _, hA, hL⟩ := mayReq_of hm
      have h2 := ls_len hL hA
      have h3 := sns_length [f.lim.1.toNat, f.lim.2.1.toNat, f.lim.2.2.toNat]
      rw [lay_2 (noBody f) k2]
      unfold layReqP
      simp only [List.length_append, List.length_cons, List.length_nil] at h3 ⊢
      rw [hm0]
      show (sn f.id.toNat).length + ((sns [f.lim.1.toNat, f.lim.2.1.toNat, f.lim.2.2.toNat]).length + ((ls (f.args.map mk)).length + 1)) ≤ 1000000
      omega
    · by_cases k3 : f.kind = 3
      · have h3 := sns_length [f.status.toNat]
        rw [lay_3 (noBody f) k3]
        simp only [List.length_append, List.length_cons, List.length_nil] at h3 ⊢
        rw [hm0]
        show (sn f.id.toNat).length + ((sns [f.status.toNat]).length + 1) ≤ 1000000
        omega
      · by_cases k4 : f.kind = 4
        · rw [lay_4 (noBody f) k4]
          show (sn f.id.toNat).length ≤ 1000000
          omega
        · by_cases k6 : f.kind = 6
          · rw [lay_6 (noBody f) k6, hm0]
            omega
          · unfold layP
            rw [if_neg (show ¬ (noBody f).kind = 1 from k1), if_neg (show ¬ (noBody f).kind = 2 from k2), if_neg (show ¬ (noBody f).kind = 3 from k3), if_neg (show ¬ (noBody f).kind = 4 from k4), if_neg (show ¬ (noBody f).kind = 6 from k6)]
            simp
end Go.Proofs.YtiibhccbbpgehaaGreat

/- lay and told of the statements: what the program lays behind bytes, and what the document says, are the same bytes. -/
namespace Go.Proofs.YtiibhccbbpgehaaGreat
open Go.RowKit

def five (K : Int) : Int := (wrap64 (K.tmod 5 + 5)).tmod 5
def putB (K : Int) (U : Nat) (I : Int) (ss : List ByteArray) : List UInt8 :=
  if (five K == 0) = true then sn U else if (five K == 1) = true then sn (zz I) else if (five K == 2) = true then [if (((U : Int) % 2) == 1) = true then 1 else 0] else if (five K == 3) = true then txs ss else ls ss

structure PutOk (w : World) (U : Nat) (I : Int) (tv : Value) (ss : List ByteArray) : Prop where
  u : U < 18446744073709551616
  i0 : -9223372036854775808 ≤ I
  i1 : I ≤ 9223372036854775807
  strs : WStrs w tv ss
  len : (txs ss).length ≤ 549755813888

theorem PutOk.below {w w' : World} {U : Nat} {I : Int} {tv : Value} {ss : List ByteArray} (h : PutOk w U I tv ss) (hb : Below w.heap.size w w') : PutOk w' U I tv ss := ⟨h.u, h.i0, h.i1, h.strs.below hb, h.len⟩

end Go.Proofs.YtiibhccbbpgehaaGreat

/- The law WirePuts, walked: it answers true, and only makes memory. -/
namespace Go.Proofs.YtiibhccbbpgehaaGreat
open Go.RowKit

structure PutD where
  k : Int
  u : Nat
  i : Int
  tv : Value
  ss : List ByteArray
def PutD.bytes (d : PutD) : List UInt8 := putB d.k d.u d.i d.ss
theorem OwnB.far {w w' : World} {base : Nat} {v : Value} {bs : List UInt8} {row : Option Nat} (h : OwnB w base v bs) (hg : w.grownBy w' row) (hr : ∀ j, row = some j → j < base) : OwnB w' base v bs := by
  refine h.kept hg ?_
  cases e : v.ownBlock with
  | none => exact Or.inl rfl
  | some j =>
    refine Or.inr (fun e2 => ?_)
    have h1 := (h.lt j e).1
    have h2 := hr j e2.symm
    omega

end Go.Proofs.YtiibhccbbpgehaaGreat

/- Short numbers read: the plain mathematics. Nothing here speaks of the program. -/
namespace Go.Proofs.YtiibhccbbpgehaaGreat

def dec : List UInt8 → Nat → Nat → Nat × Nat × Nat
  | [], _, _ => (4, 0, 0)
  | c :: r, i, acc => if i = 9 ∧ 1 < c.toNat then (10, 0, 0) else if 0 < i ∧ c.toNat = 0 then (5, 0, 0) else if c.toNat < 128 then (0, acc + c.toNat * 128 ^ i, i + 1) else dec r (i + 1) (acc + (c.toNat - 128) * 128 ^ i)

theorem dec_cons (c : UInt8) (r : List UInt8) (i acc : Nat) : dec (c :: r) i acc = if i = 9 ∧ 1 < c.toNat then (10, 0, 0) else if 0 < i ∧ c.toNat = 0 then (5, 0, 0) else if c.toNat < 128 then (0, acc + c.toNat * 128 ^ i, i + 1) else dec r (i + 1) (acc + (c.toNat - 128) * 128 ^ i) := rfl

theorem pow_mono {i : Nat} (h : i ≤ 9) : 128 ^ i ≤ 9223372036854775808 := by
  have : (128 : Nat) ^ i ≤ 128 ^ 9 := Nat.pow_le_pow_right (by decide) h
  omega
theorem pow_step {i : Nat} (h : i < 9) : 128 ^ i ≤ 72057594037927936 := by
  have : (128 : Nat) ^ i ≤ 128 ^ 8 := Nat.pow_le_pow_right (by decide) (by omega)
  omega

theorem dec_err : ∀ (l : List UInt8) (i acc : Nat), (dec l i acc).1 ≠ 0 → (dec l i acc).2 = (0, 0)
  | [], _, _, _ => rfl
  | c :: r, i, acc, h => by
    rw [dec_cons] at h ⊢
    split
    · rfl
    · split
      · rfl
      · split
        · rename_i h1 h2 h3
          rw [if_neg h1, if_neg h2, if_pos h3] at h
          exact absurd rfl h
        · rename_i h1 h2 h3
          rw [if_neg h1, if_neg h2, if_neg h3] at h
          exact dec_err r (i + 1) _ h

theorem dec_cases : ∀ (l : List UInt8) (i acc : Nat), (dec l i acc).1 = 0 ∨ (dec l i acc).1 = 4 ∨ (dec l i acc).1 = 5 ∨ (dec l i acc).1 = 10
  | [], _, _ => Or.inr (Or.inl rfl)
  | c :: r, i, acc => by
    rw [dec_cons]
    split
    · exact Or.inr (Or.inr (Or.inr rfl))
    · split
      · exact Or.inr (Or.inr (Or.inl rfl))
      · split
        · exact Or.inl rfl
        · exact dec_cases r (i + 1) _

theorem dec_sound : ∀ (l : List UInt8) (i acc n k : Nat), i ≤ 9 → acc < 128 ^ i → dec l i acc = (0, n, k) →
    i < k ∧ k ≤ i + l.length ∧ n < 18446744073709551616 ∧ ∃ m, n = acc + m * 128 ^ i ∧ l.take (k - i) = sn m ∧ (0 < i → 0 < m) ∧ m < 18446744073709551616
  | [], i, acc, n, k, _, _, h => by simp [dec] at h
  | c :: r, i, acc, n, k, hi, ha, h => by
    rw [dec_cons] at h
    have hc := UInt8.toNat_lt c
    have hp := pow_mono hi
    split at h
    · simp at h
    · rename_i h1
      split at h
      · simp at h
      · rename_i h2
        split at h
        · rename_i h3
          simp only [Prod.mk.injEq, true_and] at h
          obtain ⟨rfl, rfl⟩ := h
          refine ⟨by omega, by simp, ?_, c.toNat, rfl, ?_, by omega, by omega⟩
          · rcases Nat.lt_or_ge i 9 with h9 | h9
            · have := pow_step h9
              have h4 : c.toNat * 128 ^ i ≤ 127 * 72057594037927936 := Nat.mul_le_mul (by omega) this
              omega
            · obtain rfl : i = 9 := by omega
              have h5 : c.toNat ≤ 1 := by omega
              have h4 : c.toNat * 128 ^ 9 ≤ 1 * 128 ^ 9 := Nat.mul_le_mul_right _ h5
              omega
          · rw [sn_lt h3]
            have : i + 1 - i = 1 := by omega
            rw [this]
            simp
        · rename_i h3
          have hi9 : i < 9 := by
            rcases Nat.lt_or_ge i 9 with h9 | h9
            · exact h9
            · exact absurd ⟨by omega, by omega⟩ h1
          have hps : 128 ^ (i + 1) = 128 ^ i * 128 := Nat.pow_succ _ _
          have hacc : acc + (c.toNat - 128) * 128 ^ i < 128 ^ (i + 1) := by
            have : (c.toNat - 128) * 128 ^ i ≤ 127 * 128 ^ i := Nat.mul_le_mul_right _ (by omega)
            rw [hps]; omega
          obtain ⟨h4, h5, h6, m, h7, h8, h9, h10⟩ := dec_sound r (i + 1) _ n k (by omega) hacc h
          refine ⟨by omega, by simp; omega, h6, m * 128 + (c.toNat - 128), ?_, ?_, by have := h9 (by omega); omega, ?_⟩
          · rw [h7, hps, Nat.add_mul, Nat.mul_assoc m 128, Nat.mul_comm 128]; omega
          · have hm := h9 (by omega)
            have hlt : m * 128 + (c.toNat - 128) < 18446744073709551616 := by
              have hpp : 1 ≤ 128 ^ i := Nat.pow_pos (by decide)
              have : m * 128 * 1 ≤ m * 128 * 128 ^ i := Nat.mul_le_mul_left _ hpp
              have h11 : (c.toNat - 128) * 1 ≤ (c.toNat - 128) * 128 ^ i := Nat.mul_le_mul_left _ hpp
              rw [h7, hps] at h6
              have : m * (128 ^ i * 128) = m * 128 * 128 ^ i := by rw [Nat.mul_comm (128 ^ i), Nat.mul_assoc]
              omega
            rw [sn_ge (by omega) hlt]
            have e1 : (m * 128 + (c.toNat - 128)) % 128 + 128 = c.toNat := by omega
            have e2 : (m * 128 + (c.toNat - 128)) / 128 = m := by omega
            have e3 : k - i = (k - (i + 1)) + 1 := by omega
            rw [e1, e2, e3, List.take_succ_cons, h8]
            simp
          · have hpp : 1 ≤ 128 ^ i := Nat.pow_pos (by decide)
            have : m * 128 * 1 ≤ m * 128 * 128 ^ i := Nat.mul_le_mul_left _ hpp
            have h11 : (c.toNat - 128) * 1 ≤ (c.toNat - 128) * 128 ^ i := Nat.mul_le_mul_left _ hpp
            rw [h7, hps] at h6
            have : m * (128 ^ i * 128) = m * 128 * 128 ^ i := by rw [Nat.mul_comm (128 ^ i), Nat.mul_assoc]
            omega

theorem dec_snF : ∀ (f m i acc : Nat) (r : List UInt8), 0 < f → m < 128 ^ f → i ≤ 9 → m * 128 ^ i < 18446744073709551616 → (0 < i → 0 < m) → dec (snF f m ++ r) i acc = (0, acc + m * 128 ^ i, i + (snF f m).length)
  | 0, _, _, _, _, h, _, _, _, _ => absurd h (Nat.lt_irrefl _)
  | f + 1, m, i, acc, r, _, hm, hi, hlt, hpos => by
    rw [snF_succ]
    by_cases h : m < 128
    · rw [if_pos h]
      have e : (m.toUInt8).toNat = m := by simp; omega
      have h1 : ¬ (i = 9 ∧ 1 < (m.toUInt8).toNat) := by
        rw [e]
        rintro ⟨rfl, h2⟩
        have : 2 * 128 ^ 9 ≤ m * 128 ^ 9 := Nat.mul_le_mul_right _ h2
        omega
      have h2 : ¬ (0 < i ∧ (m.toUInt8).toNat = 0) := by
        rw [e]
        rintro ⟨h3, h4⟩
        have := hpos h3
        omega
      show dec (m.toUInt8 :: r) i acc = _
      rw [dec_cons, if_neg h1, if_neg h2, if_pos (by rw [e]; exact h), e]
      rfl
    · rw [if_neg h]
      have e : ((m % 128 + 128).toUInt8).toNat = m % 128 + 128 := by simp; omega
      have hi9 : i < 9 := by
        rcases Nat.lt_or_ge i 9 with h9 | h9
        · exact h9
        · obtain rfl : i = 9 := by omega
          have : 128 * 128 ^ 9 ≤ m * 128 ^ 9 := Nat.mul_le_mul_right _ (by omega)
          omega
      have hd : m / 128 < 128 ^ f := by
        rw [Nat.pow_succ] at hm
        exact Nat.div_lt_of_lt_mul (by rw [Nat.mul_comm]; exact hm)
      have hf : 0 < f := by
        rcases Nat.eq_zero_or_pos f with rfl | h'
        · simp at hd; omega
        · exact h'
      have hps : 128 ^ (i + 1) = 128 ^ i * 128 := Nat.pow_succ _ _
      have hmul : m / 128 * 128 ^ (i + 1) + m % 128 * 128 ^ i = m * 128 ^ i := by
        rw [hps, ← Nat.mul_assoc, Nat.mul_right_comm, ← Nat.add_mul, Nat.div_add_mod']
      show dec ((m % 128 + 128).toUInt8 :: (snF f (m / 128) ++ r)) i acc = _
      rw [dec_cons, if_neg (by omega), if_neg (by omega), if_neg (by omega), e, dec_snF f (m / 128) (i + 1) _ r hf hd (by omega) (by omega) (by omega)]
      simp only [List.length_cons, Prod.mk.injEq, true_and]
      constructor
      · have : m % 128 + 128 - 128 = m % 128 := by omega
        rw [this]; omega
      · omega
theorem dec_sn (n : Nat) (r : List UInt8) (hn : n < 18446744073709551616) : dec (sn n ++ r) 0 0 = (0, n, (sn n).length) := by
  have := dec_snF 10 n 0 0 r (by omega) (by omega) (by omega) (by omega) (by omega)
  unfold sn
  simpa using this

theorem dec_ok {l : List UInt8} {n k : Nat} (h : dec l 0 0 = (0, n, k)) : 0 < k ∧ k ≤ l.length ∧ n < 18446744073709551616 ∧ l.take k = sn n := by
  obtain ⟨h1, h2, h3, m, h4, h5, _, _⟩ := dec_sound l 0 0 n k (by omega) (by simp) h
  have e : n = m := by simpa using h4
  subst e
  exact ⟨h1, by omega, h3, by simpa using h5⟩
theorem dec_ok_len {l : List UInt8} {n k : Nat} (h : dec l 0 0 = (0, n, k)) : k = (sn n).length := by
  obtain ⟨_, h2, _, h4⟩ := dec_ok h
  rw [← h4]; simp; omega
theorem dec_le (l : List UInt8) {e n k : Nat} (h : dec l 0 0 = (e, n, k)) : k ≤ l.length ∧ n < 18446744073709551616 ∧ e < 16 ∧ (e ≠ 0 → n = 0 ∧ k = 0) := by
  by_cases he : e = 0
  · subst he
    obtain ⟨_, h2, h3, _⟩ := dec_ok h
    exact ⟨h2, h3, by omega, fun h' => absurd rfl h'⟩
  · have h1 := dec_err l 0 0 (by rw [h]; exact he)
    rw [h] at h1
    simp at h1
    refine ⟨by omega, by omega, ?_, fun _ => h1⟩
    have := dec_cases l 0 0
    rw [h] at this
    simp at this
    omega

end Go.Proofs.YtiibhccbbpgehaaGreat

/- place.number over a reader that NewReader gave: it reads the short number that stands there, or tells why there is none. -/
namespace Go.Proofs.YtiibhccbbpgehaaGreat
open Go.RowKit

theorem drop_cons {bs : List UInt8} {j : Nat} (h : j < bs.length) : bs.drop j = bs.getD j 0 :: bs.drop (j + 1) := by
  rw [List.drop_eq_getElem_cons h]
  simp [List.getD_eq_getElem?_getD, List.getElem?_eq_getElem h]

theorem bits_and_127_all : ∀ a : Fin 256, bits BinOp.and IntKind.u8 (a.val : Int) 127 = ((a.val % 128 : Nat) : Int) := by decide +kernel
theorem bits_and_127 (c : Nat) (h : c < 256) : bits BinOp.and IntKind.u8 (c : Int) 127 = ((c % 128 : Nat) : Int) := bits_and_127_all ⟨c, h⟩
theorem seven_pow (j : Nat) : (2 : Nat) ^ (7 * j) = 128 ^ j := by rw [Nat.pow_mul]
theorem group_lt {c j : Nat} (hj : j ≤ 9) (h9 : j = 9 → c ≤ 1) : c % 128 * 128 ^ j < 18446744073709551616 := by
  rcases Nat.lt_or_ge j 9 with h | h
  · have h1 := pow_step h
    have : c % 128 * 128 ^ j ≤ 127 * 72057594037927936 := Nat.mul_le_mul (by omega) h1
    omega
  · obtain rfl : j = 9 := by omega
    have h1 := h9 rfl
    have : c % 128 * 128 ^ 9 ≤ 1 * 128 ^ 9 := Nat.mul_le_mul_right _ (by omega)
    omega
theorem num_step {acc c j : Nat} (hj : j ≤ 9) (ha : acc < 128 ^ j) (hc : c < 256) (h9 : j = 9 → c ≤ 1) :
    bits BinOp.or IntKind.u64 (acc : Int) (IntKind.u64.wrap (IntKind.u64.wrap (bits BinOp.and IntKind.u8 (c : Int) 127) * 2 ^ (7 * j))) = ((acc + c % 128 * 128 ^ j : Nat) : Int) := by
  have hg := group_lt hj h9
  have hp := pow_mono hj
  have e1 : IntKind.u64.wrap (bits BinOp.and IntKind.u8 (c : Int) 127) = ((c % 128 : Nat) : Int) := by rw [bits_and_127 c hc, IntKind.wrap_u64]; omega
  have e2 : ((c % 128 : Nat) : Int) * 2 ^ (7 * j) = ((c % 128 * 128 ^ j : Nat) : Int) := by rw [← seven_pow j]; simp
  have e3 : IntKind.u64.wrap ((c % 128 * 128 ^ j : Nat) : Int) = ((c % 128 * 128 ^ j : Nat) : Int) := by rw [IntKind.wrap_u64]; omega
  rw [e1, e2, e3, bits_or_u64 _ _ (by omega) hg]
  have e4 := Nat.two_pow_add_eq_or_of_lt (i := 7 * j) (b := acc) (by rw [seven_pow]; exact ha) (c % 128)
  rw [seven_pow] at e4
  rw [Nat.or_comm, Nat.mul_comm (c % 128), ← e4]
  omega
theorem num_step9 {acc c : Nat} (ha : acc < 128 ^ 9) (h9 : c ≤ 1) :
    bits BinOp.or IntKind.u64 (acc : Int) (IntKind.u64.wrap (IntKind.u64.wrap (bits BinOp.and IntKind.u8 (c : Int) 127) * 9223372036854775808)) = ((acc + c % 128 * 128 ^ 9 : Nat) : Int) :=
  num_step (j := 9) (by omega) ha (by omega) (fun _ => h9)

theorem ret_num {x y : Int} (h : x = y) : Ending.returned (.tuple #[.int .u64 x, .int .i64 0]) = .returned (.tuple #[.int .u64 y, .int .i64 0]) := by rw [h]

section
variable {er n k j c acc : Nat} {r : List UInt8}
theorem end_wide (H : (er, n, k) = if j = 9 ∧ 1 < c then (10, 0, 0) else if 0 < j ∧ c = 0 then (5, 0, 0) else if c < 128 then (0, acc + c * 128 ^ j, j + 1) else dec r (j + 1) (acc + (c - 128) * 128 ^ j)) (h1 : j = 9) (h2 : 1 < c) : er = 10 ∧ n = 0 ∧ k = 0 := by
  rw [if_pos ⟨h1, h2⟩] at H; simpa using H
theorem end_form (H : (er, n, k) = if j = 9 ∧ 1 < c then (10, 0, 0) else if 0 < j ∧ c = 0 then (5, 0, 0) else if c < 128 then (0, acc + c * 128 ^ j, j + 1) else dec r (j + 1) (acc + (c - 128) * 128 ^ j)) (h1 : ¬ (j = 9 ∧ 1 < c)) (h2 : 0 < j) (h3 : c = 0) : er = 5 ∧ n = 0 ∧ k = 0 := by
  rw [if_neg h1, if_pos ⟨h2, h3⟩] at H; simpa using H
theorem end_done (H : (er, n, k) = if j = 9 ∧ 1 < c then (10, 0, 0) else if 0 < j ∧ c = 0 then (5, 0, 0) else if c < 128 then (0, acc + c * 128 ^ j, j + 1) else dec r (j + 1) (acc + (c - 128) * 128 ^ j)) (h1 : ¬ (j = 9 ∧ 1 < c)) (h2 : ¬ (0 < j ∧ c = 0)) (h3 : c < 128) : er = 0 ∧ n = acc + c * 128 ^ j ∧ k = j + 1 := by
  rw [if_neg h1, if_neg h2, if_pos h3] at H; simpa using H
theorem end_more (H : (er, n, k) = if j = 9 ∧ 1 < c then (10, 0, 0) else if 0 < j ∧ c = 0 then (5, 0, 0) else if c < 128 then (0, acc + c * 128 ^ j, j + 1) else dec r (j + 1) (acc + (c - 128) * 128 ^ j)) (h1 : ¬ j = 9) (h2 : 128 ≤ c) : dec r (j + 1) (acc + (c - 128) * 128 ^ j) = (er, n, k) := by
  rw [if_neg (by omega), if_neg (by omega), if_neg (by omega)] at H; exact H.symm
end

set_option maxRecDepth 100000 in
set_option maxHeartbeats 1000000 in
theorem number_any (base b : Nat) (v : Value) (bs : List UInt8) (a : Nat) (why wat : Int) (w : World) (h : Rd w base b v bs a why wat) (er n k : Nat) (hdec : dec (bs.drop a) 0 0 = (er, n, k)) :
    Calls Tryz.prog 98 #[.pointer (some ⟨b, 0, none⟩)] w fun e w' => e = .returned (.tuple #[.int .u64 n, .int .i64 er]) ∧ Rd w' base b v bs (a + k) why wat ∧ w.grownBy w' (some b) := by
  have HD := hid hdec
  have HR := hid h
  have h0 := h.c0
  have h1 := h.c1
  have f1 := h.fz 1
  have hl := h.own.len
  have hle := h.le
  have HF := hid h.own.forms
  obtain ⟨ad, cap, rfl⟩ := h.own.shape
  clear h hdec
  have hl' := hl
  unfold maxLen at hl'
  go_enter Tryz.func98, Tryz.ntmps98
  go_wp2_with fail
  go_loopw [4, 5] (fun x i wr => ∃ (j acc q : Nat), j ≤ 9 ∧ a + j ≤ bs.length ∧ acc < 128 ^ j ∧ dec (bs.drop (a + j)) j acc = (er, n, k) ∧ x = .int .u64 acc ∧ i = .int .i64 j ∧ wr = w.drewN q) (fun _ i _ => 10 - (intOf i).toNat)
  case atStart => exact ⟨0, 0, 0, by omega, by omega, by simp, HD.out, rfl, rfl, rfl⟩
  case round =>
    obtain ⟨j, acc, q, hj, haj, hacc, hd, rfl, rfl, rfl⟩ := hrel
    have HDR := hid hd
    have HAC := hid hacc
    clear hd hacc HD
    by_cases hlt : a + j < bs.length
    · obtain ⟨g, hadr, hbyte⟩ : ∃ g, ad = some ⟨g, 0, none⟩ ∧ w.cell? ⟨g, a + j, none⟩ = some (.int .u8 (bs.getD (a + j) 0).toNat) := by
        rcases HF.out with ⟨_, rfl⟩ | ⟨g, cp, hv, _, _, _, _, _, hc⟩
        · simp at hlt
        · simp only [Value.slice.injEq] at hv
          exact ⟨g, hv.1, hc _ hlt⟩
      subst hadr
      have HDR2 := hid (by rw [← HDR.out, drop_cons hlt, dec_cons] : (er, n, k) = _)
      have hcl := UInt8.toNat_lt (bs.getD (a + j) 0)
      generalize (bs.getD (a + j) 0).toNat = c at *
      have hbd : (a : Int) + (j : Int) < (bs.length : Int) := by omega
      have hbd0 : 0 ≤ (a : Int) + (j : Int) := by omega
      have hte : ((a : Int) + (j : Int)).toNat = a + j := by omega
      go_wp2_with (go_at_call 117; go_must (refine (pleft_any _ _ _ (a : Int) _ _ hl (by omega) (by omega) (by exact h0) (by exact h1)).mono ?_); rintro e w' ⟨rfl, q2, rfl⟩)
      go_quiet (fail)
      by_cases h9 : (j : Int) = 9
      · have HJ := hid (by omega : j = 9)
        go_wp2_with fail
        · go_ret2
          have hc1 : (1 : Int) < (c : Int) := by assumption
          obtain ⟨rfl, rfl, rfl⟩ := end_wide HDR2.out HJ.out (by omega)
          exact ⟨rfl, HR.out.drewN _, gb_drewN _ _ _⟩
        · go_ret2
          have hz : ((c : Int) == 0) = true := by assumption
          have hz' : c = 0 := by simpa using hz
          obtain ⟨rfl, rfl, rfl⟩ := end_form HDR2.out (by omega) (by have := HJ.out; omega) hz'
          exact ⟨rfl, HR.out.drewN _, gb_drewN _ _ _⟩
        · have hz : ((c : Int) == 0) = false := by assumption
          have hz' : c ≠ 0 := by simpa using hz
          have hc1 : (c : Int) ≤ 1 := by assumption
          go_ret2
          have e0 := end_done HDR2.out (by omega) (by omega) (by omega)
          have R := (HR.out.drewN (q + q2 + nq)).setAt (a + (j + 1)) (by omega)
          have e1 : c % 128 = c := by omega
          have e2 : (a : Int) + 10 = ((a + (j + 1) : Nat) : Int) := by omega
          rw [e2]
          obtain ⟨rfl, rfl, rfl⟩ := e0
          exact ⟨ret_num (by rw [num_step9 (HJ.out ▸ HAC.out) (by omega), e1, HJ.out]), R, gb_trans (gb_drewN _ _ _) (gb_set _ _ _)⟩
      · have HJ9 := hid (by omega : ¬ j = 9)
        by_cases h0 : 0 < j
        · go_wp2_with fail
          · go_ret2
            have hz : ((c : Int) == 0) = true := by assumption
            have hz' : c = 0 := by simpa using hz
            obtain ⟨rfl, rfl, rfl⟩ := end_form HDR2.out (by omega) h0 hz'
            exact ⟨rfl, HR.out.drewN _, gb_drewN _ _ _⟩
          · have hz : ((c : Int) == 0) = false := by assumption
            have hz' : c ≠ 0 := by simpa using hz
            have hc1 : (c : Int) < 128 := by assumption
            go_ret2
            have e0 := end_done HDR2.out (by omega) (by omega) (by omega)
            have R := (HR.out.drewN (q + q2 + nq)).setAt (a + (j + 1)) (by omega)
            have e1 : c % 128 = c := by omega
            have e2 : (a : Int) + ((j : Int) + 1) = ((a + (j + 1) : Nat) : Int) := by omega
            rw [e2]
            obtain ⟨rfl, rfl, rfl⟩ := e0
            exact ⟨ret_num (by rw [num_step (by omega) HAC.out hcl (fun e => absurd e HJ9.out), e1]), R, gb_trans (gb_drewN _ _ _) (gb_set _ _ _)⟩
          · have hz : ((c : Int) == 0) = false := by assumption
            have hc128 : (128 : Int) ≤ (c : Int) := by assumption
            have e0 := end_more HDR2.out HJ9.out (by omega)
            have e1 : c % 128 = c - 128 := by omega
            have hps : 128 ^ (j + 1) = 128 ^ j * 128 := Nat.pow_succ _ _
            have hmul : (c - 128) * 128 ^ j ≤ 127 * 128 ^ j := Nat.mul_le_mul_right _ (by omega)
            have hac := HAC.out
            refine ⟨⟨j + 1, acc + (c - 128) * 128 ^ j, q + q2 + nq, by omega, by omega, by rw [hps]; omega, by rw [← Nat.add_assoc]; exact e0, ?_, by go_num, rfl⟩, by simp [intOf]; omega⟩
            rw [num_step (by omega) HAC.out hcl (fun e => absurd e HJ9.out), e1]
        · go_wp2_with fail
          · have hc1 : (c : Int) < 128 := by assumption
            go_ret2
            have e0 := end_done HDR2.out (by omega) (by omega) (by omega)
            have R := (HR.out.drewN (q + q2 + nq)).setAt (a + (j + 1)) (by omega)
            have e1 : c % 128 = c := by omega
            have e2 : (a : Int) + ((j : Int) + 1) = ((a + (j + 1) : Nat) : Int) := by omega
            rw [e2]
            obtain ⟨rfl, rfl, rfl⟩ := e0
            exact ⟨ret_num (by rw [num_step (by omega) HAC.out hcl (fun e => absurd e HJ9.out), e1]), R, gb_trans (gb_drewN _ _ _) (gb_set _ _ _)⟩
          · have hc128 : (128 : Int) ≤ (c : Int) := by assumption
            have e0 := end_more HDR2.out HJ9.out (by omega)
            have e1 : c % 128 = c - 128 := by omega
            have hps : 128 ^ (j + 1) = 128 ^ j * 128 := Nat.pow_succ _ _
            have hmul : (c - 128) * 128 ^ j ≤ 127 * 128 ^ j := Nat.mul_le_mul_right _ (by omega)
            have hac := HAC.out
            refine ⟨⟨j + 1, acc + (c - 128) * 128 ^ j, q + q2 + nq, by omega, by omega, by rw [hps]; omega, by rw [← Nat.add_assoc]; exact e0, ?_, by go_num, rfl⟩, by simp [intOf]; omega⟩
            rw [num_step (by omega) HAC.out hcl (fun e => absurd e HJ9.out), e1]
    · have hnl : ¬ ((j : Int) < (bs.length : Int) - (a : Int)) := by omega
      have HN := hid (by rw [← HDR.out, List.drop_eq_nil_of_le (by omega)]; rfl : (er, n, k) = (4, 0, 0))
      go_wp2_with (go_at_call 117; go_must (refine (pleft_any _ _ _ (a : Int) _ _ hl (by omega) (by omega) (by exact h0) (by exact h1)).mono ?_); rintro e w' ⟨rfl, q2, rfl⟩)
      go_ret2
      have e1 := HN.out
      simp only [Prod.mk.injEq] at e1
      obtain ⟨rfl, rfl, rfl⟩ := e1
      exact ⟨rfl, HR.out.drewN _, gb_drewN _ _ _⟩

end Go.Proofs.YtiibhccbbpgehaaGreat

/- numberUpTo, truth, text and raw over a reader that NewReader gave. -/
namespace Go.Proofs.YtiibhccbbpgehaaGreat
open Go.RowKit

def upTo (l : List UInt8) (most t : Nat) : Nat × Nat × Nat :=
  if (dec l 0 0).1 ≠ 0 then dec l 0 0 else if most < (dec l 0 0).2.1 then (t, 0, 0) else dec l 0 0
def wtxt (l : List UInt8) (most : Nat) : Nat × List UInt8 × Nat :=
  if (upTo l most 3).1 ≠ 0 then ((upTo l most 3).1, [], 0) else if l.length < (upTo l most 3).2.2 + (upTo l most 3).2.1 then (4, [], 0) else (0, (l.drop (upTo l most 3).2.2).take (upTo l most 3).2.1, (upTo l most 3).2.2 + (upTo l most 3).2.1)

theorem upTo_le {l : List UInt8} {most t er n k : Nat} (h : upTo l most t = (er, n, k)) : k ≤ l.length ∧ n ≤ most ∧ (er ≠ 0 → n = 0 ∧ k = 0) := by
  unfold upTo at h
  split at h
  · rename_i h1
    have h2 := dec_err l 0 0 h1
    rw [h] at h2
    simp at h2
    exact ⟨by omega, by omega, fun _ => h2⟩
  · rename_i h1
    split at h
    · simp at h
      obtain ⟨rfl, rfl, rfl⟩ := h
      exact ⟨by omega, by omega, fun _ => ⟨rfl, rfl⟩⟩
    · rename_i h2
      obtain ⟨a1, a2, a3, a4⟩ := dec_le l h
      rw [h] at h2
      simp at h2
      exact ⟨a1, h2, a4⟩
theorem txt_le {l : List UInt8} {most er k : Nat} {s : List UInt8} (h : wtxt l most = (er, s, k)) : k ≤ l.length ∧ s.length ≤ most ∧ (er ≠ 0 → s = [] ∧ k = 0) := by
  unfold wtxt at h
  split at h
  · simp at h
    obtain ⟨_, rfl, rfl⟩ := h
    exact ⟨by omega, by simp, fun _ => ⟨rfl, rfl⟩⟩
  · split at h
    · simp at h
      obtain ⟨_, rfl, rfl⟩ := h
      exact ⟨by omega, by simp, fun _ => ⟨rfl, rfl⟩⟩
    · rename_i h1 h2
      simp only [Prod.mk.injEq] at h
      obtain ⟨rfl, rfl, rfl⟩ := h
      obtain ⟨a1, a2, _⟩ := upTo_le (l := l) (most := most) (t := 3) (er := (upTo l most 3).1) (n := (upTo l most 3).2.1) (k := (upTo l most 3).2.2) rfl
      exact ⟨by omega, by simp; omega, fun h' => absurd rfl h'⟩

theorem ret_ie {x y : Int} {e f : Int} (h : x = y) (h2 : e = f) : Ending.returned (.tuple #[.int .i64 x, .int .i64 e]) = .returned (.tuple #[.int .i64 y, .int .i64 f]) := by rw [h, h2]

section
variable (base b : Nat) (v : Value) (bs : List UInt8) (a : Nat) (why wat : Int) (w : World)

set_option maxRecDepth 100000 in
set_option maxHeartbeats 1000000 in
theorem numberUpTo_any (most t : Nat) (h : Rd w base b v bs a why wat) (hm : most ≤ 9223372036854775807) (ht : t ≠ 0) (er n k : Nat) (hup : upTo (bs.drop a) most t = (er, n, k)) :
    Calls Tryz.prog 118 #[.pointer (some ⟨b, 0, none⟩), .int .i64 most, .int .i64 t] w fun e w' => e = .returned (.tuple #[.int .i64 n, .int .i64 er]) ∧ Rd w' base b v bs (a + k) why wat ∧ w.grownBy w' (some b) := by
  obtain ⟨er0, n0, k0, hd⟩ : ∃ er0 n0 k0, dec (bs.drop a) 0 0 = (er0, n0, k0) := ⟨_, _, _, rfl⟩
  have HC := hid (number_any base b v bs a why wat w h er0 n0 k0 hd)
  have h1 := h.c1
  have hlt := h.lt
  have HR := hid h
  obtain ⟨d1, d2, d3, d4⟩ := dec_le _ hd
  have HU := hid hup
  unfold upTo at hup
  rw [hd] at hup
  simp only at hup
  have HUP := hid hup
  clear hup h
  have HDL := hid d4
  clear d4
  by_cases he : er0 = 0
  · subst he
    have hsimp := HUP.out
    rw [if_neg (by simp)] at hsimp
    by_cases hgt : most < n0
    · rw [if_pos hgt] at hsimp
      simp only [Prod.mk.injEq] at hsimp
      have HE := hid hsimp
      clear hsimp
      have htb : (((t : Int)) != 0) = true := by simp; omega
      have hgti : (most : Int) < (n0 : Int) := by omega
      go_enter Tryz.func118, Tryz.ntmps118
      go_wp2_with fail
      refine Calls.mono HC.out ?_
      rintro e w1 ⟨rfl, hR1, hg1⟩
      have HR1 := hid hR1
      have HG1 := hid hg1
      have g1 := hR1.c1
      have f1 := hR1.fz 1
      clear hR1 hg1 HC
      go_wp2
      go_ret2
      obtain ⟨rfl, rfl, rfl⟩ := HE.out
      exact ⟨ret_ie rfl rfl, HR1.out.setAt a HR.out.le, gb_trans HG1.out (gb_set _ _ _)⟩
    · rw [if_neg hgt] at hsimp
      simp only [Prod.mk.injEq] at hsimp
      have HE := hid hsimp
      clear hsimp
      have hgti : ¬ ((most : Int) < (n0 : Int)) := by omega
      go_enter Tryz.func118, Tryz.ntmps118
      go_wp2_with fail
      refine Calls.mono HC.out ?_
      rintro e w1 ⟨rfl, hR1, hg1⟩
      have HR1 := hid hR1
      have HG1 := hid hg1
      clear hR1 hg1 HC
      go_wp2
      go_ret2
      obtain ⟨rfl, rfl, rfl⟩ := HE.out
      exact ⟨ret_ie rfl rfl, HR1.out, HG1.out⟩
  · have hsimp := HUP.out
    rw [if_pos (by simpa using he)] at hsimp
    simp only [Prod.mk.injEq] at hsimp
    have HE := hid hsimp
    have hz := HDL.out he
    have HZ := hid hz
    clear hsimp hz
    have heb : ((er0 : Int) == 0) = false := by simp; omega
    have heb2 : ((er0 : Int) != 0) = true := by simp; omega
    go_enter Tryz.func118, Tryz.ntmps118
    go_wp2_with fail
    refine Calls.mono HC.out ?_
    rintro e w1 ⟨rfl, hR1, hg1⟩
    have HR1 := hid hR1
    have HG1 := hid hg1
    clear hR1 hg1 HC
    go_wp2
    go_ret2
    have e1 := HE.out
    have e2 := HZ.out
    obtain ⟨rfl, rfl, rfl⟩ := e1
    obtain ⟨rfl, rfl⟩ := e2
    exact ⟨ret_ie rfl rfl, HR1.out, HG1.out⟩
end

end Go.Proofs.YtiibhccbbpgehaaGreat

/- truth, text and raw over a reader that NewReader gave. -/
namespace Go.Proofs.YtiibhccbbpgehaaGreat
open Go.RowKit

theorem ret_se {x y : ByteArray} {e f : Int} (h : x = y) (h2 : e = f) : Ending.returned (.tuple #[.string x, .int .i64 e]) = .returned (.tuple #[.string y, .int .i64 f]) := by rw [h, h2]

theorem OwnB.part {w : World} {base : Nat} {v : Value} {bs : List UInt8} (h : OwnB w base v bs) (g cap lo n : Nat) (hv : v = .slice (some ⟨g, 0, none⟩) bs.length cap) (hn : lo + n ≤ bs.length) (hl : bs.length ≤ 140737488355327) :
    Src w (.slice (some ⟨g, lo, none⟩) n (cap - lo)) ((bs.drop lo).take n) := by
  rcases h.forms with ⟨h1, _⟩ | ⟨g', cap', hv', _, hlt, h1, h2, _, hc⟩
  · rw [hv] at h1; simp at h1
  · rw [hv] at hv'
    simp only [Value.slice.injEq, Option.some.injEq, Addr.mk.injEq, and_true, true_and] at hv'
    obtain ⟨rfl, rfl⟩ := hv'
    have hlen : ((bs.drop lo).take n).length = n := by simp; omega
    refine ⟨by rw [hlen]; omega, Or.inr ⟨⟨g, lo, none⟩, cap - lo, by rw [hlen], by rw [hlen]; omega, by omega, fun _ => hlt, fun j hj => ?_⟩⟩
    rw [hlen] at hj
    have e : (⟨g, lo, none⟩ : Addr).add j = ⟨g, lo + j, none⟩ := by
      by_cases h : j = 0
      · subst h; simp [Addr.add]
      · simp [Addr.add, h]
    rw [e, hc _ (by omega)]
    simp [List.getD_eq_getElem?_getD, hj]

theorem upTo_pos {l : List UInt8} {most t n k : Nat} (ht : t ≠ 0) (h : upTo l most t = (0, n, k)) : 0 < k := by
  unfold upTo at h
  split at h
  · rename_i h1
    rw [h] at h1
    exact absurd rfl h1
  · split at h
    · simp at h; exact absurd h.1 ht
    · exact (dec_ok h).1

theorem src_empty {w : World} (g : Nat) (hg : g < w.heap.size) : Src w (.slice (some ⟨g, 0, none⟩) 0 0) [] :=
  ⟨by simp, Or.inr ⟨⟨g, 0, none⟩, 0, rfl, by simp, by simp, fun _ => hg, fun j hj => by simp at hj⟩⟩

section

variable (base b : Nat) (v : Value) (bs : List UInt8) (a : Nat) (why wat : Int) (w : World)

set_option maxRecDepth 100000 in
set_option maxHeartbeats 1000000 in
theorem text_any (most : Nat) (h : Rd w base b v bs a why wat) (hbl : bs.length ≤ 140737488355327) (hm : most ≤ 9223372036854775807) (er k : Nat) (s : List UInt8) (ht : wtxt (bs.drop a) most = (er, s, k)) :
    Calls Tryz.prog 156 #[.pointer (some ⟨b, 0, none⟩), .int .i64 most] w fun e w' => e = .returned (.tuple #[.string ⟨s.toArray⟩, .int .i64 er]) ∧ Rd w' base b v bs (a + k) why wat ∧ w.grownBy w' (some b) := by
  obtain ⟨er0, n0, k0, hd⟩ : ∃ er0 n0 k0, upTo (bs.drop a) most 3 = (er0, n0, k0) := ⟨_, _, _, rfl⟩
  have HC := hid (numberUpTo_any base b v bs a why wat w most 3 h hm (by omega) er0 n0 k0 hd)
  have h1 := h.c1
  have HR := hid h
  have hle := h.le
  obtain ⟨d1, d2, d4⟩ := upTo_le hd
  have hdl : (bs.drop a).length = bs.length - a := by simp
  unfold wtxt at ht
  rw [hd] at ht
  simp only at ht
  rw [hdl] at ht d1
  have HT := hid ht
  have HDL := hid d4
  have HK := hid (fun e => upTo_pos (by omega : (3 : Nat) ≠ 0) (e ▸ hd) : er0 = 0 → 0 < k0)
  clear ht d4 hd h hdl
  by_cases he : er0 = 0
  · subst he
    have hsimp := HT.out
    rw [if_neg (by simp)] at hsimp
    by_cases hgt : bs.length - a < k0 + n0
    · rw [if_pos hgt] at hsimp
      simp only [Prod.mk.injEq] at hsimp
      have HE := hid hsimp
      clear hsimp
      have hgti : (bs.length : Int) - ((a + k0 : Nat) : Int) < (n0 : Int) := by omega
      go_enter Tryz.func156, Tryz.ntmps156
      go_wp2_with fail
      refine Calls.mono HC.out ?_
      rintro e w1 ⟨rfl, hR1, hg1⟩
      have HR1 := hid hR1
      have HG1 := hid hg1
      have g0 := hR1.c0
      have g1 := hR1.c1
      have f1 := hR1.fz 1
      have hl := hR1.own.len
      obtain ⟨ad, cap, rfl⟩ := hR1.own.shape
      clear hR1 hg1 HC
      go_wp2_with fail
      refine (pleft_any _ _ _ ((a + k0 : Nat) : Int) _ _ hl (by omega) (by omega) g0 g1).mono ?_
      rintro e w2 ⟨rfl, q, rfl⟩
      go_wp2
      go_ret2
      obtain ⟨rfl, rfl, rfl⟩ := HE.out
      exact ⟨ret_se rfl rfl, (HR1.out.drewN q).setAt a HR.out.le, gb_trans (gb_trans HG1.out (gb_drewN _ _ _)) (gb_set _ _ _)⟩
    · rw [if_neg hgt] at hsimp
      simp only [Prod.mk.injEq] at hsimp
      have HE := hid hsimp
      have HX := hid (by have := HK.out rfl; omega : 0 < bs.length)
      clear hsimp
      have hgti : ¬ ((bs.length : Int) - ((a + k0 : Nat) : Int) < (n0 : Int)) := by omega
      go_enter Tryz.func156, Tryz.ntmps156
      go_wp2_with fail
      refine Calls.mono HC.out ?_
      rintro e w1 ⟨rfl, hR1, hg1⟩
      have HR1 := hid hR1
      have HG1 := hid hg1
      have g0 := hR1.c0
      have g1 := hR1.c1
      have f1 := hR1.fz 1
      have hl := hR1.own.len
      obtain ⟨ad, cap, rfl⟩ := hR1.own.shape
      clear hR1 hg1 HC
      go_wp2_with fail
      refine (pleft_any _ _ _ ((a + k0 : Nat) : Int) _ _ hl (by omega) (by omega) g0 g1).mono ?_
      rintro e w2 ⟨rfl, q, rfl⟩
      go_wp2_with fail
      have hA : ((a : Int) + (k0 : Int) + (n0 : Int)) = ((a + (k0 + n0) : Nat) : Int) := by omega
      rw [hA]
      have R3 := (HR1.out.drewN q).setAt (a + (k0 + n0)) (by omega)
      have HR3 := hid R3
      have HG3 := hid (gb_trans (gb_trans HG1.out (gb_drewN _ q _)) (gb_set _ ⟨b, 1, none⟩ (.int .i64 ((a + (k0 + n0) : Nat) : Int))))
      clear R3 g0 g1 f1 HR1 HG1 hA h1
      generalize ((w1.drewN q).setCell ⟨b, 1, none⟩ (.int .i64 ((a + (k0 + n0) : Nat) : Int))) = W3 at *
      obtain ⟨g, hg, hcap⟩ : ∃ g, ad = some ⟨g, 0, none⟩ ∧ bs.length ≤ cap := by
        rcases HR3.out.own.forms with ⟨_, h2⟩ | ⟨g, cp, hv, _, _, h3, _⟩
        · have := HX.out; rw [h2] at this; simp at this
        · simp only [Value.slice.injEq] at hv
          exact ⟨g, hv.1, hv.2.2 ▸ h3⟩
      subst hg
      have HG := hid ((HR3.out.own.lt g rfl).2)
      have HP := hid (fun q => run_str ((HR3.out.drewN q).own.part g cap (a + k0) n0 rfl (by omega) hbl) : ∀ q, (convert 22 9 (.slice (some ⟨g, a + k0, none⟩) n0 (cap - (a + k0)))).run Tryz.prog (W3.drewN q) = .ok (.string ⟨((bs.drop (a + k0)).take n0).toArray⟩) (W3.drewN q))
      have HZ := hid (fun q => run_str (src_empty (w := W3.drewN q) g HG.out) : ∀ q, (convert 22 9 (.slice (some ⟨g, 0, none⟩) 0 0)).run Tryz.prog (W3.drewN q) = .ok (.string ⟨([] : List UInt8).toArray⟩) (W3.drewN q))
      have HST := hid (by simp : (List.drop k0 (bs.drop a)).take n0 = (bs.drop (a + k0)).take n0)
      have c0 := HR3.out.c0
      have HC1 := hid HR3.out.c1
      generalize hAe : a + (k0 + n0) = A at *
      generalize hLe : a + k0 = lo at *
      have hA1 : lo + n0 = A := by omega
      have hA2 : lo ≤ A := by omega
      have hA3 : A ≤ cap := by omega
      have hA4 : A ≤ bs.length := by omega
      have hA6 : n0 = A - lo := by omega
      have HN := hid hA6
      have HP2 := hid (by rw [← HN.out]; exact HP.out : ∀ q, (convert 22 9 (.slice (some ⟨g, lo, none⟩) (A - lo) (cap - lo))).run Tryz.prog (W3.drewN q) = .ok (.string ⟨((bs.drop lo).take n0).toArray⟩) (W3.drewN q))
      have HAE := hid hAe
      have HLE := hid hLe
      have c1 := HC1.out
      have hw : IntKind.i64.wrap ((A : Int) - (n0 : Int)) = (lo : Int) := by rw [IntKind.wrap_i64]; omega
      clear hA1 hAe hLe hA6
      by_cases hcl : cap = lo
      · have hAl : A = lo := by omega
        have HN0 := hid (by have := HN.out; omega : n0 = 0)
        subst hcl
        subst hAl
        have hcv := HZ.out
        go_quiet (fail)
        clear hcv hw
        go_wp2
        go_ret2
        obtain ⟨rfl, rfl, rfl⟩ := HE.out
        exact ⟨ret_se (by rw [HN0.out]; simp) rfl, by rw [HAE.out]; exact HR3.out.drewN _, gb_trans HG3.out (gb_drewN _ _ _)⟩
      · have hcv := HP2.out
        generalize hS : ((bs.drop lo).take n0).toArray = S at *
        have HS := hid hS
        clear hS
        go_quiet (fail)
        clear hcv hw
        go_wp2
        go_ret2
        obtain ⟨rfl, rfl, rfl⟩ := HE.out
        exact ⟨ret_se (by rw [HST.out, ← HS.out]) rfl, by rw [HAE.out]; exact HR3.out.drewN _, gb_trans HG3.out (gb_drewN _ _ _)⟩
  · have hsimp := HT.out
    rw [if_pos (by simpa using he)] at hsimp
    simp only [Prod.mk.injEq] at hsimp
    have HE := hid hsimp
    have hz := HDL.out he
    have HZ := hid hz
    clear hsimp hz
    have heb2 : ((er0 : Int) != 0) = true := by simp; omega
    go_enter Tryz.func156, Tryz.ntmps156
    go_wp2_with fail
    refine Calls.mono HC.out ?_
    rintro e w1 ⟨rfl, hR1, hg1⟩
    have HR1 := hid hR1
    have HG1 := hid hg1
    clear hR1 hg1 HC
    go_wp2
    go_ret2
    have e1 := HE.out
    have e2 := HZ.out
    obtain ⟨rfl, rfl, rfl⟩ := e1
    obtain ⟨rfl, rfl⟩ := e2
    exact ⟨ret_se rfl rfl, HR1.out, HG1.out⟩

end

end Go.Proofs.YtiibhccbbpgehaaGreat

/- raw over a reader that NewReader gave: so many bytes, in new memory. -/
namespace Go.Proofs.YtiibhccbbpgehaaGreat
open Go.RowKit

theorem step_app_nil {ops : Array Oper} {o : Oper} {a : Act} {w : World} {K : Act → World → Prop} {Q : Exit → Act → World → Prop} {E : Prop}
    (hg : o.guard = none) (s x : Operand) (ho : o.op = Op.call { callee := Callee.builtin Builtin.append, args := #[s, x], argTypes := #[22, 22] })
    (hs : a.eval s = .slice none 0 0) (vx : Value) (cs : List UInt8) (hx : a.eval x = vx) (hsrc : Src w vx cs)
    (hK : ∀ v' w', OwnB w' w.heap.size v' cs → Below w.heap.size w w' → K (a.put o.dst v') w') :
    if Region.wanted o (yielded ops a.tmps) = true then Oper.wp Tryz.prog o a w K Q else E := by
  have hw : Region.wanted o (yielded ops a.tmps) = true := by simp [Region.wanted, hg]
  rw [if_pos hw]
  obtain ⟨i0, hi, hz0, hz1, hz2⟩ := info_parts Tryz.infoU8
  obtain ⟨hl, ⟨rfl, rfl⟩ | ⟨ad, cap, rfl, h1, h2, hlt, hc⟩⟩ := hsrc
  · have hrun := run_append_owned_none (P := Tryz.prog) (w := w) w.heap.size 22 o.type 5 i0 1 Tryz.underlying22 hi (.slice none 0 0) 0 [] (World.ownsRow_nil _ _ _ _)
    unfold Oper.wp
    simp [execOp, ho, resolve, invoke, builtin, hs, hx, hrun, Result.andThen]
    exact hK _ _ (OwnB.nil _ _) (Below.refl _ _)
  · obtain ⟨v', w', hr, h3, h4, h5⟩ := run_append_own (P := Tryz.prog) w w.heap.size 22 o.type 5 i0 (.int .u8 0) 1 1 Tryz.underlying22 hi hz0 hz1 hz2 rfl (by decide) (.slice none 0 0) 0 [] (World.ownsRow_nil _ _ _ _) ad cs.length cap (bytesV cs) (by simp [bytesV]) (src_cells hc) (bytesV_one cs) (by unfold maxLen; omega) (by omega) (Nat.le_refl _)
    unfold Oper.wp
    simp [execOp, ho, resolve, invoke, builtin, hs, hx, hr, Result.andThen]
    exact hK v' w' (by unfold OwnB; simpa using h3) (gb_below h4)

section
variable (base b : Nat) (v : Value) (bs : List UInt8) (a : Nat) (why wat : Int) (w : World)

theorem cut_out (n : Nat) (ad : Option Addr) (cap : Nat) (h : OwnB w base (.slice ad bs.length cap) bs) (hbl : bs.length ≤ 140737488355327) (hgt : a + n ≤ bs.length) :
    ∃ vx, Src w vx ((bs.drop a).take n) ∧ (∀ W, (Instr.slice 22 (.slice ad bs.length cap) (some (.int .i64 (a : Int))) (some (.int .i64 ((a + n : Nat) : Int))) none).run Tryz.prog W = .ok vx W) := by
  rcases h.forms with ⟨h1, rfl⟩ | ⟨g, cp, hv, _, hlt, h1, h2, _, _⟩
  · simp only [Value.slice.injEq] at h1
    obtain ⟨rfl, _, rfl⟩ := h1
    have ha : a = 0 := by simp at hgt; omega
    have hn : n = 0 := by simp at hgt; omega
    subst ha hn
    refine ⟨.slice none 0 0, ⟨by simp, Or.inl ⟨rfl, by simp⟩⟩, fun W => ?_⟩
    go_simp
  · simp only [Value.slice.injEq] at hv
    obtain ⟨rfl, _, rfl⟩ := hv
    by_cases hc : cap = a
    · have hn : n = 0 := by omega
      subst hn
      refine ⟨.slice (some ⟨g, 0, none⟩) 0 0, by simpa using src_empty g hlt, fun W => ?_⟩
      subst hc
      go_simp
    · refine ⟨.slice (some ⟨g, a, none⟩) n (cap - a), h.part g cap a n rfl hgt hbl, fun W => ?_⟩
      have hi1 : (a : Int) ≤ ((a + n : Nat) : Int) := by omega
      have hi2 : ((a + n : Nat) : Int) ≤ (cap : Int) := by omega
      generalize hA : a + n = A at *
      have hA1 : n = A - a := by omega
      subst hA1
      clear hA
      go_simp

set_option maxRecDepth 100000 in
set_option maxHeartbeats 1000000 in
theorem raw_short (n : Nat) (h : Rd w base b v bs a why wat) (hgt : bs.length - a < n) :
    Calls Tryz.prog 151 #[.pointer (some ⟨b, 0, none⟩), .int .i64 n] w fun e w' => e = .returned (.tuple #[.slice none 0 0, .int .i64 4]) ∧ Rd w' base b v bs a why wat ∧ w.grownBy w' (some b) := by
  have HR := hid h
  have h0 := h.c0
  have h1 := h.c1
  have hl := h.own.len
  have hle := h.le
  obtain ⟨ad, cap, rfl⟩ := h.own.shape
  clear h
  have hd : (bs.length : Int) - (a : Int) < (n : Int) := by omega
  go_enter Tryz.func151, Tryz.ntmps151
  go_wp2_with fail
  refine (pleft_any _ _ _ (a : Int) _ _ hl (by omega) (by omega) h0 h1).mono ?_
  rintro e w2 ⟨rfl, q, rfl⟩
  go_wp2
  go_ret2
  exact ⟨rfl, HR.out.drewN q, gb_drewN _ _ _⟩

set_option maxRecDepth 100000 in
set_option maxHeartbeats 1000000 in
theorem raw_ok (n : Nat) (h : Rd w base b v bs a why wat) (hbl : bs.length ≤ 140737488355327) (hgt : a + n ≤ bs.length) :
    Calls Tryz.prog 151 #[.pointer (some ⟨b, 0, none⟩), .int .i64 n] w fun e w' => ∃ v', e = .returned (.tuple #[v', .int .i64 0]) ∧ OwnB w' w.heap.size v' ((bs.drop a).take n) ∧ Rd w' base b v bs (a + n) why wat ∧ w.grownBy w' (some b) := by
  have HR := hid h
  have h0 := h.c0
  have h1 := h.c1
  have f1 := h.fz 1
  have hl := h.own.len
  have hle := h.le
  obtain ⟨ad, cap, rfl⟩ := h.own.shape
  clear h
  have hl' := hl
  unfold maxLen at hl'
  have hd : ¬ ((bs.length : Int) - (a : Int) < (n : Int)) := by omega
  go_enter Tryz.func151, Tryz.ntmps151
  go_wp2_with fail
  refine (pleft_any _ _ _ (a : Int) _ _ hl (by omega) (by omega) h0 h1).mono ?_
  rintro e w2 ⟨rfl, q, rfl⟩
  go_wp2_with fail
  have hA : ((a : Int) + (n : Int)) = ((a + n : Nat) : Int) := by omega
  rw [hA]
  have R3 := (HR.out.drewN q).setAt (a + n) hgt
  have HR3 := hid R3
  have HG3 := hid (gb_trans (gb_drewN w q (some b)) (gb_set _ ⟨b, 1, none⟩ (.int .i64 ((a + n : Nat) : Int))))
  have HSZ := hid (by simp : ((w.drewN q).setCell ⟨b, 1, none⟩ (.int .i64 ((a + n : Nat) : Int))).heap.size = w.heap.size)
  clear R3 hA h0 h1 f1
  generalize ((w.drewN q).setCell ⟨b, 1, none⟩ (.int .i64 ((a + n : Nat) : Int))) = W3 at *
  have c0 := HR3.out.c0
  have HC1 := hid HR3.out.c1
  -- what is cut out
  have HCUT := hid (cut_out base bs a W3.drew n ad cap HR3.out.drew.own hbl hgt)
  obtain ⟨vx, hsx, hrx⟩ := HCUT.out
  have HSX := hid hsx
  clear hsx HCUT
  generalize hAe : a + n = A at *
  have c1 := HC1.out
  have hw : IntKind.i64.wrap ((A : Int) - (n : Int)) = (a : Int) := by rw [IntKind.wrap_i64]; omega
  have HAE := hid hAe
  clear hAe
  go_region_law (refine step_app_nil rfl _ _ rfl rfl _ _ rfl HSX.out ?_; intro v9 w9 ho9 hb9; have HO9 := hid ho9; have HB9 := hid hb9; clear ho9 hb9)
  all_goals
    go_wp2
    go_ret2
    have HF := hid (((Below.refl W3.heap.size W3).drew).trans HB9.out : Below W3.heap.size W3 w9)
    refine ⟨_, rfl, ?_, ?_, ?_⟩
    · rw [← HSZ.out]; exact HO9.out
    · rw [HAE.out]; exact HR3.out.below HF.out
    · exact gb_trans HG3.out (below_gb HF.out _)
end

end Go.Proofs.YtiibhccbbpgehaaGreat
