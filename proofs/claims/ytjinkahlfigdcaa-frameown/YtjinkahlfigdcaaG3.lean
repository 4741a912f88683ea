/- Contracts and pure facts that the proof needs, joined. -/
import Derived.Test.YtjinkahlfigdcaaG2
import Derived.Test.YtjinkahlfigdcaaG1
import Derived.Deep.RegionWith

/- How many bytes a frame's body has, told by the program. -/
namespace Go.Proofs.Ytjinkahlfigdcaa
open Go.RowKit Go.BigFrame

/-- a frame without its body -/
def noBody (f : Fr) : Fr := { f with body := [] }
theorem fcells_noBody (f : Fr) (va : Value) (h : f.tool.length = 32) : (fcells f va).toArray.setIfInBounds 41 (.string ⟨#[]⟩) = (fcells (noBody f) va).toArray := by
  obtain ⟨t0, t1, t2, t3, t4, t5, t6, t7, t8, t9, t10, t11, t12, t13, t14, t15, t16, t17, t18, t19, t20, t21, t22, t23, t24, t25, t26, t27, t28, t29, t30, t31, hT⟩ := list32 h
  unfold noBody fcells
  rw [hT]
  rfl

set_option maxRecDepth 100000 in
set_option maxHeartbeats 8000000 in
theorem ksize1_any (f : Fr) (va : Value) (K : Nat) (L0 : List UInt8) (w : World) (hf : f.tool.length = 32) (ha : Strs w va f.args) (hk : f.kind = (K : Int)) (hK : K ≤ 6) (hB : f.body.length ≤ 140737488355327) (hL0 : L0.length ≤ 1000000)
    (hlay : ∀ W vb bs, Src W vb bs → bs.length ≤ 1000 → Strs W va f.args → Calls Try.prog 75 #[vb, .agg (fcells (noBody f) va).toArray] W fun e w' => ∃ v, e = .returned v ∧ Src w' v (bs ++ L0) ∧ Below W.heap.size W w') :
    Calls Try.prog 41 #[.agg k1.toArray, .agg (fcells f va).toArray] w fun e w' => e = .returned (.int .i64 (((sn K ++ L0).length : Int) + ((sn f.body.length).length : Int) - 1 + (f.body.length : Int))) ∧ Below w.heap.size w w' := by
  have HNB := hid (hp_two w (.cells k1.toArray 61) (.cells (fcells f va).toArray 29))
  have HBL := hid (below_walk2 w (.cells k1.toArray 61) (.cells (fcells f va).toArray 29))
  have HZ : Hid ((w.alloc (.cells k1.toArray 61)).heap.size = w.heap.size + 1) := hid (by simp)
  have HF := hid hf
  have HLAY := hid hlay
  have HKK := hid hk
  have hsb := sn_length_le f.body.length
  have hsk := sn_length_le K
  obtain ⟨M, HM⟩ : ∃ M, Hid ((sn K ++ L0).length = M) := ⟨_, rfl⟩
  obtain ⟨SB, HSB⟩ : ∃ M, Hid ((sn f.body.length).length = M) := ⟨_, rfl⟩
  have hM : M ≤ 1000010 := by have := HM.out; rw [List.length_append] at this; omega
  rw [HSB.out] at hsb
  have HSA := hid ha
  have HFN := hid (fcells_noBody f va hf)
  have HSZ := hid (frame_size (noBody f) va hf)
  have hmk := mk_size f.body
  clear hf hlay hk ha
  go_enter Try.func41, Try.ntmps41
  go_upto_region 1 with fail
  try rw [HZ.out]
  generalize (w.alloc (.cells k1.toArray 61)).alloc (.cells (fcells f va).toArray 29) = w2 at HNB HBL ⊢
  have x41 := (Fb.of HNB.out.2 HF.out).bd
  have f41 := row_fz HNB.out.2 41
  go_upto_region 3 with fail
  have HN3 := hid (show (w2.setCell ⟨w.heap.size + 1, 41, none⟩ (.string ⟨#[]⟩)).heap[w.heap.size + 1]? = some (.cells (fcells (noBody f) va).toArray 29 (0, 0)) by rw [← HFN.out]; exact blk_set HNB.out.2 _)
  have HN1 := hid (show (w2.setCell ⟨w.heap.size + 1, 41, none⟩ (.string ⟨#[]⟩)).heap[w.heap.size]? = some (.cells k1.toArray 61 (0, 0)) from (Below.heap_setCell w2 _ _ w.heap.size (by simp)).trans HNB.out.1)
  have HB3 := hid (show Below w.heap.size w (w2.setCell ⟨w.heap.size + 1, 41, none⟩ (.string ⟨#[]⟩)) from HBL.out.setCell (by simp) _)
  have HSB2 := hid (show Strs (w2.setCell ⟨w.heap.size + 1, 41, none⟩ (.string ⟨#[]⟩)) va f.args from (HSA.out.below HB3.out))
  generalize w2.setCell ⟨w.heap.size + 1, 41, none⟩ (.string ⟨#[]⟩) = w3 at HN3 HN1 HB3 HSB2 ⊢
  clear x41 f41 HNB HBL HSA
  have HL1 := hid (hp_lt HN1.out)
  have HL2 := hid (hp_lt HN3.out)
  have HC3 : Hid (w3.cell? ⟨w.heap.size, 3, none⟩ = some (.func (.func 75) #[] #[])) := hid (by rw [cell_of_row w3 w.heap.size 3 _ _ _ HN1.out]; rfl)
  have HC0 : Hid (w3.cell? ⟨w.heap.size + 1, 0, none⟩ = some (.int .i64 (K : Nat))) := hid (by have h9 := (Fb.of HN3.out HF.out).k; rw [show (noBody f).kind = f.kind from rfl, HKK.out] at h9; exact h9)
  have HRW := hid (range_row HN3.out)
  generalize fcells (noBody f) va = F0 at *
  obtain ⟨NB, HNL⟩ : ∃ n, Hid (f.body.length = n) := ⟨_, rfl⟩
  rw [HNL.out] at hB HSB ⊢
  have HWB := hid (show IntKind.u64.wrap (NB : Int) = (NB : Int) by rw [IntKind.wrap_u64]; omega)
  have HW1 := hid (show IntKind.i64.wrap ((M : Int) + (SB : Int)) = (M : Int) + (SB : Int) by rw [IntKind.wrap_i64]; omega)
  have HW2 := hid (show IntKind.i64.wrap ((M : Int) + (SB : Int) - 1) = (M : Int) + (SB : Int) - 1 by rw [IntKind.wrap_i64]; omega)
  have HW3 := hid (show IntKind.i64.wrap ((M : Int) + (SB : Int) - 1 + (NB : Int)) = (M : Int) + (SB : Int) - 1 + (NB : Int) by rw [IntKind.wrap_i64]; omega)
  refine wp_noPanic (wp_region_held_drew (S := fun W => Below w3.heap.size w3 W) (by kernel_rfl) ⟨rfl, rfl, rfl, Nat.le_refl _, fun _ _ => rfl⟩ ?_)
  intro hHeld
  refine wpAnyH_take (i := 0) (v := .pointer (some ⟨w.heap.size, 3, none⟩)) rfl (by kernel_rfl) (by kernel_rfl) (by kernel_rfl) (fun _ _ _ h => h) (Or.inl ⟨by rfl, fun W _ => by go_simp⟩) hHeld ?_
  simp only [Act.put, List.getElem_toArray, List.getElem_cons_zero, List.setIfInBounds_toArray, List.set_cons_succ, List.set_cons_zero]
  refine wpAnyH_take (i := 1) (v := .func (.func 75) #[] #[]) rfl (by kernel_rfl) (by kernel_rfl) (by kernel_rfl) (fun _ _ _ h => h) (Or.inl ⟨by rfl, fun W hW => by have hcell := (hW.cell (p := ⟨w.heap.size, 3, none⟩) HL1.out).trans HC3.out; clear hW; go_simp⟩) hHeld ?_
  simp only [Act.put, List.getElem_toArray, List.getElem_cons_zero, List.getElem_cons_succ, List.setIfInBounds_toArray, List.set_cons_succ, List.set_cons_zero]
  refine wpAnyH_take (i := 2) (v := .pointer (some ⟨w.heap.size + 1, 0, none⟩)) rfl (by kernel_rfl) (by kernel_rfl) (by kernel_rfl) (fun _ _ _ h => h) (Or.inl ⟨by rfl, fun W _ => by go_simp⟩) hHeld ?_
  simp only [Act.put, List.getElem_toArray, List.getElem_cons_zero, List.getElem_cons_succ, List.setIfInBounds_toArray, List.set_cons_succ, List.set_cons_zero]
  refine wpAnyH_take (i := 3) (v := .int .i64 (K : Nat)) rfl (by kernel_rfl) (by kernel_rfl) (by kernel_rfl) (fun _ _ _ h => h) (Or.inl ⟨by rfl, fun W hW => by have hcell := (hW.cell (p := ⟨w.heap.size + 1, 0, none⟩) HL2.out).trans HC0.out; clear hW; go_simp⟩) hHeld ?_
  simp only [Act.put, List.getElem_toArray, List.getElem_cons_zero, List.getElem_cons_succ, List.setIfInBounds_toArray, List.set_cons_succ, List.set_cons_zero]
  refine wpAnyH_take (i := 6) (v := .agg F0.toArray) rfl (by kernel_rfl) (by kernel_rfl) (by kernel_rfl) (fun _ _ _ h => h) (yieldsIf_load_mid (by rfl) 29 (.tmp 3) rfl (w.heap.size + 1) 0 rfl F0 _ (fun W hW => fun j v hv => (hW.cell (p := ⟨w.heap.size + 1, 0 + j, none⟩) HL2.out).trans (HRW.out j v hv)) Try.underlying29 rfl HSZ.out) hHeld ?_
  simp only [Act.put, List.getElem_toArray, List.getElem_cons_zero, List.getElem_cons_succ, List.setIfInBounds_toArray, List.set_cons_succ, List.set_cons_zero]
  refine wpAnyH_take (i := 9) (v := .int .i64 (NB : Nat)) rfl (by kernel_rfl) (by kernel_rfl) (by kernel_rfl) (fun _ _ _ h => h) (Or.inl ⟨by rfl, fun W _ => by go_simp⟩) hHeld ?_
  simp only [Act.put, List.getElem_toArray, List.getElem_cons_zero, List.getElem_cons_succ, List.setIfInBounds_toArray, List.set_cons_succ, List.set_cons_zero]
  refine wpAnyH_take (i := 10) (v := .int .u64 (NB : Nat)) rfl (by kernel_rfl) (by kernel_rfl) (by kernel_rfl) (fun _ _ _ h => h) (Or.inl ⟨by rfl, fun W _ => by have hfact := HWB.out; go_simp; first | done | simp [hfact] | omega⟩) hHeld ?_
  simp only [Act.put, List.getElem_toArray, List.getElem_cons_zero, List.getElem_cons_succ, List.setIfInBounds_toArray, List.set_cons_succ, List.set_cons_zero]
  refine wpAnyH_take (i := 15) (v := .int .i64 (NB : Nat)) rfl (by kernel_rfl) (by kernel_rfl) (by kernel_rfl) (fun _ _ _ h => h) (Or.inl ⟨by rfl, fun W _ => by go_simp⟩) hHeld ?_
  simp only [Act.put, List.getElem_toArray, List.getElem_cons_zero, List.getElem_cons_succ, List.setIfInBounds_toArray, List.set_cons_succ, List.set_cons_zero]
  obtain ⟨wx, HWX⟩ : ∃ x, Hid (w3.drew = x) := ⟨_, rfl⟩
  rw [HWX.out] at hHeld ⊢
  have hH0 := hHeld
  refine wpAnyH_ready (rs := [4]) (by kernel_rfl) (by simp) ?_
  refine AllReadyH.cons rfl (fun KC hKC => ?_) AllReadyH.nil
  go_simp
  have hq1 := below_tr hH0 ((below_walk wx (.cells #[.int .i64 (K : Nat)] 3)).mono hH0.size)
  refine hKC.out _ _ hq1 (fun hHeld => ?_)
  clear hKC KC
  try simp only [Act.put, List.getElem_toArray, List.getElem_cons_zero, List.getElem_cons_succ, List.setIfInBounds_toArray, List.set_cons_succ, List.set_cons_zero]
  refine wpAnyH_ready (rs := [5]) (by kernel_rfl) (by simp) ?_
  refine AllReadyH.cons rfl (fun KC hKC => ?_) AllReadyH.nil
  go_simp
  refine (putCounts_any nS _ [] [K] _ (srcNil _) (nums_one wx K) (by simp; omega) (by simp) (by simp)).mono ?_
  rintro e w4 ⟨v4, rfl, hs4, hb4⟩
  have hs4b : Src w4 v4 (sn K) := by simpa [sns] using hs4
  have HS4 := hid hs4b
  have hq2 := below_tr hq1 (hb4.mono hq1.size)
  obtain ⟨a4, c4, e4⟩ := src_shape hs4b
  subst e4
  clear hs4 hs4b hb4
  go_wp2_with fail
  refine hKC.out _ _ hq2 (fun hHeld => ?_)
  clear hKC KC
  try simp only [Act.put, List.getElem_toArray, List.getElem_cons_zero, List.getElem_cons_succ, List.setIfInBounds_toArray, List.set_cons_succ, List.set_cons_zero]
  refine wpAnyH_ready (rs := [7]) (by kernel_rfl) (by simp) ?_
  refine AllReadyH.cons rfl (fun KC hKC => ?_) AllReadyH.nil
  go_simp
  refine (HLAY.out w4 _ (sn K) HS4.out (by have := sn_length_le K; omega) (HSB2.out.below hq2)).mono ?_
  rintro e w5 ⟨v5, rfl, hs5, hb5⟩
  have hq3 := below_tr hq2 (hb5.mono hq2.size)
  obtain ⟨a5, c5, e5⟩ := src_shape hs5
  rw [show (sn K ++ L0).length = M from HM.out] at e5
  subst e5
  clear hs5 hb5
  go_wp2_with fail
  refine hKC.out _ _ hq3 (fun hHeld => ?_)
  clear hKC KC
  try simp only [Act.put, List.getElem_toArray, List.getElem_cons_zero, List.getElem_cons_succ, List.setIfInBounds_toArray, List.set_cons_succ, List.set_cons_zero]
  refine wpAnyH_take (i := 8) (v := .int .i64 (M : Nat)) rfl (by kernel_rfl) (by kernel_rfl) (by kernel_rfl) (fun _ _ _ h => h) (Or.inl ⟨by rfl, fun W _ => by go_simp⟩) hHeld ?_
  simp only [Act.put, List.getElem_toArray, List.getElem_cons_zero, List.getElem_cons_succ, List.setIfInBounds_toArray, List.set_cons_succ, List.set_cons_zero]
  refine wpAnyH_ready (rs := [11]) (by kernel_rfl) (by simp) ?_
  refine AllReadyH.cons rfl (fun KC hKC => ?_) AllReadyH.nil
  go_simp
  refine (size_any NB w5 (by omega)).mono ?_
  rintro e wz ⟨rfl, ez⟩
  have ey := ez.symm
  subst ey
  rw [HSB.out]
  go_wp2_with fail
  refine hKC.out _ _ hq3 (fun hHeld => ?_)
  clear hKC KC
  try simp only [Act.put, List.getElem_toArray, List.getElem_cons_zero, List.getElem_cons_succ, List.setIfInBounds_toArray, List.set_cons_succ, List.set_cons_zero]
  refine wpAnyH_take (i := 12) (v := .int .i64 ((M : Int) + (SB : Int))) rfl (by kernel_rfl) (by kernel_rfl) (by kernel_rfl) (fun _ _ _ h => h) (Or.inl ⟨by rfl, fun W _ => by have hfact := HW1.out; go_simp; first | done | simp [hfact] | omega⟩) hHeld ?_
  simp only [Act.put, List.getElem_toArray, List.getElem_cons_zero, List.getElem_cons_succ, List.setIfInBounds_toArray, List.set_cons_succ, List.set_cons_zero]
  refine wpAnyH_ready (rs := [13]) (by kernel_rfl) (by simp) ?_
  refine AllReadyH.cons rfl (fun KC hKC => ?_) AllReadyH.nil
  go_simp
  refine (size_zero w5).mono ?_
  rintro e wz ⟨rfl, ez⟩
  have ey := ez.symm
  subst ey
  go_wp2_with fail
  refine hKC.out _ _ hq3 (fun hHeld => ?_)
  clear hKC KC
  try simp only [Act.put, List.getElem_toArray, List.getElem_cons_zero, List.getElem_cons_succ, List.setIfInBounds_toArray, List.set_cons_succ, List.set_cons_zero]
  refine wpAnyH_take (i := 14) (v := .int .i64 ((M : Int) + (SB : Int) - 1)) rfl (by kernel_rfl) (by kernel_rfl) (by kernel_rfl) (fun _ _ _ h => h) (Or.inl ⟨by rfl, fun W _ => by have hfact := HW2.out; go_simp; first | done | simp [hfact] | omega⟩) hHeld ?_
  simp only [Act.put, List.getElem_toArray, List.getElem_cons_zero, List.getElem_cons_succ, List.setIfInBounds_toArray, List.set_cons_succ, List.set_cons_zero]
  refine wpAnyH_take (i := 16) (v := .int .i64 ((M : Int) + (SB : Int) - 1 + (NB : Int))) rfl (by kernel_rfl) (by kernel_rfl) (by kernel_rfl) (fun _ _ _ h => h) (Or.inl ⟨by rfl, fun W _ => by have hfact := HW3.out; go_simp; first | done | simp [hfact] | omega⟩) hHeld ?_
  simp only [Act.put, List.getElem_toArray, List.getElem_cons_zero, List.getElem_cons_succ, List.setIfInBounds_toArray, List.set_cons_succ, List.set_cons_zero]
  refine wpAnyH_take (i := 17) (v := .int .i64 ((M : Int) + (SB : Int) - 1 + (NB : Int))) rfl (by kernel_rfl) (by kernel_rfl) (by kernel_rfl) (fun _ _ _ h => h) (Or.inl ⟨by rfl, fun W _ => by go_simp⟩) hHeld ?_
  simp only [Act.put, List.getElem_toArray, List.getElem_cons_zero, List.getElem_cons_succ, List.setIfInBounds_toArray, List.set_cons_succ, List.set_cons_zero]
  refine wpAnyH_done (by kernel_rfl) ?_ _
  simp only [noPanic]
  clear hHeld
  go_wp2
  go_ret
  exact ⟨by rw [HM.out, HNL.out, HSB.out]; first | done | rfl, below_then HB3.out hq3⟩

set_option maxRecDepth 100000 in
set_option maxHeartbeats 8000000 in
theorem ksize2_any (f : Fr) (va : Value) (K : Nat) (L0 : List UInt8) (w : World) (hf : f.tool.length = 32) (ha : Strs w va f.args) (hk : f.kind = (K : Int)) (hK : K ≤ 6) (hB : f.body.length ≤ 140737488355327) (hL0 : L0.length ≤ 1000000)
    (hlay : ∀ W vb bs, Src W vb bs → bs.length ≤ 1000 → Strs W va f.args → Calls Try.prog 79 #[vb, .agg (fcells (noBody f) va).toArray] W fun e w' => ∃ v, e = .returned v ∧ Src w' v (bs ++ L0) ∧ Below W.heap.size W w') :
    Calls Try.prog 41 #[.agg k2.toArray, .agg (fcells f va).toArray] w fun e w' => e = .returned (.int .i64 (((sn K ++ L0).length : Int) + ((sn f.body.length).length : Int) - 1 + (f.body.length : Int))) ∧ Below w.heap.size w w' := by
  have HNB := hid (hp_two w (.cells k2.toArray 61) (.cells (fcells f va).toArray 29))
  have HBL := hid (below_walk2 w (.cells k2.toArray 61) (.cells (fcells f va).toArray 29))
  have HZ : Hid ((w.alloc (.cells k2.toArray 61)).heap.size = w.heap.size + 1) := hid (by simp)
  have HF := hid hf
  have HLAY := hid hlay
  have HKK := hid hk
  have hsb := sn_length_le f.body.length
  have hsk := sn_length_le K
  obtain ⟨M, HM⟩ : ∃ M, Hid ((sn K ++ L0).length = M) := ⟨_, rfl⟩
  obtain ⟨SB, HSB⟩ : ∃ M, Hid ((sn f.body.length).length = M) := ⟨_, rfl⟩
  have hM : M ≤ 1000010 := by have := HM.out; rw [List.length_append] at this; omega
  rw [HSB.out] at hsb
  have HSA := hid ha
  have HFN := hid (fcells_noBody f va hf)
  have HSZ := hid (frame_size (noBody f) va hf)
  have hmk := mk_size f.body
  clear hf hlay hk ha
  go_enter Try.func41, Try.ntmps41
  go_upto_region 1 with fail
  try rw [HZ.out]
  generalize (w.alloc (.cells k2.toArray 61)).alloc (.cells (fcells f va).toArray 29) = w2 at HNB HBL ⊢
  have x41 := (Fb.of HNB.out.2 HF.out).bd
  have f41 := row_fz HNB.out.2 41
  go_upto_region 3 with fail
  have HN3 := hid (show (w2.setCell ⟨w.heap.size + 1, 41, none⟩ (.string ⟨#[]⟩)).heap[w.heap.size + 1]? = some (.cells (fcells (noBody f) va).toArray 29 (0, 0)) by rw [← HFN.out]; exact blk_set HNB.out.2 _)
  have HN1 := hid (show (w2.setCell ⟨w.heap.size + 1, 41, none⟩ (.string ⟨#[]⟩)).heap[w.heap.size]? = some (.cells k2.toArray 61 (0, 0)) from (Below.heap_setCell w2 _ _ w.heap.size (by simp)).trans HNB.out.1)
  have HB3 := hid (show Below w.heap.size w (w2.setCell ⟨w.heap.size + 1, 41, none⟩ (.string ⟨#[]⟩)) from HBL.out.setCell (by simp) _)
  have HSB2 := hid (show Strs (w2.setCell ⟨w.heap.size + 1, 41, none⟩ (.string ⟨#[]⟩)) va f.args from (HSA.out.below HB3.out))
  generalize w2.setCell ⟨w.heap.size + 1, 41, none⟩ (.string ⟨#[]⟩) = w3 at HN3 HN1 HB3 HSB2 ⊢
  clear x41 f41 HNB HBL HSA
  have HL1 := hid (hp_lt HN1.out)
  have HL2 := hid (hp_lt HN3.out)
  have HC3 : Hid (w3.cell? ⟨w.heap.size, 3, none⟩ = some (.func (.func 79) #[] #[])) := hid (by rw [cell_of_row w3 w.heap.size 3 _ _ _ HN1.out]; rfl)
  have HC0 : Hid (w3.cell? ⟨w.heap.size + 1, 0, none⟩ = some (.int .i64 (K : Nat))) := hid (by have h9 := (Fb.of HN3.out HF.out).k; rw [show (noBody f).kind = f.kind from rfl, HKK.out] at h9; exact h9)
  have HRW := hid (range_row HN3.out)
  generalize fcells (noBody f) va = F0 at *
  obtain ⟨NB, HNL⟩ : ∃ n, Hid (f.body.length = n) := ⟨_, rfl⟩
  rw [HNL.out] at hB HSB ⊢
  have HWB := hid (show IntKind.u64.wrap (NB : Int) = (NB : Int) by rw [IntKind.wrap_u64]; omega)
  have HW1 := hid (show IntKind.i64.wrap ((M : Int) + (SB : Int)) = (M : Int) + (SB : Int) by rw [IntKind.wrap_i64]; omega)
  have HW2 := hid (show IntKind.i64.wrap ((M : Int) + (SB : Int) - 1) = (M : Int) + (SB : Int) - 1 by rw [IntKind.wrap_i64]; omega)
  have HW3 := hid (show IntKind.i64.wrap ((M : Int) + (SB : Int) - 1 + (NB : Int)) = (M : Int) + (SB : Int) - 1 + (NB : Int) by rw [IntKind.wrap_i64]; omega)
  refine wp_noPanic (wp_region_held_drew (S := fun W => Below w3.heap.size w3 W) (by kernel_rfl) ⟨rfl, rfl, rfl, Nat.le_refl _, fun _ _ => rfl⟩ ?_)
  intro hHeld
  refine wpAnyH_take (i := 0) (v := .pointer (some ⟨w.heap.size, 3, none⟩)) rfl (by kernel_rfl) (by kernel_rfl) (by kernel_rfl) (fun _ _ _ h => h) (Or.inl ⟨by rfl, fun W _ => by go_simp⟩) hHeld ?_
  simp only [Act.put, List.getElem_toArray, List.getElem_cons_zero, List.setIfInBounds_toArray, List.set_cons_succ, List.set_cons_zero]
  refine wpAnyH_take (i := 1) (v := .func (.func 79) #[] #[]) rfl (by kernel_rfl) (by kernel_rfl) (by kernel_rfl) (fun _ _ _ h => h) (Or.inl ⟨by rfl, fun W hW => by have hcell := (hW.cell (p := ⟨w.heap.size, 3, none⟩) HL1.out).trans HC3.out; clear hW; go_simp⟩) hHeld ?_
  simp only [Act.put, List.getElem_toArray, List.getElem_cons_zero, List.getElem_cons_succ, List.setIfInBounds_toArray, List.set_cons_succ, List.set_cons_zero]
  refine wpAnyH_take (i := 2) (v := .pointer (some ⟨w.heap.size + 1, 0, none⟩)) rfl (by kernel_rfl) (by kernel_rfl) (by kernel_rfl) (fun _ _ _ h => h) (Or.inl ⟨by rfl, fun W _ => by go_simp⟩) hHeld ?_
  simp only [Act.put, List.getElem_toArray, List.getElem_cons_zero, List.getElem_cons_succ, List.setIfInBounds_toArray, List.set_cons_succ, List.set_cons_zero]
  refine wpAnyH_take (i := 3) (v := .int .i64 (K : Nat)) rfl (by kernel_rfl) (by kernel_rfl) (by kernel_rfl) (fun _ _ _ h => h) (Or.inl ⟨by rfl, fun W hW => by have hcell := (hW.cell (p := ⟨w.heap.size + 1, 0, none⟩) HL2.out).trans HC0.out; clear hW; go_simp⟩) hHeld ?_
  simp only [Act.put, List.getElem_toArray, List.getElem_cons_zero, List.getElem_cons_succ, List.setIfInBounds_toArray, List.set_cons_succ, List.set_cons_zero]
  refine wpAnyH_take (i := 6) (v := .agg F0.toArray) rfl (by kernel_rfl) (by kernel_rfl) (by kernel_rfl) (fun _ _ _ h => h) (yieldsIf_load_mid (by rfl) 29 (.tmp 3) rfl (w.heap.size + 1) 0 rfl F0 _ (fun W hW => fun j v hv => (hW.cell (p := ⟨w.heap.size + 1, 0 + j, none⟩) HL2.out).trans (HRW.out j v hv)) Try.underlying29 rfl HSZ.out) hHeld ?_
  simp only [Act.put, List.getElem_toArray, List.getElem_cons_zero, List.getElem_cons_succ, List.setIfInBounds_toArray, List.set_cons_succ, List.set_cons_zero]
  refine wpAnyH_take (i := 9) (v := .int .i64 (NB : Nat)) rfl (by kernel_rfl) (by kernel_rfl) (by kernel_rfl) (fun _ _ _ h => h) (Or.inl ⟨by rfl, fun W _ => by go_simp⟩) hHeld ?_
  simp only [Act.put, List.getElem_toArray, List.getElem_cons_zero, List.getElem_cons_succ, List.setIfInBounds_toArray, List.set_cons_succ, List.set_cons_zero]
  refine wpAnyH_take (i := 10) (v := .int .u64 (NB : Nat)) rfl (by kernel_rfl) (by kernel_rfl) (by kernel_rfl) (fun _ _ _ h => h) (Or.inl ⟨by rfl, fun W _ => by have hfact := HWB.out; go_simp; first | done | simp [hfact] | omega⟩) hHeld ?_
  simp only [Act.put, List.getElem_toArray, List.getElem_cons_zero, List.getElem_cons_succ, List.setIfInBounds_toArray, List.set_cons_succ, List.set_cons_zero]
  refine wpAnyH_take (i := 15) (v := .int .i64 (NB : Nat)) rfl (by kernel_rfl) (by kernel_rfl) (by kernel_rfl) (fun _ _ _ h => h) (Or.inl ⟨by rfl, fun W _ => by go_simp⟩) hHeld ?_
  simp only [Act.put, List.getElem_toArray, List.getElem_cons_zero, List.getElem_cons_succ, List.setIfInBounds_toArray, List.set_cons_succ, List.set_cons_zero]
  obtain ⟨wx, HWX⟩ : ∃ x, Hid (w3.drew = x) := ⟨_, rfl⟩
  rw [HWX.out] at hHeld ⊢
  have hH0 := hHeld
  refine wpAnyH_ready (rs := [4]) (by kernel_rfl) (by simp) ?_
  refine AllReadyH.cons rfl (fun KC hKC => ?_) AllReadyH.nil
  go_simp
  have hq1 := below_tr hH0 ((below_walk wx (.cells #[.int .i64 (K : Nat)] 3)).mono hH0.size)
  refine hKC.out _ _ hq1 (fun hHeld => ?_)
  clear hKC KC
  try simp only [Act.put, List.getElem_toArray, List.getElem_cons_zero, List.getElem_cons_succ, List.setIfInBounds_toArray, List.set_cons_succ, List.set_cons_zero]
  refine wpAnyH_ready (rs := [5]) (by kernel_rfl) (by simp) ?_
  refine AllReadyH.cons rfl (fun KC hKC => ?_) AllReadyH.nil
  go_simp
  refine (putCounts_any nS _ [] [K] _ (srcNil _) (nums_one wx K) (by simp; omega) (by simp) (by simp)).mono ?_
  rintro e w4 ⟨v4, rfl, hs4, hb4⟩
  have hs4b : Src w4 v4 (sn K) := by simpa [sns] using hs4
  have HS4 := hid hs4b
  have hq2 := below_tr hq1 (hb4.mono hq1.size)
  obtain ⟨a4, c4, e4⟩ := src_shape hs4b
  subst e4
  clear hs4 hs4b hb4
  go_wp2_with fail
  refine hKC.out _ _ hq2 (fun hHeld => ?_)
  clear hKC KC
  try simp only [Act.put, List.getElem_toArray, List.getElem_cons_zero, List.getElem_cons_succ, List.setIfInBounds_toArray, List.set_cons_succ, List.set_cons_zero]
  refine wpAnyH_ready (rs := [7]) (by kernel_rfl) (by simp) ?_
  refine AllReadyH.cons rfl (fun KC hKC => ?_) AllReadyH.nil
  go_simp
  refine (HLAY.out w4 _ (sn K) HS4.out (by have := sn_length_le K; omega) (HSB2.out.below hq2)).mono ?_
  rintro e w5 ⟨v5, rfl, hs5, hb5⟩
  have hq3 := below_tr hq2 (hb5.mono hq2.size)
  obtain ⟨a5, c5, e5⟩ := src_shape hs5
  rw [show (sn K ++ L0).length = M from HM.out] at e5
  subst e5
  clear hs5 hb5
  go_wp2_with fail
  refine hKC.out _ _ hq3 (fun hHeld => ?_)
  clear hKC KC
  try simp only [Act.put, List.getElem_toArray, List.getElem_cons_zero, List.getElem_cons_succ, List.setIfInBounds_toArray, List.set_cons_succ, List.set_cons_zero]
  refine wpAnyH_take (i := 8) (v := .int .i64 (M : Nat)) rfl (by kernel_rfl) (by kernel_rfl) (by kernel_rfl) (fun _ _ _ h => h) (Or.inl ⟨by rfl, fun W _ => by go_simp⟩) hHeld ?_
  simp only [Act.put, List.getElem_toArray, List.getElem_cons_zero, List.getElem_cons_succ, List.setIfInBounds_toArray, List.set_cons_succ, List.set_cons_zero]
  refine wpAnyH_ready (rs := [11]) (by kernel_rfl) (by simp) ?_
  refine AllReadyH.cons rfl (fun KC hKC => ?_) AllReadyH.nil
  go_simp
  refine (size_any NB w5 (by omega)).mono ?_
  rintro e wz ⟨rfl, ez⟩
  have ey := ez.symm
  subst ey
  rw [HSB.out]
  go_wp2_with fail
  refine hKC.out _ _ hq3 (fun hHeld => ?_)
  clear hKC KC
  try simp only [Act.put, List.getElem_toArray, List.getElem_cons_zero, List.getElem_cons_succ, List.setIfInBounds_toArray, List.set_cons_succ, List.set_cons_zero]
  refine wpAnyH_take (i := 12) (v := .int .i64 ((M : Int) + (SB : Int))) rfl (by kernel_rfl) (by kernel_rfl) (by kernel_rfl) (fun _ _ _ h => h) (Or.inl ⟨by rfl, fun W _ => by have hfact := HW1.out; go_simp; first | done | simp [hfact] | omega⟩) hHeld ?_
  simp only [Act.put, List.getElem_toArray, List.getElem_cons_zero, List.getElem_cons_succ, List.setIfInBounds_toArray, List.set_cons_succ, List.set_cons_zero]
  refine wpAnyH_ready (rs := [13]) (by kernel_rfl) (by simp) ?_
  refine AllReadyH.cons rfl (fun KC hKC => ?_) AllReadyH.nil
  go_simp
  refine (size_zero w5).mono ?_
  rintro e wz ⟨rfl, ez⟩
  have ey := ez.symm
  subst ey
  go_wp2_with fail
  refine hKC.out _ _ hq3 (fun hHeld => ?_)
  clear hKC KC
  try simp only [Act.put, List.getElem_toArray, List.getElem_cons_zero, List.getElem_cons_succ, List.setIfInBounds_toArray, List.set_cons_succ, List.set_cons_zero]
  refine wpAnyH_take (i := 14) (v := .int .i64 ((M : Int) + (SB : Int) - 1)) rfl (by kernel_rfl) (by kernel_rfl) (by kernel_rfl) (fun _ _ _ h => h) (Or.inl ⟨by rfl, fun W _ => by have hfact := HW2.out; go_simp; first | done | simp [hfact] | omega⟩) hHeld ?_
  simp only [Act.put, List.getElem_toArray, List.getElem_cons_zero, List.getElem_cons_succ, List.setIfInBounds_toArray, List.set_cons_succ, List.set_cons_zero]
  refine wpAnyH_take (i := 16) (v := .int .i64 ((M : Int) + (SB : Int) - 1 + (NB : Int))) rfl (by kernel_rfl) (by kernel_rfl) (by kernel_rfl) (fun _ _ _ h => h) (Or.inl ⟨by rfl, fun W _ => by have hfact := HW3.out; go_simp; first | done | simp [hfact] | omega⟩) hHeld ?_
  simp only [Act.put, List.getElem_toArray, List.getElem_cons_zero, List.getElem_cons_succ, List.setIfInBounds_toArray, List.set_cons_succ, List.set_cons_zero]
  refine wpAnyH_take (i := 17) (v := .int .i64 ((M : Int) + (SB : Int) - 1 + (NB : Int))) rfl (by kernel_rfl) (by kernel_rfl) (by kernel_rfl) (fun _ _ _ h => h) (Or.inl ⟨by rfl, fun W _ => by go_simp⟩) hHeld ?_
  simp only [Act.put, List.getElem_toArray, List.getElem_cons_zero, List.getElem_cons_succ, List.setIfInBounds_toArray, List.set_cons_succ, List.set_cons_zero]
  refine wpAnyH_done (by kernel_rfl) ?_ _
  simp only [noPanic]
  clear hHeld
  go_wp2
  go_ret
  exact ⟨by rw [HM.out, HNL.out, HSB.out]; first | done | rfl, below_then HB3.out hq3⟩

set_option maxRecDepth 100000 in
set_option maxHeartbeats 8000000 in
theorem ksize3_any (f : Fr) (va : Value) (K : Nat) (L0 : List UInt8) (w : World) (hf : f.tool.length = 32) (ha : Strs w va f.args) (hk : f.kind = (K : Int)) (hK : K ≤ 6) (hB : f.body.length ≤ 140737488355327) (hL0 : L0.length ≤ 1000000)
    (hlay : ∀ W vb bs, Src W vb bs → bs.length ≤ 1000 → Strs W va f.args → Calls Try.prog 83 #[vb, .agg (fcells (noBody f) va).toArray] W fun e w' => ∃ v, e = .returned v ∧ Src w' v (bs ++ L0) ∧ Below W.heap.size W w') :
    Calls Try.prog 41 #[.agg k3.toArray, .agg (fcells f va).toArray] w fun e w' => e = .returned (.int .i64 (((sn K ++ L0).length : Int) + ((sn f.body.length).length : Int) - 1 + (f.body.length : Int))) ∧ Below w.heap.size w w' := by
  have HNB := hid (hp_two w (.cells k3.toArray 61) (.cells (fcells f va).toArray 29))
  have HBL := hid (below_walk2 w (.cells k3.toArray 61) (.cells (fcells f va).toArray 29))
  have HZ : Hid ((w.alloc (.cells k3.toArray 61)).heap.size = w.heap.size + 1) := hid (by simp)
  have HF := hid hf
  have HLAY := hid hlay
  have HKK := hid hk
  have hsb := sn_length_le f.body.length
  have hsk := sn_length_le K
  obtain ⟨M, HM⟩ : ∃ M, Hid ((sn K ++ L0).length = M) := ⟨_, rfl⟩
  obtain ⟨SB, HSB⟩ : ∃ M, Hid ((sn f.body.length).length = M) := ⟨_, rfl⟩
  have hM : M ≤ 1000010 := by have := HM.out; rw [List.length_append] at this; omega
  rw [HSB.out] at hsb
  have HSA := hid ha
  have HFN := hid (fcells_noBody f va hf)
  have HSZ := hid (frame_size (noBody f) va hf)
  have hmk := mk_size f.body
  clear hf hlay hk ha
  go_enter Try.func41, Try.ntmps41
  go_upto_region 1 with fail
  try rw [HZ.out]
  generalize (w.alloc (.cells k3.toArray 61)).alloc (.cells (fcells f va).toArray 29) = w2 at HNB HBL ⊢
  have x41 := (Fb.of HNB.out.2 HF.out).bd
  have f41 := row_fz HNB.out.2 41
  go_upto_region 3 with fail
  have HN3 := hid (show (w2.setCell ⟨w.heap.size + 1, 41, none⟩ (.string ⟨#[]⟩)).heap[w.heap.size + 1]? = some (.cells (fcells (noBody f) va).toArray 29 (0, 0)) by rw [← HFN.out]; exact blk_set HNB.out.2 _)
  have HN1 := hid (show (w2.setCell ⟨w.heap.size + 1, 41, none⟩ (.string ⟨#[]⟩)).heap[w.heap.size]? = some (.cells k3.toArray 61 (0, 0)) from (Below.heap_setCell w2 _ _ w.heap.size (by simp)).trans HNB.out.1)
  have HB3 := hid (show Below w.heap.size w (w2.setCell ⟨w.heap.size + 1, 41, none⟩ (.string ⟨#[]⟩)) from HBL.out.setCell (by simp) _)
  have HSB2 := hid (show Strs (w2.setCell ⟨w.heap.size + 1, 41, none⟩ (.string ⟨#[]⟩)) va f.args from (HSA.out.below HB3.out))
  generalize w2.setCell ⟨w.heap.size + 1, 41, none⟩ (.string ⟨#[]⟩) = w3 at HN3 HN1 HB3 HSB2 ⊢
  clear x41 f41 HNB HBL HSA
  have HL1 := hid (hp_lt HN1.out)
  have HL2 := hid (hp_lt HN3.out)
  have HC3 : Hid (w3.cell? ⟨w.heap.size, 3, none⟩ = some (.func (.func 83) #[] #[])) := hid (by rw [cell_of_row w3 w.heap.size 3 _ _ _ HN1.out]; rfl)
  have HC0 : Hid (w3.cell? ⟨w.heap.size + 1, 0, none⟩ = some (.int .i64 (K : Nat))) := hid (by have h9 := (Fb.of HN3.out HF.out).k; rw [show (noBody f).kind = f.kind from rfl, HKK.out] at h9; exact h9)
  have HRW := hid (range_row HN3.out)
  generalize fcells (noBody f) va = F0 at *
  obtain ⟨NB, HNL⟩ : ∃ n, Hid (f.body.length = n) := ⟨_, rfl⟩
  rw [HNL.out] at hB HSB ⊢
  have HWB := hid (show IntKind.u64.wrap (NB : Int) = (NB : Int) by rw [IntKind.wrap_u64]; omega)
  have HW1 := hid (show IntKind.i64.wrap ((M : Int) + (SB : Int)) = (M : Int) + (SB : Int) by rw [IntKind.wrap_i64]; omega)
  have HW2 := hid (show IntKind.i64.wrap ((M : Int) + (SB : Int) - 1) = (M : Int) + (SB : Int) - 1 by rw [IntKind.wrap_i64]; omega)
  have HW3 := hid (show IntKind.i64.wrap ((M : Int) + (SB : Int) - 1 + (NB : Int)) = (M : Int) + (SB : Int) - 1 + (NB : Int) by rw [IntKind.wrap_i64]; omega)
  refine wp_noPanic (wp_region_held_drew (S := fun W => Below w3.heap.size w3 W) (by kernel_rfl) ⟨rfl, rfl, rfl, Nat.le_refl _, fun _ _ => rfl⟩ ?_)
  intro hHeld
  refine wpAnyH_take (i := 0) (v := .pointer (some ⟨w.heap.size, 3, none⟩)) rfl (by kernel_rfl) (by kernel_rfl) (by kernel_rfl) (fun _ _ _ h => h) (Or.inl ⟨by rfl, fun W _ => by go_simp⟩) hHeld ?_
  simp only [Act.put, List.getElem_toArray, List.getElem_cons_zero, List.setIfInBounds_toArray, List.set_cons_succ, List.set_cons_zero]
  refine wpAnyH_take (i := 1) (v := .func (.func 83) #[] #[]) rfl (by kernel_rfl) (by kernel_rfl) (by kernel_rfl) (fun _ _ _ h => h) (Or.inl ⟨by rfl, fun W hW => by have hcell := (hW.cell (p := ⟨w.heap.size, 3, none⟩) HL1.out).trans HC3.out; clear hW; go_simp⟩) hHeld ?_
  simp only [Act.put, List.getElem_toArray, List.getElem_cons_zero, List.getElem_cons_succ, List.setIfInBounds_toArray, List.set_cons_succ, List.set_cons_zero]
  refine wpAnyH_take (i := 2) (v := .pointer (some ⟨w.heap.size + 1, 0, none⟩)) rfl (by kernel_rfl) (by kernel_rfl) (by kernel_rfl) (fun _ _ _ h => h) (Or.inl ⟨by rfl, fun W _ => by go_simp⟩) hHeld ?_
  simp only [Act.put, List.getElem_toArray, List.getElem_cons_zero, List.getElem_cons_succ, List.setIfInBounds_toArray, List.set_cons_succ, List.set_cons_zero]
  refine wpAnyH_take (i := 3) (v := .int .i64 (K : Nat)) rfl (by kernel_rfl) (by kernel_rfl) (by kernel_rfl) (fun _ _ _ h => h) (Or.inl ⟨by rfl, fun W hW => by have hcell := (hW.cell (p := ⟨w.heap.size + 1, 0, none⟩) HL2.out).trans HC0.out; clear hW; go_simp⟩) hHeld ?_
  simp only [Act.put, List.getElem_toArray, List.getElem_cons_zero, List.getElem_cons_succ, List.setIfInBounds_toArray, List.set_cons_succ, List.set_cons_zero]
  refine wpAnyH_take (i := 6) (v := .agg F0.toArray) rfl (by kernel_rfl) (by kernel_rfl) (by kernel_rfl) (fun _ _ _ h => h) (yieldsIf_load_mid (by rfl) 29 (.tmp 3) rfl (w.heap.size + 1) 0 rfl F0 _ (fun W hW => fun j v hv => (hW.cell (p := ⟨w.heap.size + 1, 0 + j, none⟩) HL2.out).trans (HRW.out j v hv)) Try.underlying29 rfl HSZ.out) hHeld ?_
  simp only [Act.put, List.getElem_toArray, List.getElem_cons_zero, List.getElem_cons_succ, List.setIfInBounds_toArray, List.set_cons_succ, List.set_cons_zero]
  refine wpAnyH_take (i := 9) (v := .int .i64 (NB : Nat)) rfl (by kernel_rfl) (by kernel_rfl) (by kernel_rfl) (fun _ _ _ h => h) (Or.inl ⟨by rfl, fun W _ => by go_simp⟩) hHeld ?_
  simp only [Act.put, List.getElem_toArray, List.getElem_cons_zero, List.getElem_cons_succ, List.setIfInBounds_toArray, List.set_cons_succ, List.set_cons_zero]
  refine wpAnyH_take (i := 10) (v := .int .u64 (NB : Nat)) rfl (by kernel_rfl) (by kernel_rfl) (by kernel_rfl) (fun _ _ _ h => h) (Or.inl ⟨by rfl, fun W _ => by have hfact := HWB.out; go_simp; first | done | simp [hfact] | omega⟩) hHeld ?_
  simp only [Act.put, List.getElem_toArray, List.getElem_cons_zero, List.getElem_cons_succ, List.setIfInBounds_toArray, List.set_cons_succ, List.set_cons_zero]
  refine wpAnyH_take (i := 15) (v := .int .i64 (NB : Nat)) rfl (by kernel_rfl) (by kernel_rfl) (by kernel_rfl) (fun _ _ _ h => h) (Or.inl ⟨by rfl, fun W _ => by go_simp⟩) hHeld ?_
  simp only [Act.put, List.getElem_toArray, List.getElem_cons_zero, List.getElem_cons_succ, List.setIfInBounds_toArray, List.set_cons_succ, List.set_cons_zero]
  obtain ⟨wx, HWX⟩ : ∃ x, Hid (w3.drew = x) := ⟨_, rfl⟩
  rw [HWX.out] at hHeld ⊢
  have hH0 := hHeld
  refine wpAnyH_ready (rs := [4]) (by kernel_rfl) (by simp) ?_
  refine AllReadyH.cons rfl (fun KC hKC => ?_) AllReadyH.nil
  go_simp
  have hq1 := below_tr hH0 ((below_walk wx (.cells #[.int .i64 (K : Nat)] 3)).mono hH0.size)
  refine hKC.out _ _ hq1 (fun hHeld => ?_)
  clear hKC KC
  try simp only [Act.put, List.getElem_toArray, List.getElem_cons_zero, List.getElem_cons_succ, List.setIfInBounds_toArray, List.set_cons_succ, List.set_cons_zero]
  refine wpAnyH_ready (rs := [5]) (by kernel_rfl) (by simp) ?_
  refine AllReadyH.cons rfl (fun KC hKC => ?_) AllReadyH.nil
  go_simp
  refine (putCounts_any nS _ [] [K] _ (srcNil _) (nums_one wx K) (by simp; omega) (by simp) (by simp)).mono ?_
  rintro e w4 ⟨v4, rfl, hs4, hb4⟩
  have hs4b : Src w4 v4 (sn K) := by simpa [sns] using hs4
  have HS4 := hid hs4b
  have hq2 := below_tr hq1 (hb4.mono hq1.size)
  obtain ⟨a4, c4, e4⟩ := src_shape hs4b
  subst e4
  clear hs4 hs4b hb4
  go_wp2_with fail
  refine hKC.out _ _ hq2 (fun hHeld => ?_)
  clear hKC KC
  try simp only [Act.put, List.getElem_toArray, List.getElem_cons_zero, List.getElem_cons_succ, List.setIfInBounds_toArray, List.set_cons_succ, List.set_cons_zero]
  refine wpAnyH_ready (rs := [7]) (by kernel_rfl) (by simp) ?_
  refine AllReadyH.cons rfl (fun KC hKC => ?_) AllReadyH.nil
  go_simp
  refine (HLAY.out w4 _ (sn K) HS4.out (by have := sn_length_le K; omega) (HSB2.out.below hq2)).mono ?_
  rintro e w5 ⟨v5, rfl, hs5, hb5⟩
  have hq3 := below_tr hq2 (hb5.mono hq2.size)
  obtain ⟨a5, c5, e5⟩ := src_shape hs5
  rw [show (sn K ++ L0).length = M from HM.out] at e5
  subst e5
  clear hs5 hb5
  go_wp2_with fail
  refine hKC.out _ _ hq3 (fun hHeld => ?_)
  clear hKC KC
  try simp only [Act.put, List.getElem_toArray, List.getElem_cons_zero, List.getElem_cons_succ, List.setIfInBounds_toArray, List.set_cons_succ, List.set_cons_zero]
  refine wpAnyH_take (i := 8) (v := .int .i64 (M : Nat)) rfl (by kernel_rfl) (by kernel_rfl) (by kernel_rfl) (fun _ _ _ h => h) (Or.inl ⟨by rfl, fun W _ => by go_simp⟩) hHeld ?_
  simp only [Act.put, List.getElem_toArray, List.getElem_cons_zero, List.getElem_cons_succ, List.setIfInBounds_toArray, List.set_cons_succ, List.set_cons_zero]
  refine wpAnyH_ready (rs := [11]) (by kernel_rfl) (by simp) ?_
  refine AllReadyH.cons rfl (fun KC hKC => ?_) AllReadyH.nil
  go_simp
  refine (size_any NB w5 (by omega)).mono ?_
  rintro e wz ⟨rfl, ez⟩
  have ey := ez.symm
  subst ey
  rw [HSB.out]
  go_wp2_with fail
  refine hKC.out _ _ hq3 (fun hHeld => ?_)
  clear hKC KC
  try simp only [Act.put, List.getElem_toArray, List.getElem_cons_zero, List.getElem_cons_succ, List.setIfInBounds_toArray, List.set_cons_succ, List.set_cons_zero]
  refine wpAnyH_take (i := 12) (v := .int .i64 ((M : Int) + (SB : Int))) rfl (by kernel_rfl) (by kernel_rfl) (by kernel_rfl) (fun _ _ _ h => h) (Or.inl ⟨by rfl, fun W _ => by have hfact := HW1.out; go_simp; first | done | simp [hfact] | omega⟩) hHeld ?_
  simp only [Act.put, List.getElem_toArray, List.getElem_cons_zero, List.getElem_cons_succ, List.setIfInBounds_toArray, List.set_cons_succ, List.set_cons_zero]
  refine wpAnyH_ready (rs := [13]) (by kernel_rfl) (by simp) ?_
  refine AllReadyH.cons rfl (fun KC hKC => ?_) AllReadyH.nil
  go_simp
  refine (size_zero w5).mono ?_
  rintro e wz ⟨rfl, ez⟩
  have ey := ez.symm
  subst ey
  go_wp2_with fail
  refine hKC.out _ _ hq3 (fun hHeld => ?_)
  clear hKC KC
  try simp only [Act.put, List.getElem_toArray, List.getElem_cons_zero, List.getElem_cons_succ, List.setIfInBounds_toArray, List.set_cons_succ, List.set_cons_zero]
  refine wpAnyH_take (i := 14) (v := .int .i64 ((M : Int) + (SB : Int) - 1)) rfl (by kernel_rfl) (by kernel_rfl) (by kernel_rfl) (fun _ _ _ h => h) (Or.inl ⟨by rfl, fun W _ => by have hfact := HW2.out; go_simp; first | done | simp [hfact] | omega⟩) hHeld ?_
  simp only [Act.put, List.getElem_toArray, List.getElem_cons_zero, List.getElem_cons_succ, List.setIfInBounds_toArray, List.set_cons_succ, List.set_cons_zero]
  refine wpAnyH_take (i := 16) (v := .int .i64 ((M : Int) + (SB : Int) - 1 + (NB : Int))) rfl (by kernel_rfl) (by kernel_rfl) (by kernel_rfl) (fun _ _ _ h => h) (Or.inl ⟨by rfl, fun W _ => by have hfact := HW3.out; go_simp; first | done | simp [hfact] | omega⟩) hHeld ?_
  simp only [Act.put, List.getElem_toArray, List.getElem_cons_zero, List.getElem_cons_succ, List.setIfInBounds_toArray, List.set_cons_succ, List.set_cons_zero]
  refine wpAnyH_take (i := 17) (v := .int .i64 ((M : Int) + (SB : Int) - 1 + (NB : Int))) rfl (by kernel_rfl) (by kernel_rfl) (by kernel_rfl) (fun _ _ _ h => h) (Or.inl ⟨by rfl, fun W _ => by go_simp⟩) hHeld ?_
  simp only [Act.put, List.getElem_toArray, List.getElem_cons_zero, List.getElem_cons_succ, List.setIfInBounds_toArray, List.set_cons_succ, List.set_cons_zero]
  refine wpAnyH_done (by kernel_rfl) ?_ _
  simp only [noPanic]
  clear hHeld
  go_wp2
  go_ret
  exact ⟨by rw [HM.out, HNL.out, HSB.out]; first | done | rfl, below_then HB3.out hq3⟩

set_option maxRecDepth 100000 in
set_option maxHeartbeats 8000000 in
theorem ksize4_any (f : Fr) (va : Value) (K : Nat) (L0 : List UInt8) (w : World) (hf : f.tool.length = 32) (ha : Strs w va f.args) (hk : f.kind = (K : Int)) (hK : K ≤ 6) (hB : f.body.length ≤ 140737488355327) (hL0 : L0.length ≤ 1000000)
    (hlay : ∀ W vb bs, Src W vb bs → bs.length ≤ 1000 → Strs W va f.args → Calls Try.prog 87 #[vb, .agg (fcells (noBody f) va).toArray] W fun e w' => ∃ v, e = .returned v ∧ Src w' v (bs ++ L0) ∧ Below W.heap.size W w') :
    Calls Try.prog 41 #[.agg k4.toArray, .agg (fcells f va).toArray] w fun e w' => e = .returned (.int .i64 (((sn K ++ L0).length : Int) + ((sn f.body.length).length : Int) - 1 + (f.body.length : Int))) ∧ Below w.heap.size w w' := by
  have HNB := hid (hp_two w (.cells k4.toArray 61) (.cells (fcells f va).toArray 29))
  have HBL := hid (below_walk2 w (.cells k4.toArray 61) (.cells (fcells f va).toArray 29))
  have HZ : Hid ((w.alloc (.cells k4.toArray 61)).heap.size = w.heap.size + 1) := hid (by simp)
  have HF := hid hf
  have HLAY := hid hlay
  have HKK := hid hk
  have hsb := sn_length_le f.body.length
  have hsk := sn_length_le K
  obtain ⟨M, HM⟩ : ∃ M, Hid ((sn K ++ L0).length = M) := ⟨_, rfl⟩
  obtain ⟨SB, HSB⟩ : ∃ M, Hid ((sn f.body.length).length = M) := ⟨_, rfl⟩
  have hM : M ≤ 1000010 := by have := HM.out; rw [List.length_append] at this; omega
  rw [HSB.out] at hsb
  have HSA := hid ha
  have HFN := hid (fcells_noBody f va hf)
  have HSZ := hid (frame_size (noBody f) va hf)
  have hmk := mk_size f.body
  clear hf hlay hk ha
  go_enter Try.func41, Try.ntmps41
  go_upto_region 1 with fail
  try rw [HZ.out]
  generalize (w.alloc (.cells k4.toArray 61)).alloc (.cells (fcells f va).toArray 29) = w2 at HNB HBL ⊢
  have x41 := (Fb.of HNB.out.2 HF.out).bd
  have f41 := row_fz HNB.out.2 41
  go_upto_region 3 with fail
  have HN3 := hid (show (w2.setCell ⟨w.heap.size + 1, 41, none⟩ (.string ⟨#[]⟩)).heap[w.heap.size + 1]? = some (.cells (fcells (noBody f) va).toArray 29 (0, 0)) by rw [← HFN.out]; exact blk_set HNB.out.2 _)
  have HN1 := hid (show (w2.setCell ⟨w.heap.size + 1, 41, none⟩ (.string ⟨#[]⟩)).heap[w.heap.size]? = some (.cells k4.toArray 61 (0, 0)) from (Below.heap_setCell w2 _ _ w.heap.size (by simp)).trans HNB.out.1)
  have HB3 := hid (show Below w.heap.size w (w2.setCell ⟨w.heap.size + 1, 41, none⟩ (.string ⟨#[]⟩)) from HBL.out.setCell (by simp) _)
  have HSB2 := hid (show Strs (w2.setCell ⟨w.heap.size + 1, 41, none⟩ (.string ⟨#[]⟩)) va f.args from (HSA.out.below HB3.out))
  generalize w2.setCell ⟨w.heap.size + 1, 41, none⟩ (.string ⟨#[]⟩) = w3 at HN3 HN1 HB3 HSB2 ⊢
  clear x41 f41 HNB HBL HSA
  have HL1 := hid (hp_lt HN1.out)
  have HL2 := hid (hp_lt HN3.out)
  have HC3 : Hid (w3.cell? ⟨w.heap.size, 3, none⟩ = some (.func (.func 87) #[] #[])) := hid (by rw [cell_of_row w3 w.heap.size 3 _ _ _ HN1.out]; rfl)
  have HC0 : Hid (w3.cell? ⟨w.heap.size + 1, 0, none⟩ = some (.int .i64 (K : Nat))) := hid (by have h9 := (Fb.of HN3.out HF.out).k; rw [show (noBody f).kind = f.kind from rfl, HKK.out] at h9; exact h9)
  have HRW := hid (range_row HN3.out)
  generalize fcells (noBody f) va = F0 at *
  obtain ⟨NB, HNL⟩ : ∃ n, Hid (f.body.length = n) := ⟨_, rfl⟩
  rw [HNL.out] at hB HSB ⊢
  have HWB := hid (show IntKind.u64.wrap (NB : Int) = (NB : Int) by rw [IntKind.wrap_u64]; omega)
  have HW1 := hid (show IntKind.i64.wrap ((M : Int) + (SB : Int)) = (M : Int) + (SB : Int) by rw [IntKind.wrap_i64]; omega)
  have HW2 := hid (show IntKind.i64.wrap ((M : Int) + (SB : Int) - 1) = (M : Int) + (SB : Int) - 1 by rw [IntKind.wrap_i64]; omega)
  have HW3 := hid (show IntKind.i64.wrap ((M : Int) + (SB : Int) - 1 + (NB : Int)) = (M : Int) + (SB : Int) - 1 + (NB : Int) by rw [IntKind.wrap_i64]; omega)
  refine wp_noPanic (wp_region_held_drew (S := fun W => Below w3.heap.size w3 W) (by kernel_rfl) ⟨rfl, rfl, rfl, Nat.le_refl _, fun _ _ => rfl⟩ ?_)
  intro hHeld
  refine wpAnyH_take (i := 0) (v := .pointer (some ⟨w.heap.size, 3, none⟩)) rfl (by kernel_rfl) (by kernel_rfl) (by kernel_rfl) (fun _ _ _ h => h) (Or.inl ⟨by rfl, fun W _ => by go_simp⟩) hHeld ?_
  simp only [Act.put, List.getElem_toArray, List.getElem_cons_zero, List.setIfInBounds_toArray, List.set_cons_succ, List.set_cons_zero]
  refine wpAnyH_take (i := 1) (v := .func (.func 87) #[] #[]) rfl (by kernel_rfl) (by kernel_rfl) (by kernel_rfl) (fun _ _ _ h => h) (Or.inl ⟨by rfl, fun W hW => by have hcell := (hW.cell (p := ⟨w.heap.size, 3, none⟩) HL1.out).trans HC3.out; clear hW; go_simp⟩) hHeld ?_
  simp only [Act.put, List.getElem_toArray, List.getElem_cons_zero, List.getElem_cons_succ, List.setIfInBounds_toArray, List.set_cons_succ, List.set_cons_zero]
  refine wpAnyH_take (i := 2) (v := .pointer (some ⟨w.heap.size + 1, 0, none⟩)) rfl (by kernel_rfl) (by kernel_rfl) (by kernel_rfl) (fun _ _ _ h => h) (Or.inl ⟨by rfl, fun W _ => by go_simp⟩) hHeld ?_
  simp only [Act.put, List.getElem_toArray, List.getElem_cons_zero, List.getElem_cons_succ, List.setIfInBounds_toArray, List.set_cons_succ, List.set_cons_zero]
  refine wpAnyH_take (i := 3) (v := .int .i64 (K : Nat)) rfl (by kernel_rfl) (by kernel_rfl) (by kernel_rfl) (fun _ _ _ h => h) (Or.inl ⟨by rfl, fun W hW => by have hcell := (hW.cell (p := ⟨w.heap.size + 1, 0, none⟩) HL2.out).trans HC0.out; clear hW; go_simp⟩) hHeld ?_
  simp only [Act.put, List.getElem_toArray, List.getElem_cons_zero, List.getElem_cons_succ, List.setIfInBounds_toArray, List.set_cons_succ, List.set_cons_zero]
  refine wpAnyH_take (i := 6) (v := .agg F0.toArray) rfl (by kernel_rfl) (by kernel_rfl) (by kernel_rfl) (fun _ _ _ h => h) (yieldsIf_load_mid (by rfl) 29 (.tmp 3) rfl (w.heap.size + 1) 0 rfl F0 _ (fun W hW => fun j v hv => (hW.cell (p := ⟨w.heap.size + 1, 0 + j, none⟩) HL2.out).trans (HRW.out j v hv)) Try.underlying29 rfl HSZ.out) hHeld ?_
  simp only [Act.put, List.getElem_toArray, List.getElem_cons_zero, List.getElem_cons_succ, List.setIfInBounds_toArray, List.set_cons_succ, List.set_cons_zero]
  refine wpAnyH_take (i := 9) (v := .int .i64 (NB : Nat)) rfl (by kernel_rfl) (by kernel_rfl) (by kernel_rfl) (fun _ _ _ h => h) (Or.inl ⟨by rfl, fun W _ => by go_simp⟩) hHeld ?_
  simp only [Act.put, List.getElem_toArray, List.getElem_cons_zero, List.getElem_cons_succ, List.setIfInBounds_toArray, List.set_cons_succ, List.set_cons_zero]
  refine wpAnyH_take (i := 10) (v := .int .u64 (NB : Nat)) rfl (by kernel_rfl) (by kernel_rfl) (by kernel_rfl) (fun _ _ _ h => h) (Or.inl ⟨by rfl, fun W _ => by have hfact := HWB.out; go_simp; first | done | simp [hfact] | omega⟩) hHeld ?_
  simp only [Act.put, List.getElem_toArray, List.getElem_cons_zero, List.getElem_cons_succ, List.setIfInBounds_toArray, List.set_cons_succ, List.set_cons_zero]
  refine wpAnyH_take (i := 15) (v := .int .i64 (NB : Nat)) rfl (by kernel_rfl) (by kernel_rfl) (by kernel_rfl) (fun _ _ _ h => h) (Or.inl ⟨by rfl, fun W _ => by go_simp⟩) hHeld ?_
  simp only [Act.put, List.getElem_toArray, List.getElem_cons_zero, List.getElem_cons_succ, List.setIfInBounds_toArray, List.set_cons_succ, List.set_cons_zero]
  obtain ⟨wx, HWX⟩ : ∃ x, Hid (w3.drew = x) := ⟨_, rfl⟩
  rw [HWX.out] at hHeld ⊢
  have hH0 := hHeld
  refine wpAnyH_ready (rs := [4]) (by kernel_rfl) (by simp) ?_
  refine AllReadyH.cons rfl (fun KC hKC => ?_) AllReadyH.nil
  go_simp
  have hq1 := below_tr hH0 ((below_walk wx (.cells #[.int .i64 (K : Nat)] 3)).mono hH0.size)
  refine hKC.out _ _ hq1 (fun hHeld => ?_)
  clear hKC KC
  try simp only [Act.put, List.getElem_toArray, List.getElem_cons_zero, List.getElem_cons_succ, List.setIfInBounds_toArray, List.set_cons_succ, List.set_cons_zero]
  refine wpAnyH_ready (rs := [5]) (by kernel_rfl) (by simp) ?_
  refine AllReadyH.cons rfl (fun KC hKC => ?_) AllReadyH.nil
  go_simp
  refine (putCounts_any nS _ [] [K] _ (srcNil _) (nums_one wx K) (by simp; omega) (by simp) (by simp)).mono ?_
  rintro e w4 ⟨v4, rfl, hs4, hb4⟩
  have hs4b : Src w4 v4 (sn K) := by simpa [sns] using hs4
  have HS4 := hid hs4b
  have hq2 := below_tr hq1 (hb4.mono hq1.size)
  obtain ⟨a4, c4, e4⟩ := src_shape hs4b
  subst e4
  clear hs4 hs4b hb4
  go_wp2_with fail
  refine hKC.out _ _ hq2 (fun hHeld => ?_)
  clear hKC KC
  try simp only [Act.put, List.getElem_toArray, List.getElem_cons_zero, List.getElem_cons_succ, List.setIfInBounds_toArray, List.set_cons_succ, List.set_cons_zero]
  refine wpAnyH_ready (rs := [7]) (by kernel_rfl) (by simp) ?_
  refine AllReadyH.cons rfl (fun KC hKC => ?_) AllReadyH.nil
  go_simp
  refine (HLAY.out w4 _ (sn K) HS4.out (by have := sn_length_le K; omega) (HSB2.out.below hq2)).mono ?_
  rintro e w5 ⟨v5, rfl, hs5, hb5⟩
  have hq3 := below_tr hq2 (hb5.mono hq2.size)
  obtain ⟨a5, c5, e5⟩ := src_shape hs5
  rw [show (sn K ++ L0).length = M from HM.out] at e5
  subst e5
  clear hs5 hb5
  go_wp2_with fail
  refine hKC.out _ _ hq3 (fun hHeld => ?_)
  clear hKC KC
  try simp only [Act.put, List.getElem_toArray, List.getElem_cons_zero, List.getElem_cons_succ, List.setIfInBounds_toArray, List.set_cons_succ, List.set_cons_zero]
  refine wpAnyH_take (i := 8) (v := .int .i64 (M : Nat)) rfl (by kernel_rfl) (by kernel_rfl) (by kernel_rfl) (fun _ _ _ h => h) (Or.inl ⟨by rfl, fun W _ => by go_simp⟩) hHeld ?_
  simp only [Act.put, List.getElem_toArray, List.getElem_cons_zero, List.getElem_cons_succ, List.setIfInBounds_toArray, List.set_cons_succ, List.set_cons_zero]
  refine wpAnyH_ready (rs := [11]) (by kernel_rfl) (by simp) ?_
  refine AllReadyH.cons rfl (fun KC hKC => ?_) AllReadyH.nil
  go_simp
  refine (size_any NB w5 (by omega)).mono ?_
  rintro e wz ⟨rfl, ez⟩
  have ey := ez.symm
  subst ey
  rw [HSB.out]
  go_wp2_with fail
  refine hKC.out _ _ hq3 (fun hHeld => ?_)
  clear hKC KC
  try simp only [Act.put, List.getElem_toArray, List.getElem_cons_zero, List.getElem_cons_succ, List.setIfInBounds_toArray, List.set_cons_succ, List.set_cons_zero]
  refine wpAnyH_take (i := 12) (v := .int .i64 ((M : Int) + (SB : Int))) rfl (by kernel_rfl) (by kernel_rfl) (by kernel_rfl) (fun _ _ _ h => h) (Or.inl ⟨by rfl, fun W _ => by have hfact := HW1.out; go_simp; first | done | simp [hfact] | omega⟩) hHeld ?_
  simp only [Act.put, List.getElem_toArray, List.getElem_cons_zero, List.getElem_cons_succ, List.setIfInBounds_toArray, List.set_cons_succ, List.set_cons_zero]
  refine wpAnyH_ready (rs := [13]) (by kernel_rfl) (by simp) ?_
  refine AllReadyH.cons rfl (fun KC hKC => ?_) AllReadyH.nil
  go_simp
  refine (size_zero w5).mono ?_
  rintro e wz ⟨rfl, ez⟩
  have ey := ez.symm
  subst ey
  go_wp2_with fail
  refine hKC.out _ _ hq3 (fun hHeld => ?_)
  clear hKC KC
  try simp only [Act.put, List.getElem_toArray, List.getElem_cons_zero, List.getElem_cons_succ, List.setIfInBounds_toArray, List.set_cons_succ, List.set_cons_zero]
  refine wpAnyH_take (i := 14) (v := .int .i64 ((M : Int) + (SB : Int) - 1)) rfl (by kernel_rfl) (by kernel_rfl) (by kernel_rfl) (fun _ _ _ h => h) (Or.inl ⟨by rfl, fun W _ => by have hfact := HW2.out; go_simp; first | done | simp [hfact] | omega⟩) hHeld ?_
  simp only [Act.put, List.getElem_toArray, List.getElem_cons_zero, List.getElem_cons_succ, List.setIfInBounds_toArray, List.set_cons_succ, List.set_cons_zero]
  refine wpAnyH_take (i := 16) (v := .int .i64 ((M : Int) + (SB : Int) - 1 + (NB : Int))) rfl (by kernel_rfl) (by kernel_rfl) (by kernel_rfl) (fun _ _ _ h => h) (Or.inl ⟨by rfl, fun W _ => by have hfact := HW3.out; go_simp; first | done | simp [hfact] | omega⟩) hHeld ?_
  simp only [Act.put, List.getElem_toArray, List.getElem_cons_zero, List.getElem_cons_succ, List.setIfInBounds_toArray, List.set_cons_succ, List.set_cons_zero]
  refine wpAnyH_take (i := 17) (v := .int .i64 ((M : Int) + (SB : Int) - 1 + (NB : Int))) rfl (by kernel_rfl) (by kernel_rfl) (by kernel_rfl) (fun _ _ _ h => h) (Or.inl ⟨by rfl, fun W _ => by go_simp⟩) hHeld ?_
  simp only [Act.put, List.getElem_toArray, List.getElem_cons_zero, List.getElem_cons_succ, List.setIfInBounds_toArray, List.set_cons_succ, List.set_cons_zero]
  refine wpAnyH_done (by kernel_rfl) ?_ _
  simp only [noPanic]
  clear hHeld
  go_wp2
  go_ret
  exact ⟨by rw [HM.out, HNL.out, HSB.out]; first | done | rfl, below_then HB3.out hq3⟩

set_option maxRecDepth 100000 in
set_option maxHeartbeats 8000000 in
theorem ksize5_any (f : Fr) (va : Value) (K : Nat) (L0 : List UInt8) (w : World) (hf : f.tool.length = 32) (ha : Strs w va f.args) (hk : f.kind = (K : Int)) (hK : K ≤ 6) (hB : f.body.length ≤ 140737488355327) (hL0 : L0.length ≤ 1000000)
    (hlay : ∀ W vb bs, Src W vb bs → bs.length ≤ 1000 → Strs W va f.args → Calls Try.prog 90 #[vb, .agg (fcells (noBody f) va).toArray] W fun e w' => ∃ v, e = .returned v ∧ Src w' v (bs ++ L0) ∧ Below W.heap.size W w') :
    Calls Try.prog 41 #[.agg k5.toArray, .agg (fcells f va).toArray] w fun e w' => e = .returned (.int .i64 (((sn K ++ L0).length : Int) + ((sn f.body.length).length : Int) - 1 + (f.body.length : Int))) ∧ Below w.heap.size w w' := by
  have HNB := hid (hp_two w (.cells k5.toArray 61) (.cells (fcells f va).toArray 29))
  have HBL := hid (below_walk2 w (.cells k5.toArray 61) (.cells (fcells f va).toArray 29))
  have HZ : Hid ((w.alloc (.cells k5.toArray 61)).heap.size = w.heap.size + 1) := hid (by simp)
  have HF := hid hf
  have HLAY := hid hlay
  have HKK := hid hk
  have hsb := sn_length_le f.body.length
  have hsk := sn_length_le K
  obtain ⟨M, HM⟩ : ∃ M, Hid ((sn K ++ L0).length = M) := ⟨_, rfl⟩
  obtain ⟨SB, HSB⟩ : ∃ M, Hid ((sn f.body.length).length = M) := ⟨_, rfl⟩
  have hM : M ≤ 1000010 := by have := HM.out; rw [List.length_append] at this; omega
  rw [HSB.out] at hsb
  have HSA := hid ha
  have HFN := hid (fcells_noBody f va hf)
  have HSZ := hid (frame_size (noBody f) va hf)
  have hmk := mk_size f.body
  clear hf hlay hk ha
  go_enter Try.func41, Try.ntmps41
  go_upto_region 1 with fail
  try rw [HZ.out]
  generalize (w.alloc (.cells k5.toArray 61)).alloc (.cells (fcells f va).toArray 29) = w2 at HNB HBL ⊢
  have x41 := (Fb.of HNB.out.2 HF.out).bd
  have f41 := row_fz HNB.out.2 41
  go_upto_region 3 with fail
  have HN3 := hid (show (w2.setCell ⟨w.heap.size + 1, 41, none⟩ (.string ⟨#[]⟩)).heap[w.heap.size + 1]? = some (.cells (fcells (noBody f) va).toArray 29 (0, 0)) by rw [← HFN.out]; exact blk_set HNB.out.2 _)
  have HN1 := hid (show (w2.setCell ⟨w.heap.size + 1, 41, none⟩ (.string ⟨#[]⟩)).heap[w.heap.size]? = some (.cells k5.toArray 61 (0, 0)) from (Below.heap_setCell w2 _ _ w.heap.size (by simp)).trans HNB.out.1)
  have HB3 := hid (show Below w.heap.size w (w2.setCell ⟨w.heap.size + 1, 41, none⟩ (.string ⟨#[]⟩)) from HBL.out.setCell (by simp) _)
  have HSB2 := hid (show Strs (w2.setCell ⟨w.heap.size + 1, 41, none⟩ (.string ⟨#[]⟩)) va f.args from (HSA.out.below HB3.out))
  generalize w2.setCell ⟨w.heap.size + 1, 41, none⟩ (.string ⟨#[]⟩) = w3 at HN3 HN1 HB3 HSB2 ⊢
  clear x41 f41 HNB HBL HSA
  have HL1 := hid (hp_lt HN1.out)
  have HL2 := hid (hp_lt HN3.out)
  have HC3 : Hid (w3.cell? ⟨w.heap.size, 3, none⟩ = some (.func (.func 90) #[] #[])) := hid (by rw [cell_of_row w3 w.heap.size 3 _ _ _ HN1.out]; rfl)
  have HC0 : Hid (w3.cell? ⟨w.heap.size + 1, 0, none⟩ = some (.int .i64 (K : Nat))) := hid (by have h9 := (Fb.of HN3.out HF.out).k; rw [show (noBody f).kind = f.kind from rfl, HKK.out] at h9; exact h9)
  have HRW := hid (range_row HN3.out)
  generalize fcells (noBody f) va = F0 at *
  obtain ⟨NB, HNL⟩ : ∃ n, Hid (f.body.length = n) := ⟨_, rfl⟩
  rw [HNL.out] at hB HSB ⊢
  have HWB := hid (show IntKind.u64.wrap (NB : Int) = (NB : Int) by rw [IntKind.wrap_u64]; omega)
  have HW1 := hid (show IntKind.i64.wrap ((M : Int) + (SB : Int)) = (M : Int) + (SB : Int) by rw [IntKind.wrap_i64]; omega)
  have HW2 := hid (show IntKind.i64.wrap ((M : Int) + (SB : Int) - 1) = (M : Int) + (SB : Int) - 1 by rw [IntKind.wrap_i64]; omega)
  have HW3 := hid (show IntKind.i64.wrap ((M : Int) + (SB : Int) - 1 + (NB : Int)) = (M : Int) + (SB : Int) - 1 + (NB : Int) by rw [IntKind.wrap_i64]; omega)
  refine wp_noPanic (wp_region_held_drew (S := fun W => Below w3.heap.size w3 W) (by kernel_rfl) ⟨rfl, rfl, rfl, Nat.le_refl _, fun _ _ => rfl⟩ ?_)
  intro hHeld
  refine wpAnyH_take (i := 0) (v := .pointer (some ⟨w.heap.size, 3, none⟩)) rfl (by kernel_rfl) (by kernel_rfl) (by kernel_rfl) (fun _ _ _ h => h) (Or.inl ⟨by rfl, fun W _ => by go_simp⟩) hHeld ?_
  simp only [Act.put, List.getElem_toArray, List.getElem_cons_zero, List.setIfInBounds_toArray, List.set_cons_succ, List.set_cons_zero]
  refine wpAnyH_take (i := 1) (v := .func (.func 90) #[] #[]) rfl (by kernel_rfl) (by kernel_rfl) (by kernel_rfl) (fun _ _ _ h => h) (Or.inl ⟨by rfl, fun W hW => by have hcell := (hW.cell (p := ⟨w.heap.size, 3, none⟩) HL1.out).trans HC3.out; clear hW; go_simp⟩) hHeld ?_
  simp only [Act.put, List.getElem_toArray, List.getElem_cons_zero, List.getElem_cons_succ, List.setIfInBounds_toArray, List.set_cons_succ, List.set_cons_zero]
  refine wpAnyH_take (i := 2) (v := .pointer (some ⟨w.heap.size + 1, 0, none⟩)) rfl (by kernel_rfl) (by kernel_rfl) (by kernel_rfl) (fun _ _ _ h => h) (Or.inl ⟨by rfl, fun W _ => by go_simp⟩) hHeld ?_
  simp only [Act.put, List.getElem_toArray, List.getElem_cons_zero, List.getElem_cons_succ, List.setIfInBounds_toArray, List.set_cons_succ, List.set_cons_zero]
  refine wpAnyH_take (i := 3) (v := .int .i64 (K : Nat)) rfl (by kernel_rfl) (by kernel_rfl) (by kernel_rfl) (fun _ _ _ h => h) (Or.inl ⟨by rfl, fun W hW => by have hcell := (hW.cell (p := ⟨w.heap.size + 1, 0, none⟩) HL2.out).trans HC0.out; clear hW; go_simp⟩) hHeld ?_
  simp only [Act.put, List.getElem_toArray, List.getElem_cons_zero, List.getElem_cons_succ, List.setIfInBounds_toArray, List.set_cons_succ, List.set_cons_zero]
  refine wpAnyH_take (i := 6) (v := .agg F0.toArray) rfl (by kernel_rfl) (by kernel_rfl) (by kernel_rfl) (fun _ _ _ h => h) (yieldsIf_load_mid (by rfl) 29 (.tmp 3) rfl (w.heap.size + 1) 0 rfl F0 _ (fun W hW => fun j v hv => (hW.cell (p := ⟨w.heap.size + 1, 0 + j, none⟩) HL2.out).trans (HRW.out j v hv)) Try.underlying29 rfl HSZ.out) hHeld ?_
  simp only [Act.put, List.getElem_toArray, List.getElem_cons_zero, List.getElem_cons_succ, List.setIfInBounds_toArray, List.set_cons_succ, List.set_cons_zero]
  refine wpAnyH_take (i := 9) (v := .int .i64 (NB : Nat)) rfl (by kernel_rfl) (by kernel_rfl) (by kernel_rfl) (fun _ _ _ h => h) (Or.inl ⟨by rfl, fun W _ => by go_simp⟩) hHeld ?_
  simp only [Act.put, List.getElem_toArray, List.getElem_cons_zero, List.getElem_cons_succ, List.setIfInBounds_toArray, List.set_cons_succ, List.set_cons_zero]
  refine wpAnyH_take (i := 10) (v := .int .u64 (NB : Nat)) rfl (by kernel_rfl) (by kernel_rfl) (by kernel_rfl) (fun _ _ _ h => h) (Or.inl ⟨by rfl, fun W _ => by have hfact := HWB.out; go_simp; first | done | simp [hfact] | omega⟩) hHeld ?_
  simp only [Act.put, List.getElem_toArray, List.getElem_cons_zero, List.getElem_cons_succ, List.setIfInBounds_toArray, List.set_cons_succ, List.set_cons_zero]
  refine wpAnyH_take (i := 15) (v := .int .i64 (NB : Nat)) rfl (by kernel_rfl) (by kernel_rfl) (by kernel_rfl) (fun _ _ _ h => h) (Or.inl ⟨by rfl, fun W _ => by go_simp⟩) hHeld ?_
  simp only [Act.put, List.getElem_toArray, List.getElem_cons_zero, List.getElem_cons_succ, List.setIfInBounds_toArray, List.set_cons_succ, List.set_cons_zero]
  obtain ⟨wx, HWX⟩ : ∃ x, Hid (w3.drew = x) := ⟨_, rfl⟩
  rw [HWX.out] at hHeld ⊢
  have hH0 := hHeld
  refine wpAnyH_ready (rs := [4]) (by kernel_rfl) (by simp) ?_
  refine AllReadyH.cons rfl (fun KC hKC => ?_) AllReadyH.nil
  go_simp
  have hq1 := below_tr hH0 ((below_walk wx (.cells #[.int .i64 (K : Nat)] 3)).mono hH0.size)
  refine hKC.out _ _ hq1 (fun hHeld => ?_)
  clear hKC KC
  try simp only [Act.put, List.getElem_toArray, List.getElem_cons_zero, List.getElem_cons_succ, List.setIfInBounds_toArray, List.set_cons_succ, List.set_cons_zero]
  refine wpAnyH_ready (rs := [5]) (by kernel_rfl) (by simp) ?_
  refine AllReadyH.cons rfl (fun KC hKC => ?_) AllReadyH.nil
  go_simp
  refine (putCounts_any nS _ [] [K] _ (srcNil _) (nums_one wx K) (by simp; omega) (by simp) (by simp)).mono ?_
  rintro e w4 ⟨v4, rfl, hs4, hb4⟩
  have hs4b : Src w4 v4 (sn K) := by simpa [sns] using hs4
  have HS4 := hid hs4b
  have hq2 := below_tr hq1 (hb4.mono hq1.size)
  obtain ⟨a4, c4, e4⟩ := src_shape hs4b
  subst e4
  clear hs4 hs4b hb4
  go_wp2_with fail
  refine hKC.out _ _ hq2 (fun hHeld => ?_)
  clear hKC KC
  try simp only [Act.put, List.getElem_toArray, List.getElem_cons_zero, List.getElem_cons_succ, List.setIfInBounds_toArray, List.set_cons_succ, List.set_cons_zero]
  refine wpAnyH_ready (rs := [7]) (by kernel_rfl) (by simp) ?_
  refine AllReadyH.cons rfl (fun KC hKC => ?_) AllReadyH.nil
  go_simp
  refine (HLAY.out w4 _ (sn K) HS4.out (by have := sn_length_le K; omega) (HSB2.out.below hq2)).mono ?_
  rintro e w5 ⟨v5, rfl, hs5, hb5⟩
  have hq3 := below_tr hq2 (hb5.mono hq2.size)
  obtain ⟨a5, c5, e5⟩ := src_shape hs5
  rw [show (sn K ++ L0).length = M from HM.out] at e5
  subst e5
  clear hs5 hb5
  go_wp2_with fail
  refine hKC.out _ _ hq3 (fun hHeld => ?_)
  clear hKC KC
  try simp only [Act.put, List.getElem_toArray, List.getElem_cons_zero, List.getElem_cons_succ, List.setIfInBounds_toArray, List.set_cons_succ, List.set_cons_zero]
  refine wpAnyH_take (i := 8) (v := .int .i64 (M : Nat)) rfl (by kernel_rfl) (by kernel_rfl) (by kernel_rfl) (fun _ _ _ h => h) (Or.inl ⟨by rfl, fun W _ => by go_simp⟩) hHeld ?_
  simp only [Act.put, List.getElem_toArray, List.getElem_cons_zero, List.getElem_cons_succ, List.setIfInBounds_toArray, List.set_cons_succ, List.set_cons_zero]
  refine wpAnyH_ready (rs := [11]) (by kernel_rfl) (by simp) ?_
  refine AllReadyH.cons rfl (fun KC hKC => ?_) AllReadyH.nil
  go_simp
  refine (size_any NB w5 (by omega)).mono ?_
  rintro e wz ⟨rfl, ez⟩
  have ey := ez.symm
  subst ey
  rw [HSB.out]
  go_wp2_with fail
  refine hKC.out _ _ hq3 (fun hHeld => ?_)
  clear hKC KC
  try simp only [Act.put, List.getElem_toArray, List.getElem_cons_zero, List.getElem_cons_succ, List.setIfInBounds_toArray, List.set_cons_succ, List.set_cons_zero]
  refine wpAnyH_take (i := 12) (v := .int .i64 ((M : Int) + (SB : Int))) rfl (by kernel_rfl) (by kernel_rfl) (by kernel_rfl) (fun _ _ _ h => h) (Or.inl ⟨by rfl, fun W _ => by have hfact := HW1.out; go_simp; first | done | simp [hfact] | omega⟩) hHeld ?_
  simp only [Act.put, List.getElem_toArray, List.getElem_cons_zero, List.getElem_cons_succ, List.setIfInBounds_toArray, List.set_cons_succ, List.set_cons_zero]
  refine wpAnyH_ready (rs := [13]) (by kernel_rfl) (by simp) ?_
  refine AllReadyH.cons rfl (fun KC hKC => ?_) AllReadyH.nil
  go_simp
  refine (size_zero w5).mono ?_
  rintro e wz ⟨rfl, ez⟩
  have ey := ez.symm
  subst ey
  go_wp2_with fail
  refine hKC.out _ _ hq3 (fun hHeld => ?_)
  clear hKC KC
  try simp only [Act.put, List.getElem_toArray, List.getElem_cons_zero, List.getElem_cons_succ, List.setIfInBounds_toArray, List.set_cons_succ, List.set_cons_zero]
  refine wpAnyH_take (i := 14) (v := .int .i64 ((M : Int) + (SB : Int) - 1)) rfl (by kernel_rfl) (by kernel_rfl) (by kernel_rfl) (fun _ _ _ h => h) (Or.inl ⟨by rfl, fun W _ => by have hfact := HW2.out; go_simp; first | done | simp [hfact] | omega⟩) hHeld ?_
  simp only [Act.put, List.getElem_toArray, List.getElem_cons_zero, List.getElem_cons_succ, List.setIfInBounds_toArray, List.set_cons_succ, List.set_cons_zero]
  refine wpAnyH_take (i := 16) (v := .int .i64 ((M : Int) + (SB : Int) - 1 + (NB : Int))) rfl (by kernel_rfl) (by kernel_rfl) (by kernel_rfl) (fun _ _ _ h => h) (Or.inl ⟨by rfl, fun W _ => by have hfact := HW3.out; go_simp; first | done | simp [hfact] | omega⟩) hHeld ?_
  simp only [Act.put, List.getElem_toArray, List.getElem_cons_zero, List.getElem_cons_succ, List.setIfInBounds_toArray, List.set_cons_succ, List.set_cons_zero]
  refine wpAnyH_take (i := 17) (v := .int .i64 ((M : Int) + (SB : Int) - 1 + (NB : Int))) rfl (by kernel_rfl) (by kernel_rfl) (by kernel_rfl) (fun _ _ _ h => h) (Or.inl ⟨by rfl, fun W _ => by go_simp⟩) hHeld ?_
  simp only [Act.put, List.getElem_toArray, List.getElem_cons_zero, List.getElem_cons_succ, List.setIfInBounds_toArray, List.set_cons_succ, List.set_cons_zero]
  refine wpAnyH_done (by kernel_rfl) ?_ _
  simp only [noPanic]
  clear hHeld
  go_wp2
  go_ret
  exact ⟨by rw [HM.out, HNL.out, HSB.out]; first | done | rfl, below_then HB3.out hq3⟩

set_option maxRecDepth 100000 in
set_option maxHeartbeats 8000000 in
theorem ksize6_any (f : Fr) (va : Value) (K : Nat) (L0 : List UInt8) (w : World) (hf : f.tool.length = 32) (ha : Strs w va f.args) (hk : f.kind = (K : Int)) (hK : K ≤ 6) (hB : f.body.length ≤ 140737488355327) (hL0 : L0.length ≤ 1000000)
    (hlay : ∀ W vb bs, Src W vb bs → bs.length ≤ 1000 → Strs W va f.args → Calls Try.prog 93 #[vb, .agg (fcells (noBody f) va).toArray] W fun e w' => ∃ v, e = .returned v ∧ Src w' v (bs ++ L0) ∧ Below W.heap.size W w') :
    Calls Try.prog 41 #[.agg k6.toArray, .agg (fcells f va).toArray] w fun e w' => e = .returned (.int .i64 (((sn K ++ L0).length : Int) + ((sn f.body.length).length : Int) - 1 + (f.body.length : Int))) ∧ Below w.heap.size w w' := by
  have HNB := hid (hp_two w (.cells k6.toArray 61) (.cells (fcells f va).toArray 29))
  have HBL := hid (below_walk2 w (.cells k6.toArray 61) (.cells (fcells f va).toArray 29))
  have HZ : Hid ((w.alloc (.cells k6.toArray 61)).heap.size = w.heap.size + 1) := hid (by simp)
  have HF := hid hf
  have HLAY := hid hlay
  have HKK := hid hk
  have hsb := sn_length_le f.body.length
  have hsk := sn_length_le K
  obtain ⟨M, HM⟩ : ∃ M, Hid ((sn K ++ L0).length = M) := ⟨_, rfl⟩
  obtain ⟨SB, HSB⟩ : ∃ M, Hid ((sn f.body.length).length = M) := ⟨_, rfl⟩
  have hM : M ≤ 1000010 := by have := HM.out; rw [List.length_append] at this; omega
  rw [HSB.out] at hsb
  have HSA := hid ha
  have HFN := hid (fcells_noBody f va hf)
  have HSZ := hid (frame_size (noBody f) va hf)
  have hmk := mk_size f.body
  clear hf hlay hk ha
  go_enter Try.func41, Try.ntmps41
  go_upto_region 1 with fail
  try rw [HZ.out]
  generalize (w.alloc (.cells k6.toArray 61)).alloc (.cells (fcells f va).toArray 29) = w2 at HNB HBL ⊢
  have x41 := (Fb.of HNB.out.2 HF.out).bd
  have f41 := row_fz HNB.out.2 41
  go_upto_region 3 with fail
  have HN3 := hid (show (w2.setCell ⟨w.heap.size + 1, 41, none⟩ (.string ⟨#[]⟩)).heap[w.heap.size + 1]? = some (.cells (fcells (noBody f) va).toArray 29 (0, 0)) by rw [← HFN.out]; exact blk_set HNB.out.2 _)
  have HN1 := hid (show (w2.setCell ⟨w.heap.size + 1, 41, none⟩ (.string ⟨#[]⟩)).heap[w.heap.size]? = some (.cells k6.toArray 61 (0, 0)) from (Below.heap_setCell w2 _ _ w.heap.size (by simp)).trans HNB.out.1)
  have HB3 := hid (show Below w.heap.size w (w2.setCell ⟨w.heap.size + 1, 41, none⟩ (.string ⟨#[]⟩)) from HBL.out.setCell (by simp) _)
  have HSB2 := hid (show Strs (w2.setCell ⟨w.heap.size + 1, 41, none⟩ (.string ⟨#[]⟩)) va f.args from (HSA.out.below HB3.out))
  generalize w2.setCell ⟨w.heap.size + 1, 41, none⟩ (.string ⟨#[]⟩) = w3 at HN3 HN1 HB3 HSB2 ⊢
  clear x41 f41 HNB HBL HSA
  have HL1 := hid (hp_lt HN1.out)
  have HL2 := hid (hp_lt HN3.out)
  have HC3 : Hid (w3.cell? ⟨w.heap.size, 3, none⟩ = some (.func (.func 93) #[] #[])) := hid (by rw [cell_of_row w3 w.heap.size 3 _ _ _ HN1.out]; rfl)
  have HC0 : Hid (w3.cell? ⟨w.heap.size + 1, 0, none⟩ = some (.int .i64 (K : Nat))) := hid (by have h9 := (Fb.of HN3.out HF.out).k; rw [show (noBody f).kind = f.kind from rfl, HKK.out] at h9; exact h9)
  have HRW := hid (range_row HN3.out)
  generalize fcells (noBody f) va = F0 at *
  obtain ⟨NB, HNL⟩ : ∃ n, Hid (f.body.length = n) := ⟨_, rfl⟩
  rw [HNL.out] at hB HSB ⊢
  have HWB := hid (show IntKind.u64.wrap (NB : Int) = (NB : Int) by rw [IntKind.wrap_u64]; omega)
  have HW1 := hid (show IntKind.i64.wrap ((M : Int) + (SB : Int)) = (M : Int) + (SB : Int) by rw [IntKind.wrap_i64]; omega)
  have HW2 := hid (show IntKind.i64.wrap ((M : Int) + (SB : Int) - 1) = (M : Int) + (SB : Int) - 1 by rw [IntKind.wrap_i64]; omega)
  have HW3 := hid (show IntKind.i64.wrap ((M : Int) + (SB : Int) - 1 + (NB : Int)) = (M : Int) + (SB : Int) - 1 + (NB : Int) by rw [IntKind.wrap_i64]; omega)
  refine wp_noPanic (wp_region_held_drew (S := fun W => Below w3.heap.size w3 W) (by kernel_rfl) ⟨rfl, rfl, rfl, Nat.le_refl _, fun _ _ => rfl⟩ ?_)
  intro hHeld
  refine wpAnyH_take (i := 0) (v := .pointer (some ⟨w.heap.size, 3, none⟩)) rfl (by kernel_rfl) (by kernel_rfl) (by kernel_rfl) (fun _ _ _ h => h) (Or.inl ⟨by rfl, fun W _ => by go_simp⟩) hHeld ?_
  simp only [Act.put, List.getElem_toArray, List.getElem_cons_zero, List.setIfInBounds_toArray, List.set_cons_succ, List.set_cons_zero]
  refine wpAnyH_take (i := 1) (v := .func (.func 93) #[] #[]) rfl (by kernel_rfl) (by kernel_rfl) (by kernel_rfl) (fun _ _ _ h => h) (Or.inl ⟨by rfl, fun W hW => by have hcell := (hW.cell (p := ⟨w.heap.size, 3, none⟩) HL1.out).trans HC3.out; clear hW; go_simp⟩) hHeld ?_
  simp only [Act.put, List.getElem_toArray, List.getElem_cons_zero, List.getElem_cons_succ, List.setIfInBounds_toArray, List.set_cons_succ, List.set_cons_zero]
  refine wpAnyH_take (i := 2) (v := .pointer (some ⟨w.heap.size + 1, 0, none⟩)) rfl (by kernel_rfl) (by kernel_rfl) (by kernel_rfl) (fun _ _ _ h => h) (Or.inl ⟨by rfl, fun W _ => by go_simp⟩) hHeld ?_
  simp only [Act.put, List.getElem_toArray, List.getElem_cons_zero, List.getElem_cons_succ, List.setIfInBounds_toArray, List.set_cons_succ, List.set_cons_zero]
  refine wpAnyH_take (i := 3) (v := .int .i64 (K : Nat)) rfl (by kernel_rfl) (by kernel_rfl) (by kernel_rfl) (fun _ _ _ h => h) (Or.inl ⟨by rfl, fun W hW => by have hcell := (hW.cell (p := ⟨w.heap.size + 1, 0, none⟩) HL2.out).trans HC0.out; clear hW; go_simp⟩) hHeld ?_
  simp only [Act.put, List.getElem_toArray, List.getElem_cons_zero, List.getElem_cons_succ, List.setIfInBounds_toArray, List.set_cons_succ, List.set_cons_zero]
  refine wpAnyH_take (i := 6) (v := .agg F0.toArray) rfl (by kernel_rfl) (by kernel_rfl) (by kernel_rfl) (fun _ _ _ h => h) (yieldsIf_load_mid (by rfl) 29 (.tmp 3) rfl (w.heap.size + 1) 0 rfl F0 _ (fun W hW => fun j v hv => (hW.cell (p := ⟨w.heap.size + 1, 0 + j, none⟩) HL2.out).trans (HRW.out j v hv)) Try.underlying29 rfl HSZ.out) hHeld ?_
  simp only [Act.put, List.getElem_toArray, List.getElem_cons_zero, List.getElem_cons_succ, List.setIfInBounds_toArray, List.set_cons_succ, List.set_cons_zero]
  refine wpAnyH_take (i := 9) (v := .int .i64 (NB : Nat)) rfl (by kernel_rfl) (by kernel_rfl) (by kernel_rfl) (fun _ _ _ h => h) (Or.inl ⟨by rfl, fun W _ => by go_simp⟩) hHeld ?_
  simp only [Act.put, List.getElem_toArray, List.getElem_cons_zero, List.getElem_cons_succ, List.setIfInBounds_toArray, List.set_cons_succ, List.set_cons_zero]
  refine wpAnyH_take (i := 10) (v := .int .u64 (NB : Nat)) rfl (by kernel_rfl) (by kernel_rfl) (by kernel_rfl) (fun _ _ _ h => h) (Or.inl ⟨by rfl, fun W _ => by have hfact := HWB.out; go_simp; first | done | simp [hfact] | omega⟩) hHeld ?_
  simp only [Act.put, List.getElem_toArray, List.getElem_cons_zero, List.getElem_cons_succ, List.setIfInBounds_toArray, List.set_cons_succ, List.set_cons_zero]
  refine wpAnyH_take (i := 15) (v := .int .i64 (NB : Nat)) rfl (by kernel_rfl) (by kernel_rfl) (by kernel_rfl) (fun _ _ _ h => h) (Or.inl ⟨by rfl, fun W _ => by go_simp⟩) hHeld ?_
  simp only [Act.put, List.getElem_toArray, List.getElem_cons_zero, List.getElem_cons_succ, List.setIfInBounds_toArray, List.set_cons_succ, List.set_cons_zero]
  obtain ⟨wx, HWX⟩ : ∃ x, Hid (w3.drew = x) := ⟨_, rfl⟩
  rw [HWX.out] at hHeld ⊢
  have hH0 := hHeld
  refine wpAnyH_ready (rs := [4]) (by kernel_rfl) (by simp) ?_
  refine AllReadyH.cons rfl (fun KC hKC => ?_) AllReadyH.nil
  go_simp
  have hq1 := below_tr hH0 ((below_walk wx (.cells #[.int .i64 (K : Nat)] 3)).mono hH0.size)
  refine hKC.out _ _ hq1 (fun hHeld => ?_)
  clear hKC KC
  try simp only [Act.put, List.getElem_toArray, List.getElem_cons_zero, List.getElem_cons_succ, List.setIfInBounds_toArray, List.set_cons_succ, List.set_cons_zero]
  refine wpAnyH_ready (rs := [5]) (by kernel_rfl) (by simp) ?_
  refine AllReadyH.cons rfl (fun KC hKC => ?_) AllReadyH.nil
  go_simp
  refine (putCounts_any nS _ [] [K] _ (srcNil _) (nums_one wx K) (by simp; omega) (by simp) (by simp)).mono ?_
  rintro e w4 ⟨v4, rfl, hs4, hb4⟩
  have hs4b : Src w4 v4 (sn K) := by simpa [sns] using hs4
  have HS4 := hid hs4b
  have hq2 := below_tr hq1 (hb4.mono hq1.size)
  obtain ⟨a4, c4, e4⟩ := src_shape hs4b
  subst e4
  clear hs4 hs4b hb4
  go_wp2_with fail
  refine hKC.out _ _ hq2 (fun hHeld => ?_)
  clear hKC KC
  try simp only [Act.put, List.getElem_toArray, List.getElem_cons_zero, List.getElem_cons_succ, List.setIfInBounds_toArray, List.set_cons_succ, List.set_cons_zero]
  refine wpAnyH_ready (rs := [7]) (by kernel_rfl) (by simp) ?_
  refine AllReadyH.cons rfl (fun KC hKC => ?_) AllReadyH.nil
  go_simp
  refine (HLAY.out w4 _ (sn K) HS4.out (by have := sn_length_le K; omega) (HSB2.out.below hq2)).mono ?_
  rintro e w5 ⟨v5, rfl, hs5, hb5⟩
  have hq3 := below_tr hq2 (hb5.mono hq2.size)
  obtain ⟨a5, c5, e5⟩ := src_shape hs5
  rw [show (sn K ++ L0).length = M from HM.out] at e5
  subst e5
  clear hs5 hb5
  go_wp2_with fail
  refine hKC.out _ _ hq3 (fun hHeld => ?_)
  clear hKC KC
  try simp only [Act.put, List.getElem_toArray, List.getElem_cons_zero, List.getElem_cons_succ, List.setIfInBounds_toArray, List.set_cons_succ, List.set_cons_zero]
  refine wpAnyH_take (i := 8) (v := .int .i64 (M : Nat)) rfl (by kernel_rfl) (by kernel_rfl) (by kernel_rfl) (fun _ _ _ h => h) (Or.inl ⟨by rfl, fun W _ => by go_simp⟩) hHeld ?_
  simp only [Act.put, List.getElem_toArray, List.getElem_cons_zero, List.getElem_cons_succ, List.setIfInBounds_toArray, List.set_cons_succ, List.set_cons_zero]
  refine wpAnyH_ready (rs := [11]) (by kernel_rfl) (by simp) ?_
  refine AllReadyH.cons rfl (fun KC hKC => ?_) AllReadyH.nil
  go_simp
  refine (size_any NB w5 (by omega)).mono ?_
  rintro e wz ⟨rfl, ez⟩
  have ey := ez.symm
  subst ey
  rw [HSB.out]
  go_wp2_with fail
  refine hKC.out _ _ hq3 (fun hHeld => ?_)
  clear hKC KC
  try simp only [Act.put, List.getElem_toArray, List.getElem_cons_zero, List.getElem_cons_succ, List.setIfInBounds_toArray, List.set_cons_succ, List.set_cons_zero]
  refine wpAnyH_take (i := 12) (v := .int .i64 ((M : Int) + (SB : Int))) rfl (by kernel_rfl) (by kernel_rfl) (by kernel_rfl) (fun _ _ _ h => h) (Or.inl ⟨by rfl, fun W _ => by have hfact := HW1.out; go_simp; first | done | simp [hfact] | omega⟩) hHeld ?_
  simp only [Act.put, List.getElem_toArray, List.getElem_cons_zero, List.getElem_cons_succ, List.setIfInBounds_toArray, List.set_cons_succ, List.set_cons_zero]
  refine wpAnyH_ready (rs := [13]) (by kernel_rfl) (by simp) ?_
  refine AllReadyH.cons rfl (fun KC hKC => ?_) AllReadyH.nil
  go_simp
  refine (size_zero w5).mono ?_
  rintro e wz ⟨rfl, ez⟩
  have ey := ez.symm
  subst ey
  go_wp2_with fail
  refine hKC.out _ _ hq3 (fun hHeld => ?_)
  clear hKC KC
  try simp only [Act.put, List.getElem_toArray, List.getElem_cons_zero, List.getElem_cons_succ, List.setIfInBounds_toArray, List.set_cons_succ, List.set_cons_zero]
  refine wpAnyH_take (i := 14) (v := .int .i64 ((M : Int) + (SB : Int) - 1)) rfl (by kernel_rfl) (by kernel_rfl) (by kernel_rfl) (fun _ _ _ h => h) (Or.inl ⟨by rfl, fun W _ => by have hfact := HW2.out; go_simp; first | done | simp [hfact] | omega⟩) hHeld ?_
  simp only [Act.put, List.getElem_toArray, List.getElem_cons_zero, List.getElem_cons_succ, List.setIfInBounds_toArray, List.set_cons_succ, List.set_cons_zero]
  refine wpAnyH_take (i := 16) (v := .int .i64 ((M : Int) + (SB : Int) - 1 + (NB : Int))) rfl (by kernel_rfl) (by kernel_rfl) (by kernel_rfl) (fun _ _ _ h => h) (Or.inl ⟨by rfl, fun W _ => by have hfact := HW3.out; go_simp; first | done | simp [hfact] | omega⟩) hHeld ?_
  simp only [Act.put, List.getElem_toArray, List.getElem_cons_zero, List.getElem_cons_succ, List.setIfInBounds_toArray, List.set_cons_succ, List.set_cons_zero]
  refine wpAnyH_take (i := 17) (v := .int .i64 ((M : Int) + (SB : Int) - 1 + (NB : Int))) rfl (by kernel_rfl) (by kernel_rfl) (by kernel_rfl) (fun _ _ _ h => h) (Or.inl ⟨by rfl, fun W _ => by go_simp⟩) hHeld ?_
  simp only [Act.put, List.getElem_toArray, List.getElem_cons_zero, List.getElem_cons_succ, List.setIfInBounds_toArray, List.set_cons_succ, List.set_cons_zero]
  refine wpAnyH_done (by kernel_rfl) ?_ _
  simp only [noPanic]
  clear hHeld
  go_wp2
  go_ret
  exact ⟨by rw [HM.out, HNL.out, HSB.out]; first | done | rfl, below_then HB3.out hq3⟩


end Go.Proofs.Ytjinkahlfigdcaa

/- How many bytes a Bye's body has, told by the program. -/
namespace Go.Proofs.Ytjinkahlfigdcaa
open Go.RowKit Go.BigFrame

set_option maxRecDepth 100000 in
set_option maxHeartbeats 4000000 in
theorem sizeBye_any (w : World) :
    Calls Try.prog 41 #[.agg k5.toArray, .agg (fcells byeF nS).toArray] w fun e w' => e = .returned (.int .i64 1) ∧ Below w.heap.size w w' := by
  have HNB := hid (hp_two w (.cells k5.toArray 61) (.cells (fcells byeF nS).toArray 29))
  have HBL := hid (below_walk2 w (.cells k5.toArray 61) (.cells (fcells byeF nS).toArray 29))
  have HZ : Hid ((w.alloc (.cells k5.toArray 61)).heap.size = w.heap.size + 1) := hid (by simp)
  go_enter Try.func41, Try.ntmps41
  go_upto_region 1 with fail
  try rw [HZ.out]
  generalize (w.alloc (.cells k5.toArray 61)).alloc (.cells (fcells byeF nS).toArray 29) = w2 at HNB HBL ⊢
  have x41 := (Fb.of HNB.out.2 rfl).bd
  have f41 := row_fz HNB.out.2 41
  rw [show mk byeF.body = ⟨#[]⟩ from rfl] at x41
  go_upto_region 3 with fail
  have HN3 := hid (show (w2.setCell ⟨w.heap.size + 1, 41, none⟩ (.string ⟨#[]⟩)).heap[w.heap.size + 1]? = some (.cells (fcells byeF nS).toArray 29 (0, 0)) from blk_set HNB.out.2 _)
  have HN1 := hid (show (w2.setCell ⟨w.heap.size + 1, 41, none⟩ (.string ⟨#[]⟩)).heap[w.heap.size]? = some (.cells k5.toArray 61 (0, 0)) from (Below.heap_setCell w2 _ _ w.heap.size (by simp)).trans HNB.out.1)
  have HB3 := hid (show Below w.heap.size w (w2.setCell ⟨w.heap.size + 1, 41, none⟩ (.string ⟨#[]⟩)) from HBL.out.setCell (by simp) _)
  generalize w2.setCell ⟨w.heap.size + 1, 41, none⟩ (.string ⟨#[]⟩) = w3 at HN3 HN1 HB3 ⊢
  clear x41 f41 HNB HBL
  have HL1 := hid (hp_lt HN1.out)
  have HL2 := hid (hp_lt HN3.out)
  have HC3 : Hid (w3.cell? ⟨w.heap.size, 3, none⟩ = some (.func (.func 90) #[] #[])) := hid (by rw [cell_of_row w3 w.heap.size 3 _ _ _ HN1.out]; rfl)
  have HC0 : Hid (w3.cell? ⟨w.heap.size + 1, 0, none⟩ = some (.int .i64 5)) := hid (Fb.of HN3.out rfl).k
  have HRW := hid (range_row HN3.out)
  refine wp_noPanic (wp_region_held_drew (S := fun W => Below w3.heap.size w3 W) (by kernel_rfl) ⟨rfl, rfl, rfl, Nat.le_refl _, fun _ _ => rfl⟩ ?_)
  intro hHeld
  refine wpAnyH_take (i := 0) (v := .pointer (some ⟨w.heap.size, 3, none⟩)) rfl (by kernel_rfl) (by kernel_rfl) (by kernel_rfl) (fun _ _ _ h => h) (Or.inl ⟨by rfl, fun W _ => by go_simp⟩) hHeld ?_
  simp only [Act.put, List.getElem_toArray, List.getElem_cons_zero, List.setIfInBounds_toArray, List.set_cons_succ, List.set_cons_zero]
  refine wpAnyH_take (i := 1) (v := .func (.func 90) #[] #[]) rfl (by kernel_rfl) (by kernel_rfl) (by kernel_rfl) (fun _ _ _ h => h) (Or.inl ⟨by rfl, fun W hW => by have hcell := (hW.cell (p := ⟨w.heap.size, 3, none⟩) HL1.out).trans HC3.out; clear hW; go_simp⟩) hHeld ?_
  simp only [Act.put, List.getElem_toArray, List.getElem_cons_zero, List.getElem_cons_succ, List.setIfInBounds_toArray, List.set_cons_succ, List.set_cons_zero]
  refine wpAnyH_take (i := 2) (v := .pointer (some ⟨w.heap.size + 1, 0, none⟩)) rfl (by kernel_rfl) (by kernel_rfl) (by kernel_rfl) (fun _ _ _ h => h) (Or.inl ⟨by rfl, fun W _ => by go_simp⟩) hHeld ?_
  simp only [Act.put, List.getElem_toArray, List.getElem_cons_zero, List.getElem_cons_succ, List.setIfInBounds_toArray, List.set_cons_succ, List.set_cons_zero]
  refine wpAnyH_take (i := 3) (v := .int .i64 5) rfl (by kernel_rfl) (by kernel_rfl) (by kernel_rfl) (fun _ _ _ h => h) (Or.inl ⟨by rfl, fun W hW => by have hcell := (hW.cell (p := ⟨w.heap.size + 1, 0, none⟩) HL2.out).trans HC0.out; clear hW; go_simp⟩) hHeld ?_
  simp only [Act.put, List.getElem_toArray, List.getElem_cons_zero, List.getElem_cons_succ, List.setIfInBounds_toArray, List.set_cons_succ, List.set_cons_zero]
  refine wpAnyH_take (i := 6) (v := .agg (fcells byeF nS).toArray) rfl (by kernel_rfl) (by kernel_rfl) (by kernel_rfl) (fun _ _ _ h => h) (yieldsIf_load_mid (by rfl) 29 (.tmp 3) rfl (w.heap.size + 1) 0 rfl (fcells byeF nS) _ (fun W hW => fun j v hv => (hW.cell (p := ⟨w.heap.size + 1, 0 + j, none⟩) HL2.out).trans (HRW.out j v hv)) Try.underlying29 rfl (frame_size byeF nS rfl)) hHeld ?_
  simp only [Act.put, List.getElem_toArray, List.getElem_cons_zero, List.getElem_cons_succ, List.setIfInBounds_toArray, List.set_cons_succ, List.set_cons_zero]
  refine wpAnyH_take (i := 9) (v := .int .i64 0) rfl (by kernel_rfl) (by kernel_rfl) (by kernel_rfl) (fun _ _ _ h => h) (Or.inl ⟨by rfl, fun W _ => by go_simp⟩) hHeld ?_
  simp only [Act.put, List.getElem_toArray, List.getElem_cons_zero, List.getElem_cons_succ, List.setIfInBounds_toArray, List.set_cons_succ, List.set_cons_zero]
  refine wpAnyH_take (i := 10) (v := .int .u64 0) rfl (by kernel_rfl) (by kernel_rfl) (by kernel_rfl) (fun _ _ _ h => h) (Or.inl ⟨by rfl, fun W _ => by have hfact : IntKind.u64.wrap 0 = 0 := rfl; go_simp; first | done | simp [hfact]⟩) hHeld ?_
  simp only [Act.put, List.getElem_toArray, List.getElem_cons_zero, List.getElem_cons_succ, List.setIfInBounds_toArray, List.set_cons_succ, List.set_cons_zero]
  refine wpAnyH_take (i := 15) (v := .int .i64 0) rfl (by kernel_rfl) (by kernel_rfl) (by kernel_rfl) (fun _ _ _ h => h) (Or.inl ⟨by rfl, fun W _ => by go_simp⟩) hHeld ?_
  simp only [Act.put, List.getElem_toArray, List.getElem_cons_zero, List.getElem_cons_succ, List.setIfInBounds_toArray, List.set_cons_succ, List.set_cons_zero]
  obtain ⟨w3x, HW3⟩ : ∃ x, Hid (w3.drew = x) := ⟨_, rfl⟩
  rw [HW3.out] at hHeld ⊢
  have hHeld0 := hHeld
  refine wpAnyH_ready (rs := [4]) (by kernel_rfl) (by simp) ?_
  refine (AllReadyH.cons rfl (fun K hK => ?_) AllReadyH.nil)
  go_simp
  have hq1 := (below_tr hHeld0 ((below_walk w3x (.cells #[.int .i64 5] 3)).mono hHeld0.size))
  refine hK.out _ _ hq1 (fun hHeld => ?_)
  clear hK K
  try simp only [Act.put, List.getElem_toArray, List.getElem_cons_zero, List.getElem_cons_succ, List.setIfInBounds_toArray, List.set_cons_succ, List.set_cons_zero]
  refine wpAnyH_ready (rs := [5]) (by kernel_rfl) (by simp) ?_
  refine (AllReadyH.cons rfl (fun K hK => ?_) AllReadyH.nil)
  go_simp
  refine (put_five w3x).mono ?_
  rintro e wp2 ⟨ap2, cp2, rfl, hs2, hb2⟩
  have hq2 := below_tr hHeld0 (hb2.mono hHeld0.size)
  go_wp2_with fail
  refine hK.out _ _ hq2 (fun hHeld => ?_)
  clear hK K hs2
  try simp only [Act.put, List.getElem_toArray, List.getElem_cons_zero, List.getElem_cons_succ, List.setIfInBounds_toArray, List.set_cons_succ, List.set_cons_zero]
  refine wpAnyH_ready (rs := [7]) (by kernel_rfl) (by simp) ?_
  refine (AllReadyH.cons rfl (fun K hK => ?_) AllReadyH.nil)
  go_simp
  refine (layBye_any _ _ _ _ wp2).mono ?_
  rintro e wl3 ⟨rfl, hb3⟩
  have hq3 := below_tr hq2 (hb3.mono hq2.size)
  go_wp2_with fail
  refine hK.out _ _ hq3 (fun hHeld => ?_)
  clear hK K
  try simp only [Act.put, List.getElem_toArray, List.getElem_cons_zero, List.getElem_cons_succ, List.setIfInBounds_toArray, List.set_cons_succ, List.set_cons_zero]
  refine wpAnyH_take (i := 8) (v := .int .i64 1) rfl (by kernel_rfl) (by kernel_rfl) (by kernel_rfl) (fun _ _ _ h => h) (Or.inl ⟨by rfl, fun W _ => by go_simp⟩) hHeld ?_
  simp only [Act.put, List.getElem_toArray, List.getElem_cons_zero, List.getElem_cons_succ, List.setIfInBounds_toArray, List.set_cons_succ, List.set_cons_zero]
  refine wpAnyH_ready (rs := [11]) (by kernel_rfl) (by simp) ?_
  refine (AllReadyH.cons rfl (fun K hK => ?_) AllReadyH.nil)
  go_simp
  refine (size_zero _).mono ?_
  rintro e wz4 ⟨rfl, ez4⟩
  have ey4 := ez4.symm
  subst ey4
  go_wp2_with fail
  refine hK.out _ _ hHeld (fun hHeld => ?_)
  clear hK K
  try simp only [Act.put, List.getElem_toArray, List.getElem_cons_zero, List.getElem_cons_succ, List.setIfInBounds_toArray, List.set_cons_succ, List.set_cons_zero]
  refine wpAnyH_take (i := 12) (v := .int .i64 2) rfl (by kernel_rfl) (by kernel_rfl) (by kernel_rfl) (fun _ _ _ h => h) (Or.inl ⟨by rfl, fun W _ => by have hfact : IntKind.i64.wrap 2 = 2 := rfl; go_simp; first | done | simp [hfact]⟩) hHeld ?_
  simp only [Act.put, List.getElem_toArray, List.getElem_cons_zero, List.getElem_cons_succ, List.setIfInBounds_toArray, List.set_cons_succ, List.set_cons_zero]
  refine wpAnyH_ready (rs := [13]) (by kernel_rfl) (by simp) ?_
  refine (AllReadyH.cons rfl (fun K hK => ?_) AllReadyH.nil)
  go_simp
  refine (size_zero _).mono ?_
  rintro e wz5 ⟨rfl, ez5⟩
  have ey5 := ez5.symm
  subst ey5
  go_wp2_with fail
  refine hK.out _ _ hHeld (fun hHeld => ?_)
  clear hK K
  try simp only [Act.put, List.getElem_toArray, List.getElem_cons_zero, List.getElem_cons_succ, List.setIfInBounds_toArray, List.set_cons_succ, List.set_cons_zero]
  refine wpAnyH_take (i := 14) (v := .int .i64 1) rfl (by kernel_rfl) (by kernel_rfl) (by kernel_rfl) (fun _ _ _ h => h) (Or.inl ⟨by rfl, fun W _ => by have hfact : IntKind.i64.wrap 1 = 1 := rfl; go_simp; first | done | simp [hfact]⟩) hHeld ?_
  simp only [Act.put, List.getElem_toArray, List.getElem_cons_zero, List.getElem_cons_succ, List.setIfInBounds_toArray, List.set_cons_succ, List.set_cons_zero]
  refine wpAnyH_take (i := 16) (v := .int .i64 1) rfl (by kernel_rfl) (by kernel_rfl) (by kernel_rfl) (fun _ _ _ h => h) (Or.inl ⟨by rfl, fun W _ => by have hfact : IntKind.i64.wrap 1 = 1 := rfl; go_simp; first | done | simp [hfact]⟩) hHeld ?_
  simp only [Act.put, List.getElem_toArray, List.getElem_cons_zero, List.getElem_cons_succ, List.setIfInBounds_toArray, List.set_cons_succ, List.set_cons_zero]
  refine wpAnyH_take (i := 17) (v := .int .i64 1) rfl (by kernel_rfl) (by kernel_rfl) (by kernel_rfl) (fun _ _ _ h => h) (Or.inl ⟨by rfl, fun W _ => by go_simp⟩) hHeld ?_
  simp only [Act.put, List.getElem_toArray, List.getElem_cons_zero, List.getElem_cons_succ, List.setIfInBounds_toArray, List.set_cons_succ, List.set_cons_zero]
  refine wpAnyH_done (by kernel_rfl) ?_ _
  simp only [noPanic]
  clear hHeld
  go_wp2
  go_ret
  exact ⟨rfl, below_then HB3.out hq3⟩

end Go.Proofs.Ytjinkahlfigdcaa

/- A Bye, written by the program: its plan, its bytes. -/
namespace Go.Proofs.Ytjinkahlfigdcaa
open Go.RowKit Go.BigFrame

theorem results_cell3 {fn : Func} {p q s : Tmp} {ty : TypeId} (h : fn.results = #[.cell p ty, .tmp q, .tmp s]) (tmps : Array Value) (P : Program) (w : World) :
    (results fn tmps).run P w = ((asAddr (tmps.getD p undef)).run P w).andThen fun a w₁ => ((loadVar ty a).run P w₁).andThen fun v w₂ => .ok (.tuple #[v, tmps.getD q undef, tmps.getD s undef]) w₂ := by
  simp only [results, h]
  simp [Sem.run_bind, Result.andThen]
/-- the answer is a whole row that lies in a variable, and two values -/
theorem ret_row3 {P : Program} {fn : Func} {R : Ending → World → Prop} {a : Act} {w : World} (p q s : Tmp) (ty : TypeId) (h : fn.results = #[.cell p ty, .tmp q, .tmp s]) (g : Nat) (hp : a.tmps.getD p undef = .pointer (some ⟨g, 0, none⟩))
    (cs : List Value) (t : TypeId) (hb : w.heap[g]? = some (.cells cs.toArray t (0, 0))) (d : TypeDesc) (hu : P.underlying ty = some d) (hd : d.isRow = true) (hi : (P.info? ty).map (·.size) = some cs.length)
    (v u : Value) (hq : a.tmps.getD q undef = v) (hs : a.tmps.getD s undef = u) (hdf : a.defers = []) (hR : R (.returned (.tuple #[.agg cs.toArray, v, u])) w) : bodyPost P fn R .ret a w := by
  refine bodyPost_ret (v := .tuple #[.agg cs.toArray, v, u]) ?_ hdf hR
  rw [results_cell3 h, hp, hq, hs]
  have := run_loadVar_mid (P := P) w g 0 ty cs d (fun j v hv => by rw [Nat.zero_add, cell_of_row w g j cs.toArray t (0, 0) hb]; simpa using hv) hu hd hi
  simp [asAddr, this]

theorem kindOf_five (w : World) : Calls Try.prog 40 #[.int .i64 5] w fun e w' => e = .returned (.tuple #[.agg k5.toArray, .bool true]) ∧ Below w.heap.size w w' := kindOf_any 5 w
theorem same_bye (w : World) : Calls Try.prog 20 #[.agg (fcells byeF nS).toArray, .agg (fcells byeF nS).toArray] w fun e w' => e = .returned (.bool true) ∧ Below w.heap.size w w' := by
  have := same_any byeF byeF nS nS w rfl rfl (strs_nil w) (strs_nil w) (by simp [byeF])
  rwa [sameP_self] at this

set_option maxRecDepth 100000 in
set_option maxHeartbeats 4000000 in
theorem planBye_any (w : World) :
    Calls Try.prog 22 #[.agg (fcells byeF nS).toArray] w fun e w' => e = .returned (.tuple #[.agg k5.toArray, .int .i64 1, .int .i64 0]) ∧ Below w.heap.size w w' := by
  have HNB := hid (hp_two w (.cells (fcells byeF nS).toArray 29) (.cells zRow.toArray 61))
  have HBL := hid (below_walk2 w (.cells (fcells byeF nS).toArray 29) (.cells zRow.toArray 61))
  have HZ : Hid ((w.alloc (.cells (fcells byeF nS).toArray 29)).heap.size = w.heap.size + 1) := hid (by simp)
  have HOWN := hid (fun W => ownBye_any byeF nS W rfl rfl)
  have HSZ := hid (frame_size byeF nS rfl)
  go_enter Try.func22, Try.ntmps22
  go_upto_region 1 with (refine al_row (by rfl) 61 (by rfl) _ zeroKind ?_)
  try rw [HZ.out]
  generalize (w.alloc (.cells (fcells byeF nS).toArray 29)).alloc (.cells zRow.toArray 61) = w2 at HNB HBL ⊢
  have x0 : w2.cell? ⟨w.heap.size, 0, none⟩ = some (.int .i64 5) := (Fb.of HNB.out.1 rfl).k
  have HL2 := hid (hp_lt HNB.out.2)
  go_wp2_with fail
  refine (kindOf_five w2).mono ?_
  rintro e w3 ⟨rfl, hb3⟩
  have HN1 := hid ((hb3.block _ (by have := HL2.out; omega)).trans HNB.out.1)
  have HN2 := hid ((hb3.block _ HL2.out).trans HNB.out.2)
  have HB3 := hid (below_then HBL.out hb3)
  have HL3 := hid (hp_lt HN2.out)
  clear hb3 x0 HNB HBL HL2
  go_upto_region 2 with (first
    | (refine al_row (by rfl) 61 (by rfl) _ zeroKind ?_)
    | (refine st_new (by rfl) 61 _ _ (by rfl) k5 (by rfl) (by rfl) 61 _ kindSize rfl (kOne _ _ _ _ _) ?_))
  have HN4 := hid ((below_walk w3 (.cells k5.toArray 61)).block _ (by have := HL3.out; omega) |>.trans HN1.out)
  have HN5 := hid ((below_walk w3 (.cells k5.toArray 61)).block _ HL3.out |>.trans HN2.out)
  have HN6 := hid (hp_new w3 (.cells k5.toArray 61))
  have HB4 := hid (below_then HB3.out (below_walk w3 (.cells k5.toArray 61)))
  obtain ⟨B5, HB5⟩ : ∃ b : Nat, Hid (w3.heap.size = b) := ⟨_, rfl⟩
  rw [HB5.out] at HN6 ⊢
  generalize w3.alloc (.cells k5.toArray 61) = w4 at HN4 HN5 HN6 HB4 ⊢
  clear HN1 HN2 HB3 HL3
  have HL6 := hid (hp_lt HN6.out)
  have HL4 := hid (hp_lt HN4.out)
  have y1 : w4.cell? ⟨B5, 1, none⟩ = some (.func (.func 89) #[] #[]) := by rw [cell_of_row w4 B5 1 _ _ _ HN6.out]; rfl
  have y2 : w4.cell? ⟨B5, 2, none⟩ = some (.func (.func 86) #[] #[]) := by rw [cell_of_row w4 B5 2 _ _ _ HN6.out]; rfl
  have z1 := fun p : Bel w4 => p.cell y1 HL6.out
  have z2 := fun p : Bel w4 => p.cell y2 HL6.out
  have ib : Nonempty (Bel w4) := bel_some w4
  have HRA := hid (Bel.range (range_row HN4.out) HL4.out)
  clear y1 y2
  refine wp_region_quiet_bel (by kernel_rfl) (by kernel_rfl) ?_
  go_big_quiet_step (fail)
  go_big_quiet_step (fail)
  go_big_quiet_step (fail)
  refine wpQuiet_want (by rfl) fun K hK => quiet_ld 29 (.tmp 1) (by rfl) w.heap.size 0 (by rfl) _ _ HRA.out Try.underlying29 rfl HSZ.out (hK _ ?_)
  simp only [Act.put, List.setIfInBounds_toArray, List.set_cons_succ, List.set_cons_zero]
  go_big_quiet_step (fail)
  go_big_quiet_step (fail)
  refine wpQuiet_want (by rfl) fun K hK => quiet_ld 29 (.tmp 1) (by rfl) w.heap.size 0 (by rfl) _ _ HRA.out Try.underlying29 rfl HSZ.out (hK _ ?_)
  simp only [Act.put, List.setIfInBounds_toArray, List.set_cons_succ, List.set_cons_zero]
  go_big_quiet_step (first | (go_at_call 89; exact bel_of (HOWN.out _)))
  go_big_quiet_step (first | (go_at_call 20; exact bel_of (same_bye _)))
  go_big_quiet_step (fail)
  go_big_quiet_step (fail)
  go_big_quiet_step (fail)
  go_big_quiet_step (fail)
  go_big_quiet_step (fail)
  refine wpQuiet_want (by rfl) fun K hK => quiet_ld 29 (.tmp 1) (by rfl) w.heap.size 0 (by rfl) _ _ HRA.out Try.underlying29 rfl HSZ.out (hK _ ?_)
  simp only [Act.put, List.setIfInBounds_toArray, List.set_cons_succ, List.set_cons_zero]
  go_big_quiet_step (first | (go_at_call 86; exact bel_of (mayAlways_any _ _)))
  go_big_quiet_step (fail)
  go_big_quiet_step (fail)
  refine wpQuiet_nil ?_
  rintro w5 ⟨⟨w5', hb5⟩, hw5⟩
  obtain rfl : w5 = w5' := hw5
  have HN7 := hid ((hb5.block _ HL4.out).trans HN4.out)
  have HN8 := hid ((hb5.block _ (hp_lt HN5.out)).trans HN5.out)
  have HN9 := hid ((hb5.block _ HL6.out).trans HN6.out)
  have HB5' := hid (below_then HB4.out hb5)
  clear hb5 z1 z2 ib HRA HN4 HN5 HN6 HB4 HL4 HL6
  go_wp2_with (first
    | (refine ld_row (by rfl) 61 (.tmp 5) (by rfl) B5 (by rfl) k5 61 HN9.out _ Try.underlying61 rfl kindSize ?_)
    | (refine ld_row (by rfl) 29 (.tmp 1) (by rfl) w.heap.size (by rfl) (fcells byeF nS) 29 HN7.out _ Try.underlying29 rfl HSZ.out ?_))
  refine (sizeBye_any w5).mono ?_
  rintro e w6 ⟨rfl, hb6⟩
  have HNA := hid ((hb6.block _ (hp_lt HN8.out)).trans HN8.out)
  have HNB := hid ((hb6.block _ (hp_lt HN9.out)).trans HN9.out)
  have HB6 := hid (below_then HB5'.out hb6)
  clear hb6 HN7 HN8 HN9 HB5'
  go_wp2_with (first
    | (refine ld_row (by rfl) 61 (.tmp 5) (by rfl) B5 (by rfl) k5 61 HNB.out _ Try.underlying61 rfl kindSize ?_)
    | (refine st_row (by rfl) 61 _ _ (by rfl) (w.heap.size + 1) k5 (by rfl) (by rfl) 61 _ HNA.out kindSize rfl (kOne _ _ _ _ _) ?_; intro w7 hw7))
  refine ret_row3 2 3 4 61 rfl (w.heap.size + 1) rfl k5 61 hw7.blk _ Try.underlying61 rfl kindSize _ _ rfl rfl rfl ⟨rfl, Below.of_gb HB6.out hw7.grown (by omega)⟩

set_option maxRecDepth 100000 in
set_option maxHeartbeats 4000000 in
theorem encodeBye_any (w : World) :
    Calls Try.prog 9 #[.agg (fcells byeF nS).toArray] w fun e w' => ∃ v, e = .returned (.tuple #[v, .int .i64 0]) ∧ OwnB w' w.heap.size v (sealP [1, 5]) ∧ Below w.heap.size w w' := by
  have HNB := hid (hp_new w (.cells (fcells byeF nS).toArray 29))
  have HBL := hid (below_walk w (.cells (fcells byeF nS).toArray 29))
  have HSZ := hid (frame_size byeF nS rfl)
  go_enter Try.func9, Try.ntmps9
  go_upto_region 1 with fail
  generalize w.alloc (.cells (fcells byeF nS).toArray 29) = w1 at HNB HBL ⊢
  go_wp2_with (refine ld_row (by rfl) 29 (.tmp 1) (by rfl) w.heap.size (by rfl) (fcells byeF nS) 29 HNB.out _ Try.underlying29 rfl HSZ.out ?_)
  refine (planBye_any w1).mono ?_
  rintro e w2 ⟨rfl, hb2⟩
  have HN2 := hid ((hb2.block _ (hp_lt HNB.out)).trans HNB.out)
  have HB2 := hid (below_then HBL.out hb2)
  clear hb2 HNB HBL
  go_upto_region 4 with (first
    | (refine al_row (by rfl) 61 (by rfl) _ zeroKind ?_)
    | (refine st_new (by rfl) 61 _ _ (by rfl) k5 (by rfl) (by rfl) 61 _ kindSize rfl (kOne _ _ _ _ _) ?_))
  have HN3 := hid ((below_walk w2 (.cells k5.toArray 61)).block _ (hp_lt HN2.out) |>.trans HN2.out)
  have HN4 := hid (hp_new w2 (.cells k5.toArray 61))
  have HB3 := hid (below_then HB2.out (below_walk w2 (.cells k5.toArray 61)))
  obtain ⟨B4, HB4⟩ : ∃ b : Nat, Hid (w2.heap.size = b) := ⟨_, rfl⟩
  rw [HB4.out] at HN4 ⊢
  generalize w2.alloc (.cells k5.toArray 61) = w3 at HN3 HN4 HB3 ⊢
  have x0 : w3.cell? ⟨w.heap.size, 0, none⟩ = some (.int .i64 5) := (Fb.of HN3.out rfl).k
  clear HN2 HB2
  go_wp2_with fail
  refine (put_bye w3).mono ?_
  rintro e w4 ⟨ao, c, rfl, hs4, hb4⟩
  have HS4 := hid hs4
  have HN5 := hid ((hb4.block _ (hp_lt HN3.out)).trans HN3.out)
  have HN6 := hid ((hb4.block _ (hp_lt HN4.out)).trans HN4.out)
  have HB5 := hid (below_then HB3.out hb4)
  have y3 : w4.cell? ⟨B4, 3, none⟩ = some (.func (.func 90) #[] #[]) := by rw [cell_of_row w4 B4 3 _ _ _ HN6.out]; rfl
  clear x0 hs4 hb4 HN3 HN4 HB3
  go_wp2_with (refine ld_row (by rfl) 29 (.tmp 1) (by rfl) w.heap.size (by rfl) (fcells byeF nS) 29 HN5.out _ Try.underlying29 rfl HSZ.out ?_)
  refine (layBye_any _ _ _ _ w4).mono ?_
  rintro e w5 ⟨rfl, hb5⟩
  have HS5 := hid (HS4.out.below hb5)
  have HB6 := hid (below_then HB5.out hb5)
  clear hb5 y3 HN5 HN6 HB5 HS4
  go_wp2_with fail
  refine (seal_any w5 _ [1, 5] HS5.out (by simp)).mono ?_
  rintro e w6 ⟨v6, rfl, ho6, hb6⟩
  have HO6 := hid (ho6.le HB6.out.size)
  have HB7 := hid (below_then HB6.out hb6)
  obtain ⟨a6, c6, e6⟩ := src_shape (ho6.src (by rw [sealP_length]; simp))
  subst e6
  clear ho6 hb6
  go_wp2
  go_ret2
  exact ⟨_, rfl, HO6.out, HB7.out⟩

end Go.Proofs.Ytjinkahlfigdcaa

/- Whether what a request's fields hold may be. -/
namespace Go.Proofs.Ytjinkahlfigdcaa
open Go.RowKit Go.BigFrame

set_option maxHeartbeats 1000000 in
theorem tooLong_any (s : List UInt8) (w : World) :
    Calls Try.prog 98 #[.string (mk s)] w fun e w' => e = .returned (.bool (decide (4096 < s.length))) ∧ w' = w := by
  have hsz : (mk s).size = s.length := mk_size s
  by_cases h : 4096 < s.length
  · have q : (4096 : Int) < (s.length : Int) := by omega
    have q2 : decide ((4096 : Int) < (s.length : Int)) = true := by simpa using q
    rw [decide_eq_true h]
    clear h
    go_enter Try.func98, Try.ntmps98
    go_wp2
    go_ret
    exact ⟨rfl, rfl⟩
  · have q : ¬ (4096 : Int) < (s.length : Int) := by omega
    have q2 : decide ((4096 : Int) < (s.length : Int)) = false := by simpa using q
    rw [decide_eq_false h]
    clear h
    go_enter Try.func98, Try.ntmps98
    go_wp2
    go_ret
    exact ⟨rfl, rfl⟩

theorem long_no {A : List (List UInt8)} {k : Nat} (hk : k < A.length) (h : longA (A.take k) = false) (h2 : ¬ 4096 < (A.getD k []).length) : longA (A.take (k + 1)) = false := by
  rw [List.take_succ_eq_append_getElem hk]
  unfold longA at h ⊢
  rw [List.any_append, h]
  rw [List.getD_eq_getElem?_getD, List.getElem?_eq_getElem hk] at h2
  simp only [Option.getD_some] at h2
  simp only [Bool.false_or, List.any_cons, List.any_nil, Bool.or_false]
  exact decide_eq_false h2
theorem long_yes {A : List (List UInt8)} {k : Nat} (hk : k < A.length) (h2 : 4096 < (A.getD k []).length) : longA A = true := by
  unfold longA
  rw [List.any_eq_true]
  rw [List.getD_eq_getElem?_getD, List.getElem?_eq_getElem hk] at h2
  exact ⟨A[k], List.getElem_mem hk, decide_eq_true h2⟩

set_option maxRecDepth 100000 in
set_option maxHeartbeats 1000000 in
theorem indexFunc_any (va : Value) (A : List (List UInt8)) (w : World) (ha : Strs w va A) (hn : A.length ≤ 9223372036854775807) :
    Calls Try.prog 105 #[va, .func (.func 98) #[] #[]] w fun e w' => ∃ i : Int, e = .returned (.int .i64 i) ∧ decide (0 ≤ i) = longA A ∧ w' = w := by
  obtain ⟨aa, ca, rfl⟩ := ha.shape
  have HA := hid ha
  clear ha
  go_enter Try.func105, Try.ntmps105
  go_wp2
  go_loopw [8] (fun i wr => ∃ k : Nat, k ≤ A.length ∧ i = .int .i64 k ∧ wr = w ∧ Hid (longA (A.take k) = false)) (fun i _ => A.length - (intOf i).toNat)
  case atStart => exact ⟨0, by omega, rfl, rfl, hid (by simp [longA])⟩
  case round =>
    obtain ⟨k, hk, rfl, rfl, HL⟩ := hrel
    by_cases hlt : k < A.length
    · obtain ⟨g1, o1, rfl, c1⟩ := HA.out.at k hlt
      have HT := hid (tooLong_any (A.getD k []) wr)
      have hki : (k : Int) < (A.length : Int) := by omega
      have hd : decide ((k : Int) < (A.length : Int)) = true := by simpa using hki
      have hkw : IntKind.i64.wrap ((k : Int) + 1) = (k : Int) + 1 := by rw [IntKind.wrap_i64]; omega
      by_cases hlg : 4096 < (A.getD k []).length
      · have HY := hid (long_yes hlt hlg)
        rw [decide_eq_true hlg] at HT
        clear hlg
        generalize mk (A.getD k []) = s at *
        go_wp2_with fail
        refine HT.out.mono ?_
        rintro e w2 ⟨rfl, hw2⟩
        subst hw2
        go_wp2
        go_ret
        exact ⟨_, rfl, by rw [HY.out]; exact decide_eq_true (by omega), rfl⟩
      · have HN := hid (long_no hlt HL.out hlg)
        rw [decide_eq_false hlg] at HT
        clear hlg
        generalize mk (A.getD k []) = s at *
        go_wp2_with fail
        refine HT.out.mono ?_
        rintro e w2 ⟨rfl, hw2⟩
        subst hw2
        go_wp2
        exact ⟨⟨k + 1, by omega, by simp, by first | rfl | trivial, HN⟩, by simp [intOf]; omega⟩
    · obtain rfl : k = A.length := by omega
      rw [List.take_length] at HL
      go_wp2
      go_ret
      exact ⟨_, rfl, by rw [HL.out]; rfl, rfl⟩

set_option maxRecDepth 100000 in
set_option maxHeartbeats 1000000 in
theorem containsFunc_any (va : Value) (A : List (List UInt8)) (w : World) (ha : Strs w va A) (hn : A.length ≤ 9223372036854775807) :
    Calls Try.prog 99 #[va, .func (.func 98) #[] #[]] w fun e w' => e = .returned (.bool (longA A)) ∧ w' = w := by
  have HI := hid (indexFunc_any va A w ha hn)
  obtain ⟨aa, ca, rfl⟩ := ha.shape
  clear ha
  go_enter Try.func99, Try.ntmps99
  go_wp2_with fail
  refine HI.out.mono ?_
  rintro e w2 ⟨i, rfl, hi, hw2⟩
  subst hw2
  have HQ := hid hi
  clear hi HI
  go_wp2
  go_ret
  exact ⟨ret_eq HQ.out, rfl⟩

end Go.Proofs.Ytjinkahlfigdcaa

/- A request's fields: all conditions together. -/
namespace Go.Proofs.Ytjinkahlfigdcaa
open Go.RowKit Go.BigFrame

set_option maxRecDepth 100000 in
set_option maxHeartbeats 2000000 in
theorem mayRequest_any (f : Fr) (va : Value) (w : World) (hf : f.tool.length = 32) (ha : Strs w va f.args) (hn : f.args.length ≤ 9223372036854775807) :
    Calls Try.prog 78 #[.agg (fcells f va).toArray] w fun e w' => e = .returned (.bool (mayReqP f)) ∧ Below w.heap.size w w' := by
  have HNB := hid (hp_new w (.cells (fcells f va).toArray 29))
  have HBL := hid (below_walk w (.cells (fcells f va).toArray 29))
  have HS := hid (ha.below HBL.out)
  have HF := hid hf
  have HN := hid hn
  unfold mayReqP
  obtain ⟨ao, c, rfl⟩ := ha.shape
  clear hf ha hn
  go_enter Try.func78, Try.ntmps78
  go_upto_region 1 with fail
  generalize w.alloc (.cells (fcells f (.slice ao f.args.length c)).toArray 29) = w1 at HNB HBL HS ⊢
  have HL1 := hid (hp_lt HNB.out)
  have HFB := hid (Fb.of HNB.out HF.out)
  have x1 := HFB.out.l1
  have x2 := HFB.out.l2
  have x3 := HFB.out.l3
  go_upto_region 3 with fail
  have HBL2 := hid (below_then HBL.out (below_walk w1 (.cells #[.int .i64 f.lim.1, .int .i64 f.lim.2.1, .int .i64 f.lim.2.2] 26)))
  have HNX := hid (hp_new w1 (.cells #[.int .i64 f.lim.1, .int .i64 f.lim.2.1, .int .i64 f.lim.2.2] 26))
  have HS2 := hid (HS.out.below (below_walk w1 (.cells #[.int .i64 f.lim.1, .int .i64 f.lim.2.1, .int .i64 f.lim.2.2] 26)))
  have y40 : (w1.alloc (.cells #[.int .i64 f.lim.1, .int .i64 f.lim.2.1, .int .i64 f.lim.2.2] 26)).cell? ⟨w.heap.size, 40, none⟩ = some (.slice ao f.args.length c) := ((below_walk w1 (.cells #[.int .i64 f.lim.1, .int .i64 f.lim.2.1, .int .i64 f.lim.2.2] 26)).cell (p := ⟨w.heap.size, 40, none⟩) HL1.out).trans HFB.out.a
  obtain ⟨B3, HB3⟩ : ∃ b : Nat, Hid (w1.heap.size = b) := ⟨_, rfl⟩
  rw [HB3.out] at HNX ⊢
  generalize w1.alloc (.cells #[.int .i64 f.lim.1, .int .i64 f.lim.2.1, .int .i64 f.lim.2.2] 26) = w2 at HBL2 HNX HS2 y40 ⊢
  have z0 := cell_of_row w2 B3 0 _ _ _ HNX.out
  have z1 := cell_of_row w2 B3 1 _ _ _ HNX.out
  have z2 := cell_of_row w2 B3 2 _ _ _ HNX.out
  simp at z0 z1 z2
  have HCF := hid (containsFunc_any _ f.args w2 HS2.out HN.out)
  clear x1 x2 x3 HFB HNB HBL HS HL1 HNX HS2 HN HF
  by_cases h0 : 0 ≤ f.lim.1
  · have q0 : decide (0 ≤ f.lim.1) = true := by simpa using h0
    by_cases h1 : 0 ≤ f.lim.2.1
    · have q1 : decide (0 ≤ f.lim.2.1) = true := by simpa using h1
      by_cases h2 : 0 ≤ f.lim.2.2
      · have q2 : decide (0 ≤ f.lim.2.2) = true := by simpa using h2
        by_cases h3 : f.args.length ≤ 8
        · have q3 : decide ((f.args.length : Int) ≤ 8) = true := by simp; omega
          have q3b : (f.args.length : Int) ≤ 8 := by omega
          obtain ⟨b, HBB⟩ : ∃ b, Hid (longA f.args = b) := ⟨_, rfl⟩
          rw [HBB.out] at HCF
          have HR := hid (show (!b) = decide (0 ≤ f.lim.1 ∧ 0 ≤ f.lim.2.1 ∧ 0 ≤ f.lim.2.2 ∧ f.args.length ≤ 8 ∧ longA f.args = false) by rw [HBB.out]; cases b <;> simp [h0, h1, h2, h3])
          go_wp2_with fail
          refine HCF.out.mono ?_
          rintro e w3 ⟨rfl, hw3⟩
          subst hw3
          cases b with
          | false =>
            go_wp2
            go_ret
            first | exact ⟨ret_eq HR.out, HBL2.out⟩ | exact ⟨rfl, HBL2.out⟩
          | true =>
            go_wp2
            go_ret
            first | exact ⟨ret_eq HR.out, HBL2.out⟩ | exact ⟨rfl, HBL2.out⟩
        · have q3 : decide ((f.args.length : Int) ≤ 8) = false := by simp; omega
          have q3b : ¬ (f.args.length : Int) ≤ 8 := by omega
          have HR := hid (show false = decide (0 ≤ f.lim.1 ∧ 0 ≤ f.lim.2.1 ∧ 0 ≤ f.lim.2.2 ∧ f.args.length ≤ 8 ∧ longA f.args = false) from (decide_eq_false (fun h => h3 h.2.2.2.1)).symm)
          clear HCF
          go_wp2
          go_ret
          first | exact ⟨ret_eq HR.out, HBL2.out⟩ | exact ⟨rfl, HBL2.out⟩
      · have q2 : decide (0 ≤ f.lim.2.2) = false := by simpa using h2
        have HR := hid (show false = decide (0 ≤ f.lim.1 ∧ 0 ≤ f.lim.2.1 ∧ 0 ≤ f.lim.2.2 ∧ f.args.length ≤ 8 ∧ longA f.args = false) from (decide_eq_false (fun h => h2 h.2.2.1)).symm)
        clear HCF
        go_wp2
        go_ret
        first | exact ⟨ret_eq HR.out, HBL2.out⟩ | exact ⟨rfl, HBL2.out⟩
    · have q1 : decide (0 ≤ f.lim.2.1) = false := by simpa using h1
      have HR := hid (show false = decide (0 ≤ f.lim.1 ∧ 0 ≤ f.lim.2.1 ∧ 0 ≤ f.lim.2.2 ∧ f.args.length ≤ 8 ∧ longA f.args = false) from (decide_eq_false (fun h => h1 h.2.1)).symm)
      clear HCF
      go_wp2
      go_ret
      first | exact ⟨ret_eq HR.out, HBL2.out⟩ | exact ⟨rfl, HBL2.out⟩
  · have q0 : decide (0 ≤ f.lim.1) = false := by simpa using h0
    have HR := hid (show false = decide (0 ≤ f.lim.1 ∧ 0 ≤ f.lim.2.1 ∧ 0 ≤ f.lim.2.2 ∧ f.args.length ≤ 8 ∧ longA f.args = false) from (decide_eq_false (fun h => h0 h.1)).symm)
    clear HCF
    go_wp2
    go_ret
    first | exact ⟨ret_eq HR.out, HBL2.out⟩ | exact ⟨rfl, HBL2.out⟩

end Go.Proofs.Ytjinkahlfigdcaa

/- What a frame's plan is, plainly; the plan of a frame of no kind. -/
namespace Go.Proofs.Ytjinkahlfigdcaa
open Go.RowKit Go.BigFrame

/-- what plan answers: of the kind's row, whether it is what it owns, whether it may be, how long it is -/
def planA (k : List Value) (S M : Bool) (Z : Int) : Value :=
  if (S && M) = true then (if 2097152 < Z then .tuple #[.agg zRow.toArray, .int .i64 0, .int .i64 3] else .tuple #[.agg k.toArray, .int .i64 Z, .int .i64 0]) else .tuple #[.agg zRow.toArray, .int .i64 0, .int .i64 70]
theorem own_strs {W : World} {va : Value} {f : Fr} (h : Strs W va f.args) : Strs W (ownV f va) (ownF f).args := by
  unfold ownV ownF
  repeat' split
  all_goals first | exact h | exact strs_nil W | omega
theorem built_zRow : Try.prog.built 61 [] = some zRow.toArray := by kernel_rfl

end Go.Proofs.Ytjinkahlfigdcaa

/- Encode, Check and Size of the program, out of the plan. -/
namespace Go.Proofs.Ytjinkahlfigdcaa
open Go.RowKit Go.BigFrame

theorem put_zk (w : World) (Z KN : Nat) (hZ : Z ≤ 2097152) (hK : KN ≤ 6) : Calls Try.prog 23 #[.slice none 0 0, .slice (some ⟨w.heap.size, 0, none⟩) 2 2] (w.alloc (.cells #[.int .i64 (Z : Nat), .int .i64 (KN : Nat)] 3)) fun e w' => ∃ ao n c, e = .returned (.slice ao n c) ∧ Src w' (.slice ao n c) (sns [Z, KN]) ∧ Below w.heap.size w w' := by
  refine (putCounts_any nS _ [] [Z, KN] _ (srcNil _) (nums_two w Z KN) (by simp; omega) (by simp) (by simp)).mono ?_
  rintro e w' ⟨v, rfl, hs, hb⟩
  have hs' : Src w' v (sns [Z, KN]) := by simpa using hs
  obtain ⟨ao, n, c, rfl⟩ := src_named hs'
  exact ⟨ao, n, c, rfl, hs', below_then (below_walk w _) hb⟩

set_option maxRecDepth 100000 in
set_option maxHeartbeats 4000000 in
theorem encode_err (f : Fr) (va : Value) (w : World) (E : Int) (hf : f.tool.length = 32) (ha : Strs w va f.args) (hE : E ≠ 0)
    (hplan : ∀ W, Strs W va f.args → Calls Try.prog 22 #[.agg (fcells f va).toArray] W fun e w' => e = .returned (.tuple #[.agg zRow.toArray, .int .i64 0, .int .i64 E]) ∧ Below W.heap.size W w') :
    Calls Try.prog 9 #[.agg (fcells f va).toArray] w fun e w' => e = .returned (.tuple #[.slice none 0 0, .int .i64 E]) ∧ Below w.heap.size w w' := by
  have HNB := hid (hp_new w (.cells (fcells f va).toArray 29))
  have HBL := hid (below_walk w (.cells (fcells f va).toArray 29))
  have HSZ := hid (frame_size f va hf)
  have HPL := hid (hplan _ (ha.below HBL.out))
  have q1 : (E != 0) = true := by simpa using hE
  have q2 : (E == 0) = false := by simpa using hE
  clear hplan ha hf
  go_enter Try.func9, Try.ntmps9
  go_upto_region 1 with fail
  generalize w.alloc (.cells (fcells f va).toArray 29) = w1 at HNB HBL HPL ⊢
  generalize fcells f va = FF at *
  go_wp2_with (refine ld_row (by rfl) 29 (.tmp 1) (by rfl) w.heap.size (by rfl) FF 29 HNB.out _ Try.underlying29 rfl HSZ.out ?_)
  refine HPL.out.mono ?_
  rintro e w2 ⟨rfl, hb2⟩
  have HB2 := hid (below_then (below_then HBL.out hb2) (below_walk w2 (.cells zRow.toArray 61)))
  clear hb2 HNB HBL HPL
  go_wp2_with (first
    | (refine al_row (by rfl) 61 (by rfl) _ zeroKind ?_)
    | (refine st_new (by rfl) 61 _ _ (by rfl) zRow (by rfl) (by rfl) 61 _ kindSize rfl zOne ?_))
  go_ret2
  exact ⟨rfl, HB2.out⟩

set_option maxRecDepth 100000 in
set_option maxHeartbeats 4000000 in
theorem encode1_ok (f : Fr) (va : Value) (w : World) (Z : Nat) (L : List UInt8) (hf : f.tool.length = 32) (ha : Strs w va f.args) (hk : f.kind = 1) (hZ : Z ≤ 2097152) (hL : L.length ≤ 4000000)
    (hplan : ∀ W, Strs W va f.args → Calls Try.prog 22 #[.agg (fcells f va).toArray] W fun e w' => e = .returned (.tuple #[.agg k1.toArray, .int .i64 (Z : Int), .int .i64 0]) ∧ Below W.heap.size W w')
    (hlay : ∀ W vb bs, Src W vb bs → bs.length ≤ 1000 → Strs W va f.args → Calls Try.prog 75 #[vb, .agg (fcells f va).toArray] W fun e w' => ∃ v, e = .returned v ∧ Src w' v (bs ++ L) ∧ Below W.heap.size W w') :
    Calls Try.prog 9 #[.agg (fcells f va).toArray] w fun e w' => ∃ v, e = .returned (.tuple #[v, .int .i64 0]) ∧ OwnB w' w.heap.size v (sealP (sns [Z, 1] ++ L)) ∧ Below w.heap.size w w' := by
  have HNB := hid (hp_new w (.cells (fcells f va).toArray 29))
  have HBL := hid (below_walk w (.cells (fcells f va).toArray 29))
  have HSZ := hid (frame_size f va hf)
  have HSA := hid (ha.below HBL.out)
  have HPL := hid (fun W (h : Strs W va f.args) => hplan W h)
  have HLAY := hid hlay
  have HF := hid hf
  have HK := hid hk
  have hsl := sns_length [Z, 1]
  simp only [List.length_cons, List.length_nil] at hsl
  clear hplan ha hf hlay hk
  go_enter Try.func9, Try.ntmps9
  go_upto_region 1 with fail
  generalize w.alloc (.cells (fcells f va).toArray 29) = w1 at HNB HBL HSA ⊢
  go_wp2_with (refine ld_row (by rfl) 29 (.tmp 1) (by rfl) w.heap.size (by rfl) (fcells f va) 29 HNB.out _ Try.underlying29 rfl HSZ.out ?_)
  refine (HPL.out w1 HSA.out).mono ?_
  rintro e w2 ⟨rfl, hb2⟩
  have HN2 := hid ((hb2.block _ (hp_lt HNB.out)).trans HNB.out)
  have HB2 := hid (below_then HBL.out hb2)
  have HSA2 := hid (HSA.out.below hb2)
  clear hb2 HNB HBL HSA HPL
  go_upto_region 4 with (first
    | (refine al_row (by rfl) 61 (by rfl) _ zeroKind ?_)
    | (refine st_new (by rfl) 61 _ _ (by rfl) k1 (by rfl) (by rfl) 61 _ kindSize rfl (kOne _ _ _ _ _) ?_))
  have HN3 := hid ((below_walk w2 (.cells k1.toArray 61)).block _ (hp_lt HN2.out) |>.trans HN2.out)
  have HN4 := hid (hp_new w2 (.cells k1.toArray 61))
  have HB3 := hid (below_then HB2.out (below_walk w2 (.cells k1.toArray 61)))
  have HSA3 := hid (HSA2.out.below (below_walk w2 (.cells k1.toArray 61)))
  obtain ⟨B4, HB4⟩ : ∃ b : Nat, Hid (w2.heap.size = b) := ⟨_, rfl⟩
  rw [HB4.out] at HN4 ⊢
  generalize w2.alloc (.cells k1.toArray 61) = w3 at HN3 HN4 HB3 HSA3 ⊢
  have x0 := (Fb.of HN3.out HF.out).k
  rw [HK.out] at x0
  clear HN2 HB2 HSA2
  go_wp2_with fail
  refine (put_zk w3 Z 1 hZ (by omega)).mono ?_
  rintro e w4 ⟨ao, n4, c, rfl, hs4, hb4⟩
  have HS4 := hid hs4
  have HN5 := hid ((hb4.block _ (hp_lt HN3.out)).trans HN3.out)
  have HN6 := hid ((hb4.block _ (hp_lt HN4.out)).trans HN4.out)
  have HB5 := hid (below_then HB3.out hb4)
  have HSA4 := hid (HSA3.out.below hb4)
  have y3 : w4.cell? ⟨B4, 3, none⟩ = some (.func (.func 75) #[] #[]) := by rw [cell_of_row w4 B4 3 _ _ _ HN6.out]; rfl
  clear x0 hs4 hb4 HN3 HN4 HB3 HSA3
  go_wp2_with (refine ld_row (by rfl) 29 (.tmp 1) (by rfl) w.heap.size (by rfl) (fcells f va) 29 HN5.out _ Try.underlying29 rfl HSZ.out ?_)
  refine (HLAY.out w4 _ (sns [Z, 1]) HS4.out (by omega) HSA4.out).mono ?_
  rintro e w5 ⟨v5, rfl, hs5, hb5⟩
  have HSE := hid (seal_any w5 v5 (sns [Z, 1] ++ L) hs5 (by rw [List.length_append]; omega))
  have HB6 := hid (below_then HB5.out hb5)
  obtain ⟨a5, n5, c5, e5⟩ := src_named hs5
  subst e5
  clear hb5 hs5 y3 HN5 HN6 HB5 HS4 HSA4 HLAY
  go_wp2_with fail
  refine HSE.out.mono ?_
  rintro e w6 ⟨v6, rfl, ho6, hb6⟩
  have HO6 := hid (ho6.le HB6.out.size)
  have HB7 := hid (below_then HB6.out hb6)
  obtain ⟨a6, n6, c6, e6⟩ := src_named (ho6.src (by rw [sealP_length, List.length_append]; omega))
  subst e6
  clear ho6 hb6
  go_wp2
  go_ret2
  exact ⟨_, rfl, HO6.out, HB7.out⟩

set_option maxRecDepth 100000 in
set_option maxHeartbeats 4000000 in
theorem encode2_ok (f : Fr) (va : Value) (w : World) (Z : Nat) (L : List UInt8) (hf : f.tool.length = 32) (ha : Strs w va f.args) (hk : f.kind = 2) (hZ : Z ≤ 2097152) (hL : L.length ≤ 4000000)
    (hplan : ∀ W, Strs W va f.args → Calls Try.prog 22 #[.agg (fcells f va).toArray] W fun e w' => e = .returned (.tuple #[.agg k2.toArray, .int .i64 (Z : Int), .int .i64 0]) ∧ Below W.heap.size W w')
    (hlay : ∀ W vb bs, Src W vb bs → bs.length ≤ 1000 → Strs W va f.args → Calls Try.prog 79 #[vb, .agg (fcells f va).toArray] W fun e w' => ∃ v, e = .returned v ∧ Src w' v (bs ++ L) ∧ Below W.heap.size W w') :
    Calls Try.prog 9 #[.agg (fcells f va).toArray] w fun e w' => ∃ v, e = .returned (.tuple #[v, .int .i64 0]) ∧ OwnB w' w.heap.size v (sealP (sns [Z, 2] ++ L)) ∧ Below w.heap.size w w' := by
  have HNB := hid (hp_new w (.cells (fcells f va).toArray 29))
  have HBL := hid (below_walk w (.cells (fcells f va).toArray 29))
  have HSZ := hid (frame_size f va hf)
  have HSA := hid (ha.below HBL.out)
  have HPL := hid (fun W (h : Strs W va f.args) => hplan W h)
  have HLAY := hid hlay
  have HF := hid hf
  have HK := hid hk
  have hsl := sns_length [Z, 2]
  simp only [List.length_cons, List.length_nil] at hsl
  clear hplan ha hf hlay hk
  go_enter Try.func9, Try.ntmps9
  go_upto_region 1 with fail
  generalize w.alloc (.cells (fcells f va).toArray 29) = w1 at HNB HBL HSA ⊢
  go_wp2_with (refine ld_row (by rfl) 29 (.tmp 1) (by rfl) w.heap.size (by rfl) (fcells f va) 29 HNB.out _ Try.underlying29 rfl HSZ.out ?_)
  refine (HPL.out w1 HSA.out).mono ?_
  rintro e w2 ⟨rfl, hb2⟩
  have HN2 := hid ((hb2.block _ (hp_lt HNB.out)).trans HNB.out)
  have HB2 := hid (below_then HBL.out hb2)
  have HSA2 := hid (HSA.out.below hb2)
  clear hb2 HNB HBL HSA HPL
  go_upto_region 4 with (first
    | (refine al_row (by rfl) 61 (by rfl) _ zeroKind ?_)
    | (refine st_new (by rfl) 61 _ _ (by rfl) k2 (by rfl) (by rfl) 61 _ kindSize rfl (kOne _ _ _ _ _) ?_))
  have HN3 := hid ((below_walk w2 (.cells k2.toArray 61)).block _ (hp_lt HN2.out) |>.trans HN2.out)
  have HN4 := hid (hp_new w2 (.cells k2.toArray 61))
  have HB3 := hid (below_then HB2.out (below_walk w2 (.cells k2.toArray 61)))
  have HSA3 := hid (HSA2.out.below (below_walk w2 (.cells k2.toArray 61)))
  obtain ⟨B4, HB4⟩ : ∃ b : Nat, Hid (w2.heap.size = b) := ⟨_, rfl⟩
  rw [HB4.out] at HN4 ⊢
  generalize w2.alloc (.cells k2.toArray 61) = w3 at HN3 HN4 HB3 HSA3 ⊢
  have x0 := (Fb.of HN3.out HF.out).k
  rw [HK.out] at x0
  clear HN2 HB2 HSA2
  go_wp2_with fail
  refine (put_zk w3 Z 2 hZ (by omega)).mono ?_
  rintro e w4 ⟨ao, n4, c, rfl, hs4, hb4⟩
  have HS4 := hid hs4
  have HN5 := hid ((hb4.block _ (hp_lt HN3.out)).trans HN3.out)
  have HN6 := hid ((hb4.block _ (hp_lt HN4.out)).trans HN4.out)
  have HB5 := hid (below_then HB3.out hb4)
  have HSA4 := hid (HSA3.out.below hb4)
  have y3 : w4.cell? ⟨B4, 3, none⟩ = some (.func (.func 79) #[] #[]) := by rw [cell_of_row w4 B4 3 _ _ _ HN6.out]; rfl
  clear x0 hs4 hb4 HN3 HN4 HB3 HSA3
  go_wp2_with (refine ld_row (by rfl) 29 (.tmp 1) (by rfl) w.heap.size (by rfl) (fcells f va) 29 HN5.out _ Try.underlying29 rfl HSZ.out ?_)
  refine (HLAY.out w4 _ (sns [Z, 2]) HS4.out (by omega) HSA4.out).mono ?_
  rintro e w5 ⟨v5, rfl, hs5, hb5⟩
  have HSE := hid (seal_any w5 v5 (sns [Z, 2] ++ L) hs5 (by rw [List.length_append]; omega))
  have HB6 := hid (below_then HB5.out hb5)
  obtain ⟨a5, n5, c5, e5⟩ := src_named hs5
  subst e5
  clear hb5 hs5 y3 HN5 HN6 HB5 HS4 HSA4 HLAY
  go_wp2_with fail
  refine HSE.out.mono ?_
  rintro e w6 ⟨v6, rfl, ho6, hb6⟩
  have HO6 := hid (ho6.le HB6.out.size)
  have HB7 := hid (below_then HB6.out hb6)
  obtain ⟨a6, n6, c6, e6⟩ := src_named (ho6.src (by rw [sealP_length, List.length_append]; omega))
  subst e6
  clear ho6 hb6
  go_wp2
  go_ret2
  exact ⟨_, rfl, HO6.out, HB7.out⟩

set_option maxRecDepth 100000 in
set_option maxHeartbeats 4000000 in
theorem encode3_ok (f : Fr) (va : Value) (w : World) (Z : Nat) (L : List UInt8) (hf : f.tool.length = 32) (ha : Strs w va f.args) (hk : f.kind = 3) (hZ : Z ≤ 2097152) (hL : L.length ≤ 4000000)
    (hplan : ∀ W, Strs W va f.args → Calls Try.prog 22 #[.agg (fcells f va).toArray] W fun e w' => e = .returned (.tuple #[.agg k3.toArray, .int .i64 (Z : Int), .int .i64 0]) ∧ Below W.heap.size W w')
    (hlay : ∀ W vb bs, Src W vb bs → bs.length ≤ 1000 → Strs W va f.args → Calls Try.prog 83 #[vb, .agg (fcells f va).toArray] W fun e w' => ∃ v, e = .returned v ∧ Src w' v (bs ++ L) ∧ Below W.heap.size W w') :
    Calls Try.prog 9 #[.agg (fcells f va).toArray] w fun e w' => ∃ v, e = .returned (.tuple #[v, .int .i64 0]) ∧ OwnB w' w.heap.size v (sealP (sns [Z, 3] ++ L)) ∧ Below w.heap.size w w' := by
  have HNB := hid (hp_new w (.cells (fcells f va).toArray 29))
  have HBL := hid (below_walk w (.cells (fcells f va).toArray 29))
  have HSZ := hid (frame_size f va hf)
  have HSA := hid (ha.below HBL.out)
  have HPL := hid (fun W (h : Strs W va f.args) => hplan W h)
  have HLAY := hid hlay
  have HF := hid hf
  have HK := hid hk
  have hsl := sns_length [Z, 3]
  simp only [List.length_cons, List.length_nil] at hsl
  clear hplan ha hf hlay hk
  go_enter Try.func9, Try.ntmps9
  go_upto_region 1 with fail
  generalize w.alloc (.cells (fcells f va).toArray 29) = w1 at HNB HBL HSA ⊢
  go_wp2_with (refine ld_row (by rfl) 29 (.tmp 1) (by rfl) w.heap.size (by rfl) (fcells f va) 29 HNB.out _ Try.underlying29 rfl HSZ.out ?_)
  refine (HPL.out w1 HSA.out).mono ?_
  rintro e w2 ⟨rfl, hb2⟩
  have HN2 := hid ((hb2.block _ (hp_lt HNB.out)).trans HNB.out)
  have HB2 := hid (below_then HBL.out hb2)
  have HSA2 := hid (HSA.out.below hb2)
  clear hb2 HNB HBL HSA HPL
  go_upto_region 4 with (first
    | (refine al_row (by rfl) 61 (by rfl) _ zeroKind ?_)
    | (refine st_new (by rfl) 61 _ _ (by rfl) k3 (by rfl) (by rfl) 61 _ kindSize rfl (kOne _ _ _ _ _) ?_))
  have HN3 := hid ((below_walk w2 (.cells k3.toArray 61)).block _ (hp_lt HN2.out) |>.trans HN2.out)
  have HN4 := hid (hp_new w2 (.cells k3.toArray 61))
  have HB3 := hid (below_then HB2.out (below_walk w2 (.cells k3.toArray 61)))
  have HSA3 := hid (HSA2.out.below (below_walk w2 (.cells k3.toArray 61)))
  obtain ⟨B4, HB4⟩ : ∃ b : Nat, Hid (w2.heap.size = b) := ⟨_, rfl⟩
  rw [HB4.out] at HN4 ⊢
  generalize w2.alloc (.cells k3.toArray 61) = w3 at HN3 HN4 HB3 HSA3 ⊢
  have x0 := (Fb.of HN3.out HF.out).k
  rw [HK.out] at x0
  clear HN2 HB2 HSA2
  go_wp2_with fail
  refine (put_zk w3 Z 3 hZ (by omega)).mono ?_
  rintro e w4 ⟨ao, n4, c, rfl, hs4, hb4⟩
  have HS4 := hid hs4
  have HN5 := hid ((hb4.block _ (hp_lt HN3.out)).trans HN3.out)
  have HN6 := hid ((hb4.block _ (hp_lt HN4.out)).trans HN4.out)
  have HB5 := hid (below_then HB3.out hb4)
  have HSA4 := hid (HSA3.out.below hb4)
  have y3 : w4.cell? ⟨B4, 3, none⟩ = some (.func (.func 83) #[] #[]) := by rw [cell_of_row w4 B4 3 _ _ _ HN6.out]; rfl
  clear x0 hs4 hb4 HN3 HN4 HB3 HSA3
  go_wp2_with (refine ld_row (by rfl) 29 (.tmp 1) (by rfl) w.heap.size (by rfl) (fcells f va) 29 HN5.out _ Try.underlying29 rfl HSZ.out ?_)
  refine (HLAY.out w4 _ (sns [Z, 3]) HS4.out (by omega) HSA4.out).mono ?_
  rintro e w5 ⟨v5, rfl, hs5, hb5⟩
  have HSE := hid (seal_any w5 v5 (sns [Z, 3] ++ L) hs5 (by rw [List.length_append]; omega))
  have HB6 := hid (below_then HB5.out hb5)
  obtain ⟨a5, n5, c5, e5⟩ := src_named hs5
  subst e5
  clear hb5 hs5 y3 HN5 HN6 HB5 HS4 HSA4 HLAY
  go_wp2_with fail
  refine HSE.out.mono ?_
  rintro e w6 ⟨v6, rfl, ho6, hb6⟩
  have HO6 := hid (ho6.le HB6.out.size)
  have HB7 := hid (below_then HB6.out hb6)
  obtain ⟨a6, n6, c6, e6⟩ := src_named (ho6.src (by rw [sealP_length, List.length_append]; omega))
  subst e6
  clear ho6 hb6
  go_wp2
  go_ret2
  exact ⟨_, rfl, HO6.out, HB7.out⟩

set_option maxRecDepth 100000 in
set_option maxHeartbeats 4000000 in
theorem encode4_ok (f : Fr) (va : Value) (w : World) (Z : Nat) (L : List UInt8) (hf : f.tool.length = 32) (ha : Strs w va f.args) (hk : f.kind = 4) (hZ : Z ≤ 2097152) (hL : L.length ≤ 4000000)
    (hplan : ∀ W, Strs W va f.args → Calls Try.prog 22 #[.agg (fcells f va).toArray] W fun e w' => e = .returned (.tuple #[.agg k4.toArray, .int .i64 (Z : Int), .int .i64 0]) ∧ Below W.heap.size W w')
    (hlay : ∀ W vb bs, Src W vb bs → bs.length ≤ 1000 → Strs W va f.args → Calls Try.prog 87 #[vb, .agg (fcells f va).toArray] W fun e w' => ∃ v, e = .returned v ∧ Src w' v (bs ++ L) ∧ Below W.heap.size W w') :
    Calls Try.prog 9 #[.agg (fcells f va).toArray] w fun e w' => ∃ v, e = .returned (.tuple #[v, .int .i64 0]) ∧ OwnB w' w.heap.size v (sealP (sns [Z, 4] ++ L)) ∧ Below w.heap.size w w' := by
  have HNB := hid (hp_new w (.cells (fcells f va).toArray 29))
  have HBL := hid (below_walk w (.cells (fcells f va).toArray 29))
  have HSZ := hid (frame_size f va hf)
  have HSA := hid (ha.below HBL.out)
  have HPL := hid (fun W (h : Strs W va f.args) => hplan W h)
  have HLAY := hid hlay
  have HF := hid hf
  have HK := hid hk
  have hsl := sns_length [Z, 4]
  simp only [List.length_cons, List.length_nil] at hsl
  clear hplan ha hf hlay hk
  go_enter Try.func9, Try.ntmps9
  go_upto_region 1 with fail
  generalize w.alloc (.cells (fcells f va).toArray 29) = w1 at HNB HBL HSA ⊢
  go_wp2_with (refine ld_row (by rfl) 29 (.tmp 1) (by rfl) w.heap.size (by rfl) (fcells f va) 29 HNB.out _ Try.underlying29 rfl HSZ.out ?_)
  refine (HPL.out w1 HSA.out).mono ?_
  rintro e w2 ⟨rfl, hb2⟩
  have HN2 := hid ((hb2.block _ (hp_lt HNB.out)).trans HNB.out)
  have HB2 := hid (below_then HBL.out hb2)
  have HSA2 := hid (HSA.out.below hb2)
  clear hb2 HNB HBL HSA HPL
  go_upto_region 4 with (first
    | (refine al_row (by rfl) 61 (by rfl) _ zeroKind ?_)
    | (refine st_new (by rfl) 61 _ _ (by rfl) k4 (by rfl) (by rfl) 61 _ kindSize rfl (kOne _ _ _ _ _) ?_))
  have HN3 := hid ((below_walk w2 (.cells k4.toArray 61)).block _ (hp_lt HN2.out) |>.trans HN2.out)
  have HN4 := hid (hp_new w2 (.cells k4.toArray 61))
  have HB3 := hid (below_then HB2.out (below_walk w2 (.cells k4.toArray 61)))
  have HSA3 := hid (HSA2.out.below (below_walk w2 (.cells k4.toArray 61)))
  obtain ⟨B4, HB4⟩ : ∃ b : Nat, Hid (w2.heap.size = b) := ⟨_, rfl⟩
  rw [HB4.out] at HN4 ⊢
  generalize w2.alloc (.cells k4.toArray 61) = w3 at HN3 HN4 HB3 HSA3 ⊢
  have x0 := (Fb.of HN3.out HF.out).k
  rw [HK.out] at x0
  clear HN2 HB2 HSA2
  go_wp2_with fail
  refine (put_zk w3 Z 4 hZ (by omega)).mono ?_
  rintro e w4 ⟨ao, n4, c, rfl, hs4, hb4⟩
  have HS4 := hid hs4
  have HN5 := hid ((hb4.block _ (hp_lt HN3.out)).trans HN3.out)
  have HN6 := hid ((hb4.block _ (hp_lt HN4.out)).trans HN4.out)
  have HB5 := hid (below_then HB3.out hb4)
  have HSA4 := hid (HSA3.out.below hb4)
  have y3 : w4.cell? ⟨B4, 3, none⟩ = some (.func (.func 87) #[] #[]) := by rw [cell_of_row w4 B4 3 _ _ _ HN6.out]; rfl
  clear x0 hs4 hb4 HN3 HN4 HB3 HSA3
  go_wp2_with (refine ld_row (by rfl) 29 (.tmp 1) (by rfl) w.heap.size (by rfl) (fcells f va) 29 HN5.out _ Try.underlying29 rfl HSZ.out ?_)
  refine (HLAY.out w4 _ (sns [Z, 4]) HS4.out (by omega) HSA4.out).mono ?_
  rintro e w5 ⟨v5, rfl, hs5, hb5⟩
  have HSE := hid (seal_any w5 v5 (sns [Z, 4] ++ L) hs5 (by rw [List.length_append]; omega))
  have HB6 := hid (below_then HB5.out hb5)
  obtain ⟨a5, n5, c5, e5⟩ := src_named hs5
  subst e5
  clear hb5 hs5 y3 HN5 HN6 HB5 HS4 HSA4 HLAY
  go_wp2_with fail
  refine HSE.out.mono ?_
  rintro e w6 ⟨v6, rfl, ho6, hb6⟩
  have HO6 := hid (ho6.le HB6.out.size)
  have HB7 := hid (below_then HB6.out hb6)
  obtain ⟨a6, n6, c6, e6⟩ := src_named (ho6.src (by rw [sealP_length, List.length_append]; omega))
  subst e6
  clear ho6 hb6
  go_wp2
  go_ret2
  exact ⟨_, rfl, HO6.out, HB7.out⟩

set_option maxRecDepth 100000 in
set_option maxHeartbeats 4000000 in
theorem encode5_ok (f : Fr) (va : Value) (w : World) (Z : Nat) (L : List UInt8) (hf : f.tool.length = 32) (ha : Strs w va f.args) (hk : f.kind = 5) (hZ : Z ≤ 2097152) (hL : L.length ≤ 4000000)
    (hplan : ∀ W, Strs W va f.args → Calls Try.prog 22 #[.agg (fcells f va).toArray] W fun e w' => e = .returned (.tuple #[.agg k5.toArray, .int .i64 (Z : Int), .int .i64 0]) ∧ Below W.heap.size W w')
    (hlay : ∀ W vb bs, Src W vb bs → bs.length ≤ 1000 → Strs W va f.args → Calls Try.prog 90 #[vb, .agg (fcells f va).toArray] W fun e w' => ∃ v, e = .returned v ∧ Src w' v (bs ++ L) ∧ Below W.heap.size W w') :
    Calls Try.prog 9 #[.agg (fcells f va).toArray] w fun e w' => ∃ v, e = .returned (.tuple #[v, .int .i64 0]) ∧ OwnB w' w.heap.size v (sealP (sns [Z, 5] ++ L)) ∧ Below w.heap.size w w' := by
  have HNB := hid (hp_new w (.cells (fcells f va).toArray 29))
  have HBL := hid (below_walk w (.cells (fcells f va).toArray 29))
  have HSZ := hid (frame_size f va hf)
  have HSA := hid (ha.below HBL.out)
  have HPL := hid (fun W (h : Strs W va f.args) => hplan W h)
  have HLAY := hid hlay
  have HF := hid hf
  have HK := hid hk
  have hsl := sns_length [Z, 5]
  simp only [List.length_cons, List.length_nil] at hsl
  clear hplan ha hf hlay hk
  go_enter Try.func9, Try.ntmps9
  go_upto_region 1 with fail
  generalize w.alloc (.cells (fcells f va).toArray 29) = w1 at HNB HBL HSA ⊢
  go_wp2_with (refine ld_row (by rfl) 29 (.tmp 1) (by rfl) w.heap.size (by rfl) (fcells f va) 29 HNB.out _ Try.underlying29 rfl HSZ.out ?_)
  refine (HPL.out w1 HSA.out).mono ?_
  rintro e w2 ⟨rfl, hb2⟩
  have HN2 := hid ((hb2.block _ (hp_lt HNB.out)).trans HNB.out)
  have HB2 := hid (below_then HBL.out hb2)
  have HSA2 := hid (HSA.out.below hb2)
  clear hb2 HNB HBL HSA HPL
  go_upto_region 4 with (first
    | (refine al_row (by rfl) 61 (by rfl) _ zeroKind ?_)
    | (refine st_new (by rfl) 61 _ _ (by rfl) k5 (by rfl) (by rfl) 61 _ kindSize rfl (kOne _ _ _ _ _) ?_))
  have HN3 := hid ((below_walk w2 (.cells k5.toArray 61)).block _ (hp_lt HN2.out) |>.trans HN2.out)
  have HN4 := hid (hp_new w2 (.cells k5.toArray 61))
  have HB3 := hid (below_then HB2.out (below_walk w2 (.cells k5.toArray 61)))
  have HSA3 := hid (HSA2.out.below (below_walk w2 (.cells k5.toArray 61)))
  obtain ⟨B4, HB4⟩ : ∃ b : Nat, Hid (w2.heap.size = b) := ⟨_, rfl⟩
  rw [HB4.out] at HN4 ⊢
  generalize w2.alloc (.cells k5.toArray 61) = w3 at HN3 HN4 HB3 HSA3 ⊢
  have x0 := (Fb.of HN3.out HF.out).k
  rw [HK.out] at x0
  clear HN2 HB2 HSA2
  go_wp2_with fail
  refine (put_zk w3 Z 5 hZ (by omega)).mono ?_
  rintro e w4 ⟨ao, n4, c, rfl, hs4, hb4⟩
  have HS4 := hid hs4
  have HN5 := hid ((hb4.block _ (hp_lt HN3.out)).trans HN3.out)
  have HN6 := hid ((hb4.block _ (hp_lt HN4.out)).trans HN4.out)
  have HB5 := hid (below_then HB3.out hb4)
  have HSA4 := hid (HSA3.out.below hb4)
  have y3 : w4.cell? ⟨B4, 3, none⟩ = some (.func (.func 90) #[] #[]) := by rw [cell_of_row w4 B4 3 _ _ _ HN6.out]; rfl
  clear x0 hs4 hb4 HN3 HN4 HB3 HSA3
  go_wp2_with (refine ld_row (by rfl) 29 (.tmp 1) (by rfl) w.heap.size (by rfl) (fcells f va) 29 HN5.out _ Try.underlying29 rfl HSZ.out ?_)
  refine (HLAY.out w4 _ (sns [Z, 5]) HS4.out (by omega) HSA4.out).mono ?_
  rintro e w5 ⟨v5, rfl, hs5, hb5⟩
  have HSE := hid (seal_any w5 v5 (sns [Z, 5] ++ L) hs5 (by rw [List.length_append]; omega))
  have HB6 := hid (below_then HB5.out hb5)
  obtain ⟨a5, n5, c5, e5⟩ := src_named hs5
  subst e5
  clear hb5 hs5 y3 HN5 HN6 HB5 HS4 HSA4 HLAY
  go_wp2_with fail
  refine HSE.out.mono ?_
  rintro e w6 ⟨v6, rfl, ho6, hb6⟩
  have HO6 := hid (ho6.le HB6.out.size)
  have HB7 := hid (below_then HB6.out hb6)
  obtain ⟨a6, n6, c6, e6⟩ := src_named (ho6.src (by rw [sealP_length, List.length_append]; omega))
  subst e6
  clear ho6 hb6
  go_wp2
  go_ret2
  exact ⟨_, rfl, HO6.out, HB7.out⟩

set_option maxRecDepth 100000 in
set_option maxHeartbeats 4000000 in
theorem encode6_ok (f : Fr) (va : Value) (w : World) (Z : Nat) (L : List UInt8) (hf : f.tool.length = 32) (ha : Strs w va f.args) (hk : f.kind = 6) (hZ : Z ≤ 2097152) (hL : L.length ≤ 4000000)
    (hplan : ∀ W, Strs W va f.args → Calls Try.prog 22 #[.agg (fcells f va).toArray] W fun e w' => e = .returned (.tuple #[.agg k6.toArray, .int .i64 (Z : Int), .int .i64 0]) ∧ Below W.heap.size W w')
    (hlay : ∀ W vb bs, Src W vb bs → bs.length ≤ 1000 → Strs W va f.args → Calls Try.prog 93 #[vb, .agg (fcells f va).toArray] W fun e w' => ∃ v, e = .returned v ∧ Src w' v (bs ++ L) ∧ Below W.heap.size W w') :
    Calls Try.prog 9 #[.agg (fcells f va).toArray] w fun e w' => ∃ v, e = .returned (.tuple #[v, .int .i64 0]) ∧ OwnB w' w.heap.size v (sealP (sns [Z, 6] ++ L)) ∧ Below w.heap.size w w' := by
  have HNB := hid (hp_new w (.cells (fcells f va).toArray 29))
  have HBL := hid (below_walk w (.cells (fcells f va).toArray 29))
  have HSZ := hid (frame_size f va hf)
  have HSA := hid (ha.below HBL.out)
  have HPL := hid (fun W (h : Strs W va f.args) => hplan W h)
  have HLAY := hid hlay
  have HF := hid hf
  have HK := hid hk
  have hsl := sns_length [Z, 6]
  simp only [List.length_cons, List.length_nil] at hsl
  clear hplan ha hf hlay hk
  go_enter Try.func9, Try.ntmps9
  go_upto_region 1 with fail
  generalize w.alloc (.cells (fcells f va).toArray 29) = w1 at HNB HBL HSA ⊢
  go_wp2_with (refine ld_row (by rfl) 29 (.tmp 1) (by rfl) w.heap.size (by rfl) (fcells f va) 29 HNB.out _ Try.underlying29 rfl HSZ.out ?_)
  refine (HPL.out w1 HSA.out).mono ?_
  rintro e w2 ⟨rfl, hb2⟩
  have HN2 := hid ((hb2.block _ (hp_lt HNB.out)).trans HNB.out)
  have HB2 := hid (below_then HBL.out hb2)
  have HSA2 := hid (HSA.out.below hb2)
  clear hb2 HNB HBL HSA HPL
  go_upto_region 4 with (first
    | (refine al_row (by rfl) 61 (by rfl) _ zeroKind ?_)
    | (refine st_new (by rfl) 61 _ _ (by rfl) k6 (by rfl) (by rfl) 61 _ kindSize rfl (kOne _ _ _ _ _) ?_))
  have HN3 := hid ((below_walk w2 (.cells k6.toArray 61)).block _ (hp_lt HN2.out) |>.trans HN2.out)
  have HN4 := hid (hp_new w2 (.cells k6.toArray 61))
  have HB3 := hid (below_then HB2.out (below_walk w2 (.cells k6.toArray 61)))
  have HSA3 := hid (HSA2.out.below (below_walk w2 (.cells k6.toArray 61)))
  obtain ⟨B4, HB4⟩ : ∃ b : Nat, Hid (w2.heap.size = b) := ⟨_, rfl⟩
  rw [HB4.out] at HN4 ⊢
  generalize w2.alloc (.cells k6.toArray 61) = w3 at HN3 HN4 HB3 HSA3 ⊢
  have x0 := (Fb.of HN3.out HF.out).k
  rw [HK.out] at x0
  clear HN2 HB2 HSA2
  go_wp2_with fail
  refine (put_zk w3 Z 6 hZ (by omega)).mono ?_
  rintro e w4 ⟨ao, n4, c, rfl, hs4, hb4⟩
  have HS4 := hid hs4
  have HN5 := hid ((hb4.block _ (hp_lt HN3.out)).trans HN3.out)
  have HN6 := hid ((hb4.block _ (hp_lt HN4.out)).trans HN4.out)
  have HB5 := hid (below_then HB3.out hb4)
  have HSA4 := hid (HSA3.out.below hb4)
  have y3 : w4.cell? ⟨B4, 3, none⟩ = some (.func (.func 93) #[] #[]) := by rw [cell_of_row w4 B4 3 _ _ _ HN6.out]; rfl
  clear x0 hs4 hb4 HN3 HN4 HB3 HSA3
  go_wp2_with (refine ld_row (by rfl) 29 (.tmp 1) (by rfl) w.heap.size (by rfl) (fcells f va) 29 HN5.out _ Try.underlying29 rfl HSZ.out ?_)
  refine (HLAY.out w4 _ (sns [Z, 6]) HS4.out (by omega) HSA4.out).mono ?_
  rintro e w5 ⟨v5, rfl, hs5, hb5⟩
  have HSE := hid (seal_any w5 v5 (sns [Z, 6] ++ L) hs5 (by rw [List.length_append]; omega))
  have HB6 := hid (below_then HB5.out hb5)
  obtain ⟨a5, n5, c5, e5⟩ := src_named hs5
  subst e5
  clear hb5 hs5 y3 HN5 HN6 HB5 HS4 HSA4 HLAY
  go_wp2_with fail
  refine HSE.out.mono ?_
  rintro e w6 ⟨v6, rfl, ho6, hb6⟩
  have HO6 := hid (ho6.le HB6.out.size)
  have HB7 := hid (below_then HB6.out hb6)
  obtain ⟨a6, n6, c6, e6⟩ := src_named (ho6.src (by rw [sealP_length, List.length_append]; omega))
  subst e6
  clear ho6 hb6
  go_wp2
  go_ret2
  exact ⟨_, rfl, HO6.out, HB7.out⟩

end Go.Proofs.Ytjinkahlfigdcaa

/- Of how many bytes a body has, plainly. -/
namespace Go.Proofs.Ytjinkahlfigdcaa
open Go.RowKit

theorem mk_data (B : List UInt8) : (mk B).data.toList = B := rfl
theorem tx_body (B : List UInt8) : tx (mk B) = sn B.length ++ B := by
  unfold tx
  rw [mk_size, mk_data]
theorem sn_zero : (sn 0).length = 1 := rfl
theorem tx_empty : (tx (mk [])).length = 1 := rfl
/-- a kind with a Body: what is reckoned is what is laid down -/
theorem reck_body (X : List UInt8) (B : List UInt8) : (((X ++ tx (mk [])).length : Int) + ((sn B.length).length : Int) - 1 + (B.length : Int)) = ((X ++ tx (mk B)).length : Int) := by
  rw [List.length_append, List.length_append, tx_empty, tx_body, List.length_append]
  omega
/-- a kind without a Body -/
theorem reck_none (X : List UInt8) : ((X.length : Int) + ((sn ([] : List UInt8).length).length : Int) - 1 + (([] : List UInt8).length : Int)) = (X.length : Int) := by
  rw [show ([] : List UInt8).length = 0 from rfl, sn_zero]
  omega
theorem txs_len : ∀ A : List (List UInt8), (∀ t ∈ A, t.length ≤ 4096) → (txs (A.map mk)).length ≤ A.length * 4106
  | [], _ => by simp [txs]
  | a :: r, h => by
    have ih := txs_len r (fun t ht => h t (by simp [ht]))
    have h1 := tx_len2 (mk a)
    rw [mk_size] at h1
    have h2 := h a (by simp)
    simp only [txs, List.map_cons, List.flatMap_cons, List.length_append, List.length_cons] at ih ⊢
    omega
theorem long_all {A : List (List UInt8)} (h : longA A = false) : ∀ t ∈ A, t.length ≤ 4096 := by
  intro t ht
  unfold longA at h
  rw [List.any_eq_false] at h
  have := h t ht
  simp at this
  omega
/-- the sum of lengths of a request's texts -/
theorem args_len {A : List (List UInt8)} (h : longA A = false) (hn : A.length ≤ 8) : (txs (A.map mk)).length ≤ 100000 := by
  have := txs_len A (long_all h)
  omega
theorem int_nat {x : Int} (h : 0 ≤ x) : ∃ n : Nat, x = (n : Int) := ⟨x.toNat, by omega⟩
end Go.Proofs.Ytjinkahlfigdcaa

/- Frames as bytes, plainly. -/
namespace Go.Proofs.Ytjinkahlfigdcaa
open Go.RowKit

/-- a frame's fields as bytes, behind its kind -/
def layP (f : Fr) : List UInt8 :=
  if f.kind = 1 then sns [f.ver.toNat, f.slots.toNat] ++ f.tool else if f.kind = 2 then layReqP f.id.toNat f.lim.1.toNat f.lim.2.1.toNat f.lim.2.2.toNat f.args f.body else if f.kind = 3 then sn f.id.toNat ++ (sns [f.status.toNat] ++ tx (mk f.body)) else if f.kind = 4 then sn f.id.toNat else if f.kind = 6 then tx (mk f.body) else []
def bodyP (f : Fr) : List UInt8 := sn f.kind.toNat ++ layP f
def mayF (f : Fr) : Bool := if f.kind = 1 then mayHelloP f else if f.kind = 2 then mayReqP f else if f.kind = 3 then mayResP f else true
def okFr (f : Fr) : Bool := decide (1 ≤ f.kind ∧ f.kind ≤ 6) && (sameP f (ownF f) && mayF f)
/-- what Check answers -/
def chkE (f : Fr) : Int := if okFr f = true then (if 2097152 < (bodyP f).length then 3 else 0) else 70
/-- a frame's bytes -/
def encP (f : Fr) : List UInt8 := sealP (sn (bodyP f).length ++ bodyP f)
/-- a frame whose fields are within their types -/
structure Rng (f : Fr) : Prop where
  intro ::
  tool : f.tool.length = 32
  idl : 0 ≤ f.id
  idh : f.id ≤ 18446744073709551615
  ver : f.ver ≤ 9223372036854775807
  slots : f.slots ≤ 9223372036854775807
  status : f.status ≤ 9223372036854775807
  l1 : f.lim.1 ≤ 9223372036854775807
  l2 : f.lim.2.1 ≤ 9223372036854775807
  l3 : f.lim.2.2 ≤ 9223372036854775807
  body : f.body.length ≤ 140737488355327
  many : f.args.length ≤ 9223372036854775807
theorem Rng.noBody {f : Fr} (h : Rng f) : Rng (noBody f) := ⟨h.tool, h.idl, h.idh, h.ver, h.slots, h.status, h.l1, h.l2, h.l3, by simp [Go.Proofs.Ytjinkahlfigdcaa.noBody], h.many⟩

theorem lay_1 (f : Fr) (h : f.kind = 1) : layP f = sns [f.ver.toNat, f.slots.toNat] ++ f.tool := by unfold layP; rw [if_pos h]
theorem lay_2 (f : Fr) (h : f.kind = 2) : layP f = layReqP f.id.toNat f.lim.1.toNat f.lim.2.1.toNat f.lim.2.2.toNat f.args f.body := by unfold layP; rw [if_neg (by omega), if_pos h]
theorem lay_3 (f : Fr) (h : f.kind = 3) : layP f = sn f.id.toNat ++ (sns [f.status.toNat] ++ tx (mk f.body)) := by unfold layP; rw [if_neg (by omega), if_neg (by omega), if_pos h]
theorem lay_4 (f : Fr) (h : f.kind = 4) : layP f = sn f.id.toNat := by unfold layP; rw [if_neg (by omega), if_neg (by omega), if_neg (by omega), if_pos h]
theorem lay_5 (f : Fr) (h : f.kind = 5) : layP f = [] := by unfold layP; rw [if_neg (by omega), if_neg (by omega), if_neg (by omega), if_neg (by omega), if_neg (by omega)]
theorem lay_6 (f : Fr) (h : f.kind = 6) : layP f = tx (mk f.body) := by unfold layP; rw [if_neg (by omega), if_neg (by omega), if_neg (by omega), if_neg (by omega), if_pos h]
theorem own_1 (f : Fr) (h : f.kind = 1) : ownF f = ⟨1, 0, f.ver, f.slots, f.tool, 0, (0, 0, 0), [], []⟩ := by unfold ownF; rw [if_pos h]
theorem own_2 (f : Fr) (h : f.kind = 2) : ownF f = reqF f.id f.lim f.args f.body := by unfold ownF; rw [if_neg (by omega), if_pos h]
theorem own_3 (f : Fr) (h : f.kind = 3) : ownF f = resF f.id f.status f.body := by unfold ownF; rw [if_neg (by omega), if_neg (by omega), if_pos h]
theorem own_4 (f : Fr) (h : f.kind = 4) : ownF f = canF f.id := by unfold ownF; rw [if_neg (by omega), if_neg (by omega), if_neg (by omega), if_pos h]
theorem own_5 (f : Fr) (h : f.kind = 5) : ownF f = byeF := by unfold ownF; rw [if_neg (by omega), if_neg (by omega), if_neg (by omega), if_neg (by omega), if_pos h]
theorem own_6 (f : Fr) (h : f.kind = 6) : ownF f = noteF f.body := by unfold ownF; rw [if_neg (by omega), if_neg (by omega), if_neg (by omega), if_neg (by omega), if_neg (by omega), if_pos h]
theorem same_eq {f g : Fr} (h : sameP f g = true) : f = g := by
  unfold sameP at h
  obtain ⟨a, b, c, d, e, x, y, z, u⟩ := of_decide_eq_true h
  cases f; cases g
  simp only at a b c d e x y z u
  subst a b c d e x y z u
  rfl
theorem same_own_body {f : Fr} (h : sameP f (ownF f) = true) (hk : f.kind = 1 ∨ f.kind = 4 ∨ f.kind = 5) : f.body = [] := by
  have e := congrArg Fr.body (same_eq h)
  rcases hk with k | k | k
  · rw [own_1 f k] at e; exact e
  · rw [own_4 f k] at e; exact e
  · rw [own_5 f k] at e; exact e
theorem sns_two (a b : Nat) : sns [a, b] = sn a ++ sn b := by simp [sns]
theorem sns_one (a : Nat) : sns [a] = sn a := by simp [sns]
theorem sns_thr (a b c : Nat) : sns [a, b, c] = sn a ++ (sn b ++ sn c) := by simp [sns]
theorem tx_len_ge (B : List UInt8) : B.length ≤ (tx (mk B)).length := by
  rw [tx_body, List.length_append]
  omega
theorem ls_len {A : List (List UInt8)} (h : longA A = false) (hn : A.length ≤ 8) : (ls (A.map mk)).length ≤ 100010 := by
  have := args_len h hn
  have h2 := sn_length_le (A.map mk).length
  unfold ls
  rw [List.length_append]
  omega
/-- what a frame's size is reckoned to be is how many bytes its body has -/
theorem reck_any (f : Fr) (h : sameP f (ownF f) = true) (hk : 1 ≤ f.kind ∧ f.kind ≤ 6) (K : Nat) (hK : f.kind = (K : Int)) :
    ((sn K ++ layP (noBody f)).length : Int) + ((sn f.body.length).length : Int) - 1 + (f.body.length : Int) = ((bodyP f).length : Int) := by
  unfold bodyP
  rw [show f.kind.toNat = K by omega]
  have hc : f.kind = 1 ∨ f.kind = 2 ∨ f.kind = 3 ∨ f.kind = 4 ∨ f.kind = 5 ∨ f.kind = 6 := by omega
  rcases hc with k | k | k | k | k | k
  · rw [same_own_body h (Or.inl k), lay_1 f k, lay_1 (noBody f) k]
    exact reck_none _
  · rw [lay_2 f k, lay_2 (noBody f) k]
    unfold layReqP
    simp only [← List.append_assoc]
    exact reck_body _ _
  · rw [lay_3 f k, lay_3 (noBody f) k]
    simp only [← List.append_assoc]
    exact reck_body _ _
  · rw [same_own_body h (Or.inr (Or.inl k)), lay_4 f k, lay_4 (noBody f) k]
    exact reck_none _
  · rw [same_own_body h (Or.inr (Or.inr k)), lay_5 f k, lay_5 (noBody f) k]
    exact reck_none _
  · rw [lay_6 f k, lay_6 (noBody f) k]
    exact reck_body _ _
theorem mayReq_of {f : Fr} (h : mayReqP f = true) : 0 ≤ f.lim.1 ∧ 0 ≤ f.lim.2.1 ∧ 0 ≤ f.lim.2.2 ∧ f.args.length ≤ 8 ∧ longA f.args = false := of_decide_eq_true h
theorem mayHello_of {f : Fr} (h : mayHelloP f = true) : f.ver = 1 ∧ 1 ≤ f.slots ∧ f.slots ≤ 64 := of_decide_eq_true h
theorem mayRes_of {f : Fr} (h : mayResP f = true) : 1 ≤ f.status ∧ f.status ≤ 3 := by
  rcases of_decide_eq_true h with h | ⟨h | h, _⟩ <;> omega
theorem lay_short (f : Fr) (hm : mayF f = true) (ht : f.tool.length = 32) : (layP (noBody f)).length ≤ 1000000 := by
  unfold mayF at hm
  have h1 := sn_length_le f.id.toNat
  have hm0 : (tx (mk (noBody f).body)).length = 1 := rfl
  by_cases k1 : f.kind = 1
  · have := sns_length [f.ver.toNat, f.slots.toNat]
    rw [lay_1 (noBody f) k1]
    simp only [List.length_append, List.length_cons, List.length_nil] at this ⊢
    show (sns [f.ver.toNat, f.slots.toNat]).length + f.tool.length ≤ 1000000
    omega
  · rw [if_neg k1] at hm
    by_cases k2 : f.kind = 2
    · rw [if_pos k2] at hm
      obtain ⟨_, _, _, hA, hL⟩ := mayReq_of hm
      have h2 := ls_len hL hA
      have h3 := sns_length [f.lim.1.toNat, f.lim.2.1.toNat, f.lim.2.2.toNat]
      rw [lay_2 (noBody f) k2]
      unfold layReqP
      simp only [List.length_append, List.length_cons, List.length_nil] at h3 ⊢
      rw [hm0]
      show (sn f.id.toNat).length + ((sns [f.lim.1.toNat, f.lim.2.1.toNat, f.lim.2.2.toNat]).length + ((ls (f.args.map mk)).length + 1)) ≤ 1000000
      omega
    · by_cases k3 : f.kind = 3
      · have h3 := sns_length [f.status.toNat]
        rw [lay_3 (noBody f) k3]
        simp only [List.length_append, List.length_cons, List.length_nil] at h3 ⊢
        rw [hm0]
        show (sn f.id.toNat).length + ((sns [f.status.toNat]).length + 1) ≤ 1000000
        omega
      · by_cases k4 : f.kind = 4
        · rw [lay_4 (noBody f) k4]
          show (sn f.id.toNat).length ≤ 1000000
          omega
        · by_cases k6 : f.kind = 6
          · rw [lay_6 (noBody f) k6, hm0]
            omega
          · unfold layP
            rw [if_neg (show ¬ (noBody f).kind = 1 from k1), if_neg (show ¬ (noBody f).kind = 2 from k2), if_neg (show ¬ (noBody f).kind = 3 from k3), if_neg (show ¬ (noBody f).kind = 4 from k4), if_neg (show ¬ (noBody f).kind = 6 from k6)]
            simp
theorem body_le (f : Fr) (h : f.kind = 2 ∨ f.kind = 3 ∨ f.kind = 6) (hl : (bodyP f).length ≤ 2097152) : f.body.length ≤ 2097152 := by
  have h1 := tx_len_ge f.body
  unfold bodyP at hl
  rw [List.length_append] at hl
  rcases h with k | k | k
  · rw [lay_2 f k] at hl
    unfold layReqP at hl
    simp only [List.length_append] at hl
    omega
  · rw [lay_3 f k] at hl
    simp only [List.length_append] at hl
    omega
  · rw [lay_6 f k] at hl
    omega
end Go.Proofs.Ytjinkahlfigdcaa

/- A frame that was read is within its types. -/
namespace Go.Proofs.Ytjinkahlfigdcaa
theorem rng_of {W : World} {v : Value} {f : Fr} {va : Value} (h : FRead W v f va) (hb : f.body.length ≤ 140737488355327) : Rng f :=
  ⟨h.tool, h.ints.2.1.1, h.ints.2.1.2, h.ints.2.2.1.2, h.ints.2.2.2.1.2, h.ints.2.2.2.2.2, h.lims.1.2, h.lims.2.1.2, h.lims.2.2.2, hb, by have := h.many; unfold maxLen at this; omega⟩
end Go.Proofs.Ytjinkahlfigdcaa

/- Makers of frames with a text of their own. -/
namespace Go.Proofs.Ytjinkahlfigdcaa
open Go.RowKit Go.BigFrame

set_option maxHeartbeats 1000000 in
theorem clone_any (s : ByteArray) (w : World) (hs : s.size ≤ 281474976710656) :
    Calls Try.prog 39 #[.string s] w fun e w' => e = .returned (.string s) ∧ Below w.heap.size w w' := by
  have H := hid (Try.stringslite_Clone s · hs)
  clear hs
  go_enter Try.func39, Try.ntmps39
  go_wp2_with (go_at_call 59; refine (H.out _).mono ?_; rintro e w' ⟨rfl, hb⟩)
  go_ret
  exact ⟨rfl, hb⟩

end Go.Proofs.Ytjinkahlfigdcaa

/- Request: a frame with texts of its own. -/
namespace Go.Proofs.Ytjinkahlfigdcaa
open Go.RowKit Go.BigFrame

theorem OwnS.alloc {w : World} {base : Nat} {v : Value} {ts : List (List UInt8)} (h : OwnS w base v ts) (o : Obj) : OwnS (w.alloc o) base v ts := World.ownsRow.alloc h o
theorem own_below {w w' : World} {base : Nat} {v : Value} {ts : List (List UInt8)} (h : OwnS w base v ts) (hb : base ≤ w.heap.size) (hg : w.grownBy w' v.ownBlock) : Below base w w' :=
  ⟨hg.os, hg.tape, hg.output, hg.size, fun k hk => hg.block k (by omega) (fun e => by have := (h.lt k e.symm).1; omega)⟩
/-- one text, laid as a slice -/
theorem strs_one (w : World) (p : ByteArray) : Strs (w.alloc (.cells #[.string p] 9)) (.slice (some ⟨w.heap.size, 0, none⟩) 1 1) [bl p] := by
  refine Or.inr ⟨w.heap.size, 0, 1, rfl, by simp, Nat.le_refl _, fun j hj => ?_⟩
  match j, hj with
  | 0, _ => simp [mk_bl]
theorem take_more (A : List (List UInt8)) (k : Nat) (hk : k < A.length) : A.take k ++ [A.getD k []] = A.take (k + 1) := by
  rw [List.take_succ_eq_append_getElem hk, List.getD_eq_getElem?_getD, List.getElem?_eq_getElem hk]
  rfl

set_option maxRecDepth 100000 in
set_option maxHeartbeats 2000000 in
theorem request_any (i l1 l2 l3 : Int) (va : Value) (A : List (List UInt8)) (B : List UInt8) (w : World) (ha : Strs w va A) (hn : A.length ≤ 8796093022207) (hA : ∀ t ∈ A, t.length ≤ 281474976710656) (hB : B.length ≤ 281474976710656) :
    Calls Try.prog 21 #[.int .u64 i, .agg #[.int .i64 l1, .int .i64 l2, .int .i64 l3], .string (mk B), va] w fun e w' => ∃ vo, e = .returned (.agg (fcells (reqF i (l1, l2, l3) A B) vo).toArray) ∧ Strs w' vo A ∧ Below w.heap.size w w' := by
  obtain ⟨aa, ca, rfl⟩ := ha.shape
  have HNB := hid (hp_two w (.cells #[.int .i64 l1, .int .i64 l2, .int .i64 l3] 26) (.cells (fcells zF nS).toArray 29))
  have HBL := hid (below_walk2 w (.cells #[.int .i64 l1, .int .i64 l2, .int .i64 l3] 26) (.cells (fcells zF nS).toArray 29))
  have HZ : Hid (((w.alloc (.cells #[.int .i64 l1, .int .i64 l2, .int .i64 l3] 26)).alloc (.cells (fcells zF nS).toArray 29)).heap.size = w.heap.size + 2) := hid (by simp)
  have HZ1 : Hid ((w.alloc (.cells #[.int .i64 l1, .int .i64 l2, .int .i64 l3] 26)).heap.size = w.heap.size + 1) := hid (by simp)
  have HSA := hid (ha.below HBL.out)
  have HCB := hid (clone_any (mk B) · (by rw [mk_size]; exact hB))
  have HAL := hid hA
  have HNL := hid hn
  clear ha hA hB hn
  go_enter Try.func21, Try.ntmps21
  go_wp2_with (refine al_row (by rfl) 29 (by rfl) _ zeroFrame ?_)
  try rw [HZ1.out]
  generalize (w.alloc (.cells #[.int .i64 l1, .int .i64 l2, .int .i64 l3] 26)).alloc (.cells (fcells zF nS).toArray 29) = w0 at HNB HBL HZ HSA ⊢
  clear HZ1
  go_loopw [9, 14] (fun v i wr => ∃ k : Nat, k ≤ A.length ∧ i = .int .i64 k ∧ Hid (OwnS wr w0.heap.size v (A.take k)) ∧ Hid (Below w0.heap.size w0 wr)) (fun _ i _ => A.length - (intOf i).toNat)
  case atStart => exact ⟨0, by omega, rfl, OwnS.nil _ _, Below.refl _ _⟩
  case round =>
    obtain ⟨k, hk, rfl, HO, HB⟩ := hrel
    by_cases hlt : k < A.length
    · obtain ⟨g1, o1, rfl, c1⟩ := (HSA.out.below HB.out).at k hlt
      have HC := hid (clone_any (mk (A.getD k [])) · (by
        rw [mk_size]
        refine HAL.out _ ?_
        rw [List.getD_eq_getElem?_getD, List.getElem?_eq_getElem hlt]
        exact List.getElem_mem hlt))
      have HTM := hid (take_more A k hlt)
      obtain ⟨X, HX⟩ : ∃ X, Hid (A.getD k [] = X) := ⟨_, rfl⟩
      rw [HX.out] at c1 HC HTM
      have hki : (k : Int) < (A.length : Int) := by omega
      have hd : decide ((k : Int) < (A.length : Int)) = true := by simpa using hki
      have hkw : IntKind.i64.wrap ((k : Int) + 1) = (k : Int) + 1 := by rw [IntKind.wrap_i64]; have := HNL.out; omega
      go_wp2_with fail
      refine (HC.out wr).mono ?_
      rintro e w2 ⟨rfl, hb2⟩
      have HO2 := hid (HO.out.below hb2)
      have HB2 := hid (below_tr HB.out (hb2.mono HB.out.size))
      clear hb2 HO HB HC c1
      go_wp2_with (at_builtin; refine app_text rfl _ _ rfl w0.heap.size _ _ rfl (HO2.out.alloc _) _ _ rfl (strs_one _ (mk X)) ?c1 ?c2 ?_)
      case c1 => simp; have := HNL.out; omega
      case c2 => simp; have := HB2.out.size; omega
      intro v3 w3 ho3 hg3 _
      rw [bl_mk, HTM.out] at ho3
      have HO3 := hid ho3
      have HB3 := hid (below_tr (below_tr HB2.out ((below_walk w2 (.cells #[.string (mk X)] 9)).mono HB2.out.size)) (own_below (HO2.out.alloc (.cells #[.string (mk X)] 9)) (by simp; have := HB2.out.size; omega) hg3))
      obtain ⟨ao, c, ev⟩ := ho3.strs.shape
      subst ev
      clear ho3 hg3
      go_wp2
      exact ⟨⟨k + 1, by omega, by simp, HO3, HB3⟩, by simp [intOf]; omega⟩
    · obtain rfl : k = A.length := by omega
      rw [List.take_length] at HO
      obtain ⟨ao, c, ev⟩ := HO.out.strs.shape
      subst ev
      have HN1 := hid ((HB.out.block w.heap.size (by have := HZ.out; omega)).trans HNB.out.1)
      have HN2 := hid ((HB.out.block (w.heap.size + 1) (by have := HZ.out; omega)).trans HNB.out.2)
      have HLT := hid (show w.heap.size < wr.heap.size by have := HZ.out; have := HB.out.size; omega)
      have x0 := cell_of_row wr w.heap.size 0 _ _ _ HN1.out
      have x1 := cell_of_row wr w.heap.size 1 _ _ _ HN1.out
      have x2 := cell_of_row wr w.heap.size 2 _ _ _ HN1.out
      simp at x0 x1 x2
      have c0 := fun p : Bel wr => p.cell x0 HLT.out
      have c1 := fun p : Bel wr => p.cell x1 HLT.out
      have c2 := fun p : Bel wr => p.cell x2 HLT.out
      have ib : Nonempty (Bel wr) := bel_some wr
      clear x0 x1 x2 HN1 HNB
      go_wp2_with fail
      refine wp_region_bel_tail 5 (by kernel_rfl) (by kernel_rfl) ?_
      simp only [List.take_succ_cons, List.take_zero, List.drop_succ_cons, List.drop_zero]
      repeat (go_big_quiet_step (first | (go_at_call 39; exact bel_of (HCB.out _))))
      refine wpQuiet_nil ?_
      rintro w3 ⟨⟨w3', hb3⟩, hw3⟩
      obtain rfl : w3 = w3' := hw3
      have HN3 := hid ((hb3.block (w.heap.size + 1) (by have := HZ.out; have := HB.out.size; omega)).trans HN2.out)
      have HB3 := hid (below_then (below_then HBL.out HB.out) hb3)
      have HO3 := hid (HO.out.below hb3)
      have HSZ := hid (frame_size (reqF i (l1, l2, l3) A B) (.slice ao A.length c) rfl)
      have HON := hid (fcells_one (reqF i (l1, l2, l3) A B) (.slice ao A.length c) rfl)
      have HOS := hid (show (fcells zF nS).toArray.size = (fcells (reqF i (l1, l2, l3) A B) (.slice ao A.length c)).length by rw [fcells_length _ _ rfl]; rfl)
      clear hb3 c0 c1 c2 ib HN2 HO HB
      go_wp2_with (first
        | (refine bd_row (by rfl) 29 #[(0, .const (.int .i64 2)), (1, .tmp 24), (6, .tmp 25), (7, .tmp 26), (8, .tmp 28)] (by rfl) _ (by simp [Act.eval]) _ (built_req i l1 l2 l3 ao A.length c B A) ?_)
        | (refine st_row (by rfl) 29 _ _ (by rfl) (w.heap.size + 1) (fcells (reqF i (l1, l2, l3) A B) (.slice ao A.length c)) (by rfl) (by rfl) 29 _ HN3.out HSZ.out HOS.out HON.out ?_; intro w4 hw4))
      refine ret_row 8 29 rfl (w.heap.size + 1) rfl (fcells (reqF i (l1, l2, l3) A B) (.slice ao A.length c)) 29 hw4.blk _ Try.underlying29 rfl HSZ.out rfl ⟨_, rfl, ?_, Below.of_gb HB3.out hw4.grown (by omega)⟩
      have hne : (Value.slice ao A.length c).ownBlock = none ∨ (Value.slice ao A.length c).ownBlock ≠ some (w.heap.size + 1) := by
        right
        intro e
        have := (HO3.out.lt _ e).1
        have := HZ.out
        omega
      exact (HO3.out.kept hw4.grown hne).strs

end Go.Proofs.Ytjinkahlfigdcaa

/- Request: a frame whose texts are a row of its own. -/
namespace Go.Proofs.Ytjinkahlfigdcaa
open Go.RowKit Go.BigFrame

set_option maxRecDepth 100000 in
set_option maxHeartbeats 2000000 in
theorem request_own (i l1 l2 l3 : Int) (va : Value) (A : List (List UInt8)) (B : List UInt8) (w : World) (ha : Strs w va A) (hn : A.length ≤ 8796093022207) (hA : ∀ t ∈ A, t.length ≤ 281474976710656) (hB : B.length ≤ 281474976710656) :
    Calls Try.prog 21 #[.int .u64 i, .agg #[.int .i64 l1, .int .i64 l2, .int .i64 l3], .string (mk B), va] w fun e w' => ∃ vo, e = .returned (.agg (fcells (reqF i (l1, l2, l3) A B) vo).toArray) ∧ OwnS w' w.heap.size vo A ∧ Below w.heap.size w w' := by
  obtain ⟨aa, ca, rfl⟩ := ha.shape
  have HNB := hid (hp_two w (.cells #[.int .i64 l1, .int .i64 l2, .int .i64 l3] 26) (.cells (fcells zF nS).toArray 29))
  have HBL := hid (below_walk2 w (.cells #[.int .i64 l1, .int .i64 l2, .int .i64 l3] 26) (.cells (fcells zF nS).toArray 29))
  have HZ : Hid (((w.alloc (.cells #[.int .i64 l1, .int .i64 l2, .int .i64 l3] 26)).alloc (.cells (fcells zF nS).toArray 29)).heap.size = w.heap.size + 2) := hid (by simp)
  have HZ1 : Hid ((w.alloc (.cells #[.int .i64 l1, .int .i64 l2, .int .i64 l3] 26)).heap.size = w.heap.size + 1) := hid (by simp)
  have HSA := hid (ha.below HBL.out)
  have HCB := hid (clone_any (mk B) · (by rw [mk_size]; exact hB))
  have HAL := hid hA
  have HNL := hid hn
  clear ha hA hB hn
  go_enter Try.func21, Try.ntmps21
  go_wp2_with (refine al_row (by rfl) 29 (by rfl) _ zeroFrame ?_)
  try rw [HZ1.out]
  generalize (w.alloc (.cells #[.int .i64 l1, .int .i64 l2, .int .i64 l3] 26)).alloc (.cells (fcells zF nS).toArray 29) = w0 at HNB HBL HZ HSA ⊢
  clear HZ1
  go_loopw [9, 14] (fun v i wr => ∃ k : Nat, k ≤ A.length ∧ i = .int .i64 k ∧ Hid (OwnS wr w0.heap.size v (A.take k)) ∧ Hid (Below w0.heap.size w0 wr)) (fun _ i _ => A.length - (intOf i).toNat)
  case atStart => exact ⟨0, by omega, rfl, OwnS.nil _ _, Below.refl _ _⟩
  case round =>
    obtain ⟨k, hk, rfl, HO, HB⟩ := hrel
    by_cases hlt : k < A.length
    · obtain ⟨g1, o1, rfl, c1⟩ := (HSA.out.below HB.out).at k hlt
      have HC := hid (clone_any (mk (A.getD k [])) · (by
        rw [mk_size]
        refine HAL.out _ ?_
        rw [List.getD_eq_getElem?_getD, List.getElem?_eq_getElem hlt]
        exact List.getElem_mem hlt))
      have HTM := hid (take_more A k hlt)
      obtain ⟨X, HX⟩ : ∃ X, Hid (A.getD k [] = X) := ⟨_, rfl⟩
      rw [HX.out] at c1 HC HTM
      have hki : (k : Int) < (A.length : Int) := by omega
      have hd : decide ((k : Int) < (A.length : Int)) = true := by simpa using hki
      have hkw : IntKind.i64.wrap ((k : Int) + 1) = (k : Int) + 1 := by rw [IntKind.wrap_i64]; have := HNL.out; omega
      go_wp2_with fail
      refine (HC.out wr).mono ?_
      rintro e w2 ⟨rfl, hb2⟩
      have HO2 := hid (HO.out.below hb2)
      have HB2 := hid (below_tr HB.out (hb2.mono HB.out.size))
      clear hb2 HO HB HC c1
      go_wp2_with (at_builtin; refine app_text rfl _ _ rfl w0.heap.size _ _ rfl (HO2.out.alloc _) _ _ rfl (strs_one _ (mk X)) ?c1 ?c2 ?_)
      case c1 => simp; have := HNL.out; omega
      case c2 => simp; have := HB2.out.size; omega
      intro v3 w3 ho3 hg3 _
      rw [bl_mk, HTM.out] at ho3
      have HO3 := hid ho3
      have HB3 := hid (below_tr (below_tr HB2.out ((below_walk w2 (.cells #[.string (mk X)] 9)).mono HB2.out.size)) (own_below (HO2.out.alloc (.cells #[.string (mk X)] 9)) (by simp; have := HB2.out.size; omega) hg3))
      obtain ⟨ao, c, ev⟩ := ho3.strs.shape
      subst ev
      clear ho3 hg3
      go_wp2
      exact ⟨⟨k + 1, by omega, by simp, HO3, HB3⟩, by simp [intOf]; omega⟩
    · obtain rfl : k = A.length := by omega
      rw [List.take_length] at HO
      obtain ⟨ao, c, ev⟩ := HO.out.strs.shape
      subst ev
      have HN1 := hid ((HB.out.block w.heap.size (by have := HZ.out; omega)).trans HNB.out.1)
      have HN2 := hid ((HB.out.block (w.heap.size + 1) (by have := HZ.out; omega)).trans HNB.out.2)
      have HLT := hid (show w.heap.size < wr.heap.size by have := HZ.out; have := HB.out.size; omega)
      have x0 := cell_of_row wr w.heap.size 0 _ _ _ HN1.out
      have x1 := cell_of_row wr w.heap.size 1 _ _ _ HN1.out
      have x2 := cell_of_row wr w.heap.size 2 _ _ _ HN1.out
      simp at x0 x1 x2
      have c0 := fun p : Bel wr => p.cell x0 HLT.out
      have c1 := fun p : Bel wr => p.cell x1 HLT.out
      have c2 := fun p : Bel wr => p.cell x2 HLT.out
      have ib : Nonempty (Bel wr) := bel_some wr
      clear x0 x1 x2 HN1 HNB
      go_wp2_with fail
      refine wp_region_bel_tail 5 (by kernel_rfl) (by kernel_rfl) ?_
      simp only [List.take_succ_cons, List.take_zero, List.drop_succ_cons, List.drop_zero]
      repeat (go_big_quiet_step (first | (go_at_call 39; exact bel_of (HCB.out _))))
      refine wpQuiet_nil ?_
      rintro w3 ⟨⟨w3', hb3⟩, hw3⟩
      obtain rfl : w3 = w3' := hw3
      have HN3 := hid ((hb3.block (w.heap.size + 1) (by have := HZ.out; have := HB.out.size; omega)).trans HN2.out)
      have HB3 := hid (below_then (below_then HBL.out HB.out) hb3)
      have HO3 := hid (HO.out.below hb3)
      have HSZ := hid (frame_size (reqF i (l1, l2, l3) A B) (.slice ao A.length c) rfl)
      have HON := hid (fcells_one (reqF i (l1, l2, l3) A B) (.slice ao A.length c) rfl)
      have HOS := hid (show (fcells zF nS).toArray.size = (fcells (reqF i (l1, l2, l3) A B) (.slice ao A.length c)).length by rw [fcells_length _ _ rfl]; rfl)
      clear hb3 c0 c1 c2 ib HN2 HO HB
      go_wp2_with (first
        | (refine bd_row (by rfl) 29 #[(0, .const (.int .i64 2)), (1, .tmp 24), (6, .tmp 25), (7, .tmp 26), (8, .tmp 28)] (by rfl) _ (by simp [Act.eval]) _ (built_req i l1 l2 l3 ao A.length c B A) ?_)
        | (refine st_row (by rfl) 29 _ _ (by rfl) (w.heap.size + 1) (fcells (reqF i (l1, l2, l3) A B) (.slice ao A.length c)) (by rfl) (by rfl) 29 _ HN3.out HSZ.out HOS.out HON.out ?_; intro w4 hw4))
      refine ret_row 8 29 rfl (w.heap.size + 1) rfl (fcells (reqF i (l1, l2, l3) A B) (.slice ao A.length c)) 29 hw4.blk _ Try.underlying29 rfl HSZ.out rfl ⟨_, rfl, ?_, Below.of_gb HB3.out hw4.grown (by omega)⟩
      have hne : (Value.slice ao A.length c).ownBlock = none ∨ (Value.slice ao A.length c).ownBlock ≠ some (w.heap.size + 1) := by
        right
        intro e
        have := (HO3.out.lt _ e).1
        have := HZ.out
        omega
      exact (HO3.out.kept hw4.grown hne).le (by have := HZ.out; omega)


end Go.Proofs.Ytjinkahlfigdcaa

/- Whether all fields of two frames are the same. -/
namespace Go.Proofs.Ytjinkahlfigdcaa
open Go.RowKit

set_option maxRecDepth 100000 in
set_option maxHeartbeats 4000000 in
theorem rsame_any (f g : Fr) (va vb : Value) (w : World) (hf : f.tool.length = 32) (hg : g.tool.length = 32) (ha : Strs w va f.args) (hb : Strs w vb g.args) (hn : f.args.length ≤ 9223372036854775807) :
    Calls Try.prog 18 #[.agg (fcells f va).toArray, .agg (fcells g vb).toArray] w fun e w' => e = .returned (.bool (sameP f g)) ∧ Below w.heap.size w w' := by
  have HNA := hid (hp_two w (.cells (fcells f va).toArray 29) (.cells (fcells g vb).toArray 29))
  have HBL := hid (below_walk2 w (.cells (fcells f va).toArray 29) (.cells (fcells g vb).toArray 29))
  have HSA := hid ha
  have HSB := hid hb
  have HN := hid hn
  have HF := hid hf
  have HG := hid hg
  clear ha hb hn hf hg
  go_enter Try.func18, Try.ntmps18
  go_upto_region 1 with fail
  generalize (w.alloc (.cells (fcells f va).toArray 29)).alloc (.cells (fcells g vb).toArray 29) = w2 at HNA HBL ⊢
  have HA := hid (Fb.of HNA.out.1 HF.out)
  have HB := hid (Fb.of HNA.out.2 HG.out)
  clear HNA
  have HSA2 := hid (HSA.out.below HBL.out)
  have HSB2 := hid (HSB.out.below HBL.out)
  clear HSA HSB
  have hlg := limG
  have hdg := digG
  have HEQ := hid (wsame_any va vb f.args g.args w2 HSA2.out HSB2.out HN.out)
  obtain ⟨fk, fi, fv, fs, ft, fst, fl, fa, fb⟩ := f
  obtain ⟨gk, gi, gv, gs, gt, gst, gl, ga, gb⟩ := g
  obtain ⟨fl1, fl2, fl3⟩ := fl
  obtain ⟨gl1, gl2, gl3⟩ := gl
  obtain ⟨B2, HB2⟩ : ∃ b : Nat, Hid (w.heap.size + 1 = b) := ⟨_, rfl⟩
  obtain ⟨B1, HB1⟩ : ∃ b : Nat, Hid (w.heap.size = b) := ⟨_, rfl⟩
  rw [HB2.out] at HB ⊢
  rw [HB1.out] at HA ⊢
  clear HB1 HB2
  by_cases hne : fk = gk
  · subst hne
    by_cases hne : fi = gi
    · subst hne
      by_cases hne : fv = gv
      · subst hne
        by_cases hne : fs = gs
        · subst hne
          by_cases hne : ft = gt
          · subst hne
            by_cases hne : fst = gst
            · subst hne
              by_cases hne : (fl1, fl2, fl3) = (gl1, gl2, gl3)
              · injection hne with h1 h2; injection h2 with h2 h3; subst h1; subst h2; subst h3
                by_cases hne : fa = ga
                · subst hne
                  by_cases hne : fb = gb
                  · subst hne
                    have HR : Hid (sameP ⟨fk, fi, fv, fs, ft, fst, (fl1, fl2, fl3), fa, fb⟩ ⟨fk, fi, fv, fs, ft, fst, (fl1, fl2, fl3), fa, fb⟩ = true) := hid (sameP_self _)
                    have a0 := HA.out.k
                    have b0 := HB.out.k
                    have a1 := HA.out.i
                    have b1 := HB.out.i
                    have a2 := HA.out.v
                    have b2 := HB.out.v
                    have a3 := HA.out.s
                    have b3 := HB.out.s
                    have a4 := hid HA.out.t
                    have b4 := hid HB.out.t
                    have HS1 := hid (tool_size ft HF.out)
                    have HS2 := hid (tool_size ft HG.out)
                    have a5 := HA.out.st
                    have b5 := HB.out.st
                    have a61 := HA.out.l1
                    have b61 := HB.out.l1
                    have a62 := HA.out.l2
                    have b62 := HB.out.l2
                    have a63 := HA.out.l3
                    have b63 := HB.out.l3
                    have a7 := HA.out.a
                    have b7 := HB.out.a
                    have e4 := dig_eql ft ft HF.out HF.out
                    rw [decide_eq_true rfl] at e4
                    have e6 := lim_eql fl1 fl2 fl3 fl1 fl2 fl3
                    rw [decide_eq_true rfl] at e6
                    have HE2 := hid HEQ.out
                    simp only [decide_true] at HE2
                    have HA8 := hid (fun n => (show (w2.drewN n).cell? ⟨B1, 41, none⟩ = _ from HA.out.bd))
                    have HB8 := hid (fun n => (show (w2.drewN n).cell? ⟨B2, 41, none⟩ = _ from HB.out.bd))
                    clear HA HB HEQ HF HG
                    go_wp2_with (first | (refine ld_gd (by rfl) 24 (.tmp 32) (by rfl) B1 4 (by rfl) _ _ a4.out Try.underlying24 rfl HS1.out ?_) | (refine ld_gd (by rfl) 24 (.tmp 34) (by rfl) B2 4 (by rfl) _ _ b4.out Try.underlying24 rfl HS2.out ?_))
                    refine HE2.out.mono ?_
                    rintro e w3 ⟨rfl, n, rfl⟩
                    have a8 := HA8.out n
                    have b8 := HB8.out n
                    clear HA8 HB8
                    clear HE2
                    go_wp2
                    go_ret
                    exact ⟨ret_eq HR.out.symm, HBL.out.trans ⟨rfl, rfl, rfl, Nat.le_refl _, fun _ _ => rfl⟩⟩
                  · have HR : Hid (sameP ⟨fk, fi, fv, fs, ft, fst, (fl1, fl2, fl3), fa, fb⟩ ⟨fk, fi, fv, fs, ft, fst, (fl1, fl2, fl3), fa, gb⟩ = false) := hid (decide_eq_false (fun h9 => hne (by exact h9.2.2.2.2.2.2.2.2)))
                    have a0 := HA.out.k
                    have b0 := HB.out.k
                    have a1 := HA.out.i
                    have b1 := HB.out.i
                    have a2 := HA.out.v
                    have b2 := HB.out.v
                    have a3 := HA.out.s
                    have b3 := HB.out.s
                    have a4 := hid HA.out.t
                    have b4 := hid HB.out.t
                    have HS1 := hid (tool_size ft HF.out)
                    have HS2 := hid (tool_size ft HG.out)
                    have a5 := HA.out.st
                    have b5 := HB.out.st
                    have a61 := HA.out.l1
                    have b61 := HB.out.l1
                    have a62 := HA.out.l2
                    have b62 := HB.out.l2
                    have a63 := HA.out.l3
                    have b63 := HB.out.l3
                    have a7 := HA.out.a
                    have b7 := HB.out.a
                    have e4 := dig_eql ft ft HF.out HF.out
                    rw [decide_eq_true rfl] at e4
                    have e6 := lim_eql fl1 fl2 fl3 fl1 fl2 fl3
                    rw [decide_eq_true rfl] at e6
                    have HE2 := hid HEQ.out
                    simp only [decide_true] at HE2
                    have HA8 := hid (fun n => (show (w2.drewN n).cell? ⟨B1, 41, none⟩ = _ from HA.out.bd))
                    have HB8 := hid (fun n => (show (w2.drewN n).cell? ⟨B2, 41, none⟩ = _ from HB.out.bd))
                    have t1 : ¬ (mk fb).toList = (mk gb).toList := fun h9 => hne ((bl_mk fb).symm.trans (h9.trans (bl_mk gb)))
                    have t2 : ((mk fb).toList == (mk gb).toList) = false := by simpa using t1
                    clear HA HB HEQ HF HG
                    clear hne
                    go_wp2_with (first | (refine ld_gd (by rfl) 24 (.tmp 32) (by rfl) B1 4 (by rfl) _ _ a4.out Try.underlying24 rfl HS1.out ?_) | (refine ld_gd (by rfl) 24 (.tmp 34) (by rfl) B2 4 (by rfl) _ _ b4.out Try.underlying24 rfl HS2.out ?_))
                    refine HE2.out.mono ?_
                    rintro e w3 ⟨rfl, n, rfl⟩
                    have a8 := HA8.out n
                    have b8 := HB8.out n
                    clear HA8 HB8
                    clear HE2
                    go_wp2
                    go_ret
                    exact ⟨ret_eq HR.out.symm, HBL.out.trans ⟨rfl, rfl, rfl, Nat.le_refl _, fun _ _ => rfl⟩⟩
                · have HR : Hid (sameP ⟨fk, fi, fv, fs, ft, fst, (fl1, fl2, fl3), fa, fb⟩ ⟨fk, fi, fv, fs, ft, fst, (fl1, fl2, fl3), ga, gb⟩ = false) := hid (decide_eq_false (fun h9 => hne (by exact h9.2.2.2.2.2.2.2.1)))
                  have a0 := HA.out.k
                  have b0 := HB.out.k
                  have a1 := HA.out.i
                  have b1 := HB.out.i
                  have a2 := HA.out.v
                  have b2 := HB.out.v
                  have a3 := HA.out.s
                  have b3 := HB.out.s
                  have a4 := hid HA.out.t
                  have b4 := hid HB.out.t
                  have HS1 := hid (tool_size ft HF.out)
                  have HS2 := hid (tool_size ft HG.out)
                  have a5 := HA.out.st
                  have b5 := HB.out.st
                  have a61 := HA.out.l1
                  have b61 := HB.out.l1
                  have a62 := HA.out.l2
                  have b62 := HB.out.l2
                  have a63 := HA.out.l3
                  have b63 := HB.out.l3
                  have a7 := HA.out.a
                  have b7 := HB.out.a
                  have e4 := dig_eql ft ft HF.out HF.out
                  rw [decide_eq_true rfl] at e4
                  have e6 := lim_eql fl1 fl2 fl3 fl1 fl2 fl3
                  rw [decide_eq_true rfl] at e6
                  have HE2 := hid HEQ.out
                  simp only [decide_eq_false hne] at HE2
                  clear HA HB HEQ HF HG
                  clear hne
                  go_wp2_with (first | (refine ld_gd (by rfl) 24 (.tmp 32) (by rfl) B1 4 (by rfl) _ _ a4.out Try.underlying24 rfl HS1.out ?_) | (refine ld_gd (by rfl) 24 (.tmp 34) (by rfl) B2 4 (by rfl) _ _ b4.out Try.underlying24 rfl HS2.out ?_))
                  refine HE2.out.mono ?_
                  rintro e w3 ⟨rfl, n, rfl⟩
                  clear HE2
                  go_wp2
                  go_ret
                  exact ⟨ret_eq HR.out.symm, HBL.out.trans ⟨rfl, rfl, rfl, Nat.le_refl _, fun _ _ => rfl⟩⟩
              · have HR : Hid (sameP ⟨fk, fi, fv, fs, ft, fst, (fl1, fl2, fl3), fa, fb⟩ ⟨fk, fi, fv, fs, ft, fst, (gl1, gl2, gl3), ga, gb⟩ = false) := hid (decide_eq_false (fun h9 => hne (by exact h9.2.2.2.2.2.2.1)))
                have a0 := HA.out.k
                have b0 := HB.out.k
                have a1 := HA.out.i
                have b1 := HB.out.i
                have a2 := HA.out.v
                have b2 := HB.out.v
                have a3 := HA.out.s
                have b3 := HB.out.s
                have a4 := hid HA.out.t
                have b4 := hid HB.out.t
                have HS1 := hid (tool_size ft HF.out)
                have HS2 := hid (tool_size ft HG.out)
                have a5 := HA.out.st
                have b5 := HB.out.st
                have a61 := HA.out.l1
                have b61 := HB.out.l1
                have a62 := HA.out.l2
                have b62 := HB.out.l2
                have a63 := HA.out.l3
                have b63 := HB.out.l3
                have e4 := dig_eql ft ft HF.out HF.out
                rw [decide_eq_true rfl] at e4
                have e6 := lim_eql fl1 fl2 fl3 gl1 gl2 gl3
                rw [decide_eq_false hne] at e6
                clear HA HB HEQ HF HG
                clear hne
                go_wp2_with (first | (refine ld_gd (by rfl) 24 (.tmp 32) (by rfl) B1 4 (by rfl) _ _ a4.out Try.underlying24 rfl HS1.out ?_) | (refine ld_gd (by rfl) 24 (.tmp 34) (by rfl) B2 4 (by rfl) _ _ b4.out Try.underlying24 rfl HS2.out ?_))
                go_ret
                exact ⟨ret_eq HR.out.symm, HBL.out⟩
            · have HR : Hid (sameP ⟨fk, fi, fv, fs, ft, fst, (fl1, fl2, fl3), fa, fb⟩ ⟨fk, fi, fv, fs, ft, gst, (gl1, gl2, gl3), ga, gb⟩ = false) := hid (decide_eq_false (fun h9 => hne (by exact h9.2.2.2.2.2.1)))
              have a0 := HA.out.k
              have b0 := HB.out.k
              have a1 := HA.out.i
              have b1 := HB.out.i
              have a2 := HA.out.v
              have b2 := HB.out.v
              have a3 := HA.out.s
              have b3 := HB.out.s
              have a4 := hid HA.out.t
              have b4 := hid HB.out.t
              have HS1 := hid (tool_size ft HF.out)
              have HS2 := hid (tool_size ft HG.out)
              have a5 := HA.out.st
              have b5 := HB.out.st
              have e4 := dig_eql ft ft HF.out HF.out
              rw [decide_eq_true rfl] at e4
              have q1 : (fst == gst) = false := by simpa using hne
              clear HA HB HEQ HF HG
              go_wp2_with (first | (refine ld_gd (by rfl) 24 (.tmp 32) (by rfl) B1 4 (by rfl) _ _ a4.out Try.underlying24 rfl HS1.out ?_) | (refine ld_gd (by rfl) 24 (.tmp 34) (by rfl) B2 4 (by rfl) _ _ b4.out Try.underlying24 rfl HS2.out ?_))
              go_ret
              exact ⟨ret_eq HR.out.symm, HBL.out⟩
          · have HR : Hid (sameP ⟨fk, fi, fv, fs, ft, fst, (fl1, fl2, fl3), fa, fb⟩ ⟨fk, fi, fv, fs, gt, gst, (gl1, gl2, gl3), ga, gb⟩ = false) := hid (decide_eq_false (fun h9 => hne (by exact h9.2.2.2.2.1)))
            have a0 := HA.out.k
            have b0 := HB.out.k
            have a1 := HA.out.i
            have b1 := HB.out.i
            have a2 := HA.out.v
            have b2 := HB.out.v
            have a3 := HA.out.s
            have b3 := HB.out.s
            have a4 := hid HA.out.t
            have b4 := hid HB.out.t
            have HS1 := hid (tool_size ft HF.out)
            have HS2 := hid (tool_size gt HG.out)
            have e4 := dig_eql ft gt HF.out HG.out
            rw [decide_eq_false hne] at e4
            clear HA HB HEQ HF HG
            clear hne
            go_wp2_with (first | (refine ld_gd (by rfl) 24 (.tmp 32) (by rfl) B1 4 (by rfl) _ _ a4.out Try.underlying24 rfl HS1.out ?_) | (refine ld_gd (by rfl) 24 (.tmp 34) (by rfl) B2 4 (by rfl) _ _ b4.out Try.underlying24 rfl HS2.out ?_))
            go_ret
            exact ⟨ret_eq HR.out.symm, HBL.out⟩
        · have HR : Hid (sameP ⟨fk, fi, fv, fs, ft, fst, (fl1, fl2, fl3), fa, fb⟩ ⟨fk, fi, fv, gs, gt, gst, (gl1, gl2, gl3), ga, gb⟩ = false) := hid (decide_eq_false (fun h9 => hne (by exact h9.2.2.2.1)))
          have a0 := HA.out.k
          have b0 := HB.out.k
          have a1 := HA.out.i
          have b1 := HB.out.i
          have a2 := HA.out.v
          have b2 := HB.out.v
          have a3 := HA.out.s
          have b3 := HB.out.s
          have q1 : (fs == gs) = false := by simpa using hne
          clear HA HB HEQ HF HG
          go_wp2
          go_ret
          exact ⟨ret_eq HR.out.symm, HBL.out⟩
      · have HR : Hid (sameP ⟨fk, fi, fv, fs, ft, fst, (fl1, fl2, fl3), fa, fb⟩ ⟨fk, fi, gv, gs, gt, gst, (gl1, gl2, gl3), ga, gb⟩ = false) := hid (decide_eq_false (fun h9 => hne (by exact h9.2.2.1)))
        have a0 := HA.out.k
        have b0 := HB.out.k
        have a1 := HA.out.i
        have b1 := HB.out.i
        have a2 := HA.out.v
        have b2 := HB.out.v
        have q1 : (fv == gv) = false := by simpa using hne
        clear HA HB HEQ HF HG
        go_wp2
        go_ret
        exact ⟨ret_eq HR.out.symm, HBL.out⟩
    · have HR : Hid (sameP ⟨fk, fi, fv, fs, ft, fst, (fl1, fl2, fl3), fa, fb⟩ ⟨fk, gi, gv, gs, gt, gst, (gl1, gl2, gl3), ga, gb⟩ = false) := hid (decide_eq_false (fun h9 => hne (by exact h9.2.1)))
      have a0 := HA.out.k
      have b0 := HB.out.k
      have a1 := HA.out.i
      have b1 := HB.out.i
      have q1 : (fi == gi) = false := by simpa using hne
      clear HA HB HEQ HF HG
      go_wp2
      go_ret
      exact ⟨ret_eq HR.out.symm, HBL.out⟩
  · have HR : Hid (sameP ⟨fk, fi, fv, fs, ft, fst, (fl1, fl2, fl3), fa, fb⟩ ⟨gk, gi, gv, gs, gt, gst, (gl1, gl2, gl3), ga, gb⟩ = false) := hid (decide_eq_false (fun h9 => hne (by exact h9.1)))
    have a0 := HA.out.k
    have b0 := HB.out.k
    have q1 : (fk == gk) = false := by simpa using hne
    clear HA HB HEQ HF HG
    go_wp2
    go_ret
    exact ⟨ret_eq HR.out.symm, HBL.out⟩

end Go.Proofs.Ytjinkahlfigdcaa

/- A Bye, written by the document. -/
namespace Go.Proofs.Ytjinkahlfigdcaa
open Go.RowKit Go.BigFrame

set_option maxRecDepth 100000 in
set_option maxHeartbeats 4000000 in
theorem onlyBye_any (w : World) :
    Calls Try.prog 45 #[.agg (fcells byeF nS).toArray] w fun e w' => e = .returned (.agg (fcells byeF nS).toArray) ∧ Below w.heap.size w w' := by
  have HNB := hid (hp_two w (.cells (fcells byeF nS).toArray 29) (.cells (fcells zF nS).toArray 29))
  have HBL := hid (below_walk2 w (.cells (fcells byeF nS).toArray 29) (.cells (fcells zF nS).toArray 29))
  have HZ : Hid ((w.alloc (.cells (fcells byeF nS).toArray 29)).heap.size = w.heap.size + 1) := hid (by simp)
  have HSZ := hid (frame_size byeF nS rfl)
  go_enter Try.func45, Try.ntmps45
  go_upto_region 1 with (refine al_row (by rfl) 29 (by rfl) _ zeroFrame ?_)
  try rw [HZ.out]
  generalize (w.alloc (.cells (fcells byeF nS).toArray 29)).alloc (.cells (fcells zF nS).toArray 29) = w2 at HNB HBL ⊢
  have x0 : w2.cell? ⟨w.heap.size, 0, none⟩ = some (.int .i64 5) := (Fb.of HNB.out.1 rfl).k
  have HL2 := hid (hp_lt HNB.out.2)
  go_upto_region 2 with (first
    | (refine bd_row (by rfl) 29 #[(0, .tmp 5)] (by rfl) _ (by simp [Act.eval]) _ built_bye ?_)
    | (refine al_row (by rfl) 29 (by rfl) _ zeroFrame ?_)
    | (refine st_new (by rfl) 29 _ _ (by rfl) (fcells byeF nS) (by rfl) (by rfl) 29 _ HSZ.out rfl (fcells_one byeF nS rfl) ?_))
  have HN1 := hid ((below_walk w2 (.cells (fcells byeF nS).toArray 29)).block _ (by have := HL2.out; omega) |>.trans HNB.out.1)
  have HN2 := hid ((below_walk w2 (.cells (fcells byeF nS).toArray 29)).block _ HL2.out |>.trans HNB.out.2)
  have HN3 := hid (hp_new w2 (.cells (fcells byeF nS).toArray 29))
  have HB3 := hid (below_then HBL.out (below_walk w2 (.cells (fcells byeF nS).toArray 29)))
  obtain ⟨B3, HE3⟩ : ∃ b : Nat, Hid (w2.heap.size = b) := ⟨_, rfl⟩
  rw [HE3.out] at HN3 ⊢
  generalize w2.alloc (.cells (fcells byeF nS).toArray 29) = w3 at HN1 HN2 HN3 HB3 ⊢
  clear x0 HNB HBL HL2
  have x1 : w3.cell? ⟨w.heap.size, 0, none⟩ = some (.int .i64 5) := (Fb.of HN1.out rfl).k
  go_wp2_with (first
    | (refine ld_row (by rfl) 29 (.tmp 3) (by rfl) B3 (by rfl) (fcells byeF nS) 29 HN3.out _ Try.underlying29 rfl HSZ.out ?_)
    | (refine st_row (by rfl) 29 _ _ (by rfl) (w.heap.size + 1) (fcells byeF nS) (by rfl) (by rfl) 29 _ HN2.out HSZ.out rfl (fcells_one byeF nS rfl) ?_; intro w4 hw4))
  refine ret_row 2 29 rfl (w.heap.size + 1) rfl (fcells byeF nS) 29 hw4.blk _ Try.underlying29 rfl HSZ.out rfl ⟨rfl, Below.of_gb HB3.out hw4.grown (by omega)⟩

theorem ruint_five (w : World) : Calls Try.prog 27 #[.int .u64 5] w fun e w' => ∃ ao c, e = .returned (.slice ao 1 c) ∧ OwnB w' w.heap.size (.slice ao 1 c) [5] ∧ Below w.heap.size w w' := by
  refine (refUint_any 5 w (by decide)).mono ?_
  rintro e w' ⟨v, rfl, ho, hb⟩
  have ho' : OwnB w' w.heap.size v [5] := ho
  obtain ⟨ao, c, rfl⟩ := src_shape (ho'.src (by simp))
  exact ⟨ao, c, rfl, ho', hb⟩
theorem ruint_one (w : World) : Calls Try.prog 27 #[.int .u64 1] w fun e w' => ∃ ao c, e = .returned (.slice ao 1 c) ∧ OwnB w' w.heap.size (.slice ao 1 c) [1] ∧ Below w.heap.size w w' := by
  refine (refUint_any 1 w (by decide)).mono ?_
  rintro e w' ⟨v, rfl, ho, hb⟩
  have ho' : OwnB w' w.heap.size v [1] := ho
  obtain ⟨ao, c, rfl⟩ := src_shape (ho'.src (by simp))
  exact ⟨ao, c, rfl, ho', hb⟩

set_option maxRecDepth 100000 in
set_option maxHeartbeats 4000000 in
theorem bodyBye_any (w : World) :
    Calls Try.prog 26 #[.agg (fcells byeF nS).toArray] w fun e w' => ∃ ao c, e = .returned (.slice ao 1 c) ∧ Src w' (.slice ao 1 c) [5] ∧ Below w.heap.size w w' := by
  have HNB := hid (hp_new w (.cells (fcells byeF nS).toArray 29))
  have HBL := hid (below_walk w (.cells (fcells byeF nS).toArray 29))
  go_enter Try.func26, Try.ntmps26
  go_upto_region 1 with fail
  generalize w.alloc (.cells (fcells byeF nS).toArray 29) = w1 at HNB HBL ⊢
  have x0 : w1.cell? ⟨w.heap.size, 0, none⟩ = some (.int .i64 5) := (Fb.of HNB.out rfl).k
  have hw5 : IntKind.u64.wrap 5 = 5 := rfl
  go_wp2_with fail
  refine (ruint_five w1).mono ?_
  rintro e w2 ⟨ao, c, rfl, ho2, hb2⟩
  have HS2 := hid (ho2.src (by simp))
  have HN2 := hid ((hb2.block _ (hp_lt HNB.out)).trans HNB.out)
  have HB2 := hid (below_then HBL.out hb2)
  have x1 : w2.cell? ⟨w.heap.size, 0, none⟩ = some (.int .i64 5) := (Fb.of HN2.out rfl).k
  clear x0 hw5 ho2 hb2 HNB HBL HN2
  go_wp2
  go_ret
  exact ⟨_, _, rfl, HS2.out, HB2.out⟩

theorem rsame_bye (w : World) : Calls Try.prog 18 #[.agg (fcells byeF nS).toArray, .agg (fcells byeF nS).toArray] w fun e w' => e = .returned (.bool true) ∧ Below w.heap.size w w' := by
  have := rsame_any byeF byeF nS nS w rfl rfl (strs_nil w) (strs_nil w) (by simp [byeF])
  rwa [sameP_self] at this

set_option maxRecDepth 100000 in
set_option maxHeartbeats 4000000 in
theorem checkBye_any (w : World) :
    Calls Try.prog 25 #[.agg (fcells byeF nS).toArray] w fun e w' => e = .returned (.int .i64 0) ∧ Below w.heap.size w w' := by
  have HNB := hid (hp_new w (.cells (fcells byeF nS).toArray 29))
  have HBL := hid (below_walk w (.cells (fcells byeF nS).toArray 29))
  have HSZ := hid (frame_size byeF nS rfl)
  go_enter Try.func25, Try.ntmps25
  go_upto_region 1 with fail
  generalize w.alloc (.cells (fcells byeF nS).toArray 29) = w1 at HNB HBL ⊢
  have HL := hid (hp_lt HNB.out)
  have x0 : w1.cell? ⟨w.heap.size, 0, none⟩ = some (.int .i64 5) := (Fb.of HNB.out rfl).k
  have x7 : w1.cell? ⟨w.heap.size, 40, none⟩ = some (.slice none 0 0) := (Fb.of HNB.out rfl).a
  have z0 := fun p : Bel w1 => p.cell x0 HL.out
  have z7 := fun p : Bel w1 => p.cell x7 HL.out
  have ib : Nonempty (Bel w1) := bel_some w1
  have HRA := hid (Bel.range (range_row HNB.out) HL.out)
  clear x0 x7
  refine wp_region_quiet_bel (by kernel_rfl) (by kernel_rfl) ?_
  go_big_quiet_step (fail)
  go_big_quiet_step (fail)
  go_big_quiet_step (fail)
  go_big_quiet_step (fail)
  go_big_quiet_step (fail)
  go_big_quiet_step (fail)
  go_big_quiet_step (fail)
  go_big_quiet_step (fail)
  go_big_quiet_step (fail)
  refine wpQuiet_want (by rfl) fun K hK => quiet_ld 29 (.tmp 1) (by rfl) w.heap.size 0 (by rfl) _ _ HRA.out Try.underlying29 rfl HSZ.out (hK _ ?_)
  simp only [Act.put, List.setIfInBounds_toArray, List.set_cons_succ, List.set_cons_zero]
  refine wpQuiet_want (by rfl) fun K hK => quiet_ld 29 (.tmp 1) (by rfl) w.heap.size 0 (by rfl) _ _ HRA.out Try.underlying29 rfl HSZ.out (hK _ ?_)
  simp only [Act.put, List.setIfInBounds_toArray, List.set_cons_succ, List.set_cons_zero]
  go_big_quiet_step (first | (go_at_call 45; exact bel_of (onlyBye_any _)))
  go_big_quiet_step (first | (go_at_call 18; exact bel_of (rsame_bye _)))
  go_big_quiet_step (fail)
  go_big_quiet_step (fail)
  go_big_quiet_step (fail)
  go_big_quiet_step (fail)
  go_big_quiet_step (fail)
  go_big_quiet_step (fail)
  go_big_quiet_step (fail)
  go_big_quiet_step (fail)
  go_big_quiet_step (fail)
  refine wpQuiet_nil ?_
  rintro w2 ⟨⟨w2', hb2⟩, hw2⟩
  obtain rfl : w2 = w2' := hw2
  have HN2 := hid ((hb2.block _ HL.out).trans HNB.out)
  have HB2 := hid (below_then HBL.out hb2)
  clear hb2 z0 z7 ib HRA HNB HBL HL
  have x0 : w2.cell? ⟨w.heap.size, 0, none⟩ = some (.int .i64 5) := (Fb.of HN2.out rfl).k
  have l1 : w2.cell? ⟨w.heap.size, 37, none⟩ = some (.int .i64 0) := (Fb.of HN2.out rfl).l1
  have l2 : w2.cell? ⟨w.heap.size, 38, none⟩ = some (.int .i64 0) := (Fb.of HN2.out rfl).l2
  have l3 : w2.cell? ⟨w.heap.size, 39, none⟩ = some (.int .i64 0) := (Fb.of HN2.out rfl).l3
  have x7 : w2.cell? ⟨w.heap.size, 40, none⟩ = some (.slice none 0 0) := (Fb.of HN2.out rfl).a
  have x8 : w2.cell? ⟨w.heap.size, 41, none⟩ = some (.string ⟨#[]⟩) := (Fb.of HN2.out rfl).bd
  go_wp2_with fail
  go_loopw [3, 4] (fun b i wr => b = .bool false ∧ i = .int .i64 0 ∧ wr = w2) (fun _ _ _ => 0)
  case atStart => exact ⟨rfl, rfl, rfl⟩
  case round =>
    obtain ⟨rfl, rfl, rfl⟩ := hrel
    have HRG := hid (range_row HN2.out)
    go_wp2_with (refine ld_gd (by rfl) 29 (.tmp 1) (by rfl) w.heap.size 0 (by rfl) _ _ HRG.out Try.underlying29 rfl HSZ.out ?_)
    refine (bodyBye_any wr).mono ?_
    rintro e w3 ⟨ao, c, rfl, hs3, hb3⟩
    have HB3 := hid (below_then HB2.out hb3)
    clear hs3 hb3 x0 l1 l2 l3 x7 x8 HN2 HB2
    go_wp2
    go_ret
    exact ⟨rfl, HB3.out⟩

set_option maxRecDepth 100000 in
set_option maxHeartbeats 4000000 in
theorem rencodeBye_any (w : World) :
    Calls Try.prog 10 #[.agg (fcells byeF nS).toArray] w fun e w' => ∃ v, e = .returned (.tuple #[v, .int .i64 0]) ∧ OwnB w' w.heap.size v (sealP [1, 5]) ∧ Below w.heap.size w w' := by
  have HNB := hid (hp_new w (.cells (fcells byeF nS).toArray 29))
  have HBL := hid (below_walk w (.cells (fcells byeF nS).toArray 29))
  have HSZ := hid (frame_size byeF nS rfl)
  go_enter Try.func10, Try.ntmps10
  go_upto_region 1 with fail
  generalize w.alloc (.cells (fcells byeF nS).toArray 29) = w1 at HNB HBL ⊢
  go_wp2_with (refine ld_row (by rfl) 29 (.tmp 1) (by rfl) w.heap.size (by rfl) (fcells byeF nS) 29 HNB.out _ Try.underlying29 rfl HSZ.out ?_)
  refine (checkBye_any w1).mono ?_
  rintro e w2 ⟨rfl, hb2⟩
  have HN2 := hid ((hb2.block _ (hp_lt HNB.out)).trans HNB.out)
  have HB2 := hid (below_then HBL.out hb2)
  clear hb2 HNB HBL
  go_wp2_with (refine ld_row (by rfl) 29 (.tmp 1) (by rfl) w.heap.size (by rfl) (fcells byeF nS) 29 HN2.out _ Try.underlying29 rfl HSZ.out ?_)
  refine (bodyBye_any w2).mono ?_
  rintro e w3 ⟨ao, c, rfl, hs3, hb3⟩
  have HS3 := hid hs3
  have HB3 := hid (below_then HB2.out hb3)
  have hw1 : IntKind.u64.wrap 1 = 1 := rfl
  clear hs3 hb3 HN2 HB2
  go_wp2_with fail
  refine (ruint_one w3).mono ?_
  rintro e w4 ⟨a4, c4, rfl, ho4, hb4⟩
  have HO4 := hid ho4
  have HS4 := hid (HS3.out.below hb4)
  have HB4 := hid (below_then HB3.out hb4)
  have HZ4 := hid hb4.size
  clear ho4 hb4 HS3
  go_wp2_with (at_builtin; refine app_src rfl _ _ rfl w3.heap.size _ [1] rfl HO4.out _ [5] rfl HS4.out (by simp) HZ4.out ?_)
  intro v5 w5 ho5 hg5
  have hs5 : Src w5 v5 [1, 5] := ho5.src (by simp)
  have HB5 := hid (show Below w.heap.size w w5 from below_tr HB4.out ⟨hg5.os, hg5.tape, hg5.output, hg5.size, fun k hk => hg5.block k (by have := HB3.out.size; have := HZ4.out; omega) (fun e => by have := (HO4.out.lt k e.symm).1; have := HB3.out.size; omega)⟩)
  have HSE := hid (rseal_any w5 v5 [1, 5] hs5 (by simp))
  obtain ⟨a5, c5, e5⟩ := src_shape hs5
  subst e5
  clear ho5 hg5 hs5 HB4 HB3 HZ4 HO4 HS4
  go_wp2_with fail
  refine HSE.out.mono ?_
  rintro e w6 ⟨v6, rfl, ho6, hb6⟩
  have HO6 := hid (ho6.le HB5.out.size)
  have HB7 := hid (below_then HB5.out hb6)
  obtain ⟨a6, c6, e6⟩ := src_shape (ho6.src (by rw [sealP_length]; simp))
  subst e6
  clear ho6 hb6
  go_wp2
  go_ret2
  exact ⟨_, rfl, HO6.out, HB7.out⟩

end Go.Proofs.Ytjinkahlfigdcaa

/- The law's alive answers true. -/
namespace Go.Proofs.Ytjinkahlfigdcaa
open Go.RowKit Go.BigFrame

set_option maxRecDepth 100000 in
set_option maxHeartbeats 4000000 in
theorem alive_any (w : World) :
    Calls Try.prog 14 #[] w fun e w' => e = .returned (.bool true) ∧ Below w.heap.size w w' := by
  have hl6 : (sealP [1, 5]).length = 6 := rfl
  go_enter Try.func14, Try.ntmps14
  go_wp2_with fail
  refine (bye_any w).mono ?_
  rintro e w1 ⟨rfl, hb1⟩
  have HB1 := hid hb1
  clear hb1
  go_wp2_with fail
  refine (encodeBye_any w1).mono ?_
  rintro e w2 ⟨v2, rfl, ho2, hb2⟩
  have HS2 := hid (ho2.src (by rw [sealP_length]; simp))
  have HB2 := hid (below_then HB1.out hb2)
  obtain ⟨a2, c2, e2⟩ := src_shape HS2.out
  rw [hl6] at e2
  subst e2
  clear ho2 hb2 HB1
  go_wp2_with (refine bd_row (by rfl) 29 #[(0, .const (.int .i64 5))] (by rfl) _ (by simp [Act.eval]) _ built_bye ?_)
  refine (rencodeBye_any w2).mono ?_
  rintro e w3 ⟨v3, rfl, ho3, hb3⟩
  have HS3 := hid (ho3.src (by rw [sealP_length]; simp))
  have HS2b := hid (HS2.out.below hb3)
  have HB3 := hid (below_then HB2.out hb3)
  obtain ⟨a3, c3, e3⟩ := src_shape HS3.out
  rw [hl6] at e3
  subst e3
  clear ho3 hb3 HB2 HS2
  go_wp2_with fail
  refine (equal_true _ _ _ w3 HS2b.out HS3.out).mono ?_
  rintro e w4 ⟨rfl, hw4⟩
  subst hw4
  go_wp2
  go_ret
  exact ⟨rfl, HB3.out⟩

end Go.Proofs.Ytjinkahlfigdcaa

/- lay and told of the statements: what the program lays behind bytes, and what the document says, are the same bytes. -/
namespace Go.Proofs.Ytjinkahlfigdcaa
open Go.RowKit

/-- which of five -/
def five (K : Int) : Int := (wrap64 (K.tmod 5 + 5)).tmod 5
/-- the bytes of one thing laid down -/
def putB (K : Int) (U : Nat) (I : Int) (ss : List ByteArray) : List UInt8 :=
  if (five K == 0) = true then sn U else if (five K == 1) = true then sn (zz I) else if (five K == 2) = true then [if (((U : Int) % 2) == 1) = true then 1 else 0] else if (five K == 3) = true then txs ss else ls ss

theorem putB_len (K : Int) (U : Nat) (I : Int) (ss : List ByteArray) : (putB K U I ss).length ≤ (txs ss).length + 10 := by
  have h1 := sn_length_le U
  have h2 := sn_length_le (zz I)
  have h3 := sn_length_le ss.length
  unfold putB ls
  split
  · omega
  · split
    · omega
    · split
      · simp
      · split
        · omega
        · simp; omega

/-- what is asked of one thing laid down -/
structure PutOk (w : World) (U : Nat) (I : Int) (tv : Value) (ss : List ByteArray) : Prop where
  u : U < 18446744073709551616
  i0 : -9223372036854775808 ≤ I
  i1 : I ≤ 9223372036854775807
  strs : WStrs w tv ss
  len : (txs ss).length ≤ 549755813888

theorem PutOk.below {w w' : World} {U : Nat} {I : Int} {tv : Value} {ss : List ByteArray} (h : PutOk w U I tv ss) (hb : Below w.heap.size w w') : PutOk w' U I tv ss := ⟨h.u, h.i0, h.i1, h.strs.below hb, h.len⟩

theorem putB0 {K : Int} {U : Nat} {I : Int} {ss : List ByteArray}  (h0 : ((wrap64 (K.tmod 5 + 5)).tmod 5 == 0) = true) : putB K U I ss = sn U := by
  unfold putB five
  rw [if_pos h0]
theorem putB1 {K : Int} {U : Nat} {I : Int} {ss : List ByteArray} (h0 : ((wrap64 (K.tmod 5 + 5)).tmod 5 == 0) = false) (h1 : ((wrap64 (K.tmod 5 + 5)).tmod 5 == 1) = true) : putB K U I ss = sn (zz I) := by
  unfold putB five
  rw [if_neg (by rw [h0]; decide), if_pos h1]
theorem putB2 {K : Int} {U : Nat} {I : Int} {ss : List ByteArray} (h0 : ((wrap64 (K.tmod 5 + 5)).tmod 5 == 0) = false) (h1 : ((wrap64 (K.tmod 5 + 5)).tmod 5 == 1) = false) (h2 : ((wrap64 (K.tmod 5 + 5)).tmod 5 == 2) = true) : putB K U I ss = [if (((U : Int) % 2) == 1) = true then 1 else 0] := by
  unfold putB five
  rw [if_neg (by rw [h0]; decide), if_neg (by rw [h1]; decide), if_pos h2]
theorem putB3 {K : Int} {U : Nat} {I : Int} {ss : List ByteArray} (h0 : ((wrap64 (K.tmod 5 + 5)).tmod 5 == 0) = false) (h1 : ((wrap64 (K.tmod 5 + 5)).tmod 5 == 1) = false) (h2 : ((wrap64 (K.tmod 5 + 5)).tmod 5 == 2) = false) (h3 : ((wrap64 (K.tmod 5 + 5)).tmod 5 == 3) = true) : putB K U I ss = txs ss := by
  unfold putB five
  rw [if_neg (by rw [h0]; decide), if_neg (by rw [h1]; decide), if_neg (by rw [h2]; decide), if_pos h3]
theorem putB4 {K : Int} {U : Nat} {I : Int} {ss : List ByteArray} (h0 : ((wrap64 (K.tmod 5 + 5)).tmod 5 == 0) = false) (h1 : ((wrap64 (K.tmod 5 + 5)).tmod 5 == 1) = false) (h2 : ((wrap64 (K.tmod 5 + 5)).tmod 5 == 2) = false) (h3 : ((wrap64 (K.tmod 5 + 5)).tmod 5 == 3) = false) : putB K U I ss = ls ss := by
  unfold putB five
  rw [if_neg (by rw [h0]; decide), if_neg (by rw [h1]; decide), if_neg (by rw [h2]; decide), if_neg (by rw [h3]; decide)]

end Go.Proofs.Ytjinkahlfigdcaa

/- The law WirePuts, walked: it answers true, and only makes memory. -/
namespace Go.Proofs.Ytjinkahlfigdcaa
open Go.RowKit

/-- one thing laid down, as it is read -/
structure PutD where
  k : Int
  u : Nat
  i : Int
  tv : Value
  ss : List ByteArray
def PutD.bytes (d : PutD) : List UInt8 := putB d.k d.u d.i d.ss
def allB (ps : List PutD) : List UInt8 := ps.flatMap PutD.bytes
/-- v is a slice that holds the things ps, wherever they lie -/
def PutsAt (w : World) (v : Value) (ps : List PutD) : Prop :=
  (∃ ao c, v = .slice ao 0 c ∧ ps = []) ∨ ∃ g o c, v = .slice (some ⟨g, o, none⟩) ps.length c ∧ g < w.heap.size ∧ ∀ j d, ps[j]? = some d →
    w.cell? ⟨g, o + j * 4, none⟩ = some (.int .i64 d.k) ∧ w.cell? ⟨g, o + j * 4 + 1, none⟩ = some (.int .u64 d.u) ∧ w.cell? ⟨g, o + j * 4 + 2, none⟩ = some (.int .i64 d.i) ∧ w.cell? ⟨g, o + j * 4 + 3, none⟩ = some d.tv ∧ PutOk w d.u d.i d.tv d.ss

theorem allB_snoc {ps : List PutD} {k : Nat} {d : PutD} (h : ps[k]? = some d) : allB (ps.take (k + 1)) = allB (ps.take k) ++ d.bytes := by
  obtain ⟨hk, he⟩ := List.getElem?_eq_some_iff.1 h
  rw [List.take_succ_eq_append_getElem hk, he]
  simp [allB]
theorem allB_append (a b : List PutD) : allB (a ++ b) = allB a ++ allB b := by simp [allB]
theorem allB_take_le (ps : List PutD) (k : Nat) : (allB (ps.take k)).length ≤ (allB ps).length := by
  have e := allB_append (ps.take k) (ps.drop k)
  rw [List.take_append_drop] at e
  rw [e]; simp

theorem OwnB.far {w w' : World} {base : Nat} {v : Value} {bs : List UInt8} {row : Option Nat} (h : OwnB w base v bs) (hg : w.grownBy w' row) (hr : ∀ j, row = some j → j < base) : OwnB w' base v bs := by
  refine h.kept hg ?_
  cases e : v.ownBlock with
  | none => exact Or.inl rfl
  | some j =>
    refine Or.inr (fun e2 => ?_)
    have h1 := (h.lt j e).1
    have h2 := hr j e2.symm
    omega

theorem refUint_len (n : Nat) (w : World) (hn : n < 18446744073709551616) :
    Calls Try.prog 27 #[.int .u64 n] w fun e w' => ∃ ao c, e = .returned (.slice ao (sn n).length c) ∧ Below w.heap.size w w' := by
  refine (refUint_any n w hn).mono ?_
  rintro e w' ⟨v, rfl, ho, hb⟩
  obtain ⟨ao, c, rfl⟩ := ho.shape
  exact ⟨ao, c, rfl, hb⟩

theorem sn_300 : sn 300 = [172, 2] := by decide
theorem size_300 (w : World) : Calls Try.prog 29 #[.int .u64 300] w fun e w' => e = .returned (.int .i64 2) ∧ w' = w := by
  have h := size_any 300 w (by omega)
  rw [sn_300] at h
  exact h
theorem put_300 (v0 : Value) (w : World) (hs : Src w v0 [7]) : Calls Try.prog 42 #[v0, .int .u64 300] w fun e w' => ∃ v, e = .returned v ∧ OwnB w' w.heap.size v [7, 172, 2] ∧ Below w.heap.size w w' := by
  have h := putUint_any v0 [7] 300 w hs (by omega) (by simp)
  rw [sn_300] at h
  exact h

theorem own_three (w : World) : OwnB (w.alloc (.cells #[.int .u8 7, .int .u8 172, .int .u8 2] 5)) w.heap.size (.slice (some ⟨w.heap.size, 0, none⟩) 3 3) [7, 172, 2] :=
  ⟨rfl, Or.inr ⟨w.heap.size, 3, #[.int .u8 7, .int .u8 172, .int .u8 2], rfl, Nat.le_refl _, heap_alloc_new w _, Nat.le_refl _, by unfold maxLen; omega, rfl, rfl⟩⟩

end Go.Proofs.Ytjinkahlfigdcaa
