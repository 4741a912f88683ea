/- Contracts and pure facts that the proof needs, joined. -/
import Derived.Test.YtiibhccbbpgehaaGreatG3
import Derived.Test.YtiibhccbbpgehaaGreatG9
import Derived.Test.YtiibhccbbpgehaaGreatG7
import Derived.Test.YtiibhccbbpgehaaGreatG5
import Derived.Deep.Cut
import Derived.Deep.CutRange

/- The document's only: a frame with just the fields that its kind has. -/
namespace Go.Proofs.YtiibhccbbpgehaaGreat
open Go.RowKit Go.BigFrame

theorem eq_rowFOnly4 {w : World} {g : Nat} {a b : Array Value} {t : TypeId} (h : w.heap[g]? = some (.cells a t (0, 0))) (e : a = b) : w.heap[g]? = some (.cells b t (0, 0)) := by rw [← e]; exact h

theorem built_b4 : Tryz.prog.built 30 [(0, .int .i64 4)] = some (fcells ⟨4, 0, 0, 0, List.replicate 32 0, 0, (0, 0, 0), [], []⟩ nS).toArray := by kernel_rfl

set_option maxRecDepth 100000 in
set_option maxHeartbeats 4000000 in
theorem only4_any (f : Fr) (va : Value) (w : World) (hk : f.kind = 4) (hf : f.tool.length = 32) (hv : ∃ ao n c, va = .slice ao n c) :
    Calls Tryz.prog 90 #[.agg (fcells f va).toArray] w fun e w' => e = .returned (.agg (fcells (ownF f) (ownV f va)).toArray) ∧ Below w.heap.size w w' := by
  obtain ⟨ao, nn, cc, rfl⟩ := hv
  have HNB := hid (hp_two w (.cells (fcells f (.slice ao nn cc)).toArray 30) (.cells (fcells zF nS).toArray 30))
  have HBL := hid (below_walk2 w (.cells (fcells f (.slice ao nn cc)).toArray 30) (.cells (fcells zF nS).toArray 30))
  have HZ : Hid ((w.alloc (.cells (fcells f (.slice ao nn cc)).toArray 30)).heap.size = w.heap.size + 1) := hid (by simp)
  have HOW : Hid (fcells (ownF f) (ownV f (.slice ao nn cc)) = fcells (ownF f) (ownV f (.slice ao nn cc))) := hid rfl
  have HOT := hid (ownF_tool f hf)
  have HSZ := hid (frame_size (ownF f) (ownV f (.slice ao nn cc)) HOT.out)
  have HON := hid (fcells_one (ownF f) (ownV f (.slice ao nn cc)) (by unfold ownV; split <;> rfl))
  have HOS := hid (show (fcells zF nS).toArray.size = (fcells (ownF f) (ownV f (.slice ao nn cc))).length by rw [fcells_length _ _ HOT.out]; rfl)
  have HSB := hid (frame_size ⟨4, 0, 0, 0, List.replicate 32 0, 0, (0, 0, 0), [], []⟩ nS rfl)
  have HEQ : Hid (((fcells ⟨4, 0, 0, 0, List.replicate 32 0, 0, (0, 0, 0), [], []⟩ nS).toArray.setIfInBounds 1 (.int .u64 f.id)) = (fcells (ownF f) (ownV f (.slice ao nn cc))).toArray) := hid (by
    unfold ownF ownV
    rw [if_neg (show ¬ f.kind = 1 by omega), if_neg (show ¬ f.kind = 2 by omega), if_neg (show ¬ f.kind = 3 by omega), if_pos hk, if_neg (show ¬ f.kind = 2 by omega)]
    rfl)
  have HK := hid hk
  have HF := hid hf
  clear hk hf HOW
  go_enter Tryz.func90, Tryz.ntmps90
  go_upto_region 1 with (refine al_row (by rfl) 30 (by rfl) _ zeroFrame ?_)
  try rw [HZ.out]
  generalize (w.alloc (.cells (fcells f (.slice ao nn cc)).toArray 30)).alloc (.cells (fcells zF nS).toArray 30) = w2 at HNB HBL ⊢
  have x0 := (Fb.of HNB.out.1 HF.out).k
  rw [HK.out] at x0
  have HL2 := hid (hp_lt HNB.out.2)
  go_upto_region 2 with (first
    | (refine bd_row (by rfl) 30 #[(0, .tmp 5)] (by rfl) _ (by simp [Act.eval]) _ built_b4 ?_)
    | (refine al_row (by rfl) 30 (by rfl) _ zeroFrame ?_)
    | (refine st_new (by rfl) 30 _ _ (by rfl) (fcells ⟨4, 0, 0, 0, List.replicate 32 0, 0, (0, 0, 0), [], []⟩ nS) (by rfl) (by rfl) 30 _ HSB.out rfl (fcells_one _ nS rfl) ?_))
  have HN1 := hid ((below_walk w2 (.cells (fcells ⟨4, 0, 0, 0, List.replicate 32 0, 0, (0, 0, 0), [], []⟩ nS).toArray 30)).block _ (by have := HL2.out; omega) |>.trans HNB.out.1)
  have HN2 := hid ((below_walk w2 (.cells (fcells ⟨4, 0, 0, 0, List.replicate 32 0, 0, (0, 0, 0), [], []⟩ nS).toArray 30)).block _ HL2.out |>.trans HNB.out.2)
  have HN3 := hid (hp_new w2 (.cells (fcells ⟨4, 0, 0, 0, List.replicate 32 0, 0, (0, 0, 0), [], []⟩ nS).toArray 30))
  have HB3 := hid (below_then HBL.out (below_walk w2 (.cells (fcells ⟨4, 0, 0, 0, List.replicate 32 0, 0, (0, 0, 0), [], []⟩ nS).toArray 30)))
  have HG3 := hid (show w.heap.size + 1 < w2.heap.size from HL2.out)
  obtain ⟨B3, HE3⟩ : ∃ b : Nat, Hid (w2.heap.size = b) := ⟨_, rfl⟩
  rw [HE3.out] at HN3 HG3 ⊢
  generalize w2.alloc (.cells (fcells ⟨4, 0, 0, 0, List.replicate 32 0, 0, (0, 0, 0), [], []⟩ nS).toArray 30) = w3 at HN1 HN2 HN3 HB3 ⊢
  clear x0 HNB HBL HL2
  have HFB := hid (Fb.of HN1.out HF.out)
  have HFC := hid (Fb.of HN3.out (show (⟨4, 0, 0, 0, List.replicate 32 0, 0, (0, 0, 0), [], []⟩ : Fr).tool.length = 32 from rfl))
  have x1 := HFB.out.k
  rw [HK.out] at x1
  have y_i := HFB.out.i
  have c_i := HFC.out.i
  have f_1 := row_fz HN3.out 1
  have ne1 : ¬ w.heap.size = B3 := by have := HG3.out; omega
  have ne2 : ¬ B3 = w.heap.size := by have := HG3.out; omega
  go_upto_region 13 with fail
  have HN4 := hid (show (w3.setCell ⟨B3, 1, none⟩ (.int .u64 f.id)).heap[B3]? = some (.cells (fcells (ownF f) (ownV f (.slice ao nn cc))).toArray 30 (0, 0)) from eq_rowFOnly4 (blk_set HN3.out (.int .u64 f.id)) HEQ.out)
  have HN5 := hid (show (w3.setCell ⟨B3, 1, none⟩ (.int .u64 f.id)).heap[w.heap.size + 1]? = some (.cells (fcells zF nS).toArray 30 (0, 0)) from ((Below.heap_setCell _ _ _ (w.heap.size + 1) (by have := HG3.out; simp; omega)).trans HN2.out))
  have HB4 := hid (show Below w.heap.size w (w3.setCell ⟨B3, 1, none⟩ (.int .u64 f.id)) from  (HB3.out.setCell (p := ⟨B3, 1, none⟩) (by show w.heap.size ≤ B3; have := HG3.out; omega) _))
  generalize (w3.setCell ⟨B3, 1, none⟩ (.int .u64 f.id)) = w4 at HN4 HN5 HB4 ⊢
  obtain ⟨FO, HFO⟩ : ∃ L, Hid (fcells (ownF f) (ownV f (.slice ao nn cc)) = L) := ⟨_, rfl⟩
  rw [HFO.out] at HSZ HON HOS HN4
  go_wp2_with (first
    | (refine ld_row (by rfl) 30 (.tmp 3) (by rfl) B3 (by rfl) FO 30 HN4.out _ Tryz.underlying30 rfl HSZ.out ?_)
    | (refine st_row (by rfl) 30 _ _ (by rfl) (w.heap.size + 1) FO (by rfl) (by rfl) 30 _ HN5.out HSZ.out HOS.out HON.out ?_; intro w5 hw5))
  refine ret_row 2 30 rfl (w.heap.size + 1) rfl FO 30 hw5.blk _ Tryz.underlying30 rfl HSZ.out rfl ⟨by rw [HFO.out], Below.of_gb HB4.out hw5.grown (by omega)⟩

theorem built_b6 : Tryz.prog.built 30 [(0, .int .i64 6)] = some (fcells ⟨6, 0, 0, 0, List.replicate 32 0, 0, (0, 0, 0), [], []⟩ nS).toArray := by kernel_rfl

set_option maxRecDepth 100000 in
set_option maxHeartbeats 4000000 in
theorem only6_any (f : Fr) (va : Value) (w : World) (hk : f.kind = 6) (hf : f.tool.length = 32) (hv : ∃ ao n c, va = .slice ao n c) :
    Calls Tryz.prog 90 #[.agg (fcells f va).toArray] w fun e w' => e = .returned (.agg (fcells (ownF f) (ownV f va)).toArray) ∧ Below w.heap.size w w' := by
  obtain ⟨ao, nn, cc, rfl⟩ := hv
  have HNB := hid (hp_two w (.cells (fcells f (.slice ao nn cc)).toArray 30) (.cells (fcells zF nS).toArray 30))
  have HBL := hid (below_walk2 w (.cells (fcells f (.slice ao nn cc)).toArray 30) (.cells (fcells zF nS).toArray 30))
  have HZ : Hid ((w.alloc (.cells (fcells f (.slice ao nn cc)).toArray 30)).heap.size = w.heap.size + 1) := hid (by simp)
  have HOW : Hid (fcells (ownF f) (ownV f (.slice ao nn cc)) = fcells (ownF f) (ownV f (.slice ao nn cc))) := hid rfl
  have HOT := hid (ownF_tool f hf)
  have HSZ := hid (frame_size (ownF f) (ownV f (.slice ao nn cc)) HOT.out)
  have HON := hid (fcells_one (ownF f) (ownV f (.slice ao nn cc)) (by unfold ownV; split <;> rfl))
  have HOS := hid (show (fcells zF nS).toArray.size = (fcells (ownF f) (ownV f (.slice ao nn cc))).length by rw [fcells_length _ _ HOT.out]; rfl)
  have HSB := hid (frame_size ⟨6, 0, 0, 0, List.replicate 32 0, 0, (0, 0, 0), [], []⟩ nS rfl)
  have HEQ : Hid (((fcells ⟨6, 0, 0, 0, List.replicate 32 0, 0, (0, 0, 0), [], []⟩ nS).toArray.setIfInBounds 41 (.string (mk f.body))) = (fcells (ownF f) (ownV f (.slice ao nn cc))).toArray) := hid (by
    unfold ownF ownV
    rw [if_neg (show ¬ f.kind = 1 by omega), if_neg (show ¬ f.kind = 2 by omega), if_neg (show ¬ f.kind = 3 by omega), if_neg (show ¬ f.kind = 4 by omega), if_neg (show ¬ f.kind = 5 by omega), if_pos hk, if_neg (show ¬ f.kind = 2 by omega)]
    rfl)
  have HK := hid hk
  have HF := hid hf
  clear hk hf HOW
  go_enter Tryz.func90, Tryz.ntmps90
  go_upto_region 1 with (refine al_row (by rfl) 30 (by rfl) _ zeroFrame ?_)
  try rw [HZ.out]
  generalize (w.alloc (.cells (fcells f (.slice ao nn cc)).toArray 30)).alloc (.cells (fcells zF nS).toArray 30) = w2 at HNB HBL ⊢
  have x0 := (Fb.of HNB.out.1 HF.out).k
  rw [HK.out] at x0
  have HL2 := hid (hp_lt HNB.out.2)
  go_upto_region 2 with (first
    | (refine bd_row (by rfl) 30 #[(0, .tmp 5)] (by rfl) _ (by simp [Act.eval]) _ built_b6 ?_)
    | (refine al_row (by rfl) 30 (by rfl) _ zeroFrame ?_)
    | (refine st_new (by rfl) 30 _ _ (by rfl) (fcells ⟨6, 0, 0, 0, List.replicate 32 0, 0, (0, 0, 0), [], []⟩ nS) (by rfl) (by rfl) 30 _ HSB.out rfl (fcells_one _ nS rfl) ?_))
  have HN1 := hid ((below_walk w2 (.cells (fcells ⟨6, 0, 0, 0, List.replicate 32 0, 0, (0, 0, 0), [], []⟩ nS).toArray 30)).block _ (by have := HL2.out; omega) |>.trans HNB.out.1)
  have HN2 := hid ((below_walk w2 (.cells (fcells ⟨6, 0, 0, 0, List.replicate 32 0, 0, (0, 0, 0), [], []⟩ nS).toArray 30)).block _ HL2.out |>.trans HNB.out.2)
  have HN3 := hid (hp_new w2 (.cells (fcells ⟨6, 0, 0, 0, List.replicate 32 0, 0, (0, 0, 0), [], []⟩ nS).toArray 30))
  have HB3 := hid (below_then HBL.out (below_walk w2 (.cells (fcells ⟨6, 0, 0, 0, List.replicate 32 0, 0, (0, 0, 0), [], []⟩ nS).toArray 30)))
  have HG3 := hid (show w.heap.size + 1 < w2.heap.size from HL2.out)
  obtain ⟨B3, HE3⟩ : ∃ b : Nat, Hid (w2.heap.size = b) := ⟨_, rfl⟩
  rw [HE3.out] at HN3 HG3 ⊢
  generalize w2.alloc (.cells (fcells ⟨6, 0, 0, 0, List.replicate 32 0, 0, (0, 0, 0), [], []⟩ nS).toArray 30) = w3 at HN1 HN2 HN3 HB3 ⊢
  clear x0 HNB HBL HL2
  have HFB := hid (Fb.of HN1.out HF.out)
  have HFC := hid (Fb.of HN3.out (show (⟨6, 0, 0, 0, List.replicate 32 0, 0, (0, 0, 0), [], []⟩ : Fr).tool.length = 32 from rfl))
  have x1 := HFB.out.k
  rw [HK.out] at x1
  have y_bd := HFB.out.bd
  have c_bd := HFC.out.bd
  have f_41 := row_fz HN3.out 41
  have ne1 : ¬ w.heap.size = B3 := by have := HG3.out; omega
  have ne2 : ¬ B3 = w.heap.size := by have := HG3.out; omega
  go_upto_region 13 with fail
  have HN4 := hid (show (w3.setCell ⟨B3, 41, none⟩ (.string (mk f.body))).heap[B3]? = some (.cells (fcells (ownF f) (ownV f (.slice ao nn cc))).toArray 30 (0, 0)) from eq_rowFOnly4 (blk_set HN3.out (.string (mk f.body))) HEQ.out)
  have HN5 := hid (show (w3.setCell ⟨B3, 41, none⟩ (.string (mk f.body))).heap[w.heap.size + 1]? = some (.cells (fcells zF nS).toArray 30 (0, 0)) from ((Below.heap_setCell _ _ _ (w.heap.size + 1) (by have := HG3.out; simp; omega)).trans HN2.out))
  have HB4 := hid (show Below w.heap.size w (w3.setCell ⟨B3, 41, none⟩ (.string (mk f.body))) from  (HB3.out.setCell (p := ⟨B3, 41, none⟩) (by show w.heap.size ≤ B3; have := HG3.out; omega) _))
  generalize (w3.setCell ⟨B3, 41, none⟩ (.string (mk f.body))) = w4 at HN4 HN5 HB4 ⊢
  obtain ⟨FO, HFO⟩ : ∃ L, Hid (fcells (ownF f) (ownV f (.slice ao nn cc)) = L) := ⟨_, rfl⟩
  rw [HFO.out] at HSZ HON HOS HN4
  go_wp2_with (first
    | (refine ld_row (by rfl) 30 (.tmp 3) (by rfl) B3 (by rfl) FO 30 HN4.out _ Tryz.underlying30 rfl HSZ.out ?_)
    | (refine st_row (by rfl) 30 _ _ (by rfl) (w.heap.size + 1) FO (by rfl) (by rfl) 30 _ HN5.out HSZ.out HOS.out HON.out ?_; intro w5 hw5))
  refine ret_row 2 30 rfl (w.heap.size + 1) rfl FO 30 hw5.blk _ Tryz.underlying30 rfl HSZ.out rfl ⟨by rw [HFO.out], Below.of_gb HB4.out hw5.grown (by omega)⟩

end Go.Proofs.YtiibhccbbpgehaaGreat

/- The document's only: a frame with just the fields that its kind has. -/
namespace Go.Proofs.YtiibhccbbpgehaaGreat
open Go.RowKit Go.BigFrame

theorem eq_rowFOnly5 {w : World} {g : Nat} {a b : Array Value} {t : TypeId} (h : w.heap[g]? = some (.cells a t (0, 0))) (e : a = b) : w.heap[g]? = some (.cells b t (0, 0)) := by rw [← e]; exact h

theorem built_b5 : Tryz.prog.built 30 [(0, .int .i64 5)] = some (fcells ⟨5, 0, 0, 0, List.replicate 32 0, 0, (0, 0, 0), [], []⟩ nS).toArray := by kernel_rfl

set_option maxRecDepth 100000 in
set_option maxHeartbeats 4000000 in
theorem only5_any (f : Fr) (va : Value) (w : World) (hk : f.kind = 5) (hf : f.tool.length = 32) (hv : ∃ ao n c, va = .slice ao n c) :
    Calls Tryz.prog 90 #[.agg (fcells f va).toArray] w fun e w' => e = .returned (.agg (fcells (ownF f) (ownV f va)).toArray) ∧ Below w.heap.size w w' := by
  obtain ⟨ao, nn, cc, rfl⟩ := hv
  have HNB := hid (hp_two w (.cells (fcells f (.slice ao nn cc)).toArray 30) (.cells (fcells zF nS).toArray 30))
  have HBL := hid (below_walk2 w (.cells (fcells f (.slice ao nn cc)).toArray 30) (.cells (fcells zF nS).toArray 30))
  have HZ : Hid ((w.alloc (.cells (fcells f (.slice ao nn cc)).toArray 30)).heap.size = w.heap.size + 1) := hid (by simp)
  have HOW : Hid (fcells (ownF f) (ownV f (.slice ao nn cc)) = fcells (ownF f) (ownV f (.slice ao nn cc))) := hid rfl
  have HOT := hid (ownF_tool f hf)
  have HSZ := hid (frame_size (ownF f) (ownV f (.slice ao nn cc)) HOT.out)
  have HON := hid (fcells_one (ownF f) (ownV f (.slice ao nn cc)) (by unfold ownV; split <;> rfl))
  have HOS := hid (show (fcells zF nS).toArray.size = (fcells (ownF f) (ownV f (.slice ao nn cc))).length by rw [fcells_length _ _ HOT.out]; rfl)
  have HSB := hid (frame_size ⟨5, 0, 0, 0, List.replicate 32 0, 0, (0, 0, 0), [], []⟩ nS rfl)
  have HEQ : Hid ((fcells ⟨5, 0, 0, 0, List.replicate 32 0, 0, (0, 0, 0), [], []⟩ nS).toArray = (fcells (ownF f) (ownV f (.slice ao nn cc))).toArray) := hid (by
    unfold ownF ownV
    rw [if_neg (show ¬ f.kind = 1 by omega), if_neg (show ¬ f.kind = 2 by omega), if_neg (show ¬ f.kind = 3 by omega), if_neg (show ¬ f.kind = 4 by omega), if_pos hk, if_neg (show ¬ f.kind = 2 by omega)]
    rfl)
  have HK := hid hk
  have HF := hid hf
  clear hk hf HOW
  go_enter Tryz.func90, Tryz.ntmps90
  go_upto_region 1 with (refine al_row (by rfl) 30 (by rfl) _ zeroFrame ?_)
  try rw [HZ.out]
  generalize (w.alloc (.cells (fcells f (.slice ao nn cc)).toArray 30)).alloc (.cells (fcells zF nS).toArray 30) = w2 at HNB HBL ⊢
  have x0 := (Fb.of HNB.out.1 HF.out).k
  rw [HK.out] at x0
  have HL2 := hid (hp_lt HNB.out.2)
  go_upto_region 2 with (first
    | (refine bd_row (by rfl) 30 #[(0, .tmp 5)] (by rfl) _ (by simp [Act.eval]) _ built_b5 ?_)
    | (refine al_row (by rfl) 30 (by rfl) _ zeroFrame ?_)
    | (refine st_new (by rfl) 30 _ _ (by rfl) (fcells ⟨5, 0, 0, 0, List.replicate 32 0, 0, (0, 0, 0), [], []⟩ nS) (by rfl) (by rfl) 30 _ HSB.out rfl (fcells_one _ nS rfl) ?_))
  have HN1 := hid ((below_walk w2 (.cells (fcells ⟨5, 0, 0, 0, List.replicate 32 0, 0, (0, 0, 0), [], []⟩ nS).toArray 30)).block _ (by have := HL2.out; omega) |>.trans HNB.out.1)
  have HN2 := hid ((below_walk w2 (.cells (fcells ⟨5, 0, 0, 0, List.replicate 32 0, 0, (0, 0, 0), [], []⟩ nS).toArray 30)).block _ HL2.out |>.trans HNB.out.2)
  have HN3 := hid (hp_new w2 (.cells (fcells ⟨5, 0, 0, 0, List.replicate 32 0, 0, (0, 0, 0), [], []⟩ nS).toArray 30))
  have HB3 := hid (below_then HBL.out (below_walk w2 (.cells (fcells ⟨5, 0, 0, 0, List.replicate 32 0, 0, (0, 0, 0), [], []⟩ nS).toArray 30)))
  have HG3 := hid (show w.heap.size + 1 < w2.heap.size from HL2.out)
  obtain ⟨B3, HE3⟩ : ∃ b : Nat, Hid (w2.heap.size = b) := ⟨_, rfl⟩
  rw [HE3.out] at HN3 HG3 ⊢
  generalize w2.alloc (.cells (fcells ⟨5, 0, 0, 0, List.replicate 32 0, 0, (0, 0, 0), [], []⟩ nS).toArray 30) = w3 at HN1 HN2 HN3 HB3 ⊢
  clear x0 HNB HBL HL2
  have HFB := hid (Fb.of HN1.out HF.out)
  have HFC := hid (Fb.of HN3.out (show (⟨5, 0, 0, 0, List.replicate 32 0, 0, (0, 0, 0), [], []⟩ : Fr).tool.length = 32 from rfl))
  have x1 := HFB.out.k
  rw [HK.out] at x1
  have ne1 : ¬ w.heap.size = B3 := by have := HG3.out; omega
  have ne2 : ¬ B3 = w.heap.size := by have := HG3.out; omega
  go_upto_region 13 with fail
  have HN4 := hid (show w3.heap[B3]? = some (.cells (fcells (ownF f) (ownV f (.slice ao nn cc))).toArray 30 (0, 0)) from eq_rowFOnly5 HN3.out HEQ.out)
  have HN5 := hid (show w3.heap[w.heap.size + 1]? = some (.cells (fcells zF nS).toArray 30 (0, 0)) from HN2.out)
  have HB4 := hid (show Below w.heap.size w w3 from  HB3.out)
  generalize w3 = w4 at HN4 HN5 HB4 ⊢
  obtain ⟨FO, HFO⟩ : ∃ L, Hid (fcells (ownF f) (ownV f (.slice ao nn cc)) = L) := ⟨_, rfl⟩
  rw [HFO.out] at HSZ HON HOS HN4
  go_wp2_with (first
    | (refine ld_row (by rfl) 30 (.tmp 3) (by rfl) B3 (by rfl) FO 30 HN4.out _ Tryz.underlying30 rfl HSZ.out ?_)
    | (refine st_row (by rfl) 30 _ _ (by rfl) (w.heap.size + 1) FO (by rfl) (by rfl) 30 _ HN5.out HSZ.out HOS.out HON.out ?_; intro w5 hw5))
  refine ret_row 2 30 rfl (w.heap.size + 1) rfl FO 30 hw5.blk _ Tryz.underlying30 rfl HSZ.out rfl ⟨by rw [HFO.out], Below.of_gb HB4.out hw5.grown (by omega)⟩

end Go.Proofs.YtiibhccbbpgehaaGreat

/- The document's only, of every kind. -/
namespace Go.Proofs.YtiibhccbbpgehaaGreat
open Go.RowKit Go.BigFrame

theorem only_any (f : Fr) (va : Value) (w : World) (hk : 1 ≤ f.kind ∧ f.kind ≤ 6) (hf : f.tool.length = 32) (hv : ∃ ao n c, va = .slice ao n c) :
    Calls Tryz.prog 90 #[.agg (fcells f va).toArray] w fun e w' => e = .returned (.agg (fcells (ownF f) (ownV f va)).toArray) ∧ Below w.heap.size w w' := by
  have h : f.kind = 1 ∨ f.kind = 2 ∨ f.kind = 3 ∨ f.kind = 4 ∨ f.kind = 5 ∨ f.kind = 6 := by omega
  rcases h with h | h | h | h | h | h
  · exact only1_any f va w h hf hv
  · exact only2_any f va w h hf hv
  · exact only3_any f va w h hf hv
  · exact only4_any f va w h hf hv
  · exact only5_any f va w h hf hv
  · exact only6_any f va w h hf hv

/-- whether a frame is what its kind owns, as the document asks it -/
theorem rsame_own (f : Fr) (va : Value) (w : World) (hf : f.tool.length = 32) (ha : Strs w va f.args) (hn : f.args.length ≤ 9223372036854775807) :
    Calls Tryz.prog 11 #[.agg (fcells f va).toArray, .agg (fcells (ownF f) (ownV f va)).toArray] w fun e w' => e = .returned (.bool (sameP f (ownF f))) ∧ Below w.heap.size w w' :=
  rsame_any f (ownF f) va (ownV f va) w hf (ownF_tool f hf) ha (own_strs ha) hn

end Go.Proofs.YtiibhccbbpgehaaGreat

/- The document's body of a frame. -/
namespace Go.Proofs.YtiibhccbbpgehaaGreat
open Go.RowKit Go.BigFrame

theorem fb_at {w w' : World} {b B : Nat} {f : Fr} {va : Value} (h : Fb w b f va) (hb : b < B) (hB : Below B w w') : Fb w' b f va := by
  have c : ∀ {i : Nat} {v : Value}, w.cell? ⟨b, i, none⟩ = some v → w'.cell? ⟨b, i, none⟩ = some v := fun {i v} hc => (hB.cell (p := ⟨b, i, none⟩) hb).trans hc
  exact ⟨c h.k, c h.i, c h.v, c h.s, fun j v hv => c (h.t j v hv), c h.st, c h.l1, c h.l2, c h.l3, c h.a, c h.bd⟩
/-- texts that lay there before B lie there still -/
theorem strs_at {w0 w w' : World} {v : Value} {ts : List (List UInt8)} (h : Strs w v ts) (h0 : Strs w0 v ts) (hB : Below w0.heap.size w w') : Strs w' v ts := by
  rcases h with h | ⟨g, o, c, hv, hlt, h1, hc⟩
  · exact Or.inl h
  · rcases h0 with ⟨ao, c0, hv0, rfl, hn⟩ | ⟨g0, o0, c0, hv0, hlt0, _, _⟩
    · exact Or.inl ⟨ao, c0, hv0, rfl, hn⟩
    · have e := hv.symm.trans hv0
      injection e with e1 _ _
      injection e1 with e1
      injection e1 with e2 _ _
      exact Or.inr ⟨g, o, c, hv, Nat.lt_of_lt_of_le hlt hB.size, h1, fun j hj => (hB.cell (p := ⟨g, o + j, none⟩) (by show g < w0.heap.size; rw [e2]; exact hlt0)).trans (hc j hj)⟩

set_option maxRecDepth 100000 in
set_option maxHeartbeats 4000000 in
theorem body4_any (f : Fr) (va : Value) (w : World) (hf : f.tool.length = 32) (hk : f.kind = 4) (I : Nat) (hi : f.id = (I : Int)) (hI : I < 18446744073709551616) :
    Calls Tryz.prog 60 #[.agg (fcells f va).toArray] w fun e w' => ∃ v, e = .returned v ∧ Src w' v (sn 4 ++ sn I) ∧ Below w.heap.size w w' := by
  have HNB := hid (hp_new w (.cells (fcells f va).toArray 30))
  have HBL := hid (below_walk w (.cells (fcells f va).toArray 30))
  have HF := hid hf
  have HK := hid hk
  have E_i := hid hi
  have len_I := sn_length_le I
  have len0 := sn_length_le 4
  have w0 : IntKind.u64.wrap 4 = 4 := rfl
  clear hf hk hi 
  go_enter Tryz.func60, Tryz.ntmps60
  go_upto_region 1 with fail
  generalize w.alloc (.cells (fcells f va).toArray 30) = w1 at HNB HBL  ⊢
  have HFB1 := hid (Fb.of HNB.out HF.out)
  have HL1 := hid (hp_lt HNB.out)
  have x0 := HFB1.out.k
  rw [HK.out] at x0
  go_wp2_with fail
  refine (refUint_any 4 w1 (by decide)).mono ?_
  rintro e w2 ⟨v2, rfl, ho2, hb2⟩
  have HO2 := hid ho2
  have HB2 := hid (below_then HBL.out hb2)
  have HFB2 := hid (HFB1.out.below HL1.out hb2)
  have HL2 := hid (Nat.lt_of_lt_of_le HL1.out hb2.size)
  have HZ2 := hid hb2.size
  have x1 := HFB2.out.k
  rw [HK.out] at x1
  obtain ⟨a2, n2, c2, e2⟩ := src_named (ho2.src (by omega))
  subst e2
  clear ho2 hb2 x0 HFB1 HNB
  have y3 := HFB2.out.i
  rw [E_i.out] at y3
  go_wp2_with fail
  refine (refUint_any I w2 (by omega)).mono ?_
  rintro e p3 ⟨u3, rfl, hou3, hbu3⟩
  have HU3 := hid (hou3.src (by omega))
  have HP3 := hid (HO2.out.below hbu3)
  have HBP3 := hid (below_then HB2.out hbu3)
  have HFP3 := hid (HFB2.out.below HL2.out hbu3)
  have HLP3 := hid (Nat.lt_of_lt_of_le HL2.out hbu3.size)
  have HZP3 := hid (Nat.le_trans HZ2.out hbu3.size)
  obtain ⟨au3, nu3, cu3, eu3⟩ := src_named HU3.out
  subst eu3
  clear hou3 hbu3 y3 HO2 HB2 HFB2 HL2 HZ2  x1
  go_wp2_with (at_builtin; refine app_src rfl _ _ rfl w1.heap.size _ _ rfl HP3.out _ _ rfl HU3.out (by (try simp only [List.length_append]); omega) HZP3.out ?_)
  intro v3 w3 ho3 hg3
  have HO3 := hid ho3
  have hbb3 : Below w1.heap.size p3 w3 := ⟨hg3.os, hg3.tape, hg3.output, hg3.size, fun k hk => hg3.block k (by have := HZP3.out; omega) (fun e => by have := (HP3.out.lt k e.symm).1; omega)⟩
  have HB3 := hid (show Below w.heap.size w w3 from below_tr HBP3.out (hbb3.mono (by have := HBL.out.size; omega)))
  have HFB3 := hid (show Fb w3 w.heap.size f va from fb_at HFP3.out HL1.out hbb3)
  have HL3 := hid (Nat.lt_of_lt_of_le HLP3.out hg3.size)
  have HZ3 := hid (Nat.le_trans HZP3.out hg3.size)
  obtain ⟨a3, n3, c3, e3⟩ := src_named (ho3.src (by (try simp only [List.length_append]); omega))
  subst e3
  clear ho3 hg3 hbb3 HP3 HU3 HBP3 HFP3 HLP3 HZP3 
  have xz := HFB3.out.k
  have hz9 := HO3.out.src (by (try simp only [List.length_append]); omega)
  have HSZ := hid (show Src w3 (.slice a3 n3 c3) (sn 4 ++ sn I) by first | exact hz9 | simpa only [List.append_assoc] using hz9)
  clear hz9
  go_wp2
  go_ret
  exact ⟨_, rfl, HSZ.out, HB3.out⟩

set_option maxRecDepth 100000 in
set_option maxHeartbeats 4000000 in
theorem body6_any (f : Fr) (va : Value) (w : World) (hf : f.tool.length = 32) (hk : f.kind = 6) (hB : f.body.length ≤ 2097152) :
    Calls Tryz.prog 60 #[.agg (fcells f va).toArray] w fun e w' => ∃ v, e = .returned v ∧ Src w' v (sn 6 ++ tx (mk f.body)) ∧ Below w.heap.size w w' := by
  have HNB := hid (hp_new w (.cells (fcells f va).toArray 30))
  have HBL := hid (below_walk w (.cells (fcells f va).toArray 30))
  have HF := hid hf
  have HK := hid hk
  have HTX := hid (tx_len2 (mk f.body))
  rw [mk_size] at HTX
  have len0 := sn_length_le 6
  have w0 : IntKind.u64.wrap 6 = 6 := rfl
  clear hf hk  
  go_enter Tryz.func60, Tryz.ntmps60
  go_upto_region 1 with fail
  generalize w.alloc (.cells (fcells f va).toArray 30) = w1 at HNB HBL  ⊢
  have HFB1 := hid (Fb.of HNB.out HF.out)
  have HL1 := hid (hp_lt HNB.out)
  have x0 := HFB1.out.k
  rw [HK.out] at x0
  go_wp2_with fail
  refine (refUint_any 6 w1 (by decide)).mono ?_
  rintro e w2 ⟨v2, rfl, ho2, hb2⟩
  have HO2 := hid ho2
  have HB2 := hid (below_then HBL.out hb2)
  have HFB2 := hid (HFB1.out.below HL1.out hb2)
  have HL2 := hid (Nat.lt_of_lt_of_le HL1.out hb2.size)
  have HZ2 := hid hb2.size
  have x1 := HFB2.out.k
  rw [HK.out] at x1
  obtain ⟨a2, n2, c2, e2⟩ := src_named (ho2.src (by omega))
  subst e2
  clear ho2 hb2 x0 HFB1 HNB
  have y3 := HFB2.out.bd
  go_wp2_with fail
  refine (refText_any (mk f.body) w2 (by rw [mk_size]; omega)).mono ?_
  rintro e p3 ⟨u3, rfl, hou3, hbu3⟩
  have HU3 := hid (hou3.src (by have := HTX.out; omega))
  have HP3 := hid (HO2.out.below hbu3)
  have HBP3 := hid (below_then HB2.out hbu3)
  have HFP3 := hid (HFB2.out.below HL2.out hbu3)
  have HLP3 := hid (Nat.lt_of_lt_of_le HL2.out hbu3.size)
  have HZP3 := hid (Nat.le_trans HZ2.out hbu3.size)
  obtain ⟨au3, nu3, cu3, eu3⟩ := src_named HU3.out
  subst eu3
  clear hou3 hbu3 y3 HO2 HB2 HFB2 HL2 HZ2  x1
  go_wp2_with (at_builtin; refine app_src rfl _ _ rfl w1.heap.size _ _ rfl HP3.out _ _ rfl HU3.out (by (try simp only [List.length_append]); have := HTX.out; omega) HZP3.out ?_)
  intro v3 w3 ho3 hg3
  have HO3 := hid ho3
  have hbb3 : Below w1.heap.size p3 w3 := ⟨hg3.os, hg3.tape, hg3.output, hg3.size, fun k hk => hg3.block k (by have := HZP3.out; omega) (fun e => by have := (HP3.out.lt k e.symm).1; omega)⟩
  have HB3 := hid (show Below w.heap.size w w3 from below_tr HBP3.out (hbb3.mono (by have := HBL.out.size; omega)))
  have HFB3 := hid (show Fb w3 w.heap.size f va from fb_at HFP3.out HL1.out hbb3)
  have HL3 := hid (Nat.lt_of_lt_of_le HLP3.out hg3.size)
  have HZ3 := hid (Nat.le_trans HZP3.out hg3.size)
  obtain ⟨a3, n3, c3, e3⟩ := src_named (ho3.src (by (try simp only [List.length_append]); have := HTX.out; omega))
  subst e3
  clear ho3 hg3 hbb3 HP3 HU3 HBP3 HFP3 HLP3 HZP3 
  have xz := HFB3.out.k
  have hz9 := HO3.out.src (by (try simp only [List.length_append]); have := HTX.out; omega)
  have HSZ := hid (show Src w3 (.slice a3 n3 c3) (sn 6 ++ tx (mk f.body)) by first | exact hz9 | simpa only [List.append_assoc] using hz9)
  clear hz9
  go_wp2
  go_ret
  exact ⟨_, rfl, HSZ.out, HB3.out⟩

set_option maxRecDepth 100000 in
set_option maxHeartbeats 4000000 in
theorem body3_any (f : Fr) (va : Value) (w : World) (hf : f.tool.length = 32) (hk : f.kind = 3) (I S : Nat) (hi : f.id = (I : Int)) (hI : I < 18446744073709551616) (hst : f.status = (S : Int)) (kS : S ≤ 9223372036854775807) (hB : f.body.length ≤ 2097152) :
    Calls Tryz.prog 60 #[.agg (fcells f va).toArray] w fun e w' => ∃ v, e = .returned v ∧ Src w' v (sn 3 ++ sn I ++ sn S ++ tx (mk f.body)) ∧ Below w.heap.size w w' := by
  have HNB := hid (hp_new w (.cells (fcells f va).toArray 30))
  have HBL := hid (below_walk w (.cells (fcells f va).toArray 30))
  have HF := hid hf
  have HK := hid hk
  have E_i := hid hi
  have E_st := hid hst
  have HTX := hid (tx_len2 (mk f.body))
  rw [mk_size] at HTX
  have len_I := sn_length_le I
  have len_S := sn_length_le S
  have wr_S : IntKind.u64.wrap (S : Int) = (S : Int) := by rw [IntKind.wrap_u64]; omega
  have len0 := sn_length_le 3
  have w0 : IntKind.u64.wrap 3 = 3 := rfl
  clear hf hk hi hst 
  go_enter Tryz.func60, Tryz.ntmps60
  go_upto_region 1 with fail
  generalize w.alloc (.cells (fcells f va).toArray 30) = w1 at HNB HBL  ⊢
  have HFB1 := hid (Fb.of HNB.out HF.out)
  have HL1 := hid (hp_lt HNB.out)
  have x0 := HFB1.out.k
  rw [HK.out] at x0
  go_wp2_with fail
  refine (refUint_any 3 w1 (by decide)).mono ?_
  rintro e w2 ⟨v2, rfl, ho2, hb2⟩
  have HO2 := hid ho2
  have HB2 := hid (below_then HBL.out hb2)
  have HFB2 := hid (HFB1.out.below HL1.out hb2)
  have HL2 := hid (Nat.lt_of_lt_of_le HL1.out hb2.size)
  have HZ2 := hid hb2.size
  have x1 := HFB2.out.k
  rw [HK.out] at x1
  obtain ⟨a2, n2, c2, e2⟩ := src_named (ho2.src (by omega))
  subst e2
  clear ho2 hb2 x0 HFB1 HNB
  have y3 := HFB2.out.i
  rw [E_i.out] at y3
  go_wp2_with fail
  refine (refUint_any I w2 (by omega)).mono ?_
  rintro e p3 ⟨u3, rfl, hou3, hbu3⟩
  have HU3 := hid (hou3.src (by omega))
  have HP3 := hid (HO2.out.below hbu3)
  have HBP3 := hid (below_then HB2.out hbu3)
  have HFP3 := hid (HFB2.out.below HL2.out hbu3)
  have HLP3 := hid (Nat.lt_of_lt_of_le HL2.out hbu3.size)
  have HZP3 := hid (Nat.le_trans HZ2.out hbu3.size)
  obtain ⟨au3, nu3, cu3, eu3⟩ := src_named HU3.out
  subst eu3
  clear hou3 hbu3 y3 HO2 HB2 HFB2 HL2 HZ2  x1
  go_wp2_with (at_builtin; refine app_src rfl _ _ rfl w1.heap.size _ _ rfl HP3.out _ _ rfl HU3.out (by (try simp only [List.length_append]); have := HTX.out; omega) HZP3.out ?_)
  intro v3 w3 ho3 hg3
  have HO3 := hid ho3
  have hbb3 : Below w1.heap.size p3 w3 := ⟨hg3.os, hg3.tape, hg3.output, hg3.size, fun k hk => hg3.block k (by have := HZP3.out; omega) (fun e => by have := (HP3.out.lt k e.symm).1; omega)⟩
  have HB3 := hid (show Below w.heap.size w w3 from below_tr HBP3.out (hbb3.mono (by have := HBL.out.size; omega)))
  have HFB3 := hid (show Fb w3 w.heap.size f va from fb_at HFP3.out HL1.out hbb3)
  have HL3 := hid (Nat.lt_of_lt_of_le HLP3.out hg3.size)
  have HZ3 := hid (Nat.le_trans HZP3.out hg3.size)
  obtain ⟨a3, n3, c3, e3⟩ := src_named (ho3.src (by (try simp only [List.length_append]); have := HTX.out; omega))
  subst e3
  clear ho3 hg3 hbb3 HP3 HU3 HBP3 HFP3 HLP3 HZP3 
  have y4 := HFB3.out.st
  rw [E_st.out] at y4
  go_wp2_with fail
  refine (refUint_any S w3 (by omega)).mono ?_
  rintro e p4 ⟨u4, rfl, hou4, hbu4⟩
  have HU4 := hid (hou4.src (by omega))
  have HP4 := hid (HO3.out.below hbu4)
  have HBP4 := hid (below_then HB3.out hbu4)
  have HFP4 := hid (HFB3.out.below HL3.out hbu4)
  have HLP4 := hid (Nat.lt_of_lt_of_le HL3.out hbu4.size)
  have HZP4 := hid (Nat.le_trans HZ3.out hbu4.size)
  obtain ⟨au4, nu4, cu4, eu4⟩ := src_named HU4.out
  subst eu4
  clear hou4 hbu4 y4 HO3 HB3 HFB3 HL3 HZ3  
  go_wp2_with (at_builtin; refine app_src rfl _ _ rfl w1.heap.size _ _ rfl HP4.out _ _ rfl HU4.out (by (try simp only [List.length_append]); have := HTX.out; omega) HZP4.out ?_)
  intro v4 w4 ho4 hg4
  have HO4 := hid ho4
  have hbb4 : Below w1.heap.size p4 w4 := ⟨hg4.os, hg4.tape, hg4.output, hg4.size, fun k hk => hg4.block k (by have := HZP4.out; omega) (fun e => by have := (HP4.out.lt k e.symm).1; omega)⟩
  have HB4 := hid (show Below w.heap.size w w4 from below_tr HBP4.out (hbb4.mono (by have := HBL.out.size; omega)))
  have HFB4 := hid (show Fb w4 w.heap.size f va from fb_at HFP4.out HL1.out hbb4)
  have HL4 := hid (Nat.lt_of_lt_of_le HLP4.out hg4.size)
  have HZ4 := hid (Nat.le_trans HZP4.out hg4.size)
  obtain ⟨a4, n4, c4, e4⟩ := src_named (ho4.src (by (try simp only [List.length_append]); have := HTX.out; omega))
  subst e4
  clear ho4 hg4 hbb4 HP4 HU4 HBP4 HFP4 HLP4 HZP4 
  have y5 := HFB4.out.bd
  go_wp2_with fail
  refine (refText_any (mk f.body) w4 (by rw [mk_size]; omega)).mono ?_
  rintro e p5 ⟨u5, rfl, hou5, hbu5⟩
  have HU5 := hid (hou5.src (by have := HTX.out; omega))
  have HP5 := hid (HO4.out.below hbu5)
  have HBP5 := hid (below_then HB4.out hbu5)
  have HFP5 := hid (HFB4.out.below HL4.out hbu5)
  have HLP5 := hid (Nat.lt_of_lt_of_le HL4.out hbu5.size)
  have HZP5 := hid (Nat.le_trans HZ4.out hbu5.size)
  obtain ⟨au5, nu5, cu5, eu5⟩ := src_named HU5.out
  subst eu5
  clear hou5 hbu5 y5 HO4 HB4 HFB4 HL4 HZ4  
  go_wp2_with (at_builtin; refine app_src rfl _ _ rfl w1.heap.size _ _ rfl HP5.out _ _ rfl HU5.out (by (try simp only [List.length_append]); have := HTX.out; omega) HZP5.out ?_)
  intro v5 w5 ho5 hg5
  have HO5 := hid ho5
  have hbb5 : Below w1.heap.size p5 w5 := ⟨hg5.os, hg5.tape, hg5.output, hg5.size, fun k hk => hg5.block k (by have := HZP5.out; omega) (fun e => by have := (HP5.out.lt k e.symm).1; omega)⟩
  have HB5 := hid (show Below w.heap.size w w5 from below_tr HBP5.out (hbb5.mono (by have := HBL.out.size; omega)))
  have HFB5 := hid (show Fb w5 w.heap.size f va from fb_at HFP5.out HL1.out hbb5)
  have HL5 := hid (Nat.lt_of_lt_of_le HLP5.out hg5.size)
  have HZ5 := hid (Nat.le_trans HZP5.out hg5.size)
  obtain ⟨a5, n5, c5, e5⟩ := src_named (ho5.src (by (try simp only [List.length_append]); have := HTX.out; omega))
  subst e5
  clear ho5 hg5 hbb5 HP5 HU5 HBP5 HFP5 HLP5 HZP5 
  have xz := HFB5.out.k
  have hz9 := HO5.out.src (by (try simp only [List.length_append]); have := HTX.out; omega)
  have HSZ := hid (show Src w5 (.slice a5 n5 c5) (sn 3 ++ sn I ++ sn S ++ tx (mk f.body)) by first | exact hz9 | simpa only [List.append_assoc] using hz9)
  clear hz9
  go_wp2
  go_ret
  exact ⟨_, rfl, HSZ.out, HB5.out⟩

set_option maxRecDepth 100000 in
set_option maxHeartbeats 4000000 in
theorem body2_any (f : Fr) (va : Value) (w : World) (hf : f.tool.length = 32) (hk : f.kind = 2) (I a b c : Nat) (hi : f.id = (I : Int)) (hI : I < 18446744073709551616) (h1 : f.lim.1 = (a : Int)) (h2 : f.lim.2.1 = (b : Int)) (h3 : f.lim.2.2 = (c : Int)) (ka : a ≤ 9223372036854775807) (kb : b ≤ 9223372036854775807) (kc : c ≤ 9223372036854775807) (ha : Strs w va f.args) (hA : (txs (f.args.map mk)).length ≤ 100000) (hB : f.body.length ≤ 2097152) :
    Calls Tryz.prog 60 #[.agg (fcells f va).toArray] w fun e w' => ∃ v, e = .returned v ∧ Src w' v (sn 2 ++ sn I ++ sn a ++ sn b ++ sn c ++ ls (f.args.map mk) ++ tx (mk f.body)) ∧ Below w.heap.size w w' := by
  obtain ⟨av, cv, ev⟩ := ha.shape
  have HEV := hid ev
  clear ev
  have HNB := hid (hp_new w (.cells (fcells f va).toArray 30))
  have HBL := hid (below_walk w (.cells (fcells f va).toArray 30))
  have HSA := hid (ha.below HBL.out)
  have HF := hid hf
  have HK := hid hk
  have E_i := hid hi
  have E_l1 := hid h1
  have E_l2 := hid h2
  have E_l3 := hid h3
  have HTX := hid (tx_len2 (mk f.body))
  rw [mk_size] at HTX
  have hll : (ls (f.args.map mk)).length ≤ 100010 := by
    have := sn_length_le (f.args.map mk).length
    unfold ls
    rw [List.length_append]
    omega
  have len_I := sn_length_le I
  have len_a := sn_length_le a
  have wr_a : IntKind.u64.wrap (a : Int) = (a : Int) := by rw [IntKind.wrap_u64]; omega
  have len_b := sn_length_le b
  have wr_b : IntKind.u64.wrap (b : Int) = (b : Int) := by rw [IntKind.wrap_u64]; omega
  have len_c := sn_length_le c
  have wr_c : IntKind.u64.wrap (c : Int) = (c : Int) := by rw [IntKind.wrap_u64]; omega
  have len0 := sn_length_le 2
  have w0 : IntKind.u64.wrap 2 = 2 := rfl
  clear hf hk hi h1 h2 h3 ha
  go_enter Tryz.func60, Tryz.ntmps60
  go_upto_region 1 with fail
  generalize w.alloc (.cells (fcells f va).toArray 30) = w1 at HNB HBL HSA ⊢
  have HFB1 := hid (Fb.of HNB.out HF.out)
  have HL1 := hid (hp_lt HNB.out)
  have x0 := HFB1.out.k
  rw [HK.out] at x0
  go_wp2_with fail
  refine (refUint_any 2 w1 (by decide)).mono ?_
  rintro e w2 ⟨v2, rfl, ho2, hb2⟩
  have HO2 := hid ho2
  have HB2 := hid (below_then HBL.out hb2)
  have HFB2 := hid (HFB1.out.below HL1.out hb2)
  have HL2 := hid (Nat.lt_of_lt_of_le HL1.out hb2.size)
  have HZ2 := hid hb2.size
  have HSA2 := hid (HSA.out.below hb2)
  have x1 := HFB2.out.k
  rw [HK.out] at x1
  obtain ⟨a2, n2, c2, e2⟩ := src_named (ho2.src (by omega))
  subst e2
  clear ho2 hb2 x0 HFB1 HNB
  have y3 := HFB2.out.i
  rw [E_i.out] at y3
  go_wp2_with fail
  refine (refUint_any I w2 (by omega)).mono ?_
  rintro e p3 ⟨u3, rfl, hou3, hbu3⟩
  have HU3 := hid (hou3.src (by omega))
  have HP3 := hid (HO2.out.below hbu3)
  have HBP3 := hid (below_then HB2.out hbu3)
  have HFP3 := hid (HFB2.out.below HL2.out hbu3)
  have HLP3 := hid (Nat.lt_of_lt_of_le HL2.out hbu3.size)
  have HZP3 := hid (Nat.le_trans HZ2.out hbu3.size)
  have HSP3 := hid (HSA2.out.below hbu3)
  obtain ⟨au3, nu3, cu3, eu3⟩ := src_named HU3.out
  subst eu3
  clear hou3 hbu3 y3 HO2 HB2 HFB2 HL2 HZ2 HSA2 x1
  go_wp2_with (at_builtin; refine app_src rfl _ _ rfl w1.heap.size _ _ rfl HP3.out _ _ rfl HU3.out (by (try simp only [List.length_append]); have := HTX.out; omega) HZP3.out ?_)
  intro v3 w3 ho3 hg3
  have HO3 := hid ho3
  have hbb3 : Below w1.heap.size p3 w3 := ⟨hg3.os, hg3.tape, hg3.output, hg3.size, fun k hk => hg3.block k (by have := HZP3.out; omega) (fun e => by have := (HP3.out.lt k e.symm).1; omega)⟩
  have HB3 := hid (show Below w.heap.size w w3 from below_tr HBP3.out (hbb3.mono (by have := HBL.out.size; omega)))
  have HFB3 := hid (show Fb w3 w.heap.size f va from fb_at HFP3.out HL1.out hbb3)
  have HL3 := hid (Nat.lt_of_lt_of_le HLP3.out hg3.size)
  have HZ3 := hid (Nat.le_trans HZP3.out hg3.size)
  have HSA3 := hid (strs_at HSP3.out HSA.out hbb3)
  obtain ⟨a3, n3, c3, e3⟩ := src_named (ho3.src (by (try simp only [List.length_append]); have := HTX.out; omega))
  subst e3
  clear ho3 hg3 hbb3 HP3 HU3 HBP3 HFP3 HLP3 HZP3 HSP3
  have y4 := HFB3.out.l1
  rw [E_l1.out] at y4
  go_wp2_with fail
  refine (refUint_any a w3 (by omega)).mono ?_
  rintro e p4 ⟨u4, rfl, hou4, hbu4⟩
  have HU4 := hid (hou4.src (by omega))
  have HP4 := hid (HO3.out.below hbu4)
  have HBP4 := hid (below_then HB3.out hbu4)
  have HFP4 := hid (HFB3.out.below HL3.out hbu4)
  have HLP4 := hid (Nat.lt_of_lt_of_le HL3.out hbu4.size)
  have HZP4 := hid (Nat.le_trans HZ3.out hbu4.size)
  have HSP4 := hid (HSA3.out.below hbu4)
  obtain ⟨au4, nu4, cu4, eu4⟩ := src_named HU4.out
  subst eu4
  clear hou4 hbu4 y4 HO3 HB3 HFB3 HL3 HZ3 HSA3 
  go_wp2_with (at_builtin; refine app_src rfl _ _ rfl w1.heap.size _ _ rfl HP4.out _ _ rfl HU4.out (by (try simp only [List.length_append]); have := HTX.out; omega) HZP4.out ?_)
  intro v4 w4 ho4 hg4
  have HO4 := hid ho4
  have hbb4 : Below w1.heap.size p4 w4 := ⟨hg4.os, hg4.tape, hg4.output, hg4.size, fun k hk => hg4.block k (by have := HZP4.out; omega) (fun e => by have := (HP4.out.lt k e.symm).1; omega)⟩
  have HB4 := hid (show Below w.heap.size w w4 from below_tr HBP4.out (hbb4.mono (by have := HBL.out.size; omega)))
  have HFB4 := hid (show Fb w4 w.heap.size f va from fb_at HFP4.out HL1.out hbb4)
  have HL4 := hid (Nat.lt_of_lt_of_le HLP4.out hg4.size)
  have HZ4 := hid (Nat.le_trans HZP4.out hg4.size)
  have HSA4 := hid (strs_at HSP4.out HSA.out hbb4)
  obtain ⟨a4, n4, c4, e4⟩ := src_named (ho4.src (by (try simp only [List.length_append]); have := HTX.out; omega))
  subst e4
  clear ho4 hg4 hbb4 HP4 HU4 HBP4 HFP4 HLP4 HZP4 HSP4
  have y5 := HFB4.out.l2
  rw [E_l2.out] at y5
  go_wp2_with fail
  refine (refUint_any b w4 (by omega)).mono ?_
  rintro e p5 ⟨u5, rfl, hou5, hbu5⟩
  have HU5 := hid (hou5.src (by omega))
  have HP5 := hid (HO4.out.below hbu5)
  have HBP5 := hid (below_then HB4.out hbu5)
  have HFP5 := hid (HFB4.out.below HL4.out hbu5)
  have HLP5 := hid (Nat.lt_of_lt_of_le HL4.out hbu5.size)
  have HZP5 := hid (Nat.le_trans HZ4.out hbu5.size)
  have HSP5 := hid (HSA4.out.below hbu5)
  obtain ⟨au5, nu5, cu5, eu5⟩ := src_named HU5.out
  subst eu5
  clear hou5 hbu5 y5 HO4 HB4 HFB4 HL4 HZ4 HSA4 
  go_wp2_with (at_builtin; refine app_src rfl _ _ rfl w1.heap.size _ _ rfl HP5.out _ _ rfl HU5.out (by (try simp only [List.length_append]); have := HTX.out; omega) HZP5.out ?_)
  intro v5 w5 ho5 hg5
  have HO5 := hid ho5
  have hbb5 : Below w1.heap.size p5 w5 := ⟨hg5.os, hg5.tape, hg5.output, hg5.size, fun k hk => hg5.block k (by have := HZP5.out; omega) (fun e => by have := (HP5.out.lt k e.symm).1; omega)⟩
  have HB5 := hid (show Below w.heap.size w w5 from below_tr HBP5.out (hbb5.mono (by have := HBL.out.size; omega)))
  have HFB5 := hid (show Fb w5 w.heap.size f va from fb_at HFP5.out HL1.out hbb5)
  have HL5 := hid (Nat.lt_of_lt_of_le HLP5.out hg5.size)
  have HZ5 := hid (Nat.le_trans HZP5.out hg5.size)
  have HSA5 := hid (strs_at HSP5.out HSA.out hbb5)
  obtain ⟨a5, n5, c5, e5⟩ := src_named (ho5.src (by (try simp only [List.length_append]); have := HTX.out; omega))
  subst e5
  clear ho5 hg5 hbb5 HP5 HU5 HBP5 HFP5 HLP5 HZP5 HSP5
  have y6 := HFB5.out.l3
  rw [E_l3.out] at y6
  go_wp2_with fail
  refine (refUint_any c w5 (by omega)).mono ?_
  rintro e p6 ⟨u6, rfl, hou6, hbu6⟩
  have HU6 := hid (hou6.src (by omega))
  have HP6 := hid (HO5.out.below hbu6)
  have HBP6 := hid (below_then HB5.out hbu6)
  have HFP6 := hid (HFB5.out.below HL5.out hbu6)
  have HLP6 := hid (Nat.lt_of_lt_of_le HL5.out hbu6.size)
  have HZP6 := hid (Nat.le_trans HZ5.out hbu6.size)
  have HSP6 := hid (HSA5.out.below hbu6)
  obtain ⟨au6, nu6, cu6, eu6⟩ := src_named HU6.out
  subst eu6
  clear hou6 hbu6 y6 HO5 HB5 HFB5 HL5 HZ5 HSA5 
  go_wp2_with (at_builtin; refine app_src rfl _ _ rfl w1.heap.size _ _ rfl HP6.out _ _ rfl HU6.out (by (try simp only [List.length_append]); have := HTX.out; omega) HZP6.out ?_)
  intro v6 w6 ho6 hg6
  have HO6 := hid ho6
  have hbb6 : Below w1.heap.size p6 w6 := ⟨hg6.os, hg6.tape, hg6.output, hg6.size, fun k hk => hg6.block k (by have := HZP6.out; omega) (fun e => by have := (HP6.out.lt k e.symm).1; omega)⟩
  have HB6 := hid (show Below w.heap.size w w6 from below_tr HBP6.out (hbb6.mono (by have := HBL.out.size; omega)))
  have HFB6 := hid (show Fb w6 w.heap.size f va from fb_at HFP6.out HL1.out hbb6)
  have HL6 := hid (Nat.lt_of_lt_of_le HLP6.out hg6.size)
  have HZ6 := hid (Nat.le_trans HZP6.out hg6.size)
  have HSA6 := hid (strs_at HSP6.out HSA.out hbb6)
  obtain ⟨a6, n6, c6, e6⟩ := src_named (ho6.src (by (try simp only [List.length_append]); have := HTX.out; omega))
  subst e6
  clear ho6 hg6 hbb6 HP6 HU6 HBP6 HFP6 HLP6 HZP6 HSP6
  have y7 := HFB6.out.a
  rw [HEV.out] at y7
  go_wp2_with fail
  refine (refList_any _ (f.args.map mk) w6 (by rw [← HEV.out]; exact wstrs_of HSA6.out) (by omega)).mono ?_
  rintro e p7 ⟨u7, rfl, hou7, hbu7⟩
  have HU7 := hid (hou7.src (by omega))
  have HP7 := hid (HO6.out.below hbu7)
  have HBP7 := hid (below_then HB6.out hbu7)
  have HFP7 := hid (HFB6.out.below HL6.out hbu7)
  have HLP7 := hid (Nat.lt_of_lt_of_le HL6.out hbu7.size)
  have HZP7 := hid (Nat.le_trans HZ6.out hbu7.size)
  have HSP7 := hid (HSA6.out.below hbu7)
  obtain ⟨au7, nu7, cu7, eu7⟩ := src_named HU7.out
  subst eu7
  clear hou7 hbu7 y7 HO6 HB6 HFB6 HL6 HZ6 HSA6 
  go_wp2_with (at_builtin; refine app_src rfl _ _ rfl w1.heap.size _ _ rfl HP7.out _ _ rfl HU7.out (by (try simp only [List.length_append]); have := HTX.out; omega) HZP7.out ?_)
  intro v7 w7 ho7 hg7
  have HO7 := hid ho7
  have hbb7 : Below w1.heap.size p7 w7 := ⟨hg7.os, hg7.tape, hg7.output, hg7.size, fun k hk => hg7.block k (by have := HZP7.out; omega) (fun e => by have := (HP7.out.lt k e.symm).1; omega)⟩
  have HB7 := hid (show Below w.heap.size w w7 from below_tr HBP7.out (hbb7.mono (by have := HBL.out.size; omega)))
  have HFB7 := hid (show Fb w7 w.heap.size f va from fb_at HFP7.out HL1.out hbb7)
  have HL7 := hid (Nat.lt_of_lt_of_le HLP7.out hg7.size)
  have HZ7 := hid (Nat.le_trans HZP7.out hg7.size)
  have HSA7 := hid (strs_at HSP7.out HSA.out hbb7)
  obtain ⟨a7, n7, c7, e7⟩ := src_named (ho7.src (by (try simp only [List.length_append]); have := HTX.out; omega))
  subst e7
  clear ho7 hg7 hbb7 HP7 HU7 HBP7 HFP7 HLP7 HZP7 HSP7
  have y8 := HFB7.out.bd
  go_wp2_with fail
  refine (refText_any (mk f.body) w7 (by rw [mk_size]; omega)).mono ?_
  rintro e p8 ⟨u8, rfl, hou8, hbu8⟩
  have HU8 := hid (hou8.src (by have := HTX.out; omega))
  have HP8 := hid (HO7.out.below hbu8)
  have HBP8 := hid (below_then HB7.out hbu8)
  have HFP8 := hid (HFB7.out.below HL7.out hbu8)
  have HLP8 := hid (Nat.lt_of_lt_of_le HL7.out hbu8.size)
  have HZP8 := hid (Nat.le_trans HZ7.out hbu8.size)
  have HSP8 := hid (HSA7.out.below hbu8)
  obtain ⟨au8, nu8, cu8, eu8⟩ := src_named HU8.out
  subst eu8
  clear hou8 hbu8 y8 HO7 HB7 HFB7 HL7 HZ7 HSA7 
  go_wp2_with (at_builtin; refine app_src rfl _ _ rfl w1.heap.size _ _ rfl HP8.out _ _ rfl HU8.out (by (try simp only [List.length_append]); have := HTX.out; omega) HZP8.out ?_)
  intro v8 w8 ho8 hg8
  have HO8 := hid ho8
  have hbb8 : Below w1.heap.size p8 w8 := ⟨hg8.os, hg8.tape, hg8.output, hg8.size, fun k hk => hg8.block k (by have := HZP8.out; omega) (fun e => by have := (HP8.out.lt k e.symm).1; omega)⟩
  have HB8 := hid (show Below w.heap.size w w8 from below_tr HBP8.out (hbb8.mono (by have := HBL.out.size; omega)))
  have HFB8 := hid (show Fb w8 w.heap.size f va from fb_at HFP8.out HL1.out hbb8)
  have HL8 := hid (Nat.lt_of_lt_of_le HLP8.out hg8.size)
  have HZ8 := hid (Nat.le_trans HZP8.out hg8.size)
  have HSA8 := hid (strs_at HSP8.out HSA.out hbb8)
  obtain ⟨a8, n8, c8, e8⟩ := src_named (ho8.src (by (try simp only [List.length_append]); have := HTX.out; omega))
  subst e8
  clear ho8 hg8 hbb8 HP8 HU8 HBP8 HFP8 HLP8 HZP8 HSP8
  have xz := HFB8.out.k
  have hz9 := HO8.out.src (by (try simp only [List.length_append]); have := HTX.out; omega)
  have HSZ := hid (show Src w8 (.slice a8 n8 c8) (sn 2 ++ sn I ++ sn a ++ sn b ++ sn c ++ ls (f.args.map mk) ++ tx (mk f.body)) by first | exact hz9 | simpa only [List.append_assoc] using hz9)
  clear hz9
  go_wp2
  go_ret
  exact ⟨_, rfl, HSZ.out, HB8.out⟩

end Go.Proofs.YtiibhccbbpgehaaGreat

/- The document's body of a hello. -/
namespace Go.Proofs.YtiibhccbbpgehaaGreat
open Go.RowKit Go.BigFrame

set_option maxRecDepth 100000 in
set_option maxHeartbeats 4000000 in
theorem body1_any (f : Fr) (va : Value) (w : World) (hf : f.tool.length = 32) (hk : f.kind = 1) (V S : Nat) (hv : f.ver = (V : Int)) (hs : f.slots = (S : Int)) (kV : V ≤ 9223372036854775807) (kS : S ≤ 9223372036854775807) :
    Calls Tryz.prog 60 #[.agg (fcells f va).toArray] w fun e w' => ∃ v, e = .returned v ∧ Src w' v (sn 1 ++ sn V ++ sn S ++ f.tool) ∧ Below w.heap.size w w' := by
  have HNB := hid (hp_new w (.cells (fcells f va).toArray 30))
  have HBL := hid (below_walk w (.cells (fcells f va).toArray 30))
  have HF := hid hf
  have HK := hid hk
  have E_v := hid hv
  have E_s := hid hs
  have len_V := sn_length_le V
  have wr_V : IntKind.u64.wrap (V : Int) = (V : Int) := by rw [IntKind.wrap_u64]; omega
  have len_S := sn_length_le S
  have wr_S : IntKind.u64.wrap (S : Int) = (S : Int) := by rw [IntKind.wrap_u64]; omega
  have len0 := sn_length_le 1
  have w0 : IntKind.u64.wrap 1 = 1 := rfl
  clear hf hk hv hs 
  go_enter Tryz.func60, Tryz.ntmps60
  go_upto_region 1 with fail
  generalize w.alloc (.cells (fcells f va).toArray 30) = w1 at HNB HBL  ⊢
  have HFB1 := hid (Fb.of HNB.out HF.out)
  have HL1 := hid (hp_lt HNB.out)
  have x0 := HFB1.out.k
  rw [HK.out] at x0
  go_wp2_with fail
  refine (refUint_any 1 w1 (by decide)).mono ?_
  rintro e w2 ⟨v2, rfl, ho2, hb2⟩
  have HO2 := hid ho2
  have HB2 := hid (below_then HBL.out hb2)
  have HFB2 := hid (HFB1.out.below HL1.out hb2)
  have HL2 := hid (Nat.lt_of_lt_of_le HL1.out hb2.size)
  have HZ2 := hid hb2.size
  have x1 := HFB2.out.k
  rw [HK.out] at x1
  obtain ⟨a2, n2, c2, e2⟩ := src_named (ho2.src (by omega))
  subst e2
  clear ho2 hb2 x0 HFB1 HNB
  have y3 := HFB2.out.v
  rw [E_v.out] at y3
  go_wp2_with fail
  refine (refUint_any V w2 (by omega)).mono ?_
  rintro e p3 ⟨u3, rfl, hou3, hbu3⟩
  have HU3 := hid (hou3.src (by omega))
  have HP3 := hid (HO2.out.below hbu3)
  have HBP3 := hid (below_then HB2.out hbu3)
  have HFP3 := hid (HFB2.out.below HL2.out hbu3)
  have HLP3 := hid (Nat.lt_of_lt_of_le HL2.out hbu3.size)
  have HZP3 := hid (Nat.le_trans HZ2.out hbu3.size)
  obtain ⟨au3, nu3, cu3, eu3⟩ := src_named HU3.out
  subst eu3
  clear hou3 hbu3 y3 HO2 HB2 HFB2 HL2 HZ2  x1
  go_wp2_with (at_builtin; refine app_src rfl _ _ rfl w1.heap.size _ _ rfl HP3.out _ _ rfl HU3.out (by (try simp only [List.length_append]); omega) HZP3.out ?_)
  intro v3 w3 ho3 hg3
  have HO3 := hid ho3
  have hbb3 : Below w1.heap.size p3 w3 := ⟨hg3.os, hg3.tape, hg3.output, hg3.size, fun k hk => hg3.block k (by have := HZP3.out; omega) (fun e => by have := (HP3.out.lt k e.symm).1; omega)⟩
  have HB3 := hid (show Below w.heap.size w w3 from below_tr HBP3.out (hbb3.mono (by have := HBL.out.size; omega)))
  have HFB3 := hid (show Fb w3 w.heap.size f va from fb_at HFP3.out HL1.out hbb3)
  have HL3 := hid (Nat.lt_of_lt_of_le HLP3.out hg3.size)
  have HZ3 := hid (Nat.le_trans HZP3.out hg3.size)
  obtain ⟨a3, n3, c3, e3⟩ := src_named (ho3.src (by (try simp only [List.length_append]); omega))
  subst e3
  clear ho3 hg3 hbb3 HP3 HU3 HBP3 HFP3 HLP3 HZP3 
  have y4 := HFB3.out.s
  rw [E_s.out] at y4
  go_wp2_with fail
  refine (refUint_any S w3 (by omega)).mono ?_
  rintro e p4 ⟨u4, rfl, hou4, hbu4⟩
  have HU4 := hid (hou4.src (by omega))
  have HP4 := hid (HO3.out.below hbu4)
  have HBP4 := hid (below_then HB3.out hbu4)
  have HFP4 := hid (HFB3.out.below HL3.out hbu4)
  have HLP4 := hid (Nat.lt_of_lt_of_le HL3.out hbu4.size)
  have HZP4 := hid (Nat.le_trans HZ3.out hbu4.size)
  obtain ⟨au4, nu4, cu4, eu4⟩ := src_named HU4.out
  subst eu4
  clear hou4 hbu4 y4 HO3 HB3 HFB3 HL3 HZ3  
  go_wp2_with (at_builtin; refine app_src rfl _ _ rfl w1.heap.size _ _ rfl HP4.out _ _ rfl HU4.out (by (try simp only [List.length_append]); omega) HZP4.out ?_)
  intro v4 w4 ho4 hg4
  have HO4 := hid ho4
  have hbb4 : Below w1.heap.size p4 w4 := ⟨hg4.os, hg4.tape, hg4.output, hg4.size, fun k hk => hg4.block k (by have := HZP4.out; omega) (fun e => by have := (HP4.out.lt k e.symm).1; omega)⟩
  have HB4 := hid (show Below w.heap.size w w4 from below_tr HBP4.out (hbb4.mono (by have := HBL.out.size; omega)))
  have HFB4 := hid (show Fb w4 w.heap.size f va from fb_at HFP4.out HL1.out hbb4)
  have HL4 := hid (Nat.lt_of_lt_of_le HLP4.out hg4.size)
  have HZ4 := hid (Nat.le_trans HZP4.out hg4.size)
  obtain ⟨a4, n4, c4, e4⟩ := src_named (ho4.src (by (try simp only [List.length_append]); omega))
  subst e4
  clear ho4 hg4 hbb4 HP4 HU4 HBP4 HFP4 HLP4 HZP4 
  obtain ⟨X, HX⟩ : ∃ X, Hid (sn 1 ++ sn V ++ sn S = X) := ⟨_, rfl⟩
  have HO5 := hid (show OwnB w4 w1.heap.size (.slice a4 n4 c4) X by rw [← HX.out]; first | exact HO4.out | simpa only [List.append_assoc] using HO4.out)
  have hXl : X.length ≤ 30 := by rw [← HX.out]; simp only [List.length_append]; omega
  clear HO4
  go_wp2_with fail
  go_loopw [3, 4] (fun v i wr => ∃ k : Nat, k ≤ 32 ∧ i = .int .i64 k ∧ Hid (OwnB wr w1.heap.size v (X ++ f.tool.take k)) ∧ Hid (Below w.heap.size w wr) ∧ Hid (Fb wr w.heap.size f va) ∧ Hid (w1.heap.size ≤ wr.heap.size)) (fun _ i _ => 32 - (intOf i).toNat)
  case atStart => exact ⟨0, by omega, rfl, hid (by simpa using HO5.out), HB4, HFB4, HZ4⟩
  case round =>
    obtain ⟨k, hk, rfl, HO, HB, HFB, HZ⟩ := hrel
    have HTL := hid (show (f.tool.take k).length ≤ 32 by rw [List.length_take]; omega)
    obtain ⟨av, nv, cv, ev⟩ := src_named (HO.out.src (by rw [List.length_append]; have := HTL.out; omega))
    subst ev
    by_cases hlt : k < 32
    · have hki : (k : Int) < 32 := by omega
      have hd : decide ((k : Int) < 32) = true := by simpa using hki
      have hkt : k < f.tool.length := by rw [HF.out]; exact hlt
      have c1 : wr.cell? ⟨w.heap.size, 4 + k, none⟩ = some (.int .u8 ((f.tool.getD k 0).toNat : Nat)) := HFB.out.t k _ (by rw [bytesV_get, List.getElem?_eq_getElem hkt]; simp [List.getD_eq_getElem?_getD, List.getElem?_eq_getElem hkt])
      have HTK := hid (show f.tool.take k ++ [f.tool.getD k 0] = f.tool.take (k + 1) by rw [List.take_succ_eq_append_getElem hkt, List.getD_eq_getElem?_getD, List.getElem?_eq_getElem hkt]; rfl)
      have hkw : IntKind.i64.wrap ((k : Int) + 1) = (k : Int) + 1 := by rw [IntKind.wrap_i64]; omega
      have hpa : (⟨w.heap.size, 4, none⟩ : Addr).add k = ⟨w.heap.size, 4 + k, none⟩ := Addr.add_mid w.heap.size 4 k
      obtain ⟨T, HT⟩ : ∃ T, Hid (f.tool.getD k 0 = T) := ⟨_, rfl⟩
      rw [HT.out] at c1 HTK
      go_wp2_with (at_builtin; refine app_src rfl _ _ rfl w1.heap.size _ _ rfl (HO.out.below (below_walk wr _)) _ [T] rfl (src_lit (hp_new wr _) rfl (by simp) _ rfl) (by rw [List.length_append]; have := HTL.out; simp; omega) (by have := HZ.out; simp; omega) ?_)
      intro v9 w9 ho9 hg9
      have HO9 := hid (show OwnB w9 w1.heap.size v9 (X ++ f.tool.take (k + 1)) by rw [← HTK.out]; first | exact ho9 | simpa only [List.append_assoc] using ho9)
      have hbb : Below w1.heap.size (wr.alloc (.cells #[.int .u8 (T.toNat : Nat)] 5)) w9 := ⟨hg9.os, hg9.tape, hg9.output, hg9.size, fun j hj => hg9.block j (by have := HZ.out; simp; omega) (fun e => by have := (HO.out.lt j e.symm).1; omega)⟩
      have HB9 := hid (below_tr (below_then HB.out (below_walk wr (.cells #[.int .u8 (T.toNat : Nat)] 5))) (hbb.mono HBL.out.size))
      have HFB9 := hid (show Fb w9 w.heap.size f va from fb_at (HFB.out.below (Nat.lt_of_lt_of_le HL1.out HZ.out) (below_walk wr (.cells #[.int .u8 (T.toNat : Nat)] 5))) HL1.out hbb)
      have HZ9 := hid (show w1.heap.size ≤ w9.heap.size by have := hg9.size; have := HZ.out; simp at *; omega)
      have HT9 := hid (show (f.tool.take (k + 1)).length ≤ 32 by rw [List.length_take]; omega)
      obtain ⟨a9, n9, c9, e9⟩ := src_named (HO9.out.src (by rw [List.length_append]; have := HT9.out; omega))
      subst e9
      clear ho9 hg9 hbb c1 HO HB HFB HZ
      go_wp2
      exact ⟨⟨k + 1, by omega, by simp, HO9, HB9, HFB9, HZ9⟩, by simp [intOf]; omega⟩
    · obtain rfl : k = 32 := by omega
      have HS9 := hid (show Src wr (.slice av nv cv) (sn 1 ++ sn V ++ sn S ++ f.tool) by
        have h9 := HO.out.src (by rw [List.length_append]; have := HTL.out; omega)
        rw [List.take_of_length_le (by rw [HF.out]; omega)] at h9
        rw [HX.out]
        exact h9)
      have xz := HFB.out.k
      rw [HK.out] at xz
      go_wp2
      go_ret
      exact ⟨_, rfl, HS9.out, HB.out⟩

end Go.Proofs.YtiibhccbbpgehaaGreat

/- The document's Check of every frame. -/
namespace Go.Proofs.YtiibhccbbpgehaaGreat
open Go.RowKit Go.BigFrame

def bad1 (f : Fr) : Bool := decide (¬ (1 ≤ f.kind ∧ f.kind ≤ 6) ∨ sameP f (ownF f) = false ∨ 8 < f.args.length)
def bad2 (f : Fr) : Bool := bad1 f || decide (f.lim.1 < 0 ∨ f.lim.2.1 < 0 ∨ f.lim.2.2 < 0)
def bad3 (f : Fr) : Bool := bad2 f || decide (f.kind = 1 ∧ (f.ver ≠ 1 ∨ f.slots < 1 ∨ 64 < f.slots))
def bad4 (f : Fr) : Bool := bad3 f || decide (f.kind = 3 ∧ (f.status < 1 ∨ 3 < f.status ∨ (f.status ≠ 1 ∧ f.body ≠ [])))
theorem bad_ok (f : Fr) : (bad4 f || longA f.args) = !okFr f := by
  by_cases hk : 1 ≤ f.kind ∧ f.kind ≤ 6
  · by_cases hs : sameP f (ownF f) = true
    · have e := same_eq hs
      have hc : f.kind = 1 ∨ f.kind = 2 ∨ f.kind = 3 ∨ f.kind = 4 ∨ f.kind = 5 ∨ f.kind = 6 := by omega
      unfold bad4 bad3 bad2 bad1 okFr
      rw [hs, decide_eq_true hk]
      simp only [hk, Bool.true_and]
      rcases hc with k | k | k | k | k | k
      · rw [mayF_1 f k, own_1 f k] at *
        have eA := congrArg Fr.args e
        have eL := congrArg Fr.lim e
        simp only at eA eL
        rw [Bool.eq_iff_iff]
        simp [eA, eL, mayHelloP, longA, k]
        try omega
      · rw [mayF_2 f k]
        rw [Bool.eq_iff_iff]
        cases hl : longA f.args <;> simp [mayReqP, k, hl] <;> omega
      · rw [mayF_3 f k, own_3 f k] at *
        have eA := congrArg Fr.args e
        have eL := congrArg Fr.lim e
        simp only [resF] at eA eL
        rw [Bool.eq_iff_iff]
        by_cases hb : f.body = []
        · simp [eA, eL, mayResP, longA, k, hb]
          omega
        · simp [eA, eL, mayResP, longA, k, hb]
          omega
      · rw [mayF_4 f k, own_4 f k] at *
        have eA := congrArg Fr.args e
        have eL := congrArg Fr.lim e
        simp only [canF] at eA eL
        simp [eA, eL, longA, k]
      · rw [mayF_5 f k, own_5 f k] at *
        have eA := congrArg Fr.args e
        have eL := congrArg Fr.lim e
        simp only [byeF] at eA eL
        simp [eA, eL, longA, k]
      · rw [mayF_6 f k, own_6 f k] at *
        have eA := congrArg Fr.args e
        have eL := congrArg Fr.lim e
        simp only [noteF] at eA eL
        simp [eA, eL, longA, k]
    · have hs' : sameP f (ownF f) = false := by simpa using hs
      unfold bad4 bad3 bad2 bad1 okFr
      simp [hs']
  · unfold bad4 bad3 bad2 bad1 okFr
    rw [decide_eq_true (show ¬ (1 ≤ f.kind ∧ f.kind ≤ 6) ∨ sameP f (ownF f) = false ∨ 8 < f.args.length from Or.inl hk), decide_eq_false hk]
    rfl

set_option maxRecDepth 100000 in
set_option maxHeartbeats 4000000 in
theorem body5_any (f : Fr) (va : Value) (w : World) (hf : f.tool.length = 32) (hk : f.kind = 5) :
    Calls Tryz.prog 60 #[.agg (fcells f va).toArray] w fun e w' => ∃ v, e = .returned v ∧ Src w' v (sn 5) ∧ Below w.heap.size w w' := by
  have HNB := hid (hp_new w (.cells (fcells f va).toArray 30))
  have HBL := hid (below_walk w (.cells (fcells f va).toArray 30))
  go_enter Tryz.func60, Tryz.ntmps60
  go_upto_region 1 with fail
  generalize w.alloc (.cells (fcells f va).toArray 30) = w1 at HNB HBL ⊢
  have x0 : w1.cell? ⟨w.heap.size, 0, none⟩ = some (.int .i64 5) := by have := (Fb.of HNB.out hf).k; rw [hk] at this; exact this
  have hw5 : IntKind.u64.wrap 5 = 5 := rfl
  have HF := hid hf
  have HK := hid hk
  clear hk hf
  go_wp2_with fail
  refine (ruint_five w1).mono ?_
  rintro e w2 ⟨ao, c, rfl, ho2, hb2⟩
  have HS2 := hid (ho2.src (by simp))
  have HN2 := hid ((hb2.block _ (hp_lt HNB.out)).trans HNB.out)
  have HB2 := hid (below_then HBL.out hb2)
  have x1 : w2.cell? ⟨w.heap.size, 0, none⟩ = some (.int .i64 5) := by have := (Fb.of HN2.out HF.out).k; rw [HK.out] at this; exact this
  clear x0 hw5 ho2 hb2 HNB HBL HN2
  go_wp2
  go_ret
  exact ⟨_, rfl, HS2.out, HB2.out⟩

/-- the document's body of a frame that may be -/
theorem rbodyF_any (f : Fr) (va : Value) (W : World) (hr : Rng f) (ha : Strs W va f.args) (hk : 1 ≤ f.kind ∧ f.kind ≤ 6) (hm : mayF f = true) (hB : f.body.length ≤ 2097152) :
    Calls Tryz.prog 60 #[.agg (fcells f va).toArray] W fun e w' => ∃ v, e = .returned v ∧ Src w' v (bodyP f) ∧ Below W.heap.size W w' := by
  have hc : f.kind = 1 ∨ f.kind = 2 ∨ f.kind = 3 ∨ f.kind = 4 ∨ f.kind = 5 ∨ f.kind = 6 := by omega
  unfold bodyP
  rcases hc with k | k | k | k | k | k
  · rw [mayF_1 f k] at hm
    have h := mayHello_of hm
    rw [lay_1 f k, k, sns_two, ← List.append_assoc, ← List.append_assoc]
    exact body1_any f va W hr.tool k f.ver.toNat f.slots.toNat (toNat_eq (by omega)) (toNat_eq (by omega)) (by have := hr.ver; omega) (by have := hr.slots; omega)
  · rw [mayF_2 f k] at hm
    have h := mayReq_of hm
    rw [lay_2 f k, k]
    unfold layReqP
    rw [sns_thr]
    simp only [← List.append_assoc]
    exact body2_any f va W hr.tool k f.id.toNat f.lim.1.toNat f.lim.2.1.toNat f.lim.2.2.toNat (toNat_eq hr.idl) (by have := hr.idh; omega) (toNat_eq h.1) (toNat_eq h.2.1) (toNat_eq h.2.2.1) (by have := hr.l1; omega) (by have := hr.l2; omega) (by have := hr.l3; omega) ha (args_len h.2.2.2.2 h.2.2.2.1) hB
  · rw [mayF_3 f k] at hm
    have h := mayRes_of hm
    rw [lay_3 f k, k, sns_one]
    simp only [← List.append_assoc]
    exact body3_any f va W hr.tool k f.id.toNat f.status.toNat (toNat_eq hr.idl) (by have := hr.idh; omega) (toNat_eq (by omega)) (by have := hr.status; omega) hB
  · rw [lay_4 f k, k]
    exact body4_any f va W hr.tool k f.id.toNat (toNat_eq hr.idl) (by have := hr.idh; omega)
  · rw [lay_5 f k, k, List.append_nil]
    exact body5_any f va W hr.tool k
  · rw [lay_6 f k, k]
    exact body6_any f va W hr.tool k hB
end Go.Proofs.YtiibhccbbpgehaaGreat

/- The document's Check of every frame. -/
namespace Go.Proofs.YtiibhccbbpgehaaGreat
open Go.RowKit Go.BigFrame

theorem body_gt (f : Fr) (ho : okFr f = true) (h : 2097152 < f.body.length) : 2097152 < (bodyP f).length := by
  obtain ⟨hk, hs, hm⟩ := okFr_of ho
  rcases Nat.lt_or_ge 2097152 (bodyP f).length with h1 | h1
  · exact h1
  · exfalso
    have hc : (f.kind = 1 ∨ f.kind = 4 ∨ f.kind = 5) ∨ (f.kind = 2 ∨ f.kind = 3 ∨ f.kind = 6) := by omega
    rcases hc with k | k
    · rw [same_own_body hs k] at h
      simp at h
    · have := body_le f k h1
      omega
theorem bad1_kind (f : Fr) (h : ¬ (1 ≤ f.kind ∧ f.kind ≤ 6)) : bad1 f = true := by
  unfold bad1
  exact decide_eq_true (Or.inl h)
theorem bad1_same (f : Fr) (h : sameP f (ownF f) = false) : bad1 f = true := by
  unfold bad1
  exact decide_eq_true (Or.inr (Or.inl h))
theorem long_take {A : List (List UInt8)} {k : Nat} (h : longA (A.take k) = true) : longA A = true := by
  unfold longA at h ⊢
  rw [List.any_eq_true] at h ⊢
  obtain ⟨x, hx, hp⟩ := h
  exact ⟨x, List.mem_of_mem_take hx, hp⟩

set_option maxRecDepth 100000 in
set_option maxHeartbeats 8000000 in
theorem rcheckF_any (f : Fr) (va : Value) (w : World) (hr : Rng f) (ha : Strs w va f.args) :
    Calls Tryz.prog 59 #[.agg (fcells f va).toArray] w fun e w' => e = .returned (.int .i64 (chkE f)) ∧ Below w.heap.size w w' := by
  obtain ⟨ao, c, rfl⟩ := ha.shape
  have HNB := hid (hp_new w (.cells (fcells f (.slice ao f.args.length c)).toArray 30))
  have HBL := hid (below_walk w (.cells (fcells f (.slice ao f.args.length c)).toArray 30))
  have HSZ := hid (frame_size f (.slice ao f.args.length c) hr.tool)
  have HR := hid hr
  have HA := hid ha
  clear ha hr
  go_enter Tryz.func59, Tryz.ntmps59
  go_upto_region 1 with fail
  have HA1 := hid (HA.out.below HBL.out)
  generalize w.alloc (.cells (fcells f (.slice ao f.args.length c)).toArray 30) = w1 at HNB HBL HA1 ⊢
  have HL := hid (hp_lt HNB.out)
  go_cut [3] from 5 (fun s3 wx => s3 = .bool (bad1 f) ∧ Below w1.heap.size w1 wx)
  case first =>
    as_aux_lemma =>
      have x0 : w1.cell? ⟨w.heap.size, 0, none⟩ = some (.int .i64 f.kind) := (Fb.of HNB.out HR.out.tool).k
      have x7 : w1.cell? ⟨w.heap.size, 40, none⟩ = some (.slice ao f.args.length c) := (Fb.of HNB.out HR.out.tool).a
      have z0 := fun p : Bel w1 => p.cell x0 HL.out
      have z7 := fun p : Bel w1 => p.cell x7 HL.out
      have ib : Nonempty (Bel w1) := bel_some w1
      have HRA := hid (Bel.range (range_row HNB.out) HL.out)
      clear x0 x7
      by_cases h1 : f.kind < 1
      · have q1 : decide (f.kind < 1) = true := decide_eq_true h1
        have HB := hid ((bad1_kind f (fun h => by omega)).symm)
        refine wp_region_quiet_bel (by kernel_rfl) (by kernel_rfl) ?_
        repeat (go_big_quiet_step (fail))
        refine wpQuiet_nil ?_
        rintro w2 ⟨⟨w2', hb2⟩, hw2⟩
        obtain rfl : w2 = w2' := hw2
        go_wp2
        go_meet
        case rel => exact ⟨congrArg Value.bool HB.out, hb2⟩
      · by_cases h6 : 6 < f.kind
        · have q1 : decide (f.kind < 1) = false := decide_eq_false h1
          have q2 : decide (6 < f.kind) = true := decide_eq_true h6
          have HB := hid ((bad1_kind f (fun h => by omega)).symm)
          refine wp_region_quiet_bel (by kernel_rfl) (by kernel_rfl) ?_
          repeat (go_big_quiet_step (fail))
          refine wpQuiet_nil ?_
          rintro w2 ⟨⟨w2', hb2⟩, hw2⟩
          obtain rfl : w2 = w2' := hw2
          go_wp2
          go_meet
          case rel => exact ⟨congrArg Value.bool HB.out, hb2⟩
        · have q1 : decide (f.kind < 1) = false := decide_eq_false h1
          have q2 : decide (6 < f.kind) = false := decide_eq_false h6
          have HON := hid (fun p : Bel w1 => only_any f (.slice ao f.args.length c) p.out ⟨by omega, by omega⟩ HR.out.tool ⟨_, _, _, rfl⟩)
          have HSM := hid (fun p : Bel w1 => rsame_own f (.slice ao f.args.length c) p.out HR.out.tool (HA1.out.below p.bel) HR.out.many)
          obtain ⟨S, HS⟩ : ∃ S, Hid (sameP f (ownF f) = S) := ⟨_, rfl⟩
          rw [HS.out] at HSM
          cases S with
          | false =>
            have HB := hid ((bad1_same f HS.out).symm)
            refine wp_region_quiet_bel (by kernel_rfl) (by kernel_rfl) ?_
            go_big_quiet_step (fail)
            go_big_quiet_step (fail)
            go_big_quiet_step (fail)
            go_big_quiet_step (fail)
            go_big_quiet_step (fail)
            go_big_quiet_step (fail)
            go_big_quiet_step (fail)
            go_big_quiet_step (fail)
            go_big_quiet_step (fail)
            refine wpQuiet_want (by rfl) fun K hK => quiet_ld 30 (.tmp 1) (by rfl) w.heap.size 0 (by rfl) _ _ HRA.out Tryz.underlying30 rfl HSZ.out (hK _ ?_)
            simp only [Act.put, List.setIfInBounds_toArray, List.set_cons_succ, List.set_cons_zero]
            refine wpQuiet_want (by rfl) fun K hK => quiet_ld 30 (.tmp 1) (by rfl) w.heap.size 0 (by rfl) _ _ HRA.out Tryz.underlying30 rfl HSZ.out (hK _ ?_)
            simp only [Act.put, List.setIfInBounds_toArray, List.set_cons_succ, List.set_cons_zero]
            go_big_quiet_step (first | (go_at_call 90; exact bel_of (HON.out _)))
            go_big_quiet_step (first | (go_at_call 11; exact bel_of (HSM.out _)))
            go_big_quiet_step (fail)
            go_big_quiet_step (fail)
            go_big_quiet_step (fail)
            go_big_quiet_step (fail)
            go_big_quiet_step (fail)
            go_big_quiet_step (fail)
            go_big_quiet_step (fail)
            go_big_quiet_step (fail)
            go_big_quiet_step (fail)
            refine wpQuiet_nil ?_
            rintro w2 ⟨⟨w2', hb2⟩, hw2⟩
            obtain rfl : w2 = w2' := hw2
            go_wp2
            go_meet
            case rel => exact ⟨congrArg Value.bool HB.out, hb2⟩
          | true =>
            have HB := hid (show decide ((8 : Int) < (f.args.length : Int)) = bad1 f by
              unfold bad1
              rw [HS.out]
              refine decide_eq_decide.2 ⟨fun h => Or.inr (Or.inr (by omega)), fun h => ?_⟩
              rcases h with h | h | h
              · exact absurd (⟨by omega, by omega⟩ : 1 ≤ f.kind ∧ f.kind ≤ 6) h
              · cases h
              · omega)
            refine wp_region_quiet_bel (by kernel_rfl) (by kernel_rfl) ?_
            go_big_quiet_step (fail)
            go_big_quiet_step (fail)
            go_big_quiet_step (fail)
            go_big_quiet_step (fail)
            go_big_quiet_step (fail)
            go_big_quiet_step (fail)
            go_big_quiet_step (fail)
            go_big_quiet_step (fail)
            go_big_quiet_step (fail)
            refine wpQuiet_want (by rfl) fun K hK => quiet_ld 30 (.tmp 1) (by rfl) w.heap.size 0 (by rfl) _ _ HRA.out Tryz.underlying30 rfl HSZ.out (hK _ ?_)
            simp only [Act.put, List.setIfInBounds_toArray, List.set_cons_succ, List.set_cons_zero]
            refine wpQuiet_want (by rfl) fun K hK => quiet_ld 30 (.tmp 1) (by rfl) w.heap.size 0 (by rfl) _ _ HRA.out Tryz.underlying30 rfl HSZ.out (hK _ ?_)
            simp only [Act.put, List.setIfInBounds_toArray, List.set_cons_succ, List.set_cons_zero]
            go_big_quiet_step (first | (go_at_call 90; exact bel_of (HON.out _)))
            go_big_quiet_step (first | (go_at_call 11; exact bel_of (HSM.out _)))
            go_big_quiet_step (fail)
            go_big_quiet_step (fail)
            go_big_quiet_step (fail)
            go_big_quiet_step (fail)
            go_big_quiet_step (fail)
            go_big_quiet_step (fail)
            go_big_quiet_step (fail)
            go_big_quiet_step (fail)
            go_big_quiet_step (fail)
            refine wpQuiet_nil ?_
            rintro w2 ⟨⟨w2', hb2⟩, hw2⟩
            obtain rfl : w2 = w2' := hw2
            go_wp2
            go_meet
            case rel => exact ⟨congrArg Value.bool HB.out, hb2⟩
  case rest =>
    as_aux_lemma =>
      obtain ⟨rfl, hb2⟩ := hcut
      have HN2 := hid ((hb2.block _ HL.out).trans HNB.out)
      have HA2 := hid (HA1.out.below hb2)
      have HB2 := hid (below_then HBL.out hb2)
      clear hb2 HA1 HBL HNB HL
      have HFB := hid (Fb.of HN2.out HR.out.tool)
      have x0 := HFB.out.k
      have x2 := HFB.out.v
      have x3 := HFB.out.s
      have x5 := HFB.out.st
      have l1 := HFB.out.l1
      have l2 := HFB.out.l2
      have l3 := HFB.out.l3
      have x7 := HFB.out.a
      have x8 := HFB.out.bd
      clear HFB
      obtain ⟨b1, Hb1⟩ : ∃ b, Hid (bad1 f = b) := ⟨_, rfl⟩
      rw [Hb1.out]
      go_upto_region 2 with fail
      go_cut [3] from 5 (fun s3 wx => s3 = .bool (bad2 f) ∧ wx = wc)
      case first =>
        as_aux_lemma =>
          clear HN2 HA2 HB2 HSZ
          cases b1 with
          | true =>
            have HX := hid (show true = bad2 f from by unfold bad2; rw [Hb1.out]; rfl)
            as_aux_lemma =>
              go_wp2
              go_meet
              case rel => exact ⟨congrArg Value.bool HX.out, rfl⟩
          | false =>
            by_cases a1 : f.lim.1 < 0
            · have da1 : decide (f.lim.1 < 0) = true := decide_eq_true a1
              have HX := hid (show true = bad2 f from by unfold bad2; rw [Hb1.out, decide_eq_true (Or.inl a1)]; rfl)
              as_aux_lemma =>
                go_wp2
                go_meet
                case rel => exact ⟨congrArg Value.bool HX.out, rfl⟩
            · have da1 : decide (f.lim.1 < 0) = false := decide_eq_false a1
              by_cases a2 : f.lim.2.1 < 0
              · have da2 : decide (f.lim.2.1 < 0) = true := decide_eq_true a2
                have HX := hid (show true = bad2 f from by unfold bad2; rw [Hb1.out, decide_eq_true (Or.inr (Or.inl a2))]; rfl)
                as_aux_lemma =>
                  go_wp2
                  go_meet
                  case rel => exact ⟨congrArg Value.bool HX.out, rfl⟩
              · have da2 : decide (f.lim.2.1 < 0) = false := decide_eq_false a2
                by_cases a3 : f.lim.2.2 < 0
                · have da3 : decide (f.lim.2.2 < 0) = true := decide_eq_true a3
                  have HX := hid (show true = bad2 f from by unfold bad2; rw [Hb1.out, decide_eq_true (Or.inr (Or.inr a3))]; rfl)
                  as_aux_lemma =>
                    go_wp2
                    go_meet
                    case rel => exact ⟨congrArg Value.bool HX.out, rfl⟩
                · have da3 : decide (f.lim.2.2 < 0) = false := decide_eq_false a3
                  have HX := hid (show false = bad2 f from by unfold bad2; rw [Hb1.out, decide_eq_false (by rintro (h | h | h) <;> omega)]; rfl)
                  as_aux_lemma =>
                    go_wp2
                    go_meet
                    case rel => exact ⟨congrArg Value.bool HX.out, rfl⟩
      case rest =>
        as_aux_lemma =>
          obtain ⟨rfl, rfl⟩ := hcut
          clear Hb1
          obtain ⟨b2, Hb2⟩ : ∃ b, Hid (bad2 f = b) := ⟨_, rfl⟩
          rw [Hb2.out]
          go_upto_region 3 with fail
          go_cut [3] from 5 (fun s3 wx => s3 = .bool (bad3 f) ∧ wx = wc)
          case first =>
            as_aux_lemma =>
              clear HN2 HA2 HB2 HSZ
              cases b2 with
              | true =>
                have HX := hid (show true = bad3 f from by unfold bad3; rw [Hb2.out]; rfl)
                as_aux_lemma =>
                  go_wp2
                  go_meet
                  case rel => exact ⟨congrArg Value.bool HX.out, rfl⟩
              | false =>
                by_cases a0 : f.kind = 1
                · have da0 : decide (f.kind = 1) = true := decide_eq_true a0
                  have ea0 : (f.kind == 1) = true := by simpa using a0
                  have ga0 : (f.kind != 1) = false := by simpa using a0
                  by_cases a1 : f.ver = 1
                  · have da1 : decide (f.ver = 1) = true := decide_eq_true a1
                    have ea1 : (f.ver == 1) = true := by simpa using a1
                    have ga1 : (f.ver != 1) = false := by simpa using a1
                    by_cases a2 : f.slots < 1
                    · have da2 : decide (f.slots < 1) = true := decide_eq_true a2
                      have HX := hid (show true = bad3 f from by unfold bad3; rw [Hb2.out, decide_eq_true (⟨a0, Or.inr (Or.inl a2)⟩)]; rfl)
                      as_aux_lemma =>
                        go_wp2
                        go_meet
                        case rel => exact ⟨congrArg Value.bool HX.out, rfl⟩
                    · have da2 : decide (f.slots < 1) = false := decide_eq_false a2
                      by_cases a3 : 64 < f.slots
                      · have da3 : decide (64 < f.slots) = true := decide_eq_true a3
                        have HX := hid (show true = bad3 f from by unfold bad3; rw [Hb2.out, decide_eq_true (⟨a0, Or.inr (Or.inr a3)⟩)]; rfl)
                        as_aux_lemma =>
                          go_wp2
                          go_meet
                          case rel => exact ⟨congrArg Value.bool HX.out, rfl⟩
                      · have da3 : decide (64 < f.slots) = false := decide_eq_false a3
                        have HX := hid (show false = bad3 f from by unfold bad3; rw [Hb2.out, decide_eq_false (by rintro ⟨_, h | h | h⟩ <;> omega)]; rfl)
                        as_aux_lemma =>
                          go_wp2
                          go_meet
                          case rel => exact ⟨congrArg Value.bool HX.out, rfl⟩
                  · have da1 : decide (f.ver = 1) = false := decide_eq_false a1
                    have ea1 : (f.ver == 1) = false := by simpa using a1
                    have ga1 : (f.ver != 1) = true := by simpa using a1
                    have HX := hid (show true = bad3 f from by unfold bad3; rw [Hb2.out, decide_eq_true (⟨a0, Or.inl a1⟩)]; rfl)
                    as_aux_lemma =>
                      go_wp2
                      go_meet
                      case rel => exact ⟨congrArg Value.bool HX.out, rfl⟩
                · have da0 : decide (f.kind = 1) = false := decide_eq_false a0
                  have ea0 : (f.kind == 1) = false := by simpa using a0
                  have ga0 : (f.kind != 1) = true := by simpa using a0
                  have HX := hid (show false = bad3 f from by unfold bad3; rw [Hb2.out, decide_eq_false (fun h => a0 h.1)]; rfl)
                  as_aux_lemma =>
                    go_wp2
                    go_meet
                    case rel => exact ⟨congrArg Value.bool HX.out, rfl⟩
          case rest =>
            as_aux_lemma =>
              obtain ⟨rfl, rfl⟩ := hcut
              clear Hb2
              obtain ⟨b3, Hb3⟩ : ∃ b, Hid (bad3 f = b) := ⟨_, rfl⟩
              rw [Hb3.out]
              go_upto_region 4 with fail
              go_cut [3] from 5 (fun s3 wx => s3 = .bool (bad4 f) ∧ wx = wc)
              case first =>
                as_aux_lemma =>
                  clear HN2 HA2 HB2 HSZ
                  cases b3 with
                  | true =>
                    have HX := hid (show true = bad4 f from by unfold bad4; rw [Hb3.out]; rfl)
                    as_aux_lemma =>
                      go_wp2
                      go_meet
                      case rel => exact ⟨congrArg Value.bool HX.out, rfl⟩
                  | false =>
                    by_cases a0 : f.kind = 3
                    · have da0 : decide (f.kind = 3) = true := decide_eq_true a0
                      have ea0 : (f.kind == 3) = true := by simpa using a0
                      have ga0 : (f.kind != 3) = false := by simpa using a0
                      by_cases a1 : f.status < 1
                      · have da1 : decide (f.status < 1) = true := decide_eq_true a1
                        have HX := hid (show true = bad4 f from by unfold bad4; rw [Hb3.out, decide_eq_true (⟨a0, Or.inl a1⟩)]; rfl)
                        as_aux_lemma =>
                          go_wp2
                          go_meet
                          case rel => exact ⟨congrArg Value.bool HX.out, rfl⟩
                      · have da1 : decide (f.status < 1) = false := decide_eq_false a1
                        by_cases a2 : 3 < f.status
                        · have da2 : decide (3 < f.status) = true := decide_eq_true a2
                          have HX := hid (show true = bad4 f from by unfold bad4; rw [Hb3.out, decide_eq_true (⟨a0, Or.inr (Or.inl a2)⟩)]; rfl)
                          as_aux_lemma =>
                            go_wp2
                            go_meet
                            case rel => exact ⟨congrArg Value.bool HX.out, rfl⟩
                        · have da2 : decide (3 < f.status) = false := decide_eq_false a2
                          by_cases a3 : f.status = 1
                          · have da3 : decide (f.status = 1) = true := decide_eq_true a3
                            have ea3 : (f.status == 1) = true := by simpa using a3
                            have ga3 : (f.status != 1) = false := by simpa using a3
                            have HX := hid (show false = bad4 f from by unfold bad4; rw [Hb3.out, decide_eq_false (by rintro ⟨_, h | h | h⟩ <;> omega)]; rfl)
                            as_aux_lemma =>
                              go_wp2
                              go_meet
                              case rel => exact ⟨congrArg Value.bool HX.out, rfl⟩
                          · have da3 : decide (f.status = 1) = false := decide_eq_false a3
                            have ea3 : (f.status == 1) = false := by simpa using a3
                            have ga3 : (f.status != 1) = true := by simpa using a3
                            by_cases a4 : f.body = []
                            · have e4 : (mk f.body).toList = [] := (bl_mk f.body).trans a4
                              have e5 : ((mk f.body).toList == []) = true := by rw [e4]; rfl
                              have e6 : (mk f.body) = ⟨#[]⟩ := by rw [a4]; rfl
                              have e7 : ((mk f.body).toList != []) = false := by rw [e4]; rfl
                              have HX := hid (show false = bad4 f from by unfold bad4; rw [Hb3.out, decide_eq_false (by rintro ⟨_, h | h | h⟩ <;> first | omega | exact h.2 a4)]; rfl)
                              clear a4 e6
                              as_aux_lemma =>
                                go_wp2
                                go_meet
                                case rel => exact ⟨congrArg Value.bool HX.out, rfl⟩
                            · have e4 : ¬ (mk f.body).toList = [] := fun h => a4 ((bl_mk f.body).symm.trans h)
                              have e5 : ((mk f.body).toList == []) = false := by simpa using e4
                              have e7 : ((mk f.body).toList != []) = true := by simpa using e4
                              have e8 : (mk f.body).toList.isEmpty = false := by rw [List.isEmpty_eq_false_iff]; exact e4
                              have HX := hid (show true = bad4 f from by unfold bad4; rw [Hb3.out, decide_eq_true (⟨a0, Or.inr (Or.inr ⟨a3, a4⟩)⟩)]; rfl)
                              as_aux_lemma =>
                                go_wp2
                                go_meet
                                case rel => exact ⟨congrArg Value.bool HX.out, rfl⟩
                    · have da0 : decide (f.kind = 3) = false := decide_eq_false a0
                      have ea0 : (f.kind == 3) = false := by simpa using a0
                      have ga0 : (f.kind != 3) = true := by simpa using a0
                      have HX := hid (show false = bad4 f from by unfold bad4; rw [Hb3.out, decide_eq_false (fun h => a0 h.1)]; rfl)
                      as_aux_lemma =>
                        go_wp2
                        go_meet
                        case rel => exact ⟨congrArg Value.bool HX.out, rfl⟩
              case rest =>
                as_aux_lemma =>
                  obtain ⟨rfl, rfl⟩ := hcut
                  clear Hb3
                  clear x2 x3 x5 l1 l2 l3
                  go_wp2_with fail
                  go_loopw [3, 4] (fun b i wr => ∃ k : Nat, k ≤ f.args.length ∧ i = .int .i64 k ∧ wr = wc ∧ ∃ B, b = .bool B ∧ Hid ((bad4 f || longA (f.args.take k)) = B)) (fun _ i _ => f.args.length - (intOf i).toNat)
                  case atStart => exact ⟨0, by omega, rfl, rfl, _, rfl, hid (by simp [longA])⟩
                  case round =>
                    obtain ⟨k, hk, rfl, rfl, B, rfl, HBK⟩ := hrel
                    by_cases hlt : k < f.args.length
                    · have hki : (k : Int) < (f.args.length : Int) := by omega
                      have hd : decide ((k : Int) < (f.args.length : Int)) = true := by simpa using hki
                      have hkw : IntKind.i64.wrap ((k : Int) + 1) = (k : Int) + 1 := by have := HR.out.many; rw [IntKind.wrap_i64]; omega
                      cases B with
                      | true =>
                        as_aux_lemma =>
                          have HE := hid (show chkE f = 70 by
                            have h : (bad4 f || longA f.args) = true := by
                              have h := HBK.out
                              rw [Bool.or_eq_true] at h ⊢
                              exact h.imp_right long_take
                            rw [bad_ok] at h
                            unfold chkE
                            rw [if_neg (by intro h2; rw [h2] at h; cases h)])
                          go_wp2
                          go_ret
                          exact ⟨by rw [HE.out]; rfl, HB2.out⟩
                      | false =>
                        as_aux_lemma =>
                          obtain ⟨g1, o1, rfl, c1⟩ := HA2.out.at k hlt
                          have HS : (mk (f.args.getD k [])).size = (f.args.getD k []).length := mk_size _
                          have h0 : bad4 f = false ∧ longA (f.args.take k) = false := by
                            have h := HBK.out
                            rw [Bool.or_eq_false_iff] at h
                            exact h
                          by_cases hlg : 4096 < (f.args.getD k []).length
                          · have HY := hid (show (bad4 f || longA (f.args.take (k + 1))) = true by
                              rw [Bool.or_eq_true]
                              refine Or.inr (long_yes (k := k) (by simp; omega) ?_)
                              rw [List.getD_eq_getElem?_getD, List.getElem?_take_of_lt (by omega), ← List.getD_eq_getElem?_getD]
                              exact hlg)
                            obtain ⟨M, HM⟩ : ∃ M : Nat, Hid ((f.args.getD k []).length = M) := ⟨_, rfl⟩
                            rw [HM.out] at HS hlg
                            have q1 : (4096 : Int) < (M : Int) := by omega
                            have q2 : decide ((4096 : Int) < (M : Int)) = true := decide_eq_true q1
                            clear hlg h0 HBK
                            generalize mk (f.args.getD k []) = s at *
                            go_wp2
                            exact ⟨⟨k + 1, by omega, by simp, by first | rfl | trivial, _, rfl, HY⟩, by simp [intOf]; omega⟩
                          · have HY := hid (show (bad4 f || longA (f.args.take (k + 1))) = false by
                              rw [h0.1, long_no hlt h0.2 hlg]
                              rfl)
                            obtain ⟨M, HM⟩ : ∃ M : Nat, Hid ((f.args.getD k []).length = M) := ⟨_, rfl⟩
                            rw [HM.out] at HS hlg
                            have q1 : ¬ (4096 : Int) < (M : Int) := by omega
                            have q2 : decide ((4096 : Int) < (M : Int)) = false := decide_eq_false q1
                            clear hlg h0 HBK
                            generalize mk (f.args.getD k []) = s at *
                            go_wp2
                            exact ⟨⟨k + 1, by omega, by simp, by first | rfl | trivial, _, rfl, HY⟩, by simp [intOf]; omega⟩
                    · obtain rfl : k = f.args.length := by omega
                      rw [List.take_length, bad_ok] at HBK
                      cases B with
                      | true =>
                        as_aux_lemma =>
                          have HE := hid (show chkE f = 70 by
                            unfold chkE
                            rw [if_neg (by intro h2; have h := HBK.out; rw [h2] at h; cases h)])
                          go_wp2
                          go_ret
                          exact ⟨by rw [HE.out]; rfl, HB2.out⟩
                      | false =>
                        as_aux_lemma =>
                          have HO := hid (show okFr f = true by have h := HBK.out; simpa using h)
                          have hbs : (mk f.body).size = f.body.length := mk_size _
                          clear HBK
                          by_cases hB : 2097152 < f.body.length
                          · have HE := hid (show chkE f = 3 by
                              unfold chkE
                              rw [if_pos HO.out, if_pos (body_gt f HO.out hB)])
                            have q1 : (2097152 : Int) < (f.body.length : Int) := by omega
                            have q2 : decide ((2097152 : Int) < (f.body.length : Int)) = true := decide_eq_true q1
                            clear hB
                            go_wp2
                            go_ret
                            exact ⟨by rw [HE.out]; rfl, HB2.out⟩
                          · have q1 : ¬ (2097152 : Int) < (f.body.length : Int) := by omega
                            have q2 : decide ((2097152 : Int) < (f.body.length : Int)) = false := decide_eq_false q1
                            have HBO := hid (rbodyF_any f (.slice ao f.args.length c) wr HR.out HA2.out (okFr_of HO.out).1 (okFr_of HO.out).2.2 (by omega))
                            have HRG := hid (range_row HN2.out)
                            clear hB
                            go_wp2_with (refine ld_gd (by rfl) 30 (.tmp 1) (by rfl) w.heap.size 0 (by rfl) _ _ HRG.out Tryz.underlying30 rfl HSZ.out ?_)
                            refine HBO.out.mono ?_
                            rintro e w3 ⟨v3, rfl, hs3, hb3⟩
                            obtain ⟨a3, c3, rfl⟩ := src_shape hs3
                            have HB3 := hid (below_then HB2.out hb3)
                            have HE : Hid (chkE f = if 2097152 < (bodyP f).length then 3 else 0) := hid (by unfold chkE; rw [if_pos HO.out])
                            obtain ⟨M, HM⟩ : ∃ M : Nat, Hid ((bodyP f).length = M) := ⟨_, rfl⟩
                            rw [HM.out] at HE ⊢
                            clear hs3 hb3 HB2 HBO HRG HN2 HA2 HO x0 x7 x8 q1 q2
                            by_cases hM : 2097152 < M
                            · have q1 : (2097152 : Int) < (M : Int) := by omega
                              have q2 : decide ((2097152 : Int) < (M : Int)) = true := decide_eq_true q1
                              rw [if_pos hM] at HE
                              clear hM
                              go_wp2
                              go_ret
                              exact ⟨by rw [HE.out]; rfl, HB3.out⟩
                            · have q1 : ¬ (2097152 : Int) < (M : Int) := by omega
                              have q2 : decide ((2097152 : Int) < (M : Int)) = false := decide_eq_false q1
                              rw [if_neg hM] at HE
                              clear hM
                              go_wp2
                              go_ret
                              exact ⟨by rw [HE.out]; rfl, HB3.out⟩
end Go.Proofs.YtiibhccbbpgehaaGreat

/- The document's Encode of every frame. -/
namespace Go.Proofs.YtiibhccbbpgehaaGreat
open Go.RowKit Go.BigFrame

set_option maxRecDepth 100000 in
set_option maxHeartbeats 4000000 in
theorem rencF_err (f : Fr) (va : Value) (w : World) (hr : Rng f) (ha : Strs w va f.args) (h : chkE f ≠ 0) :
    Calls Tryz.prog 28 #[.agg (fcells f va).toArray] w fun e w' => e = .returned (.tuple #[.slice none 0 0, .int .i64 (chkE f)]) ∧ Below w.heap.size w w' := by
  have HNB := hid (hp_new w (.cells (fcells f va).toArray 30))
  have HBL := hid (below_walk w (.cells (fcells f va).toArray 30))
  have HSZ := hid (frame_size f va hr.tool)
  have HCK := hid (rcheckF_any f va _ hr (ha.below HBL.out))
  obtain ⟨E, HE⟩ : ∃ E, Hid (chkE f = E) := ⟨_, rfl⟩
  rw [HE.out] at h HCK
  have q1 : (E != 0) = true := by simpa using h
  have q2 : (E == 0) = false := by simpa using h
  clear ha hr h
  go_enter Tryz.func28, Tryz.ntmps28
  go_upto_region 1 with fail
  generalize w.alloc (.cells (fcells f va).toArray 30) = w1 at HNB HBL HCK ⊢
  generalize fcells f va = FF at *
  go_wp2_with (refine ld_row (by rfl) 30 (.tmp 1) (by rfl) w.heap.size (by rfl) FF 30 HNB.out _ Tryz.underlying30 rfl HSZ.out ?_)
  refine HCK.out.mono ?_
  rintro e w2 ⟨rfl, hb2⟩
  have HB2 := hid (below_then HBL.out hb2)
  clear hb2 HNB HBL HCK
  go_wp2
  go_ret2
  exact ⟨by rw [HE.out]; rfl, HB2.out⟩

set_option maxRecDepth 100000 in
set_option maxHeartbeats 4000000 in
theorem rencF_ok (f : Fr) (va : Value) (w : World) (hr : Rng f) (ha : Strs w va f.args) (h : chkE f = 0) :
    Calls Tryz.prog 28 #[.agg (fcells f va).toArray] w fun e w' => ∃ v, e = .returned (.tuple #[v, .int .i64 0]) ∧ OwnB w' w.heap.size v (encP f) ∧ Below w.heap.size w w' := by
  have HNB := hid (hp_new w (.cells (fcells f va).toArray 30))
  have HBL := hid (below_walk w (.cells (fcells f va).toArray 30))
  have HSZ := hid (frame_size f va hr.tool)
  have HCK := hid (rcheckF_any f va _ hr (ha.below HBL.out))
  rw [h] at HCK
  obtain ⟨ho, hl⟩ := chk_ok h
  have hBl : f.body.length ≤ 2097152 := by
    rcases Nat.lt_or_ge 2097152 f.body.length with h1 | h1
    · have := body_gt f ho h1
      omega
    · exact h1
  have HBO := hid (fun W (hW : Strs W va f.args) => rbodyF_any f va W hr hW (okFr_of ho).1 (okFr_of ho).2.2 hBl)
  have HA := hid (ha.below HBL.out)
  obtain ⟨EP, HEP⟩ : ∃ E, Hid (encP f = E) := ⟨_, rfl⟩
  have HEN : Hid (EP = sealP (sn (bodyP f).length ++ bodyP f)) := hid (HEP.out.symm)
  have hsl := sn_length_le (bodyP f).length
  clear ha hr h ho hBl
  go_enter Tryz.func28, Tryz.ntmps28
  go_upto_region 1 with fail
  generalize w.alloc (.cells (fcells f va).toArray 30) = w1 at HNB HBL HCK HA ⊢
  generalize fcells f va = FF at *
  generalize bodyP f = BP at *
  obtain ⟨M, HM⟩ : ∃ M : Nat, Hid (BP.length = M) := ⟨_, rfl⟩
  rw [HM.out] at hl hsl HEN
  go_wp2_with (refine ld_row (by rfl) 30 (.tmp 1) (by rfl) w.heap.size (by rfl) FF 30 HNB.out _ Tryz.underlying30 rfl HSZ.out ?_)
  refine HCK.out.mono ?_
  rintro e w2 ⟨rfl, hb2⟩
  have HN2 := hid ((hb2.block _ (hp_lt HNB.out)).trans HNB.out)
  have HB2 := hid (below_then HBL.out hb2)
  have HA2 := hid (HA.out.below hb2)
  clear hb2 HNB HBL HCK HA
  go_wp2_with (refine ld_row (by rfl) 30 (.tmp 1) (by rfl) w.heap.size (by rfl) FF 30 HN2.out _ Tryz.underlying30 rfl HSZ.out ?_)
  refine (HBO.out w2 HA2.out).mono ?_
  rintro e w3 ⟨v3, rfl, hs3, hb3⟩
  obtain ⟨ao, c, rfl⟩ := src_shape hs3
  have HS3 := hid hs3
  have HB3 := hid (below_then HB2.out hb3)
  have hw1 : IntKind.u64.wrap (M : Int) = (M : Int) := by rw [IntKind.wrap_u64]; omega
  rw [HM.out] at HS3 ⊢
  clear hs3 hb3 HN2 HB2 HBO HA2
  go_wp2_with fail
  refine (refUint_any M w3 (by omega)).mono ?_
  rintro e w4 ⟨v4, rfl, ho4, hb4⟩
  have HO4 := hid ho4
  have HS4 := hid (HS3.out.below hb4)
  have HB4 := hid (below_then HB3.out hb4)
  have HZ4 := hid hb4.size
  obtain ⟨a4, c4, e4⟩ := src_shape (ho4.src (by omega))
  subst e4
  clear ho4 hb4 HS3 hw1
  go_wp2_with (at_builtin; refine app_src rfl _ _ rfl w3.heap.size _ (sn M) rfl HO4.out _ BP rfl HS4.out (by rw [HM.out]; omega) HZ4.out ?_)
  intro v5 w5 ho5 hg5
  have hs5 : Src w5 v5 (sn M ++ BP) := ho5.src (by rw [List.length_append, HM.out]; omega)
  have HB5 := hid (show Below w.heap.size w w5 from below_tr HB4.out ⟨hg5.os, hg5.tape, hg5.output, hg5.size, fun k hk => hg5.block k (by have := HB3.out.size; have := HZ4.out; omega) (fun e => by have := (HO4.out.lt k e.symm).1; have := HB3.out.size; omega)⟩)
  have HSE := hid (rseal_any w5 v5 (sn M ++ BP) hs5 (by rw [List.length_append, HM.out]; omega))
  obtain ⟨a5, c5, e5⟩ := src_shape hs5
  obtain ⟨M5, HM5⟩ : ∃ M5, Hid ((sn M ++ BP).length = M5) := ⟨_, rfl⟩
  rw [HM5.out] at e5
  subst e5
  clear ho5 hg5 hs5 HB4 HB3 HZ4 HO4 HS4
  go_wp2_with fail
  refine HSE.out.mono ?_
  rintro e w6 ⟨v6, rfl, ho6, hb6⟩
  rw [← HEN.out] at ho6
  have HO6 := hid (ho6.le HB5.out.size)
  have HB7 := hid (below_then HB5.out hb6)
  obtain ⟨a6, c6, e6⟩ := src_shape (ho6.src (by rw [HEN.out, sealP_length, List.length_append, HM.out]; omega))
  obtain ⟨M6, HM6⟩ : ∃ M6, Hid (EP.length = M6) := ⟨_, rfl⟩
  rw [HM6.out] at e6
  subst e6
  clear ho6 hb6
  go_wp2
  go_ret2
  refine ⟨_, rfl, ?_, HB7.out⟩
  rw [HEP.out]
  exact HO6.out

end Go.Proofs.YtiibhccbbpgehaaGreat

/- StreamFrames answers true. -/
namespace Go.Proofs.YtiibhccbbpgehaaGreat
open Go.RowKit Go.BigFrame

theorem owni_at6 {w : World} {base n c : Nat} {ao : Option Addr} {l : List Nat} (h : OwnI w base (.slice ao n c) l) (k : Nat) (hk : k < l.length) : ∃ g, ao = some ⟨g, 0, none⟩ ∧ g < w.heap.size ∧ w.cell? ⟨g, k, none⟩ = some (.int .i64 ((l.getD k 0 : Nat) : Int)) := by
  rcases h.2 with ⟨e, h0⟩ | ⟨g, cap, cur, e, _, hh, _⟩
  · omega
  · injection e with e1 e2 e3
    subst e1
    refine ⟨g, rfl, hp_lt hh, ?_⟩
    have := World.ownsRow.cells h (g := g) rfl k (.int .i64 ((l.getD k 0 : Nat) : Int)) (by simp [intsV8, List.getD_eq_getElem?_getD, hk])
    rwa [addr_add] at this
theorem limSize : (Tryz.prog.info? 27).map (·.size) = some 3 := by kernel_rfl
theorem zeroLim (W : World) : (zeroValue 27).run Tryz.prog W = .ok (.agg #[.int .i64 0, .int .i64 0, .int .i64 0]) W := by kernel_rfl
theorem lim_one (a b c : Int) : ∀ u ∈ [Value.int .i64 a, .int .i64 b, .int .i64 c], u.oneCell' = true := by
  intro u hu
  simp at hu
  rcases hu with rfl | rfl | rfl <;> rfl
theorem lim_range {w : World} {g o : Nat} {f : Fr} {va : Value} (ht : f.tool.length = 32) (h : w.rangeAt g o (fcells f va)) : w.rangeAt g (o + 37) [.int .i64 f.lim.1, .int .i64 f.lim.2.1, .int .i64 f.lim.2.2] := by
  have hx : ∀ i u, (fcells f va)[37 + i]? = some u → w.cell? ⟨g, o + 37 + i, none⟩ = some u := fun i u hu => by rw [Nat.add_assoc]; exact h (37 + i) u hu
  have hl : (bytesV f.tool).length = 32 := by simp [bytesV, ht]
  intro j u hu
  match j, hu with
  | 0, hu => simp at hu; subst hu; exact hx 0 _ (by unfold fcells; simp [hl])
  | 1, hu => simp at hu; subst hu; exact hx 1 _ (by unfold fcells; simp [hl])
  | 2, hu => simp at hu; subst hu; exact hx 2 _ (by unfold fcells; simp [hl])
def Good6 (fs : List FV) : Prop := ∀ f ∈ fs, Rng f.1 ∧ chkE f.1 = 0 ∧ limOk f.1 = true
theorem enc_max {f : Fr} (h : chkE f = 0) : (encP f).length ≤ 2097200 := by
  have h1 := enc_len f
  have h2 := (chk_ok h).2
  have h3 := sn_length_le (bodyP f).length
  omega
theorem fl_max : ∀ (fs : List FV), Good6 fs → (fl (fs.map fun f => encP f.1)).length ≤ fs.length * 2097200
  | [], _ => by simp [fl]
  | f :: fs, h => by
    have h1 := enc_max (h f (by simp)).2.1
    have h2 := fl_max fs (fun g hg => h g (by simp [hg]))
    simp only [List.map_cons, List.length_cons]
    rw [show fl (encP f.1 :: fs.map fun f => encP f.1) = encP f.1 ++ fl (fs.map fun f => encP f.1) from rfl, List.length_append]
    omega

set_option maxRecDepth 100000 in
set_option maxHeartbeats 8000000 in
theorem lawFrames_any (v : Value) (fs : List FV) (w : World) (hs : Frs w v fs) (hfl : fs.length ≤ 116509) :
    Calls Tryz.prog 7 #[v] w fun e w' => e = .returned (.bool true) ∧ Below w.heap.size w w' := by
  have HS := hid hs
  obtain ⟨av, cv, rfl⟩ := hs.shape
  clear hs
  go_enter Tryz.func7, Tryz.ntmps7
  go_wp2
  go_loopw [3, 4, 5] (fun vb vk vi wr => ∃ (j : Nat), j ≤ fs.length ∧ vi = .int .i64 j ∧ Hid (OwnB wr w.heap.size vb (fl ((fs.take j).map fun f => encP f.1))) ∧ Hid (OwnI wr w.heap.size vk ((fs.take j).map fun f => lenE f.1)) ∧ Hid (Good6 (fs.take j)) ∧ Hid (Below w.heap.size w wr)) (fun _ _ vi _ => fs.length - (intOf vi).toNat)
  case atStart => exact ⟨0, by omega, rfl, hid (World.ownsRow_nil _ _ _ _), hid (OwnI.nil _ _), hid (fun f hf => (by cases hf)), hid (Below.refl _ _)⟩
  case round =>
    obtain ⟨j, hj, rfl, HOB, HOI, HGO, HQ⟩ := hrel
    obtain ⟨ab, nb, cb, eb⟩ : ∃ a n c, _ = Value.slice a n c := by obtain ⟨a, c, e⟩ := HOB.out.shape; exact ⟨_, _, _, e⟩
    obtain ⟨ak, nk, ck, ek⟩ : ∃ a n c, _ = Value.slice a n c := by obtain ⟨a, c, e⟩ := HOI.out.shape; exact ⟨_, _, _, e⟩
    subst eb ek
    by_cases hlt : j < fs.length
    · have hji : (j : Int) < (fs.length : Int) := by omega
      obtain ⟨g, o, rfl, hgl, hra, hst, hrn⟩ := (HS.out.below HQ.out).at j hlt
      have HRA := hid hra
      have HSZ := hid (frame_size (fs.getD j zFV).1 (fs.getD j zFV).2 hrn.tool)
      have HGL := hid hgl
      have HRL0 := hid (lim_range hrn.tool hra)
      have HEO := hid (fun h => rencF_ok (fs.getD j zFV).1 (fs.getD j zFV).2 wr hrn hst h)
      have HEE := hid (fun h => rencF_err (fs.getD j zFV).1 (fs.getD j zFV).2 wr hrn hst h)
      have HRN := hid hrn
      have HGN := hid (show chkE (fs.getD j zFV).1 = 0 → limOk (fs.getD j zFV).1 = true → Good6 (fs.take (j + 1)) from fun h1 h2 f hf => by
        rw [List.take_succ_eq_append_getElem hlt] at hf
        rcases List.mem_append.1 hf with h9 | h9
        · exact HGO.out f h9
        · simp at h9
          have e9 : fs.getD j zFV = f := by rw [List.getD_eq_getElem?_getD, List.getElem?_eq_getElem hlt, h9]; rfl
          rw [← e9]
          exact ⟨HRN.out, h1, h2⟩)
      have HTS := hid (show (fs.take (j + 1)).map (fun f => encP f.1) = (fs.take j).map (fun f => encP f.1) ++ [encP (fs.getD j zFV).1] by
        rw [List.take_succ_eq_append_getElem hlt, List.map_append, List.getD_eq_getElem?_getD, List.getElem?_eq_getElem hlt]
        rfl)
      have HTK := hid (show (fs.take (j + 1)).map (fun f => lenE f.1) = (fs.take j).map (fun f => lenE f.1) ++ [lenE (fs.getD j zFV).1] by
        rw [List.take_succ_eq_append_getElem hlt, List.map_append, List.getD_eq_getElem?_getD, List.getElem?_eq_getElem hlt]
        rfl)
      have HBM := hid (fl_max (fs.take j) HGO.out)
      have HLO := hid (show limOk (fs.getD j zFV).1 = decide ((fs.getD j zFV).1.lim.1 ≤ 2147483648 ∧ (fs.getD j zFV).1.lim.2.1 ≤ 2147483648 ∧ (fs.getD j zFV).1.lim.2.2 ≤ 2147483648) from rfl)
      obtain ⟨FF, HFF⟩ : ∃ f9, Hid (fcells (fs.getD j zFV).1 (fs.getD j zFV).2 = f9) := ⟨_, rfl⟩
      rw [HFF.out] at HRA HSZ HEO HEE
      obtain ⟨f, HFv⟩ : ∃ f9, Hid ((fs.getD j zFV).1 = f9) := ⟨_, rfl⟩
      rw [HFv.out] at HEO HEE HGN HTS HTK HLO HRL0
      obtain ⟨l1, HL1⟩ : ∃ n, Hid (f.lim.1 = n) := ⟨_, rfl⟩
      obtain ⟨l2, HL2⟩ : ∃ n, Hid (f.lim.2.1 = n) := ⟨_, rfl⟩
      obtain ⟨l3, HL3⟩ : ∃ n, Hid (f.lim.2.2 = n) := ⟨_, rfl⟩
      rw [HL1.out, HL2.out, HL3.out] at HRL0 HLO
      obtain ⟨SB, HSB⟩ : ∃ l, Hid (fl ((fs.take j).map fun f => encP f.1) = l) := ⟨_, rfl⟩
      obtain ⟨SK, HSK⟩ : ∃ l, Hid ((fs.take j).map (fun f => lenE f.1) = l) := ⟨_, rfl⟩
      have HSKL := hid (show SK.length = j by rw [← HSK.out, List.length_map, List.length_take]; omega)
      rw [HSB.out] at HOB HBM
      rw [HSK.out] at HOI HTK
      rw [List.length_take] at HBM
      clear hra hst hrn hgl HGO
      by_cases h0 : chkE f = 0
      · have HE := hid (HEO.out h0)
        have HMX := hid (enc_max h0)
        obtain ⟨EE, HEEq⟩ : ∃ l, Hid (encP f = l) := ⟨_, rfl⟩
        have HLE := hid (show lenE f = EE.length by unfold lenE; rw [HEEq.out])
        rw [HEEq.out] at HE HTS HMX
        rw [HLE.out] at HTK
        have HG0 := hid (HGN.out h0)
        clear HEO HEE h0 HGN
        go_wp2_with (first | (refine wpList_load_mid (by rfl) 30 (.tmp 23) (by rfl) g (o + j * 42) (by rfl) FF _ HRA.out Tryz.underlying30 rfl HSZ.out ?_))
        refine HE.out.mono ?_
        rintro e w5 ⟨vE, rfl, hoE, hb5⟩
        have HXE := hid (hoE.src (by have := HMX.out; omega))
        have HQw5 := hid (below_then HQ.out hb5)
        have HOB5 := hid (show OwnB w5 w.heap.size (.slice ab nb cb) SB from HOB.out.below hb5)
        have HOI5 := hid (show OwnI w5 w.heap.size (.slice ak nk ck) SK from own_below HOI.out hb5)
        have HRL1 := hid (range_below HRL0.out HGL.out hb5)
        obtain ⟨aE, cE, eE⟩ := hoE.shape
        subst eE
        clear hoE hb5 HE
        have HRL := hid (show w5.rangeAt g (o + j * 42 + 37) [Value.int .i64 l1, .int .i64 l2, .int .i64 l3] from HRL1.out)
        have HWL := hid (below_walk w5 (.cells [Value.int .i64 l1, .int .i64 l2, .int .i64 l3].toArray 27))
        have HQ8 := hid (below_then HQw5.out HWL.out)
        have HNL := hid (hp_new w5 (.cells [Value.int .i64 l1, .int .i64 l2, .int .i64 l3].toArray 27))
        go_upto_region 8 with (first
          | (refine wpList_load_mid (by rfl) 27 (.tmp 31) (by rfl) g (o + j * 42 + 37) (by rfl) [Value.int .i64 l1, .int .i64 l2, .int .i64 l3] _ HRL.out Tryz.underlying27 rfl limSize ?_)
          | (refine al_row (by rfl) 27 (by rfl) _ zeroLim ?_)
          | (refine st_new (by rfl) 27 _ _ (by rfl) [Value.int .i64 l1, .int .i64 l2, .int .i64 l3] (by rfl) (by rfl) 27 _ limSize rfl (lim_one _ _ _) ?_))
        obtain ⟨G, HGe⟩ : ∃ n, Hid (w5.heap.size = n) := ⟨_, rfl⟩
        rw [HGe.out] at HNL ⊢
        generalize w5.alloc (.cells [Value.int .i64 l1, .int .i64 l2, .int .i64 l3].toArray 27) = w8 at HWL HQ8 HNL ⊢
        have x0 : w8.cell? ⟨G, 0, none⟩ = some (.int .i64 l1) := (cell_of_row _ G 0 _ _ _ HNL.out).trans rfl
        have x1 : w8.cell? ⟨G, 1, none⟩ = some (.int .i64 l2) := (cell_of_row _ G 1 _ _ _ HNL.out).trans rfl
        have x2 : w8.cell? ⟨G, 2, none⟩ = some (.int .i64 l3) := (cell_of_row _ G 2 _ _ _ HNL.out).trans rfl
        clear HRL1 HRL HNL
        by_cases hl1 : l1 ≤ 2147483648
        · have q1 : ¬ (2147483648 : Int) < l1 := by omega
          by_cases hl2 : l2 ≤ 2147483648
          · have q2 : ¬ (2147483648 : Int) < l2 := by omega
            by_cases hl3 : l3 ≤ 2147483648
            · as_aux_lemma =>
                have q3 : ¬ (2147483648 : Int) < l3 := by omega
                have HG1 := hid (HG0.out (by rw [HLO.out]; exact decide_eq_true ⟨hl1, hl2, hl3⟩))
                have HB58 := hid (show Below w5.heap.size w5 w8 from HWL.out)
                have HO8 := hid (show OwnB w8 w.heap.size (.slice ab nb cb) SB from HOB5.out.below HB58.out)
                have HI8 := hid (show OwnI w8 w.heap.size (.slice ak nk ck) SK from own_below HOI5.out HB58.out)
                have HX8 := hid (HXE.out.below HB58.out)
                have HLL := hid (show SB.length + EE.length ≤ 140737488355327 by have := HBM.out; have := HMX.out; omega)
                have HZ8 := hid HQ8.out.size
                clear hl1 hl2 hl3 HG0
                go_wp2_with (first | (at_builtin; refine app_bytes (by rfl) _ _ rfl w.heap.size _ _ rfl HO8.out _ _ rfl HX8.out HLL.out HZ8.out ?_))
                intro v6 w6 ho6 hg6 hp6
                have HO6 := hid (show OwnB w6 w.heap.size v6 (fl ((fs.take (j + 1)).map fun f => encP f.1)) by rw [HTS.out, show fl ((fs.take j).map (fun f => encP f.1) ++ [EE]) = fl ((fs.take j).map fun f => encP f.1) ++ EE by simp [fl], HSB.out]; exact ho6)
                have HI6 := hid (show OwnI w6 w.heap.size (.slice ak nk ck) SK from own_grow HI8.out hg6 HO8.out (by decide))
                have HQ6 := hid (Below.of_gbo HQ8.out hg6 (fun k e => (World.ownsRow.lt HO8.out k e).1))
                obtain ⟨a6, n6, c6, e6⟩ : ∃ a n c, v6 = .slice a n c := by obtain ⟨a, c, e⟩ := ho6.shape; exact ⟨_, _, _, e⟩
                subst e6
                clear ho6 hg6 hp6 x0 x1 x2 HO8 HI8
                have HW7 := hid (below_walk w6 (.cells #[.int .i64 (EE.length : Int)] 3))
                have HI7 := hid (show OwnI (w6.alloc (.cells #[.int .i64 (EE.length : Int)] 3)) w.heap.size (.slice ak nk ck) SK from own_below HI6.out HW7.out)
                have HX7 := hid (show ∃ b2, OwnI (w6.alloc (.cells #[.int .i64 (EE.length : Int)] 3)) b2 (.slice (some ⟨w6.heap.size, 0, none⟩) 1 1) [EE.length] from ⟨w6.heap.size, World.ownsRow_lit w6 #[.int .i64 (EE.length : Int)] 1 (Nat.le_refl _) (by decide) rfl⟩)
                have HQ7 := hid (below_then HQ6.out HW7.out)
                have HO7 := hid (HO6.out.below HW7.out)
                have HZ7 := hid HQ7.out.size
                have HKL := hid (show SK.length + 1 ≤ 1000000000000 by rw [HSKL.out]; omega)
                go_wp2_with (first | (at_builtin; refine app_ints (by rfl) _ _ rfl w.heap.size _ SK rfl HI7.out _ [EE.length] rfl HX7.out HKL.out HZ7.out ?_))
                intro v9 w9 ho9 hg9 hp9
                rw [← HTK.out] at ho9
                have HI9 := hid ho9
                have HO9 := hid (own_grow HO7.out hg9 HI7.out (by decide))
                have HQ9 := hid (Below.of_gbo HQ7.out hg9 (fun k e => (World.ownsRow.lt HI7.out k e).1))
                obtain ⟨a9, n9, c9, e9⟩ : ∃ a n c, v9 = .slice a n c := by obtain ⟨a, c, e⟩ := ho9.shape; exact ⟨_, _, _, e⟩
                subst e9
                clear ho9 hg9 hp9
                have hjw : IntKind.i64.wrap ((j : Int) + 1) = (j : Int) + 1 := by rw [IntKind.wrap_i64]; omega
                go_wp2
                exact ⟨⟨j + 1, hlt, by simp, HO9.out, HI9.out, HG1.out, HQ9.out⟩, by simp [intOf]; omega⟩
            · as_aux_lemma =>
                have q3 : (2147483648 : Int) < l3 := by omega
                go_wp2_with fail
                refine (awake8_any _).mono ?_
                rintro e wz ⟨rfl, hbz⟩
                have HB9 := hid (below_then HQ8.out hbz)
                clear hbz
                go_wp2
                go_ret
                exact ⟨rfl, HB9.out⟩
          · as_aux_lemma =>
              have q2 : (2147483648 : Int) < l2 := by omega
              go_wp2_with fail
              refine (awake8_any _).mono ?_
              rintro e wz ⟨rfl, hbz⟩
              have HB9 := hid (below_then HQ8.out hbz)
              clear hbz
              go_wp2
              go_ret
              exact ⟨rfl, HB9.out⟩
        · as_aux_lemma =>
            have q1 : (2147483648 : Int) < l1 := by omega
            go_wp2_with fail
            refine (awake8_any _).mono ?_
            rintro e wz ⟨rfl, hbz⟩
            have HB9 := hid (below_then HQ8.out hbz)
            clear hbz
            go_wp2
            go_ret
            exact ⟨rfl, HB9.out⟩
      · as_aux_lemma =>
          have HE := hid (HEE.out h0)
          obtain ⟨E, HE9⟩ : ∃ E, Hid (chkE f = E) := ⟨_, rfl⟩
          rw [HE9.out] at h0 HE
          have q1 : (E != 0) = true := by simpa using h0
          have q2 : (E == 0) = false := by simpa using h0
          clear HEO HEE h0 HGN
          go_wp2_with (first | (refine wpList_load_mid (by rfl) 30 (.tmp 23) (by rfl) g (o + j * 42) (by rfl) FF _ HRA.out Tryz.underlying30 rfl HSZ.out ?_))
          refine HE.out.mono ?_
          rintro e w5 ⟨rfl, hb5⟩
          have HQw5 := hid (below_then HQ.out hb5)
          have HRL1 := hid (range_below HRL0.out HGL.out hb5)
          clear hb5 HE
          have HRL := hid (show w5.rangeAt g (o + j * 42 + 37) [Value.int .i64 l1, .int .i64 l2, .int .i64 l3] from HRL1.out)
          have HWL := hid (below_walk w5 (.cells [Value.int .i64 l1, .int .i64 l2, .int .i64 l3].toArray 27))
          have HQ8 := hid (below_then HQw5.out HWL.out)
          have HNL := hid (hp_new w5 (.cells [Value.int .i64 l1, .int .i64 l2, .int .i64 l3].toArray 27))
          go_upto_region 8 with (first
            | (refine wpList_load_mid (by rfl) 27 (.tmp 31) (by rfl) g (o + j * 42 + 37) (by rfl) [Value.int .i64 l1, .int .i64 l2, .int .i64 l3] _ HRL.out Tryz.underlying27 rfl limSize ?_)
            | (refine al_row (by rfl) 27 (by rfl) _ zeroLim ?_)
            | (refine st_new (by rfl) 27 _ _ (by rfl) [Value.int .i64 l1, .int .i64 l2, .int .i64 l3] (by rfl) (by rfl) 27 _ limSize rfl (lim_one _ _ _) ?_))
          obtain ⟨G, HGe⟩ : ∃ n, Hid (w5.heap.size = n) := ⟨_, rfl⟩
          rw [HGe.out] at HNL ⊢
          generalize w5.alloc (.cells [Value.int .i64 l1, .int .i64 l2, .int .i64 l3].toArray 27) = w8 at HWL HQ8 HNL ⊢
          have x0 : w8.cell? ⟨G, 0, none⟩ = some (.int .i64 l1) := (cell_of_row _ G 0 _ _ _ HNL.out).trans rfl
          have x1 : w8.cell? ⟨G, 1, none⟩ = some (.int .i64 l2) := (cell_of_row _ G 1 _ _ _ HNL.out).trans rfl
          have x2 : w8.cell? ⟨G, 2, none⟩ = some (.int .i64 l3) := (cell_of_row _ G 2 _ _ _ HNL.out).trans rfl
          go_wp2_with fail
          refine (awake8_any _).mono ?_
          rintro e wz ⟨rfl, hbz⟩
          have HB9 := hid (below_then HQ8.out hbz)
          clear hbz
          go_wp2
          go_ret
          exact ⟨rfl, HB9.out⟩
    · obtain rfl : j = fs.length := by omega
      as_aux_lemma =>
        have HGA := hid (show Good6 fs by have h := HGO.out; rw [List.take_length] at h; exact h)
        obtain ⟨bs, HBS⟩ : ∃ l, Hid (fl (fs.map fun f => encP f.1) = l) := ⟨_, rfl⟩
        have HOB2 := hid (show OwnB wr w.heap.size (.slice ab nb cb) bs by have h := HOB.out; rw [List.take_length, HBS.out] at h; exact h)
        have HBL := hid (show bs.length ≤ 300000000000 by rw [← HBS.out]; have := fl_max fs HGA.out; omega)
        have HX2 := hid (HOB2.out.src (by have := HBL.out; omega))
        have HRE := hid (run_encs (fs.map (·.1)) 0 0 [] [] 0 (fun f hf => by
          obtain ⟨g9, hg9, rfl⟩ := List.mem_map.1 hf
          exact HGA.out g9 hg9))
        rw [List.map_map, show (encP ∘ fun x : FV => x.1) = fun f => encP f.1 from rfl, HBS.out] at HRE
        have HA1 := hid (psplit8_any (.slice ab nb cb) bs wr HX2.out HBL.out)
        have HA2 := hid (fun W (h : Below wr.heap.size wr W) => psizes8_any (.slice ab nb cb) bs W (HX2.out.below h) HBL.out)
        have HRE2 := hid (show runP 2097152 nev (zS, [], 0) bs = (⟨[], 0 + bs.length, 0 + (fs.map (·.1)).length, 0, 0, [] ++ (fs.map (·.1)).map fun f => (encP f).length⟩, [] ++ fs.map (·.1), 0 + bs.length) from HRE.out)
        obtain ⟨ZL, HZLe⟩ : ∃ l, Hid (fs.map (fun f => lenE f.1) = l) := ⟨_, rfl⟩
        have HZ1 := hid (show (runP 2097152 nev (zS, [], 0) bs).1.szs = ZL by rw [HRE2.out, ← HZLe.out]; show [] ++ (fs.map (·.1)).map (fun f => (encP f).length) = _; rw [List.nil_append, List.map_map]; rfl)
        have HZ2 := hid (show (runP 2097152 nev (zS, [], 0) bs).2.1 = fs.map (·.1) by rw [HRE2.out]; rfl)
        have HZ3 := hid (show (stopP (runP 2097152 nev (zS, [], 0) bs).1).1 = 0 ∧ (stopP (runP 2097152 nev (zS, [], 0) bs).1).2 = 0 by rw [HRE2.out]; exact ⟨rfl, rfl⟩)
        rw [HZ3.out.1, HZ3.out.2, HZ2.out] at HA1
        rw [HZ3.out.1, HZ3.out.2, HZ1.out] at HA2
        have HOI2 := hid (show OwnI wr w.heap.size (.slice ak nk ck) ZL by have h := HOI.out; rw [List.take_length, HZLe.out] at h; exact h)
        obtain ⟨ak2, ck2, ek2⟩ := HOI2.out.shape
        have HZLL := hid (show ZL.length ≤ 116509 by rw [← HZLe.out, List.length_map]; exact hfl)
        injection ek2 with ek3 ek4 ek5
        subst ek4
        clear HRE HRE2 HZ1 HZ2 HZ3 HOB HOI HGO ek3 ek5
        go_wp2_with fail
        refine HA1.out.mono ?_
        rintro e w3 ⟨vl, gs, rfl, hof, hm, hb3⟩
        have HW4 := hid (below_walk w3 (.cells [Value.int .i64 0, .int .i64 0].toArray 33))
        have HF4 := hid (hp_new w3 (.cells [Value.int .i64 0, .int .i64 0].toArray 33))
        have HB4 := hid (below_then hb3 HW4.out)
        have HOF4 := hid (hof.below HW4.out)
        have HMM := hid (show fs.map (·.1) = gs.map (·.1) from hm.symm)
        obtain ⟨al, nl, cl, el⟩ : ∃ a n c, vl = .slice a n c := by obtain ⟨a, c, e⟩ := hof.shape; exact ⟨_, _, _, e⟩
        subst el
        clear hof hm hb3 HA1
        go_upto_region 13 with (refine st_new (by rfl) 33 _ _ (by rfl) [Value.int .i64 0, .int .i64 0] (by rfl) (by rfl) 33 _ faultSize rfl (fault_one _ _) ?_)
        obtain ⟨F1, HF1e⟩ : ∃ n, Hid (w3.heap.size = n) := ⟨_, rfl⟩
        rw [HF1e.out] at HF4 ⊢
        generalize w3.alloc (.cells [Value.int .i64 0, .int .i64 0].toArray 33) = w4 at HW4 HF4 HB4 HOF4 ⊢
        have HA2w := hid (HA2.out w4 HB4.out)
        clear HA2
        go_wp2_with fail
        refine HA2w.out.mono ?_
        rintro e w5 ⟨vn, rfl, hoi, hb5⟩
        have HW6 := hid (below_walk w5 (.cells [Value.int .i64 0, .int .i64 0].toArray 33))
        have HG6 := hid (hp_new w5 (.cells [Value.int .i64 0, .int .i64 0].toArray 33))
        have HB46 := hid (below_then hb5 HW6.out)
        have HF6 := hid (bel_keep HB46.out HF4.out)
        have HB6 := hid (below_then HB4.out HB46.out)
        have HOF6 := hid (HOF4.out.below HB46.out)
        have HI6 := hid (show OwnI _ w4.heap.size vn ZL from own_below hoi HW6.out)
        obtain ⟨an, cn, en⟩ := hoi.shape
        subst en
        clear hoi hb5 HA2w HF4 HB4 HOF4
        go_upto_region 14 with (refine st_new (by rfl) 33 _ _ (by rfl) [Value.int .i64 0, .int .i64 0] (by rfl) (by rfl) 33 _ faultSize rfl (fault_one _ _) ?_)
        obtain ⟨F2, HF2e⟩ : ∃ n, Hid (w5.heap.size = n) := ⟨_, rfl⟩
        rw [HF2e.out] at HG6 ⊢
        generalize w5.alloc (.cells [Value.int .i64 0, .int .i64 0].toArray 33) = w6 at HW6 HG6 HB46 HF6 HB6 HOF6 HI6 ⊢
        have HQ6 := hid (below_then HQ.out HB6.out)
        have HSA := hid (rsl_any _ _ fs gs w6 (HS.out.below HQ6.out) HOF6.out.frs HMM.out (by omega))
        have f0 : w6.cell? ⟨F1, 0, none⟩ = some (.int .i64 0) := by simp [World.cell?, HF6.out]
        have f1 : w6.cell? ⟨F1, 1, none⟩ = some (.int .i64 0) := by simp [World.cell?, HF6.out]
        have g0 : w6.cell? ⟨F2, 0, none⟩ = some (.int .i64 0) := by simp [World.cell?, HG6.out]
        have g1 : w6.cell? ⟨F2, 1, none⟩ = some (.int .i64 0) := by simp [World.cell?, HG6.out]
        have n1 : ∀ W, (binOp .neq 33 (.agg #[.int .i64 0, .int .i64 0]) (.agg #[.int .i64 0, .int .i64 0])).run Tryz.prog W = .ok (.bool false) W := fun W => by rw [fault_neq]; simp
        go_wp2_with (first | (refine bd_row (by rfl) 33 #[] (by rfl) _ (by simp) _ built_fz ?_))
        refine HSA.out.mono ?_
        rintro e w9 ⟨rfl, hb9⟩
        have HQ9 := hid (below_then HQ6.out hb9)
        have HI9 := hid (show OwnI w9 w4.heap.size (.slice an ZL.length cn) ZL from own_below HI6.out hb9)
        have HK9 := hid (show OwnI w9 w.heap.size (.slice ak ZL.length ck) ZL from own_below HOI2.out (below_then HB6.out hb9))
        clear hb9 HSA f0 f1 g0 g1 n1
        go_wp2
        go_loopw [13] (fun vi wr => ∃ k : Nat, k ≤ ZL.length ∧ vi = .int .i64 k ∧ Hid (Below w9.heap.size w9 wr)) (fun vi _ => ZL.length - (intOf vi).toNat)
        case atStart => exact ⟨0, by omega, rfl, Below.refl _ _⟩
        case round =>
          rename_i wr0 _ _ _
          obtain ⟨k, hk, rfl, HQ⟩ := hrel
          by_cases hlt : k < ZL.length
          · as_aux_lemma =>
              have hki : (k : Int) < (ZL.length : Int) := by omega
              obtain ⟨g1, rfl, hl1, hc1⟩ := owni_at6 HI9.out k hlt
              obtain ⟨g2, rfl, hl2, hc2⟩ := owni_at6 HK9.out k hlt
              have hkw : IntKind.i64.wrap ((k : Int) + 1) = (k : Int) + 1 := by rw [IntKind.wrap_i64]; have := HZLL.out; omega
              obtain ⟨N, HN⟩ : ∃ n, Hid (ZL.getD k 0 = n) := ⟨_, rfl⟩
              rw [HN.out] at hc1 hc2
              have HT9 := hid trivial
              have HL1 := hid (show g1 < wr.heap.size from Nat.lt_of_lt_of_le hl1 HQ.out.size)
              have HL2 := hid (show g2 < wr.heap.size from Nat.lt_of_lt_of_le hl2 HQ.out.size)
              have HC1 := hid ((HQ.out.cell (p := ⟨g1, k, none⟩) hl1).trans hc1)
              have HC2 := hid ((HQ.out.cell (p := ⟨g2, k, none⟩) hl2).trans hc2)
              clear hc1 hc2 hl1 hl2
              go_upto_region 19 with fail
              refine wp_noPanic (wp_region_held_drew (S := fun W => Below wr.heap.size wr W) (by kernel_rfl) (bel_drw wr 1) ?_)
              intro hHeld
              refine wpAnyH_take (i := 0) (v := .slice (some ⟨g1, 0, none⟩) ZL.length cn) rfl (by kernel_rfl) (by kernel_rfl) (by kernel_rfl) (fun _ _ _ h => h) (Or.inl ⟨by rfl, fun W _ => by go_simp⟩) hHeld ?_
              simp only [Act.put, List.getElem_toArray, List.getElem_cons_zero, List.setIfInBounds_toArray, List.set_cons_succ, List.set_cons_zero]
              refine wpAnyH_take (i := 1) (v := .int .i64 (k : Int)) rfl (by kernel_rfl) (by kernel_rfl) (by kernel_rfl) (fun _ _ _ h => h) (Or.inl ⟨by rfl, fun W _ => by go_simp⟩) hHeld ?_
              simp only [Act.put, List.getElem_toArray, List.getElem_cons_zero, List.getElem_cons_succ, List.setIfInBounds_toArray, List.set_cons_succ, List.set_cons_zero]
              refine wpAnyH_take (i := 2) (v := .pointer (some ⟨g1, k, none⟩)) rfl (by kernel_rfl) (by kernel_rfl) (by kernel_rfl) (fun _ _ _ h => h) (Or.inl ⟨by rfl, fun W _ => by have hfact := hki; go_simp; first | done | simp [hfact]⟩) hHeld ?_
              simp only [Act.put, List.getElem_toArray, List.getElem_cons_zero, List.getElem_cons_succ, List.setIfInBounds_toArray, List.set_cons_succ, List.set_cons_zero]
              refine wpAnyH_take (i := 3) (v := .int .i64 (N : Int)) rfl (by kernel_rfl) (by kernel_rfl) (by kernel_rfl) (fun _ _ _ h => h) (Or.inl ⟨by rfl, fun W hW => by have hcell := (hW.cell (p := ⟨g1, k, none⟩) HL1.out).trans HC1.out; clear hW; go_simp⟩) hHeld ?_
              simp only [Act.put, List.getElem_toArray, List.getElem_cons_zero, List.getElem_cons_succ, List.setIfInBounds_toArray, List.set_cons_succ, List.set_cons_zero]
              refine wpAnyH_take (i := 4) (v := .slice (some ⟨g2, 0, none⟩) ZL.length ck) rfl (by kernel_rfl) (by kernel_rfl) (by kernel_rfl) (fun _ _ _ h => h) (Or.inl ⟨by rfl, fun W _ => by go_simp⟩) hHeld ?_
              simp only [Act.put, List.getElem_toArray, List.getElem_cons_zero, List.getElem_cons_succ, List.setIfInBounds_toArray, List.set_cons_succ, List.set_cons_zero]
              refine wpAnyH_take (i := 5) (v := .int .i64 (k : Int)) rfl (by kernel_rfl) (by kernel_rfl) (by kernel_rfl) (fun _ _ _ h => h) (Or.inl ⟨by rfl, fun W _ => by go_simp⟩) hHeld ?_
              simp only [Act.put, List.getElem_toArray, List.getElem_cons_zero, List.getElem_cons_succ, List.setIfInBounds_toArray, List.set_cons_succ, List.set_cons_zero]
              refine wpAnyH_take (i := 6) (v := .pointer (some ⟨g2, k, none⟩)) rfl (by kernel_rfl) (by kernel_rfl) (by kernel_rfl) (fun _ _ _ h => h) (Or.inl ⟨by rfl, fun W _ => by have hfact := hki; go_simp; first | done | simp [hfact]⟩) hHeld ?_
              simp only [Act.put, List.getElem_toArray, List.getElem_cons_zero, List.getElem_cons_succ, List.setIfInBounds_toArray, List.set_cons_succ, List.set_cons_zero]
              refine wpAnyH_take (i := 7) (v := .int .i64 (N : Int)) rfl (by kernel_rfl) (by kernel_rfl) (by kernel_rfl) (fun _ _ _ h => h) (Or.inl ⟨by rfl, fun W hW => by have hcell := (hW.cell (p := ⟨g2, k, none⟩) HL2.out).trans HC2.out; clear hW; go_simp⟩) hHeld ?_
              simp only [Act.put, List.getElem_toArray, List.getElem_cons_zero, List.getElem_cons_succ, List.setIfInBounds_toArray, List.set_cons_succ, List.set_cons_zero]
              refine wpAnyH_take (i := 8) (v := .bool false) rfl (by kernel_rfl) (by kernel_rfl) (by kernel_rfl) (fun _ _ _ h => h) (Or.inl ⟨by rfl, fun W _ => by have hfact := HT9.out; go_simp; first | done | simp [hfact]⟩) hHeld ?_
              simp only [Act.put, List.getElem_toArray, List.getElem_cons_zero, List.getElem_cons_succ, List.setIfInBounds_toArray, List.set_cons_succ, List.set_cons_zero]
              have HD := hid (bel_drw wr 1)
              have HQ9 := hid (below_then HQ.out HD.out)
              obtain ⟨wq, HWX⟩ : ∃ x, Hid (wr.drewN 1 = x) := ⟨_, rfl⟩
              have HWYq := hid (show wr.drew = wq from HWX.out)
              rw [HWX.out] at HQ9
              rw [HWYq.out]
              clear hHeld HD
              refine wpAnyH_done (by kernel_rfl) ?_ _
              simp only [noPanic]
              go_wp2
              exact ⟨⟨k + 1, hlt, by simp, HQ9.out⟩, by simp [intOf]; omega⟩
          · obtain rfl : k = ZL.length := by omega
            as_aux_lemma =>
              go_wp2_with fail
              refine (awake8_any wr).mono ?_
              rintro e wz ⟨rfl, hbz⟩
              have HB9 := hid (below_then HQ9.out (below_then HQ.out hbz))
              clear hbz
              go_wp2
              go_ret
              exact ⟨rfl, HB9.out⟩
end Go.Proofs.YtiibhccbbpgehaaGreat
