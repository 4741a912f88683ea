/- Contracts and pure facts that the proof needs, joined. -/
import Derived.Test.YtiibhccbbpgehabGreatG1
import Derived.Laws.CopyOwn
import Derived.Laws.MakeOwn
import Derived.Deep.RegionHeld3
import Derived.Deep.RegionLaw
import Derived.Deep.RegionHeldLaw
import Derived.OrdersHeld
import Derived.Deep.RegionWith

/- The kind of a number. -/
namespace Go.Proofs.YtiibhccbbpgehabGreat
open Go.RowKit Go.BigFrame

/-- the row of a number; zeros for one that is no kind -/
def kOf (n : Int) : List Value := if n = 1 then k1 else if n = 2 then k2 else if n = 3 then k3 else if n = 4 then k4 else if n = 5 then k5 else if n = 6 then k6 else zRow
theorem kOf_length (n : Int) : (kOf n).length = 5 := by
  unfold kOf
  repeat' split
  all_goals rfl
theorem zOne : ∀ v ∈ zRow, v.oneCell' = true := by
  intro v hv
  simp only [zRow, List.mem_cons, List.not_mem_nil, or_false] at hv
  rcases hv with rfl | rfl | rfl | rfl | rfl
  all_goals rfl
theorem kOne (n : Int) (a b c d : Nat) : ∀ v ∈ kRow n a b c d, v.oneCell' = true := by
  intro v hv
  simp only [kRow, List.mem_cons, List.not_mem_nil, or_false] at hv
  rcases hv with rfl | rfl | rfl | rfl | rfl
  all_goals rfl
theorem setFive (w : World) (g : Nat) (cs : List Value) (t : TypeId) (old : Array Value) (hg : w.heap[g]? = some (.cells old t (0, 0))) (B : Nat) (hB : B ≤ g) : Below B w (w.setRow g cs.toArray) :=
  let h := rowSet w g cs t old hg
  ⟨h.grown.os, h.grown.tape, h.grown.output, h.grown.size, fun k hk => h.grown.block k (by have := h.size; have := hp_lt hg; omega) (by simp; omega)⟩

theorem ix0 (W : World) : (Instr.index 159 (.agg kindsC.toArray) (.int .i64 0)).run Tryz.prog W = .ok (.agg k1.toArray) W := by
  have u1 := run_underlying Tryz.underlying159 W
  have z1 := Tryz.sizeOf153 W
  unfold Instr.index
  simp [asIntOf, Sem.run_bind, u1, part, z1]
  rfl
theorem ix1 (W : World) : (Instr.index 159 (.agg kindsC.toArray) (.int .i64 1)).run Tryz.prog W = .ok (.agg k2.toArray) W := by
  have u1 := run_underlying Tryz.underlying159 W
  have z1 := Tryz.sizeOf153 W
  unfold Instr.index
  simp [asIntOf, Sem.run_bind, u1, part, z1]
  rfl
theorem ix2 (W : World) : (Instr.index 159 (.agg kindsC.toArray) (.int .i64 2)).run Tryz.prog W = .ok (.agg k3.toArray) W := by
  have u1 := run_underlying Tryz.underlying159 W
  have z1 := Tryz.sizeOf153 W
  unfold Instr.index
  simp [asIntOf, Sem.run_bind, u1, part, z1]
  rfl
theorem ix3 (W : World) : (Instr.index 159 (.agg kindsC.toArray) (.int .i64 3)).run Tryz.prog W = .ok (.agg k4.toArray) W := by
  have u1 := run_underlying Tryz.underlying159 W
  have z1 := Tryz.sizeOf153 W
  unfold Instr.index
  simp [asIntOf, Sem.run_bind, u1, part, z1]
  rfl
theorem ix4 (W : World) : (Instr.index 159 (.agg kindsC.toArray) (.int .i64 4)).run Tryz.prog W = .ok (.agg k5.toArray) W := by
  have u1 := run_underlying Tryz.underlying159 W
  have z1 := Tryz.sizeOf153 W
  unfold Instr.index
  simp [asIntOf, Sem.run_bind, u1, part, z1]
  rfl
theorem ix5 (W : World) : (Instr.index 159 (.agg kindsC.toArray) (.int .i64 5)).run Tryz.prog W = .ok (.agg k6.toArray) W := by
  have u1 := run_underlying Tryz.underlying159 W
  have z1 := Tryz.sizeOf153 W
  unfold Instr.index
  simp [asIntOf, Sem.run_bind, u1, part, z1]
  rfl

set_option maxRecDepth 100000 in
set_option maxHeartbeats 4000000 in
theorem kindOf_any (n : Int) (w : World) :
    Calls Tryz.prog 89 #[.int .i64 n] w fun e w' => e = .returned (.tuple #[.agg (kOf n).toArray, .bool (decide (1 ≤ n ∧ n ≤ 6))]) ∧ Below w.heap.size w w' := by
  have HNB := hid (hp_new w (.cells zRow.toArray 153))
  have HBL := hid (below_walk w (.cells zRow.toArray 153))
  have HLT := hid (hp_lt HNB.out)
  go_enter Tryz.func89, Tryz.ntmps89
  go_wp2_with (refine al_row (by rfl) 153 (by rfl) _ zeroKind ?_)
  generalize w.alloc (.cells zRow.toArray 153) = w1 at HNB HBL HLT ⊢
  refine (kinds_any w1).mono ?_
  rintro e w2 ⟨rfl, hb2⟩
  have HN2 := hid ((hb2.block _ HLT.out).trans HNB.out)
  have HB2 := hid (below_then HBL.out hb2)
  clear hb2 HNB HBL HLT
  go_wp2_with fail
  go_loopw [7] (fun i wr => ∃ k : Nat, k ≤ 6 ∧ i = .int .i64 k ∧ Hid (¬ (1 ≤ n ∧ n ≤ (k : Int))) ∧ Hid (wr.heap[w.heap.size]? = some (.cells zRow.toArray 153)) ∧ Hid (Below w.heap.size w wr)) (fun i _ => 6 - (intOf i).toNat)
  case atStart => exact ⟨0, by omega, rfl, hid (by omega), HN2, HB2⟩
  case round =>
    obtain ⟨k, hk, rfl, HNO, HZ, HB⟩ := hrel
    clear HN2 HB2
    match k, hk with
    | 0, _ =>
      have HLT := hid (hp_lt HZ.out)
      have HB1 := hid (below_then HB.out (below_walk wr (.cells k1.toArray 153)))
      have HZ1 := hid ((below_walk wr (.cells k1.toArray 153)).block _ HLT.out |>.trans HZ.out)
      have HX1 := hid (hp_new wr (.cells k1.toArray 153))
      have x0 : (wr.alloc (.cells k1.toArray 153)).cell? ⟨wr.heap.size, 0, none⟩ = some (.int .i64 1) := by rw [cell_of_row (wr.alloc (.cells k1.toArray 153)) wr.heap.size 0 _ _ _ (hp_new wr (.cells k1.toArray 153))]; rfl
      have ix := ix0
      by_cases hn : n = 1
      · have HR := hid (show k1 = kOf n by subst hn; rfl)
        have HD := hid (show true = decide (1 ≤ n ∧ n ≤ 6) from (decide_eq_true (by omega)).symm)
        have q1 : ((1 : Int) == n) = true := by simpa using hn.symm
        have q2 : (1 : Int) = n := hn.symm
        clear HNO hn
        go_wp2_with (first
          | (refine al_row (by rfl) 153 (by rfl) _ zeroKind ?_)
          | (refine st_new (by rfl) 153 _ _ (by rfl) k1 (by rfl) (by rfl) 153 _ kindSize rfl (kOne _ _ _ _ _) ?_)
          | (refine ld_row (by rfl) 153 (.tmp 5) (by rfl) wr.heap.size (by rfl) k1 153 HX1.out _ Tryz.underlying153 rfl kindSize ?_)
          | (refine st_row (by rfl) 153 _ _ (by rfl) w.heap.size k1 (by rfl) (by rfl) 153 _ HZ1.out kindSize rfl (kOne _ _ _ _ _) ?_; intro w5 hw5))
        refine ret_row2 2 3 153 rfl w.heap.size rfl k1 153 hw5.blk _ Tryz.underlying153 rfl kindSize (.bool true) rfl rfl ⟨?_, Below.of_gb HB1.out hw5.grown (Nat.le_refl _)⟩
        rw [HR.out, HD.out]
      · have q1 : ((1 : Int) == n) = false := by simpa using fun h => hn h.symm
        have q2 : ¬ (1 : Int) = n := fun h => hn h.symm
        have HN2 := hid (show ¬ (1 ≤ n ∧ n ≤ ((1 : Nat) : Int)) by have := HNO.out; omega)
        clear HNO hn
        go_wp2_with (first
          | (refine al_row (by rfl) 153 (by rfl) _ zeroKind ?_)
          | (refine st_new (by rfl) 153 _ _ (by rfl) k1 (by rfl) (by rfl) 153 _ kindSize rfl (kOne _ _ _ _ _) ?_))
        exact ⟨⟨1, by omega, by rfl, HN2, HZ1, HB1⟩, by simp [intOf]⟩
    | 1, _ =>
      have HLT := hid (hp_lt HZ.out)
      have HB1 := hid (below_then HB.out (below_walk wr (.cells k2.toArray 153)))
      have HZ1 := hid ((below_walk wr (.cells k2.toArray 153)).block _ HLT.out |>.trans HZ.out)
      have HX1 := hid (hp_new wr (.cells k2.toArray 153))
      have x0 : (wr.alloc (.cells k2.toArray 153)).cell? ⟨wr.heap.size, 0, none⟩ = some (.int .i64 2) := by rw [cell_of_row (wr.alloc (.cells k2.toArray 153)) wr.heap.size 0 _ _ _ (hp_new wr (.cells k2.toArray 153))]; rfl
      have ix := ix1
      by_cases hn : n = 2
      · have HR := hid (show k2 = kOf n by subst hn; rfl)
        have HD := hid (show true = decide (1 ≤ n ∧ n ≤ 6) from (decide_eq_true (by omega)).symm)
        have q1 : ((2 : Int) == n) = true := by simpa using hn.symm
        have q2 : (2 : Int) = n := hn.symm
        clear HNO hn
        go_wp2_with (first
          | (refine al_row (by rfl) 153 (by rfl) _ zeroKind ?_)
          | (refine st_new (by rfl) 153 _ _ (by rfl) k2 (by rfl) (by rfl) 153 _ kindSize rfl (kOne _ _ _ _ _) ?_)
          | (refine ld_row (by rfl) 153 (.tmp 5) (by rfl) wr.heap.size (by rfl) k2 153 HX1.out _ Tryz.underlying153 rfl kindSize ?_)
          | (refine st_row (by rfl) 153 _ _ (by rfl) w.heap.size k2 (by rfl) (by rfl) 153 _ HZ1.out kindSize rfl (kOne _ _ _ _ _) ?_; intro w5 hw5))
        refine ret_row2 2 3 153 rfl w.heap.size rfl k2 153 hw5.blk _ Tryz.underlying153 rfl kindSize (.bool true) rfl rfl ⟨?_, Below.of_gb HB1.out hw5.grown (Nat.le_refl _)⟩
        rw [HR.out, HD.out]
      · have q1 : ((2 : Int) == n) = false := by simpa using fun h => hn h.symm
        have q2 : ¬ (2 : Int) = n := fun h => hn h.symm
        have HN2 := hid (show ¬ (1 ≤ n ∧ n ≤ ((2 : Nat) : Int)) by have := HNO.out; omega)
        clear HNO hn
        go_wp2_with (first
          | (refine al_row (by rfl) 153 (by rfl) _ zeroKind ?_)
          | (refine st_new (by rfl) 153 _ _ (by rfl) k2 (by rfl) (by rfl) 153 _ kindSize rfl (kOne _ _ _ _ _) ?_))
        exact ⟨⟨2, by omega, by rfl, HN2, HZ1, HB1⟩, by simp [intOf]⟩
    | 2, _ =>
      have HLT := hid (hp_lt HZ.out)
      have HB1 := hid (below_then HB.out (below_walk wr (.cells k3.toArray 153)))
      have HZ1 := hid ((below_walk wr (.cells k3.toArray 153)).block _ HLT.out |>.trans HZ.out)
      have HX1 := hid (hp_new wr (.cells k3.toArray 153))
      have x0 : (wr.alloc (.cells k3.toArray 153)).cell? ⟨wr.heap.size, 0, none⟩ = some (.int .i64 3) := by rw [cell_of_row (wr.alloc (.cells k3.toArray 153)) wr.heap.size 0 _ _ _ (hp_new wr (.cells k3.toArray 153))]; rfl
      have ix := ix2
      by_cases hn : n = 3
      · have HR := hid (show k3 = kOf n by subst hn; rfl)
        have HD := hid (show true = decide (1 ≤ n ∧ n ≤ 6) from (decide_eq_true (by omega)).symm)
        have q1 : ((3 : Int) == n) = true := by simpa using hn.symm
        have q2 : (3 : Int) = n := hn.symm
        clear HNO hn
        go_wp2_with (first
          | (refine al_row (by rfl) 153 (by rfl) _ zeroKind ?_)
          | (refine st_new (by rfl) 153 _ _ (by rfl) k3 (by rfl) (by rfl) 153 _ kindSize rfl (kOne _ _ _ _ _) ?_)
          | (refine ld_row (by rfl) 153 (.tmp 5) (by rfl) wr.heap.size (by rfl) k3 153 HX1.out _ Tryz.underlying153 rfl kindSize ?_)
          | (refine st_row (by rfl) 153 _ _ (by rfl) w.heap.size k3 (by rfl) (by rfl) 153 _ HZ1.out kindSize rfl (kOne _ _ _ _ _) ?_; intro w5 hw5))
        refine ret_row2 2 3 153 rfl w.heap.size rfl k3 153 hw5.blk _ Tryz.underlying153 rfl kindSize (.bool true) rfl rfl ⟨?_, Below.of_gb HB1.out hw5.grown (Nat.le_refl _)⟩
        rw [HR.out, HD.out]
      · have q1 : ((3 : Int) == n) = false := by simpa using fun h => hn h.symm
        have q2 : ¬ (3 : Int) = n := fun h => hn h.symm
        have HN2 := hid (show ¬ (1 ≤ n ∧ n ≤ ((3 : Nat) : Int)) by have := HNO.out; omega)
        clear HNO hn
        go_wp2_with (first
          | (refine al_row (by rfl) 153 (by rfl) _ zeroKind ?_)
          | (refine st_new (by rfl) 153 _ _ (by rfl) k3 (by rfl) (by rfl) 153 _ kindSize rfl (kOne _ _ _ _ _) ?_))
        exact ⟨⟨3, by omega, by rfl, HN2, HZ1, HB1⟩, by simp [intOf]⟩
    | 3, _ =>
      have HLT := hid (hp_lt HZ.out)
      have HB1 := hid (below_then HB.out (below_walk wr (.cells k4.toArray 153)))
      have HZ1 := hid ((below_walk wr (.cells k4.toArray 153)).block _ HLT.out |>.trans HZ.out)
      have HX1 := hid (hp_new wr (.cells k4.toArray 153))
      have x0 : (wr.alloc (.cells k4.toArray 153)).cell? ⟨wr.heap.size, 0, none⟩ = some (.int .i64 4) := by rw [cell_of_row (wr.alloc (.cells k4.toArray 153)) wr.heap.size 0 _ _ _ (hp_new wr (.cells k4.toArray 153))]; rfl
      have ix := ix3
      by_cases hn : n = 4
      · have HR := hid (show k4 = kOf n by subst hn; rfl)
        have HD := hid (show true = decide (1 ≤ n ∧ n ≤ 6) from (decide_eq_true (by omega)).symm)
        have q1 : ((4 : Int) == n) = true := by simpa using hn.symm
        have q2 : (4 : Int) = n := hn.symm
        clear HNO hn
        go_wp2_with (first
          | (refine al_row (by rfl) 153 (by rfl) _ zeroKind ?_)
          | (refine st_new (by rfl) 153 _ _ (by rfl) k4 (by rfl) (by rfl) 153 _ kindSize rfl (kOne _ _ _ _ _) ?_)
          | (refine ld_row (by rfl) 153 (.tmp 5) (by rfl) wr.heap.size (by rfl) k4 153 HX1.out _ Tryz.underlying153 rfl kindSize ?_)
          | (refine st_row (by rfl) 153 _ _ (by rfl) w.heap.size k4 (by rfl) (by rfl) 153 _ HZ1.out kindSize rfl (kOne _ _ _ _ _) ?_; intro w5 hw5))
        refine ret_row2 2 3 153 rfl w.heap.size rfl k4 153 hw5.blk _ Tryz.underlying153 rfl kindSize (.bool true) rfl rfl ⟨?_, Below.of_gb HB1.out hw5.grown (Nat.le_refl _)⟩
        rw [HR.out, HD.out]
      · have q1 : ((4 : Int) == n) = false := by simpa using fun h => hn h.symm
        have q2 : ¬ (4 : Int) = n := fun h => hn h.symm
        have HN2 := hid (show ¬ (1 ≤ n ∧ n ≤ ((4 : Nat) : Int)) by have := HNO.out; omega)
        clear HNO hn
        go_wp2_with (first
          | (refine al_row (by rfl) 153 (by rfl) _ zeroKind ?_)
          | (refine st_new (by rfl) 153 _ _ (by rfl) k4 (by rfl) (by rfl) 153 _ kindSize rfl (kOne _ _ _ _ _) ?_))
        exact ⟨⟨4, by omega, by rfl, HN2, HZ1, HB1⟩, by simp [intOf]⟩
    | 4, _ =>
      have HLT := hid (hp_lt HZ.out)
      have HB1 := hid (below_then HB.out (below_walk wr (.cells k5.toArray 153)))
      have HZ1 := hid ((below_walk wr (.cells k5.toArray 153)).block _ HLT.out |>.trans HZ.out)
      have HX1 := hid (hp_new wr (.cells k5.toArray 153))
      have x0 : (wr.alloc (.cells k5.toArray 153)).cell? ⟨wr.heap.size, 0, none⟩ = some (.int .i64 5) := by rw [cell_of_row (wr.alloc (.cells k5.toArray 153)) wr.heap.size 0 _ _ _ (hp_new wr (.cells k5.toArray 153))]; rfl
      have ix := ix4
      by_cases hn : n = 5
      · have HR := hid (show k5 = kOf n by subst hn; rfl)
        have HD := hid (show true = decide (1 ≤ n ∧ n ≤ 6) from (decide_eq_true (by omega)).symm)
        have q1 : ((5 : Int) == n) = true := by simpa using hn.symm
        have q2 : (5 : Int) = n := hn.symm
        clear HNO hn
        go_wp2_with (first
          | (refine al_row (by rfl) 153 (by rfl) _ zeroKind ?_)
          | (refine st_new (by rfl) 153 _ _ (by rfl) k5 (by rfl) (by rfl) 153 _ kindSize rfl (kOne _ _ _ _ _) ?_)
          | (refine ld_row (by rfl) 153 (.tmp 5) (by rfl) wr.heap.size (by rfl) k5 153 HX1.out _ Tryz.underlying153 rfl kindSize ?_)
          | (refine st_row (by rfl) 153 _ _ (by rfl) w.heap.size k5 (by rfl) (by rfl) 153 _ HZ1.out kindSize rfl (kOne _ _ _ _ _) ?_; intro w5 hw5))
        refine ret_row2 2 3 153 rfl w.heap.size rfl k5 153 hw5.blk _ Tryz.underlying153 rfl kindSize (.bool true) rfl rfl ⟨?_, Below.of_gb HB1.out hw5.grown (Nat.le_refl _)⟩
        rw [HR.out, HD.out]
      · have q1 : ((5 : Int) == n) = false := by simpa using fun h => hn h.symm
        have q2 : ¬ (5 : Int) = n := fun h => hn h.symm
        have HN2 := hid (show ¬ (1 ≤ n ∧ n ≤ ((5 : Nat) : Int)) by have := HNO.out; omega)
        clear HNO hn
        go_wp2_with (first
          | (refine al_row (by rfl) 153 (by rfl) _ zeroKind ?_)
          | (refine st_new (by rfl) 153 _ _ (by rfl) k5 (by rfl) (by rfl) 153 _ kindSize rfl (kOne _ _ _ _ _) ?_))
        exact ⟨⟨5, by omega, by rfl, HN2, HZ1, HB1⟩, by simp [intOf]⟩
    | 5, _ =>
      have HLT := hid (hp_lt HZ.out)
      have HB1 := hid (below_then HB.out (below_walk wr (.cells k6.toArray 153)))
      have HZ1 := hid ((below_walk wr (.cells k6.toArray 153)).block _ HLT.out |>.trans HZ.out)
      have HX1 := hid (hp_new wr (.cells k6.toArray 153))
      have x0 : (wr.alloc (.cells k6.toArray 153)).cell? ⟨wr.heap.size, 0, none⟩ = some (.int .i64 6) := by rw [cell_of_row (wr.alloc (.cells k6.toArray 153)) wr.heap.size 0 _ _ _ (hp_new wr (.cells k6.toArray 153))]; rfl
      have ix := ix5
      by_cases hn : n = 6
      · have HR := hid (show k6 = kOf n by subst hn; rfl)
        have HD := hid (show true = decide (1 ≤ n ∧ n ≤ 6) from (decide_eq_true (by omega)).symm)
        have q1 : ((6 : Int) == n) = true := by simpa using hn.symm
        have q2 : (6 : Int) = n := hn.symm
        clear HNO hn
        go_wp2_with (first
          | (refine al_row (by rfl) 153 (by rfl) _ zeroKind ?_)
          | (refine st_new (by rfl) 153 _ _ (by rfl) k6 (by rfl) (by rfl) 153 _ kindSize rfl (kOne _ _ _ _ _) ?_)
          | (refine ld_row (by rfl) 153 (.tmp 5) (by rfl) wr.heap.size (by rfl) k6 153 HX1.out _ Tryz.underlying153 rfl kindSize ?_)
          | (refine st_row (by rfl) 153 _ _ (by rfl) w.heap.size k6 (by rfl) (by rfl) 153 _ HZ1.out kindSize rfl (kOne _ _ _ _ _) ?_; intro w5 hw5))
        refine ret_row2 2 3 153 rfl w.heap.size rfl k6 153 hw5.blk _ Tryz.underlying153 rfl kindSize (.bool true) rfl rfl ⟨?_, Below.of_gb HB1.out hw5.grown (Nat.le_refl _)⟩
        rw [HR.out, HD.out]
      · have q1 : ((6 : Int) == n) = false := by simpa using fun h => hn h.symm
        have q2 : ¬ (6 : Int) = n := fun h => hn h.symm
        have HN2 := hid (show ¬ (1 ≤ n ∧ n ≤ ((6 : Nat) : Int)) by have := HNO.out; omega)
        clear HNO hn
        go_wp2_with (first
          | (refine al_row (by rfl) 153 (by rfl) _ zeroKind ?_)
          | (refine st_new (by rfl) 153 _ _ (by rfl) k6 (by rfl) (by rfl) 153 _ kindSize rfl (kOne _ _ _ _ _) ?_))
        exact ⟨⟨6, by omega, by rfl, HN2, HZ1, HB1⟩, by simp [intOf]⟩
    | 6, _ =>
      have HR := hid (show zRow = kOf n by
        have := HNO.out
        unfold kOf
        rw [if_neg (by omega), if_neg (by omega), if_neg (by omega), if_neg (by omega), if_neg (by omega), if_neg (by omega)])
      have HD := hid (show false = decide (1 ≤ n ∧ n ≤ 6) from (decide_eq_false (by have := HNO.out; omega)).symm)
      clear HNO
      go_wp2_with (first
        | (refine bd_row (by rfl) 153 #[] (by rfl) [] (by simp) zRow.toArray (by kernel_rfl) ?_)
        | (refine st_row (by rfl) 153 _ _ (by rfl) w.heap.size zRow (by rfl) (by rfl) 153 _ HZ.out kindSize rfl zOne ?_; intro w5 hw5))
      refine ret_row2 2 3 153 rfl w.heap.size rfl zRow 153 hw5.blk _ Tryz.underlying153 rfl kindSize (.bool false) rfl rfl ⟨?_, Below.of_gb HB.out hw5.grown (Nat.le_refl _)⟩
      rw [HR.out, HD.out]

end Go.Proofs.YtiibhccbbpgehabGreat

/- Whether all fields of two frames are the same. -/
namespace Go.Proofs.YtiibhccbbpgehabGreat
open Go.RowKit

end Go.Proofs.YtiibhccbbpgehabGreat

/- shift and byteOn. -/
namespace Go.Proofs.YtiibhccbbpgehabGreat
open Go.RowKit

theorem and_one (c : Nat) (hc : c < 4294967296) : bits .and .u32 (c : Int) 1 = ((c % 2 : Nat) : Int) := by
  have := u32_and_nat c 1 hc (by omega)
  rw [Nat.and_one_is_mod] at this
  exact this
theorem half (c : Nat) : (c : Int) / 2 ^ 1 = ((c / 2 : Nat) : Int) := by omega
theorem xor_poly (c : Nat) (hc : c < 4294967296) : bits .xor .u32 (c : Int) 2197175160 = ((c ^^^ 2197175160 : Nat) : Int) := u32_xor_nat c 2197175160 hc (by omega)
theorem sh_odd {c : Nat} (h : c % 2 = 1) : sh c = (c / 2) ^^^ 2197175160 := by unfold sh; rw [if_pos h]
theorem sh_even {c : Nat} (h : c % 2 = 0) : sh c = c / 2 := by unfold sh; rw [if_neg (by omega)]

set_option maxHeartbeats 400000 in
theorem shift_any (c : Nat) (hc : c < 4294967296) (w : World) :
    Calls Tryz.prog 124 #[.int .u32 (c : Int)] w fun e w' => e = .returned (.int .u32 (sh c : Nat)) ∧ w' = w := by
  have ha := and_one c hc
  have hx := hid (xor_poly (c / 2) (by omega))
  rcases Nat.mod_two_eq_zero_or_one c with h | h
  · have HS := hid (sh_even h)
    rw [h] at ha
    clear h
    go_enter Tryz.func124, Tryz.ntmps124
    go_wp2
    go_ret
    exact ⟨by rw [HS.out]; rfl, rfl⟩
  · have HS := hid (sh_odd h)
    rw [h] at ha
    clear h
    go_enter Tryz.func124, Tryz.ntmps124
    go_wp2
    go_ret
    refine ⟨?_, rfl⟩
    rw [HS.out, ← hx.out]
    rfl

set_option maxHeartbeats 1000000 in
theorem byteOn_any (c b : Nat) (hc : c < 4294967296) (hb : b < 256) (w : World) :
    Calls Tryz.prog 72 #[.int .u32 (c : Int), .int .u8 (b : Int)] w fun e w' => e = .returned (.int .u32 (shN 8 (c ^^^ b) : Nat)) ∧ w' = w := by
  have HC := hid (u32_xor_nat c b hc (by omega))
  have HL := hid (xlt hc (show b < 4294967296 by omega))
  go_enter Tryz.func72, Tryz.ntmps72
  go_wp2
  go_loop [0, 5] (fun vc vi => ∃ k : Nat, k ≤ 8 ∧ vc = .int .u32 (shN k (c ^^^ b) : Nat) ∧ vi = .int .i64 k) (fun _ vi => 8 - (intOf vi).toNat)
  case atStart => exact ⟨0, by omega, by rw [show shN 0 (c ^^^ b) = c ^^^ b from rfl, ← HC.out], rfl⟩
  case round =>
    obtain ⟨k, hk, rfl, rfl⟩ := hrel
    have HN := hid (show shN (k + 1) (c ^^^ b) = sh (shN k (c ^^^ b)) from rfl)
    have HQ := hid (shN_lt HL.out k)
    by_cases hlt : k < 8
    · have hb1 := and_one (shN k (c ^^^ b)) HQ.out
      have HXP := hid (xor_poly (shN k (c ^^^ b) / 2) (by have := HQ.out; omega))
      rcases Nat.mod_two_eq_zero_or_one (shN k (c ^^^ b)) with h | h
      all_goals
        rw [h] at hb1
        first | (have HE := hid (sh_even h)) | (have HE := hid (sh_odd h))
        clear h
        go_wp2
        refine ⟨⟨k + 1, hlt, ?_, by simp⟩, by simp [intOf]; omega⟩
        rw [HN.out, HE.out]
        first | rfl | (rw [← HXP.out]; rfl)
    · obtain rfl : k = 8 := by omega
      go_wp2
      go_ret
      exact ⟨rfl, rfl⟩

end Go.Proofs.YtiibhccbbpgehabGreat

/- makeTable: the table's 256 words. -/
namespace Go.Proofs.YtiibhccbbpgehabGreat
open Go.RowKit

def zerosN (n : Nat) : List Nat := List.replicate n 0
theorem zerosN_length (n : Nat) : (zerosN n).length = n := by simp [zerosN]
/-- the table, as far as it is made: the words at multiples of 2B, and at those of B below L -/
structure Tb (T : List Nat) (B L : Nat) : Prop where
  len : T.length = 256
  at_ : ∀ i, i < 256 → (i % (2 * B) = 0 ∨ (i % B = 0 ∧ i < L)) → T.getD i 0 = shN 8 i
theorem shN_row (j : Nat) (hj : j < 8) : shN (j + 1) 1 = shN 8 (128 / 2 ^ j) := by
  match j, hj with
  | 0, _ => decide +kernel
  | 1, _ => decide +kernel
  | 2, _ => decide +kernel
  | 3, _ => decide +kernel
  | 4, _ => decide +kernel
  | 5, _ => decide +kernel
  | 6, _ => decide +kernel
  | 7, _ => decide +kernel
theorem getD_set (T : List Nat) (i j y : Nat) (hj : j < T.length) : (T.set j y).getD i 0 = if j = i then y else T.getD i 0 := by
  simp only [List.getD_eq_getElem?_getD, List.getElem?_set]
  by_cases h : j = i
  · subst h; simp [hj]
  · simp [h]
theorem tb_step' {T : List Nat} {B L : Nat} (e : Nat) (he : e < 8) (hB : B = 2 ^ e) (h : Tb T B L) (hL : L < 256) (hm : L % (2 * B) = 0) :
    L + B < 256 ∧ (L + 2 * B) % (2 * B) = 0 ∧ L + 2 * B ≤ 256 ∧ Tb (T.set (L + B) (T.getD L 0 ^^^ shN 8 B)) B (L + 2 * B) := by
  have key : L + B < 256 ∧ L + 2 * B ≤ 256 ∧ ∀ i, i < 256 → ¬ L + B = i → (i % (2 * B) = 0 ∨ (i % B = 0 ∧ i < L + 2 * B)) → (i % (2 * B) = 0 ∨ (i % B = 0 ∧ i < L)) := by
    subst hB
    match e, he with
    | 0, _ => simp only [Nat.reducePow, Nat.reduceMul] at hm ⊢; exact ⟨by omega, by omega, fun i h1 h2 h3 => by omega⟩
    | 1, _ => simp only [Nat.reducePow, Nat.reduceMul] at hm ⊢; exact ⟨by omega, by omega, fun i h1 h2 h3 => by omega⟩
    | 2, _ => simp only [Nat.reducePow, Nat.reduceMul] at hm ⊢; exact ⟨by omega, by omega, fun i h1 h2 h3 => by omega⟩
    | 3, _ => simp only [Nat.reducePow, Nat.reduceMul] at hm ⊢; exact ⟨by omega, by omega, fun i h1 h2 h3 => by omega⟩
    | 4, _ => simp only [Nat.reducePow, Nat.reduceMul] at hm ⊢; exact ⟨by omega, by omega, fun i h1 h2 h3 => by omega⟩
    | 5, _ => simp only [Nat.reducePow, Nat.reduceMul] at hm ⊢; exact ⟨by omega, by omega, fun i h1 h2 h3 => by omega⟩
    | 6, _ => simp only [Nat.reducePow, Nat.reduceMul] at hm ⊢; exact ⟨by omega, by omega, fun i h1 h2 h3 => by omega⟩
    | 7, _ => simp only [Nat.reducePow, Nat.reduceMul] at hm ⊢; exact ⟨by omega, by omega, fun i h1 h2 h3 => by omega⟩
  obtain ⟨k1, k2, k3⟩ := key
  refine ⟨k1, by rw [Nat.add_mod_right]; exact hm, k2, ⟨by rw [List.length_set]; exact h.len, fun i hi hc => ?_⟩⟩
  rw [getD_set _ _ _ _ (by rw [h.len]; exact k1)]
  by_cases hi2 : L + B = i
  · rw [if_pos hi2, h.at_ L hL (Or.inl hm), ← shN_xor, ← row_add L B e (by rw [Nat.pow_succ, Nat.mul_comm, ← hB]; exact hm) hB, hi2]
  · rw [if_neg hi2]
    exact h.at_ i hi (k3 i hi hi2 hc)
/-- the step's bit -/
def pb (j : Nat) : Nat := 128 / 2 ^ j
theorem pb_lt (j : Nat) (h : j < 8) : pb j = 2 ^ (7 - j) := by
  unfold pb
  rw [show (128 : Nat) = 2 ^ 7 from rfl, Nat.pow_div (by omega) (by omega)]
theorem pb_end : pb 8 = 0 := rfl
theorem pb_succ (j : Nat) : pb j / 2 = pb (j + 1) := by
  unfold pb
  rw [Nat.div_div_eq_div_mul, Nat.pow_succ]
theorem pb_row (j : Nat) (hj : j < 8) : shN (j + 1) 1 = shN 8 (pb j) := shN_row j hj
/-- the words at multiples of so many -/
structure To (T : List Nat) (j : Nat) : Prop where
  len : T.length = 256
  at_ : ∀ i, i < 256 → i % (256 / 2 ^ j) = 0 → T.getD i 0 = shN 8 i
theorem pb_two (j : Nat) (h : j < 8) : 2 * pb j = 256 / 2 ^ j := by
  rw [pb_lt j h, show (256 : Nat) = 2 ^ 8 from rfl, Nat.pow_div (by omega) (by omega), Nat.mul_comm, ← Nat.pow_succ]
  congr 1
  omega
theorem pb_one (j : Nat) : pb j = 256 / 2 ^ (j + 1) := by
  unfold pb
  rw [Nat.pow_succ, Nat.mul_comm, ← Nat.div_div_eq_div_mul]
theorem to_begin : To (zerosN 256) 0 := by
  refine ⟨zerosN_length _, fun i hi h => ?_⟩
  obtain rfl : i = 0 := by simp only [Nat.pow_zero, Nat.div_one] at h; omega
  rfl
theorem To.inner {T : List Nat} {j : Nat} (h : To T j) (hj : j < 8) : Tb T (pb j) 0 :=
  ⟨h.len, fun i hi hc => h.at_ i hi (by rw [← pb_two j hj]; rcases hc with hc | hc; exact hc; omega)⟩
theorem Tb.outer {T : List Nat} {j L : Nat} (h : Tb T (pb j) L) (hL : 256 ≤ L) : To T (j + 1) :=
  ⟨h.len, fun i hi hc => h.at_ i hi (Or.inr ⟨by rw [pb_one]; exact hc, by omega⟩)⟩
theorem Tb.step {T : List Nat} {j L : Nat} (h : Tb T (pb j) L) (hj : j < 8) (hL : L < 256) (hm : L % (2 * pb j) = 0) :
    L + pb j < 256 ∧ (L + 2 * pb j) % (2 * pb j) = 0 ∧ L + 2 * pb j ≤ 256 ∧ Tb (T.set (L + pb j) (T.getD L 0 ^^^ shN 8 (pb j))) (pb j) (L + 2 * pb j) :=
  tb_step' (7 - j) (by omega) (pb_lt j hj) h hL hm

/-- the whole table -/
structure TabN (T : List Nat) : Prop where
  len : T.length = 256
  at_ : ∀ i, i < 256 → T.getD i 0 = shN 8 i
theorem To.done {T : List Nat} (h : To T 8) : TabN T := ⟨h.len, fun i hi => h.at_ i hi (by omega)⟩

/-- while the table is made -/
structure Mk (w : World) (T : List Nat) (wr : World) : Prop where
  b0 : wr.heap[w.heap.size]? = some (.cells (u32N (zerosN 256)).toArray 161 (0, 0))
  b1 : wr.heap[w.heap.size + 1]? = some (.cells (u32N T).toArray 161 (0, 0))
  bel : Below w.heap.size w wr
theorem Mk.step {w : World} {T : List Nat} {wr : World} (h : Mk w T wr) (t x : Nat) : Mk w (T.set t x) (wr.setCell ⟨w.heap.size + 1, t, none⟩ (.int .u32 (x : Int))) := by
  refine ⟨?_, ?_, ?_⟩
  · exact (hp_set wr _ _ _ _ (by omega)).trans h.b0
  · refine (blk_set (w := wr) (i := t) h.b1 (.int .u32 (x : Int))).trans ?_
    simp [← u32N_set]
  · exact h.bel.grown (gb_set wr _ _) h.bel.size (by intro k hk; cases hk; simp only []; omega)

set_option maxRecDepth 100000 in
set_option maxHeartbeats 1000000 in
theorem makeTable_any (w : World) :
    Calls Tryz.prog 99 #[] w fun e w' => ∃ T, TabN T ∧ e = .returned (.agg (u32N T).toArray) ∧ Below w.heap.size w w' := by
  obtain ⟨z, s⟩ := zero_of_info (P := Tryz.prog) (t := 161) (v := .agg (u32N (zerosN 256)).toArray) (n := 256) (by kernel_rfl)
  have HZ := hid s
  clear s
  go_enter Tryz.func99, Tryz.ntmps99
  go_wp2
  go_loopw [2, 3] (fun vr vb wr => ∃ (j : Nat) (T : List Nat), j ≤ 8 ∧ vr = .int .u32 (shN j 1 : Nat) ∧ vb = .int .i64 (pb j : Nat) ∧ To T j ∧ Mk w T wr) (fun _ vb _ => (intOf vb).toNat)
  case atStart =>
    refine ⟨0, zerosN 256, by omega, rfl, rfl, to_begin, ?_, ?_, ?_⟩
    · exact (hp_two w _ _).1
    · exact (hp_two w _ _).2
    · exact below_walk2 w _ _
  case round =>
    obtain ⟨j, T, hj, rfl, rfl, hT, hM⟩ := hrel
    clear z
    have HM := hid hM
    have HT := hid hT
    clear hM hT
    by_cases hlt : j < 8
    · have hp := pb_lt j hlt
      have hpos : 0 < pb j := by rw [hp]; exact Nat.two_pow_pos _
      have hple : pb j ≤ 128 := Nat.div_le_self _ _
      have HI := hid (HT.out.inner hlt)
      have HR := hid (pb_row j hlt)
      have HS := hid (pb_succ j)
      have HSL := hid (shN_lt (show (1 : Nat) < 4294967296 by omega) j)
      clear hp HT
      go_wp2_with (go_at_call 124; refine (shift_any _ HSL.out _).mono ?_; rintro e w' ⟨rfl, rfl⟩)
      go_loopw [4] (fun vl wr => ∃ (L : Nat) (T : List Nat), L ≤ 256 ∧ Hid (L % (2 * pb j) = 0) ∧ vl = .int .i64 (L : Nat) ∧ Tb T (pb j) L ∧ Mk w T wr) (fun vl _ => 256 - (intOf vl).toNat)
      case atStart => exact ⟨0, T, by omega, Nat.zero_mod _, rfl, HI.out, HM.out⟩
      case round =>
        obtain ⟨L, T, hL, HLM, rfl, hT, hM⟩ := hrel
        clear HM HI
        have HM := hid hM
        have HT := hid hT
        clear hM hT
        by_cases hl2 : L < 256
        · obtain ⟨k1, k2, k3, k4⟩ := HT.out.step hlt hl2 HLM.out
          have HK2 := hid k2
          have HK4 := hid k4
          clear k2 k4
          have c1 := u32N_cell HM.out.b1 L (by rw [HT.out.len]; exact hl2)
          obtain ⟨I, HI⟩ : ∃ I, Hid (I = L + pb j) := ⟨_, rfl⟩
          have hw : IntKind.i64.wrap ((L : Int) + ((pb j : Nat) : Int)) = (I : Int) := by rw [IntKind.wrap_i64, HI.out]; omega
          have hI1 : (I : Int) < 256 := by rw [HI.out]; omega
          have hI0 : (0 : Int) ≤ (I : Int) := by omega
          have f1 := row_fz HM.out.b1 I
          have c2 := u32N_cell HM.out.b1 I (by rw [HT.out.len, HI.out]; exact k1)
          have HX := hid (u32_xor_nat (T.getD L 0) (sh (shN j 1)) (by rw [HT.out.at_ L hl2 (Or.inl HLM.out)]; exact shN_lt (by omega) 8) (sh_lt HSL.out))
          have HN := hid (HM.out.step (L + pb j) (T.getD L 0 ^^^ sh (shN j 1)))
          go_wp2
          refine ⟨⟨L + 2 * pb j, _, k3, HK2, ?_, HK4.out, ?_⟩, ?_⟩
          · exact congrArg (Value.int .i64) (by omega)
          · rw [← HR.out]
            have := HN.out
            rw [← HI.out] at this ⊢
            rw [← HX.out] at this
            exact this
          · simp only [intOf]; omega
        · have HO := hid (HT.out.outer (show 256 ≤ L by omega))
          have hl3 : ¬ (L : Int) < 256 := by omega
          clear HT HLM hl2
          go_wp2
          refine ⟨⟨j + 1, T, hlt, rfl, ?_, HO.out, HM.out⟩, ?_⟩
          · rw [← HS.out]; rfl
          · simp only [intOf]; omega
    · obtain rfl : j = 8 := by omega
      have HD := hid HT.out.done
      rw [pb_end]
      clear HT
      have HL : Hid ((Tryz.prog.info? 161).map (·.size) = some (u32N T).length) := by rw [u32N_length, HD.out.len]; exact HZ.out
      go_upto_region 11 with fail
      refine wp_region_list ?_
      show wpList _ _ _ (_ :: _) _ _
      refine ld_row (by rfl) 161 (.tmp 1) (by rfl) (w.heap.size + 1) (by rfl) _ 161 HM.out.b1 _ Tryz.underlying161 rfl HL.out ?_
      refine st_row (by rfl) 161 (.tmp 0) (.tmp 26) (by rfl) w.heap.size _ (by rfl) (by rfl) 161 _ HM.out.b0 HL.out (by rw [List.size_toArray, u32N_length, u32N_length, HD.out.len, zerosN_length]) (u32N_one _) ?_
      intro w4 hw4
      have HWW := hid hw4
      clear hw4
      go_wp2
      refine ret_row 0 161 rfl w.heap.size rfl _ 161 HWW.out.blk _ Tryz.underlying161 rfl HL.out rfl ⟨T, HD.out, rfl, ?_⟩
      exact HM.out.bel.grown HWW.out.grown HM.out.bel.size (by intro k hk; cases hk; omega)

end Go.Proofs.YtiibhccbbpgehabGreat

/- over, More, Sum; the document's More and Sum; check. -/
namespace Go.Proofs.YtiibhccbbpgehabGreat
open Go.RowKit

/-- block b holds the table -/
def TabAt (w : World) (b : Nat) : Prop := ∃ T, TabN T ∧ w.heap[b]? = some (.cells (u32N T).toArray 161 (0, 0))
theorem TabAt.below {w w' : World} {b : Nat} (h : TabAt w b) (hb : Below w.heap.size w w') : TabAt w' b := by
  obtain ⟨T, h1, h2⟩ := h
  exact ⟨T, h1, (hb.block b (hp_lt h2)).trans h2⟩
theorem word_ok (c : Nat) (b : UInt8) (hc : c < 4294967296) : ∃ q : Nat, q < 256 ∧ bits .xor .u8 ((c : Int) % 256) ((b.toNat : Nat) : Int) = (q : Int) ∧ bits .xor .u32 ((shN 8 q : Nat) : Int) ((c : Int) / 256) = ((shN 8 (c ^^^ b.toNat) : Nat) : Int) := by
  have hb := b.toNat_lt
  have hq : c % 256 ^^^ b.toNat < 256 := Nat.xor_lt_two_pow (n := 8) (by omega) (by omega)
  refine ⟨c % 256 ^^^ b.toNat, hq, ?_, ?_⟩
  · have := u8_xor_nat (c % 256) b.toNat (by omega) (by omega)
    rw [← this]
    rfl
  · have := u32_xor_nat (shN 8 (c % 256 ^^^ b.toNat)) (c / 256) (shN_lt (by omega) 8) (by omega)
    rw [table_word c b.toNat, ← this]
    rfl

set_option maxRecDepth 100000 in
set_option maxHeartbeats 1000000 in
theorem crcOver_any (w : World) (b c : Nat) (v : Value) (bs : List UInt8) (hT : TabAt w b) (hc : c < 4294967296) (hv : Src w v bs) :
    Calls Tryz.prog 100 #[.pointer (some ⟨b, 0, none⟩), .int .u32 (c : Int), v] w fun e w' => e = .returned (.int .u32 (raw c bs : Nat)) ∧ w' = w := by
  obtain ⟨ao, cv, rfl⟩ := src_shape hv
  have hl := hv.1
  obtain ⟨T, hTN, hTB⟩ := hT
  have HV := hid hv
  have HTN := hid hTN
  have HTB := hid hTB
  clear hv hTN hTB
  go_enter Tryz.func100, Tryz.ntmps100
  go_wp2
  go_loop [1, 11] (fun vc vi => ∃ k : Nat, k ≤ bs.length ∧ vc = .int .u32 (raw c (bs.take k) : Nat) ∧ vi = .int .i64 k) (fun _ vi => bs.length - (intOf vi).toNat)
  case atStart => exact ⟨0, by omega, rfl, rfl⟩
  case round =>
    obtain ⟨k, hk, rfl, rfl⟩ := hrel
    by_cases hlt : k < bs.length
    · obtain ⟨ad, rfl, c1⟩ := src_at HV.out k hlt
      have HR := hid (raw_take c bs k hlt)
      obtain ⟨x, HXX⟩ : ∃ x : UInt8, Hid (x = bs.getD k 0) := ⟨_, rfl⟩
      rw [← HXX.out] at c1 HR
      obtain ⟨q, hq, hx1, hx2⟩ := word_ok (raw c (bs.take k)) x (raw_lt hc _)
      rw [← HR.out] at hx2
      have HX2 := hid hx2
      have c2 := u32N_cell HTB.out q (by rw [HTN.out.len]; exact hq)
      rw [HTN.out.at_ q hq] at c2
      clear hx2
      go_wp2
      refine ⟨⟨k + 1, hlt, ?_, by simp⟩, by simp [intOf]; omega⟩
      rw [← HX2.out]
    · obtain rfl : k = bs.length := by omega
      rw [List.take_length]
      go_wp2
      go_ret
      exact ⟨rfl, rfl⟩

theorem not32 (c : Nat) (hc : c < 4294967296) : bits .xor .u32 IntKind.u32.max (c : Int) = ((4294967295 ^^^ c : Nat) : Int) := u32_xor_nat 4294967295 c (by omega) hc

set_option maxRecDepth 100000 in
set_option maxHeartbeats 1000000 in
theorem rmore_any (w : World) (c : Nat) (v : Value) (bs : List UInt8) (hc : c < 4294967296) (hv : Src w v bs) :
    Calls Tryz.prog 64 #[.int .u32 (c : Int), v] w fun e w' => e = .returned (.int .u32 (moreP c bs : Nat)) ∧ w' = w := by
  obtain ⟨ao, cv, rfl⟩ := src_shape hv
  have hl := hv.1
  have HV := hid hv
  clear hv
  have hn1 := not32 c hc
  have HL := hid (xlt (show 4294967295 < 4294967296 by omega) hc)
  have hsg : IntKind.u32.signed = false := rfl
  go_enter Tryz.func64, Tryz.ntmps64
  go_wp2
  go_loop [0, 5] (fun vc vi => ∃ k : Nat, k ≤ bs.length ∧ vc = .int .u32 (raw (4294967295 ^^^ c) (bs.take k) : Nat) ∧ vi = .int .i64 k) (fun _ vi => bs.length - (intOf vi).toNat)
  case atStart => exact ⟨0, by omega, rfl, rfl⟩
  case round =>
    obtain ⟨k, hk, rfl, rfl⟩ := hrel
    clear hn1
    by_cases hlt : k < bs.length
    · obtain ⟨ad, rfl, c1⟩ := src_at HV.out k hlt
      have HR := hid (raw_take (4294967295 ^^^ c) bs k hlt)
      obtain ⟨x, HXX⟩ : ∃ x : UInt8, Hid (x = bs.getD k 0) := ⟨_, rfl⟩
      rw [← HXX.out] at c1 HR
      have HQ := hid (raw_lt HL.out (bs.take k))
      go_wp2_with (go_at_call 72; refine (byteOn_any _ _ HQ.out x.toNat_lt _).mono ?_; rintro e w' ⟨rfl, rfl⟩)
      refine ⟨⟨k + 1, hlt, ?_, by simp⟩, by simp [intOf]; omega⟩
      rw [HR.out]
    · obtain rfl : k = bs.length := by omega
      rw [List.take_length]
      have hn2 := not32 (raw (4294967295 ^^^ c) bs) (raw_lt HL.out bs)
      go_wp2
      go_ret
      exact ⟨rfl, rfl⟩

theorem moreP_take (c : Nat) (pss : List (List UInt8)) (k : Nat) (hk : k < pss.length) : moreP c (fl (pss.take (k + 1))) = moreP (moreP c (fl (pss.take k))) (pss.getD k []) := by
  rw [fl_snoc pss k hk, moreP_append]
theorem rawP_take (c : Nat) (pss : List (List UInt8)) (k : Nat) (hk : k < pss.length) : raw c (fl (pss.take (k + 1))) = raw (raw c (fl (pss.take k))) (pss.getD k []) := by
  rw [fl_snoc pss k hk, raw_append]

set_option maxRecDepth 100000 in
set_option maxHeartbeats 1000000 in
theorem sum_any (w : World) (v : Value) (pss : List (List UInt8)) (hv : Lists w v pss) (hn : pss.length ≤ 140737488355327) :
    Calls Tryz.prog 93 #[v] w fun e w' => e = .returned (.int .u32 (sumP (fl pss) : Nat)) ∧ Below w.heap.size w w' := by
  obtain ⟨z, s⟩ := zero_of_info (P := Tryz.prog) (t := 161) (v := .agg (u32N (zerosN 256)).toArray) (n := 256) (by kernel_rfl)
  have HZ := hid s
  have HZ2 := hid z
  clear s z
  obtain ⟨ao, cv, rfl⟩ := hv.shape
  have HV := hid hv
  clear hv
  have hsg : IntKind.u32.signed = false := rfl
  go_enter Tryz.func93, Tryz.ntmps93
  go_wp2_with fail
  refine (makeTable_any w).mono ?_
  rintro e w1 ⟨T, hT, rfl, hb⟩
  have HB := hid hb
  have HT := hid hT
  clear hT hb
  rename_i Kx hKx
  refine hKx _ _ ?_
  clear hKx
  refine al_row (by rfl) 161 (by rfl) _ HZ2.out ?_
  refine st_new (by rfl) 161 (.tmp 3) (.tmp 7) (by rfl) (u32N T) (by rfl) (by rfl) _ _ (by rw [u32N_length, HT.out.len]; exact HZ.out) (by rw [List.size_toArray, u32N_length, u32N_length, zerosN_length, HT.out.len]) (u32N_one _) ?_
  have HTA := hid (show TabAt (w1.alloc (.cells (u32N T).toArray 161)) w1.heap.size from ⟨T, HT.out, hp_new _ _⟩)
  have HBel := hid (HB.out.alloc HB.out.size (.cells (u32N T).toArray 161))
  generalize w1.alloc (.cells (u32N T).toArray 161) = w2 at HTA HBel ⊢
  have HV2 := hid (HV.out.below HBel.out)
  clear HV HB HT
  go_wp2
  go_loop [4, 10] (fun vc vi => ∃ k : Nat, k ≤ pss.length ∧ vc = .int .u32 (raw 4294967295 (fl (pss.take k)) : Nat) ∧ vi = .int .i64 k) (fun _ vi => pss.length - (intOf vi).toNat)
  case atStart => exact ⟨0, by omega, by rw [List.take_zero, fl_nil, raw_nil]; rfl, rfl⟩
  case round =>
    obtain ⟨k, hk, rfl, rfl⟩ := hrel
    by_cases hlt : k < pss.length
    · obtain ⟨g, o, rfl, u, c1, hsrc⟩ := HV2.out.at k hlt
      obtain ⟨p, HP⟩ : ∃ p, Hid (p = pss.getD k []) := ⟨_, rfl⟩
      rw [← HP.out] at hsrc
      have HS := hid hsrc
      have HR := hid (rawP_take 4294967295 pss k hlt)
      rw [← HP.out] at HR
      have HQ := hid (raw_lt (show 4294967295 < 4294967296 by omega) (fl (pss.take k)))
      clear hsrc
      go_wp2_with (go_at_call 100; refine (crcOver_any _ _ _ _ _ HTA.out HQ.out HS.out).mono ?_; rintro e w' ⟨rfl, rfl⟩)
      refine ⟨⟨k + 1, hlt, ?_, by simp⟩, by simp [intOf]; omega⟩
      rw [HR.out]
    · obtain rfl : k = pss.length := by omega
      rw [fl_all]
      have hn2 := not32 (raw 4294967295 (fl pss)) (raw_lt (by omega) _)
      go_wp2
      go_ret
      exact ⟨by unfold sumP moreP; rfl, HBel.out⟩

theorem check_sum : sumP [49, 50, 51, 52, 53, 54, 55, 56, 57] = 3808858755 := by decide +kernel
theorem parts9 (w : World) (f1 : Nat × Nat) :
    Lists ((w.alloc (.cells #[.int .u8 49, .int .u8 50, .int .u8 51, .int .u8 52, .int .u8 53, .int .u8 54, .int .u8 55, .int .u8 56, .int .u8 57] 5 f1)).alloc (.cells #[.slice (some ⟨w.heap.size, 0, none⟩) 9 9] 22))
      (.slice (some ⟨w.heap.size + 1, 0, none⟩) 1 1) [[49, 50, 51, 52, 53, 54, 55, 56, 57]] := by
  have h1 := hp_two w (.cells #[.int .u8 49, .int .u8 50, .int .u8 51, .int .u8 52, .int .u8 53, .int .u8 54, .int .u8 55, .int .u8 56, .int .u8 57] 5 f1) (.cells #[.slice (some ⟨w.heap.size, 0, none⟩) 9 9] 22)
  refine Or.inr ⟨w.heap.size + 1, 0, 1, rfl, hp_lt h1.2, fun j hj => ?_⟩
  match j, hj with
  | 0, _ => exact ⟨_, by rw [cell_of_row _ _ _ _ _ _ h1.2]; rfl, src_lit h1.1 rfl (by decide) _ rfl⟩

end Go.Proofs.YtiibhccbbpgehabGreat

/- Bytes, Seal: the program's and the document's; bytes.Equal, slices.Equal. -/
namespace Go.Proofs.YtiibhccbbpgehabGreat
open Go.RowKit

/-- make([]byte, L, C) -/
theorem make_len {w : World} {ops : Array Oper} {rest : List Oper} {o : Oper} {a : Act} {Q : Exit → Act → World → Prop} (hgd : o.guard = none) (l c : Operand) (ho : o.op = Op.makeSlice 22 l c)
    (kl kc : IntKind) (Li Ci : Int) (L C : Nat) (hl : a.eval l = .int kl Li) (hc : a.eval c = .int kc Ci) (hLi : Li = (L : Int)) (hCi : Ci = (C : Int)) (hLC : L ≤ C) (hC : C ≤ 140737488355327)
    (h : ∀ w', OwnB w' w.heap.size (.slice (some ⟨w.heap.size, 0, none⟩) L C) (List.replicate L 0) → Below w.heap.size w w' → wpList Tryz.prog ops Q rest (a.put o.dst (.slice (some ⟨w.heap.size, 0, none⟩) L C)) w') : wpList Tryz.prog ops Q (o :: rest) a w := by
  subst hLi hCi
  obtain ⟨i0, hi, hz0, hz1, hz2⟩ := info_parts Tryz.infoU8
  refine wpList_plain hgd fun K hK => ?_
  have hr := run_make (P := Tryz.prog) w 22 5 i0 (.int .u8 0) Tryz.underlying22 hi hz0 kl kc L C (by omega) (by omega) (by rw [hz2]; omega) (by omega)
  simp only [Int.toNat_natCast, hz1, Nat.mul_one] at hr
  unfold Oper.wp
  simp [execOp, ho, hl, hc, hr, Result.andThen]
  refine hK _ _ (h _ ?_ (below_walk w _))
  refine ⟨by simp [bytesV], Or.inr ⟨w.heap.size, C, madeCells (Value.int .u8 0).cells C, by simp, Nat.le_refl _, hp_new _ _, by simpa using hLC, by unfold maxLen; omega, by simp [size_madeCells], ?_⟩⟩
  simp only [List.length_replicate, Nat.mul_one]
  apply List.ext_getElem?
  intro j
  by_cases hj : j < L
  · simp [madeCells, bytesV, Value.cells, hj, show j < C by omega, Nat.mod_one]
  · simp [List.getElem?_take, hj, bytesV]

theorem cut_end {w : World} {v : Value} {bs : List UInt8} (h : Src w v bs) (k : Nat) (hk : k ≤ bs.length) :
    ∃ vx, Src w vx (bs.drop k) ∧ (∀ j, vx.ownBlock = some j → v.ownBlock = some j) ∧ (∀ W, (Instr.sliceAt 22 v (some (.int .i64 (k : Int))) none none).run Tryz.prog W = .ok vx W) := by
  obtain ⟨hl, ⟨rfl, rfl⟩ | ⟨ad, cap, rfl, h1, h2, hlt, hc⟩⟩ := h
  · simp at hk
    subst hk
    exact ⟨.slice none 0 0, ⟨by simp, Or.inl ⟨rfl, rfl⟩⟩, fun j e => e, fun W => by go_simp⟩
  · have hlen : (bs.drop k).length = bs.length - k := by simp
    have hk2 : (k : Int) ≤ (bs.length : Int) := by omega
    refine ⟨.slice (if cap = k then some ad else some (ad.add k)) (bs.length - k) (cap - k), ⟨by omega, Or.inr ?_⟩, fun j e => ?_, fun W => ?_⟩
    · by_cases hck : cap = k
      · rw [if_pos hck]
        exact ⟨ad, cap - k, by rw [hlen], by omega, by omega, fun h => by omega, fun j hj => by omega⟩
      · rw [if_neg hck]
        refine ⟨ad.add k, cap - k, by rw [hlen], by omega, by omega, fun h => by rw [addr_block]; exact hlt (by omega), fun j hj => ?_⟩
        rw [hlen] at hj
        rw [Addr.add_add, hc (k + j) (by omega)]
        simp [List.getD_eq_getElem?_getD]
    · by_cases hck : cap = k
      · rw [if_pos hck] at e; exact e
      · rw [if_neg hck] at e
        simpa [Value.ownBlock, addr_block] using e
    · go_simp

/-- how a slice is cut at its beginning -/
theorem cut_begin {w : World} {v : Value} {bs : List UInt8} (h : Src w v bs) (k : Nat) (hk : k ≤ bs.length) :
    ∃ vx, Src w vx (bs.take k) ∧ (∀ W, (Instr.sliceAt 22 v none (some (.int .i64 (k : Int))) none).run Tryz.prog W = .ok vx W) := by
  obtain ⟨hl, ⟨rfl, rfl⟩ | ⟨ad, cap, rfl, h1, h2, hlt, hc⟩⟩ := h
  · simp at hk
    subst hk
    exact ⟨.slice none 0 0, ⟨by simp, Or.inl ⟨rfl, rfl⟩⟩, fun W => by go_simp⟩
  · have hlen : (bs.take k).length = k := by simp; omega
    refine ⟨.slice (some ad) k cap, ⟨by omega, Or.inr ⟨ad, cap, by rw [hlen], by omega, h2, fun h => hlt (by omega), fun j hj => ?_⟩⟩, fun W => ?_⟩
    · rw [hlen] at hj
      rw [hc j (by omega)]
      simp [List.getD_eq_getElem?_getD, hj]
    · have hk2 : (k : Int) ≤ (cap : Int) := by omega
      go_simp

/-- a number xs four bytes, the lowest first -/
def le4 (c : Nat) : List UInt8 := [c.toUInt8, (c / 256).toUInt8, (c / 65536).toUInt8, (c / 16777216).toUInt8]
theorem le4_length (c : Nat) : (le4 c).length = 4 := rfl
theorem le4_V (c : Nat) : bytesV (le4 c) = [.int .u8 ((c : Int) % 256), .int .u8 ((c : Int) / 256 % 256), .int .u8 ((c : Int) / 65536 % 256), .int .u8 ((c : Int) / 16777216 % 256)] := by
  have h0 : ((c % 256 : Nat) : Int) = (c : Int) % 256 := by omega
  have h1 : ((c / 256 % 256 : Nat) : Int) = (c : Int) / 256 % 256 := by omega
  have h2 : ((c / 65536 % 256 : Nat) : Int) = (c : Int) / 65536 % 256 := by omega
  have h3 : ((c / 16777216 % 256 : Nat) : Int) = (c : Int) / 16777216 % 256 := by omega
  rw [← h0, ← h1, ← h2, ← h3]
  simp only [bytesV, le4, List.map_cons, List.map_nil, byte_of]

set_option maxRecDepth 100000 in
set_option maxHeartbeats 1000000 in
theorem bytes_any (w : World) (c : Nat) :
    Calls Tryz.prog 92 #[.int .u32 (c : Int)] w fun e w' => e = .returned (.agg (bytesV (le4 c)).toArray) ∧ Below w.heap.size w w' := by
  have HV := hid (le4_V c)
  go_enter Tryz.func92, Tryz.ntmps92
  go_wp2
  refine ret_row 2 116 rfl w.heap.size rfl (bytesV (le4 c)) 116 ?_ _ Tryz.underlying116 rfl (by kernel_rfl) rfl ⟨rfl, ?_⟩
  · rw [HV.out]; exact hp_new _ _
  · exact below_walk w _

set_option maxRecDepth 100000 in
set_option maxHeartbeats 1000000 in
theorem rbytes_any (w : World) (c : Nat) :
    Calls Tryz.prog 63 #[.int .u32 (c : Int)] w fun e w' => e = .returned (.agg (bytesV (le4 c)).toArray) ∧ Below w.heap.size w w' := by
  have HV := hid (le4_V c)
  go_enter Tryz.func63, Tryz.ntmps63
  go_wp2
  refine ret_row 2 116 rfl w.heap.size rfl (bytesV (le4 c)) 116 ?_ _ Tryz.underlying116 rfl (by kernel_rfl) rfl ⟨rfl, ?_⟩
  · rw [HV.out]; exact hp_new _ _
  · exact below_walk w _

theorem drewN_two (w : World) (a b : Nat) : (w.drewN a).drewN b = w.drewN (a + b) := by simp [World.drewN, Nat.add_assoc]
theorem take_eq_succ {xs bs : List UInt8} {k : Nat} (hl : xs.length = bs.length) (hk : k < xs.length) (h : xs.take k = bs.take k) (e : xs.getD k 0 = bs.getD k 0) : xs.take (k + 1) = bs.take (k + 1) := by
  rw [List.take_succ_eq_append_getElem hk, List.take_succ_eq_append_getElem (by omega), h]
  simp only [List.getD_eq_getElem?_getD, List.getElem?_eq_getElem hk, List.getElem?_eq_getElem (show k < bs.length by omega), Option.getD_some] at e
  rw [e]

set_option maxRecDepth 100000 in
set_option maxHeartbeats 1000000 in
theorem sequal_any (w : World) (va vb : Value) (xs bs : List UInt8) (ha : Src w va xs) (hb : Src w vb bs) :
    Calls Tryz.prog 94 #[va, vb] w fun e w' => e = .returned (.bool (decide (xs = bs))) ∧ ∃ k, w' = w.drewN k := by
  obtain ⟨aa, ca, rfl⟩ := src_shape ha
  obtain ⟨ab, cb, rfl⟩ := src_shape hb
  have hl := ha.1
  have hl2 := hb.1
  have HA := hid ha
  have HB := hid hb
  clear ha hb
  by_cases hlen : xs.length = bs.length
  · have HL := hid hlen
    have hle : (xs.length : Int) = (bs.length : Int) := by omega
    have hne : (((xs.length : Nat) : Int) != ((bs.length : Nat) : Int)) = false := by rw [hlen]; simp
    clear hlen
    have HLE := hid hle
    clear hle
    go_enter Tryz.func94, Tryz.ntmps94
    go_wp2
    go_loopw [13] (fun i wr => ∃ k q : Nat, k ≤ xs.length ∧ i = .int .i64 k ∧ wr = w.drewN q ∧ Hid (xs.take k = bs.take k)) (fun i _ => xs.length - (intOf i).toNat)
    case atStart => exact ⟨0, 0, by omega, rfl, rfl, rfl⟩
    case round =>
      obtain ⟨k, q, hk, rfl, rfl, HT⟩ := hrel
      clear hne
      by_cases hlt : k < xs.length
      · obtain ⟨ad, rfl, c1⟩ := src_at HA.out k hlt
        obtain ⟨bd, rfl, c2⟩ := src_at HB.out k (by have := HL.out; omega)
        have hlt2 : (k : Int) < (bs.length : Int) := by have := HLE.out; omega
        obtain ⟨x, HX⟩ : ∃ x : UInt8, Hid (x = xs.getD k 0) := ⟨_, rfl⟩
        obtain ⟨y, HY⟩ : ∃ y : UInt8, Hid (y = bs.getD k 0) := ⟨_, rfl⟩
        rw [← HX.out] at c1
        rw [← HY.out] at c2
        by_cases hxy : x = y
        · subst hxy
          have HN := hid (take_eq_succ HL.out hlt HT.out (by rw [← HX.out, ← HY.out]))
          go_wp2
          go_quiet (fail)
          go_wp2
          exact ⟨⟨k + 1, _, by omega, by simp, rfl, HN⟩, by simp [intOf]; omega⟩
        · have hd : ((((x.toNat : Nat) : Int)) != ((y.toNat : Nat) : Int)) = true := by
            simp only [bne_iff_ne, ne_eq]
            intro e
            exact hxy (UInt8.toNat_inj.1 (by omega))
          have HNE := hid (show decide (xs = bs) = false from decide_eq_false (fun e => hxy (by rw [HX.out, HY.out, e])))
          clear hxy
          go_wp2
          go_quiet (fail)
          go_wp2
          go_ret
          exact ⟨by rw [HNE.out]; rfl, _, drewN_two _ _ _⟩
      · have HE := hid (show decide (xs = bs) = true from decide_eq_true (by
          have h1 := HT.out
          have h2 := HL.out
          rwa [List.take_of_length_le (by omega), List.take_of_length_le (by omega)] at h1))
        have hge : ¬ (k : Int) < (xs.length : Int) := by omega
        clear hlt HT
        go_wp2
        go_ret
        exact ⟨by rw [HE.out]; rfl, _, rfl⟩
  · have hne : (((xs.length : Nat) : Int) != ((bs.length : Nat) : Int)) = true := by simp only [bne_iff_ne, ne_eq]; omega
    have HNE := hid (show decide (xs = bs) = false from decide_eq_false (fun e => hlen (by rw [e])))
    clear hlen
    go_enter Tryz.func94, Tryz.ntmps94
    go_wp2
    go_ret
    exact ⟨by rw [HNE.out]; rfl, 0, rfl⟩

theorem sum_one (w : World) (v : Value) (bs : List UInt8) (hv : Src w v bs) :
    Calls Tryz.prog 93 #[.slice (some ⟨w.heap.size, 0, none⟩) 1 1] (w.alloc (.cells #[v] 22)) fun e w' => e = .returned (.int .u32 (sumP bs : Nat)) ∧ Below w.heap.size w w' := by
  refine (sum_any _ _ [bs] (lists_one hv) (by simp)).mono ?_
  rintro e w' ⟨rfl, hb⟩
  refine ⟨by simp [fl], (below_walk w _).trans (hb.mono (by rw [hp_size]; omega))⟩

/-- sealed bytes -/
def sealP (bs : List UInt8) : List UInt8 := bs ++ le4 (sumP bs)
theorem sealP_length (bs : List UInt8) : (sealP bs).length = bs.length + 4 := by simp [sealP, le4_length]

/-- bytes of which something was copied over a row that is one's own -/
theorem own_splice {w : World} {g base cap n : Nat} {cur : List Value} {bs : List UInt8} (hb : w.heap[g]? = some (.cells cur.toArray 5 (0, 0))) (hbase : base ≤ g) (hn : n = bs.length) (hc : n ≤ cap) (hcm : cap ≤ maxLen) (hl : cur.length = cap) (ht : cur.take n = bytesV bs) :
    OwnB w base (.slice (some ⟨g, 0, none⟩) n cap) bs := by
  subst hn
  exact ⟨by simp [bytesV], Or.inr ⟨g, cap, cur.toArray, rfl, hbase, hb, hc, hcm, by simpa using hl, by simpa using ht⟩⟩

end Go.Proofs.YtiibhccbbpgehabGreat

/- Seal: the program's and the document's. -/
namespace Go.Proofs.YtiibhccbbpgehabGreat
open Go.RowKit

/-- how a small array is cut whole -/
theorem cut_array {w : World} {b : Nat} {bs : List UInt8} (hb : w.heap[b]? = some (.cells (bytesV bs).toArray 116 (0, 0))) (h4 : bs.length = 4) : Src w (.slice (some ⟨b, 0, none⟩) 4 4) bs := by
  refine ⟨by omega, Or.inr ⟨⟨b, 0, none⟩, 4, by rw [h4], by omega, by unfold maxLen; omega, fun _ => hp_lt hb, fun j hj => ?_⟩⟩
  rw [addr_add, cell_of_row w b j _ _ _ hb]
  simp [bytesV, List.getD_eq_getElem?_getD, hj]

theorem cut_tail (g n : Nat) (W : World) : (Instr.sliceAt 22 (.slice (some ⟨g, 0, none⟩) (n + 4) (n + 4)) (some (.int .i64 (n : Int))) none none).run Tryz.prog W = .ok (.slice (some ⟨g, n, none⟩) 4 4) W := by
  have h1 : (n : Int) ≤ (n : Int) + 4 := by omega
  go_simp
theorem splice_two (cur : List Value) (A B : List Value) (n : Nat) (hA : A.length = n) : (splice (splice cur 0 A) n B).take (n + B.length) = A ++ B := by
  subst hA
  have e : (splice cur 0 A).take A.length = A := by simp [splice]
  show List.take _ ((splice cur 0 A).take A.length ++ (B ++ (splice cur 0 A).drop (A.length + B.length))) = _
  rw [e, ← List.append_assoc, List.take_left' (by simp)]
theorem splice_len2 (cur : List Value) (A B : List Value) (n : Nat) (hA : A.length = n) (hc : cur.length = n + B.length) : (splice (splice cur 0 A) n B).length = n + B.length := by
  rw [length_splice _ _ _ (by rw [length_splice _ _ _ (by omega)]; omega), length_splice _ _ _ (by omega), hc]

end Go.Proofs.YtiibhccbbpgehabGreat

/- The document's Seal; Open: the program's and the document's. -/
namespace Go.Proofs.YtiibhccbbpgehabGreat
open Go.RowKit

/-- four bytes that a literal lays -/
theorem src_four (w : World) (c : Nat) : Src (w.alloc (.cells (bytesV (le4 c)).toArray 5)) (.slice (some ⟨w.heap.size, 0, none⟩) 4 4) (le4 c) := src_lit (hp_new _ _) rfl (by rw [le4_length]; omega) _ rfl

set_option maxRecDepth 100000 in
set_option maxHeartbeats 1000000 in
theorem rseal_any (w : World) (v : Value) (bs : List UInt8) (hv : Src w v bs) (hl : bs.length ≤ 140737488355000) :
    Calls Tryz.prog 47 #[v] w fun e w' => ∃ v', e = .returned v' ∧ OwnB w' w.heap.size v' (sealP bs) ∧ Below w.heap.size w w' := by
  obtain ⟨av, cv, rfl⟩ := src_shape hv
  have HV := hid hv
  clear hv
  go_enter Tryz.func47, Tryz.ntmps47
  go_wp2_with (at_builtin; refine app_src rfl _ _ rfl w.heap.size _ [] rfl (OwnB.nil _ _) _ bs rfl HV.out (by simp; omega) (Nat.le_refl _) ?_)
  intro v1 w1 ho1 hg1
  have HO1 := hid (show OwnB w1 w.heap.size v1 bs from ho1)
  have HB1 := hid (gb_below hg1)
  have HV1 := hid (HV.out.below HB1.out)
  clear ho1 hg1 HV
  go_wp2_with fail
  refine (rmore_any w1 0 _ bs (by omega) HV1.out).mono ?_
  rintro e w2 ⟨rfl, rfl⟩
  go_wp2_with fail
  refine (rbytes_any w2 _).mono ?_
  rintro e w3 ⟨rfl, hb3⟩
  have HO3 := hid (HO1.out.below hb3)
  have HB3 := hid (HB1.out.trans (hb3.mono HB1.out.size))
  clear hb3 HO1 HB1 HV1
  rw [show moreP 0 bs = sumP bs from rfl]
  rename_i Kx hKx
  refine hKx _ _ ?_
  clear hKx
  obtain ⟨z, s⟩ := zero_of_info (P := Tryz.prog) (t := 116) (v := .agg (bytesV [0, 0, 0, 0]).toArray) (n := 4) (by kernel_rfl)
  refine al_row (by rfl) 116 (by rfl) _ z ?_
  refine st_new (by rfl) 116 (.tmp 4) (.tmp 9) (by rfl) (bytesV (le4 (sumP bs))) (by rfl) (by rfl) _ _ (by rw [bytesV_length]; exact s) (by rw [List.size_toArray]; rfl) (bytesV_one _) ?_
  have HN := hid (hp_new w3 (.cells (bytesV (le4 (sumP bs))).toArray 116))
  have HB5 := hid (HB3.out.alloc HB3.out.size (.cells (bytesV (le4 (sumP bs))).toArray 116))
  have HO5 := hid (HO3.out.below (below_walk w3 (.cells (bytesV (le4 (sumP bs))).toArray 116)))
  clear z s HO3 HB3
  generalize w3.alloc (.cells (bytesV (le4 (sumP bs))).toArray 116) = w5 at HN HB5 HO5 ⊢
  have HC := hid (le4_V (sumP bs))
  obtain ⟨q0, q1, q2, q3, HQ⟩ : ∃ q0 q1 q2 q3, Hid (bytesV (le4 (sumP bs)) = [.int .u8 q0, .int .u8 q1, .int .u8 q2, .int .u8 q3]) := ⟨_, _, _, _, HC.out⟩
  rw [HQ.out] at HN
  have c0 : w5.cell? ⟨w3.heap.size, 0, none⟩ = some (.int .u8 q0) := by rw [cell_of_row _ _ _ _ _ _ HN.out]; rfl
  have c1 : w5.cell? ⟨w3.heap.size, 1, none⟩ = some (.int .u8 q1) := by rw [cell_of_row _ _ _ _ _ _ HN.out]; rfl
  have c2 : w5.cell? ⟨w3.heap.size, 2, none⟩ = some (.int .u8 q2) := by rw [cell_of_row _ _ _ _ _ _ HN.out]; rfl
  have c3 : w5.cell? ⟨w3.heap.size, 3, none⟩ = some (.int .u8 q3) := by rw [cell_of_row _ _ _ _ _ _ HN.out]; rfl
  have HS := hid (src_four w5 (sumP bs))
  rw [HQ.out] at HS
  have HSZ := HB5.out.size
  clear HC
  go_wp2_with (at_builtin; refine app_src rfl _ _ rfl w.heap.size _ bs rfl (HO5.out.below (below_walk w5 _)) _ (le4 (sumP bs)) rfl HS.out ?e1 ?e2 ?_)
  case e1 => rw [le4_length]; omega
  case e2 => rw [hp_size]; omega
  intro v6 w6 ho6 hg6
  have HO6 := hid (show OwnB w6 w.heap.size v6 (sealP bs) from ho6)
  have HB6 := hid ((HB5.out.alloc HSZ (.cells #[.int .u8 q0, .int .u8 q1, .int .u8 q2, .int .u8 q3] 5)).grown hg6 (by rw [hp_size]; omega) (fun q hq => (HO5.out.lt q hq).1))
  clear ho6 hg6
  go_wp2
  go_ret
  exact ⟨_, rfl, HO6.out, HB6.out⟩

/-- these bytes are sealed -/
def cokP (p : List UInt8) : Bool := decide (p.drop (p.length - 4) = le4 (sumP (p.take (p.length - 4))))

set_option maxRecDepth 100000 in
set_option maxHeartbeats 1000000 in
theorem open_short (w : World) (v : Value) (bs : List UInt8) (hv : Src w v bs) (h4 : bs.length < 4) :
    Calls Tryz.prog 87 #[v] w fun e w' => e = .returned (.tuple #[.slice none 0 0, .int .i64 4]) ∧ w' = w := by
  obtain ⟨av, cv, rfl⟩ := src_shape hv
  have h4' : (bs.length : Int) < 4 := by omega
  clear hv
  go_enter Tryz.func87, Tryz.ntmps87
  go_wp2
  exact bodyPost_ret (results_tmp2 rfl _ _ _) rfl ⟨rfl, rfl⟩

set_option maxRecDepth 100000 in
set_option maxHeartbeats 1000000 in
theorem ropen_short (w : World) (v : Value) (bs : List UInt8) (hv : Src w v bs) (h4 : bs.length < 4) :
    Calls Tryz.prog 73 #[v] w fun e w' => e = .returned (.tuple #[.slice none 0 0, .int .i64 4]) ∧ w' = w := by
  obtain ⟨av, cv, rfl⟩ := src_shape hv
  have h4' : (bs.length : Int) - 4 < 0 := by omega
  clear hv
  go_enter Tryz.func73, Tryz.ntmps73
  go_wp2
  exact bodyPost_ret (results_tmp2 rfl _ _ _) rfl ⟨rfl, rfl⟩

/-- what Open says of at least four bytes -/
def OpenPost (w : World) (bs : List UInt8) (e : Ending) (w' : World) : Prop :=
  (if cokP bs then ∃ v', e = .returned (.tuple #[v', .int .i64 0]) ∧ OwnB w' w.heap.size v' (bs.take (bs.length - 4)) else e = .returned (.tuple #[.slice none 0 0, .int .i64 71])) ∧ Below w.heap.size w w'
theorem OpenPost.bad {w w' : World} {bs : List UInt8} (h : cokP bs = false) (hb : Below w.heap.size w w') : OpenPost w bs (.returned (.tuple #[.slice none 0 0, .int .i64 71])) w' := by
  unfold OpenPost
  rw [h]
  exact ⟨rfl, hb⟩
theorem OpenPost.good {w w' : World} {bs : List UInt8} {v' : Value} (h : cokP bs = true) (hb : Below w.heap.size w w') (ho : OwnB w' w.heap.size v' (bs.take (bs.length - 4))) : OpenPost w bs (.returned (.tuple #[v', .int .i64 0])) w' := by
  unfold OpenPost
  rw [h]
  exact ⟨⟨v', rfl, ho⟩, hb⟩
theorem okP_at (bs : List UInt8) (n : Nat) (hn : bs.length = n + 4) : cokP bs = decide (bs.drop n = le4 (sumP (bs.take n))) := by
  unfold cokP
  rw [show bs.length - 4 = n by omega]

set_option maxRecDepth 100000 in
set_option maxHeartbeats 1000000 in
theorem open_any (w : World) (v : Value) (bs : List UInt8) (hv : Src w v bs) (h4 : 4 ≤ bs.length) :
    Calls Tryz.prog 87 #[v] w (OpenPost w bs) := by
  obtain ⟨n, HNN⟩ : ∃ n, Hid (n = bs.length - 4) := ⟨_, rfl⟩
  have hn : bs.length = n + 4 := by rw [HNN.out]; omega
  have hl := hv.1
  obtain ⟨vx, hsx, hcx⟩ := cut_begin hv n (by omega)
  obtain ⟨vy, hsy, _, hcy⟩ := cut_end hv n (by omega)
  obtain ⟨av, cv, rfl⟩ := src_shape hv
  obtain ⟨ax, cx, rfl⟩ := src_shape hsx
  have HV := hid hv
  have HX := hid hsx
  have HY := hid hsy
  clear hv hsx hsy
  have hxl : (bs.take n).length = n := by rw [List.length_take]; omega
  rw [hxl] at hcx HX
  rw [hn] at hcx hcy HV
  rw [hn]
  have hln : ((n : Int) + 4) - 4 = (n : Int) := by omega
  have HOK := hid (okP_at bs n hn)
  have HHN := hid hn
  have hnl : n ≤ 140737488355323 := by omega
  clear hn hxl hl h4
  go_enter Tryz.func87, Tryz.ntmps87
  go_wp2_with fail
  refine (sum_one w _ (bs.take n) HX.out).mono ?_
  rintro e w1 ⟨rfl, hb1⟩
  have HB1 := hid hb1
  clear hb1
  go_wp2_with fail
  refine (bytes_any w1 _).mono ?_
  rintro e w2 ⟨rfl, hb2⟩
  have HB2 := hid (HB1.out.trans (hb2.mono HB1.out.size))
  clear hb2 HB1
  rename_i Kx hKx
  refine hKx _ _ ?_
  clear hKx
  obtain ⟨z, s⟩ := zero_of_info (P := Tryz.prog) (t := 116) (v := .agg (bytesV [0, 0, 0, 0]).toArray) (n := 4) (by kernel_rfl)
  refine al_row (by rfl) 116 (by rfl) _ z ?_
  refine st_new (by rfl) 116 (.tmp 5) (.tmp 18) (by rfl) (bytesV (le4 (sumP (bs.take n)))) (by rfl) (by rfl) _ _ (by rw [bytesV_length]; exact s) (by rw [List.size_toArray]; rfl) (bytesV_one _) ?_
  have HN := hid (hp_new w2 (.cells (bytesV (le4 (sumP (bs.take n)))).toArray 116))
  have HB5 := hid (HB2.out.alloc HB2.out.size (.cells (bytesV (le4 (sumP (bs.take n)))).toArray 116))
  clear z s HB2
  generalize w2.alloc (.cells (bytesV (le4 (sumP (bs.take n)))).toArray 116) = w5 at HN HB5 ⊢
  have HS4 := hid (cut_array HN.out (le4_length _))
  have HY5 := hid (HY.out.below HB5.out)
  have HE := hid (fun (k : Nat) => sequal_any (w5.drewN k) vy (.slice (some ⟨w2.heap.size, 0, none⟩) 4 4) _ _ (show Src (w5.drewN k) _ _ from HY5.out) (show Src (w5.drewN k) _ _ from HS4.out))
  cases hok : cokP bs with
  | false =>
    have HO := hid hok
    rw [← HOK.out, hok] at HE
    clear hok HOK
    go_upto_region 5 with fail
    go_quiet (first | (go_at_call 94; exact Calls.quiet_of (HE.out _)))
    go_wp2
    refine bodyPost_ret (results_tmp2 rfl _ _ _) rfl (OpenPost.bad HO.out ?_)
    exact ⟨HB5.out.os, HB5.out.tape, HB5.out.output, HB5.out.size, HB5.out.block⟩
  | true =>
    have HO := hid hok
    rw [← HOK.out, hok] at HE
    clear hok HOK
    go_upto_region 5 with fail
    go_quiet (first | (go_at_call 94; exact Calls.quiet_of (HE.out _)))
    obtain ⟨w6, HW6⟩ : ∃ w6, Hid (w6 = w5.drewN nq) := ⟨_, rfl⟩
    rw [← HW6.out]
    have HB6 := hid (show Below w.heap.size w w6 by rw [HW6.out]; exact ⟨HB5.out.os, HB5.out.tape, HB5.out.output, HB5.out.size, HB5.out.block⟩)
    have HX6 := hid (HX.out.below HB6.out)
    have HV6 := hid (HV.out.below HB6.out)
    clear HW6 HE HY5 HS4 HB5 HN HX HV HY hcx hcy
    go_wp2_with (at_make; refine make_len rfl _ _ rfl _ _ _ _ n n rfl rfl ?c1 ?c2 ?c3 ?c4 ?_)
    case c1 => rfl
    case c2 => rfl
    case c3 => exact Nat.le_refl _
    case c4 => omega
    intro w7 ho7 hb7
    have HO7 := hid ho7
    have HB7 := hid (HB6.out.trans (hb7.mono HB6.out.size))
    have HSZ := hid HB6.out.size
    have HV7 := hid (HV6.out.below hb7)
    clear ho7 hb7
    obtain ⟨cur, hcb, hcl⟩ : ∃ cur : List Value, w7.heap[w6.heap.size]? = some (.cells cur.toArray 5 (0, 0)) ∧ cur.length = n := by
      obtain ⟨_, ⟨h2, _⟩ | ⟨g', cap', cur, hv, hb, hh, h3, h4, h5, h6⟩⟩ := HO7.out
      · simp at h2
      · simp only [Value.slice.injEq, Option.some.injEq, Addr.mk.injEq, and_true] at hv
        obtain ⟨rfl, _, rfl⟩ := hv
        exact ⟨cur.toList, by simpa using hh, by simpa using h5⟩
    have HCB := hid hcb
    have HCL := hid hcl
    clear hcb hcl HO7
    obtain ⟨X1, HX1⟩ : ∃ X1, Hid (X1 = bytesV (bs.take n)) := ⟨_, rfl⟩
    have HXL := hid (show X1.length = n by rw [HX1.out, bytesV_length, List.length_take, HHN.out]; omega)
    have HX1C := hid (show ∀ u ∈ X1, u.oneCell' = true by rw [HX1.out]; exact bytesV_one _)
    have HU := hid (show (Tryz.prog.info? 5).map (·.size) = some 1 by kernel_rfl)
    have HXS := hid (show 0 < X1.length → (some (⟨w6.heap.size, 0, none⟩ : Addr)) = some ⟨w6.heap.size, 0, none⟩ ∧ ∃ ad, av = some ad ∧ ∀ j u, X1[j]? = some u → w7.cell? (ad.add j) = some u by
      intro hp
      refine ⟨rfl, ?_⟩
      rcases HV7.out.2 with ⟨_, h0⟩ | ⟨ad, cap, hv, _, _, _, hc⟩
      · have := HHN.out
        rw [h0] at this
        simp at this
      · injection hv with h1
        refine ⟨ad, h1, fun j u hj => ?_⟩
        rw [HX1.out, bytesV_get] at hj
        refine src_cells hc j u ?_
        rw [bytesV_get]
        by_cases hjn : j < n
        · rwa [List.getElem?_take_of_lt hjn] at hj
        · rw [List.getElem?_eq_none (by rw [List.length_take]; omega)] at hj
          cases hj)
    go_upto_region 8 with fail
    refine wp_region_list ?_
    show wpList _ _ _ (_ :: _) _ _
    refine mv_row (by rfl) (.tmp 6) (by rfl) (.slice (some ⟨w6.heap.size, 0, none⟩) n n) (by rfl) ?_
    refine mv_row (by rfl) (.tmp 0) (by rfl) (.slice av (n + 4) cv) (by rfl) ?_
    refine wpList_copy_splice (by rfl) (.tmp 27) (.tmp 28) 22 22 (by rfl) 5 Tryz.underlying22 HU.out _ _ _ _ _ _ (by rfl) (by rfl) w6.heap.size 0 cur 5 HCB.out X1 (by rw [HXL.out]; exact (Nat.min_eq_right (Nat.le_add_right _ _)).symm) HXS.out (by have := HXL.out; have := HCL.out; omega) HX1C.out w.heap.size w HB7.out HSZ.out ?_
    intro w8 HC8 hb8
    have HB8 := hid hb8
    clear hb8 HXS HX1C HCB HB7
    go_wp2
    refine bodyPost_ret (results_tmp2 rfl _ _ _) rfl (OpenPost.good HO.out HB8.out ?_)
    rw [HHN.out, Nat.add_sub_cancel]
    refine own_splice HC8.out HSZ.out (by rw [List.length_take, HHN.out]; omega) (Nat.le_refl _) (by unfold maxLen; omega) ?_ ?_
    · rw [length_splice _ _ _ (by have := HXL.out; have := HCL.out; omega), HCL.out]
    · rw [← HX1.out]
      have e := HXL.out
      simp [splice, ← e]

set_option maxRecDepth 100000 in
set_option maxHeartbeats 1000000 in
theorem ropen_any (w : World) (v : Value) (bs : List UInt8) (hv : Src w v bs) (h4 : 4 ≤ bs.length) :
    Calls Tryz.prog 73 #[v] w (OpenPost w bs) := by
  obtain ⟨n, HNN⟩ : ∃ n, Hid (n = bs.length - 4) := ⟨_, rfl⟩
  have hn : bs.length = n + 4 := by rw [HNN.out]; omega
  have hl := hv.1
  obtain ⟨vx, hsx, hcx⟩ := cut_begin hv n (by omega)
  obtain ⟨av, cv, rfl⟩ := src_shape hv
  have HV := hid hv
  have HX := hid hsx
  clear hv hsx
  rw [hn] at hcx HV
  rw [hn]
  have hln : ((n : Int) + 4) - 4 = (n : Int) := by omega
  have HOK := hid (okP_at bs n hn)
  have HHN := hid hn
  have hnl : n ≤ 140737488355323 := by omega
  clear hn hl h4
  go_enter Tryz.func73, Tryz.ntmps73
  go_wp2_with fail
  refine (rmore_any w 0 _ (bs.take n) (by omega) HX.out).mono ?_
  rintro e w1 ⟨rfl, rfl⟩
  go_wp2_with fail
  refine (rbytes_any w1 _).mono ?_
  rintro e w2 ⟨rfl, hb2⟩
  have HB2 := hid hb2
  clear hb2
  rw [show moreP 0 (bs.take n) = sumP (bs.take n) from rfl]
  rename_i Kx hKx
  refine hKx _ _ ?_
  clear hKx
  obtain ⟨z, s⟩ := zero_of_info (P := Tryz.prog) (t := 116) (v := .agg (bytesV [0, 0, 0, 0]).toArray) (n := 4) (by kernel_rfl)
  refine al_row (by rfl) 116 (by rfl) _ z ?_
  refine st_new (by rfl) 116 (.tmp 5) (.tmp 16) (by rfl) (bytesV (le4 (sumP (bs.take n)))) (by rfl) (by rfl) _ _ (by rw [bytesV_length]; exact s) (by rw [List.size_toArray]; rfl) (bytesV_one _) ?_
  have HN := hid (hp_new w2 (.cells (bytesV (le4 (sumP (bs.take n)))).toArray 116))
  have HB5 := hid (HB2.out.alloc HB2.out.size (.cells (bytesV (le4 (sumP (bs.take n)))).toArray 116))
  clear z s HB2
  generalize w2.alloc (.cells (bytesV (le4 (sumP (bs.take n)))).toArray 116) = w5 at HN HB5 ⊢
  have HS4 := hid (cut_array HN.out (le4_length _))
  have HV5 := hid (HV.out.below HB5.out)
  have HX5 := hid (HX.out.below HB5.out)
  obtain ⟨L4, HL4⟩ : ∃ L, Hid (L = le4 (sumP (bs.take n))) := ⟨_, rfl⟩
  rw [← HL4.out] at HOK HS4
  have HLL := hid (show L4.length = 4 by rw [HL4.out, le4_length])
  clear HN HX HV
  rw [← HL4.out]
  go_wp2
  go_loopw [6] (fun i wr => ∃ k q : Nat, k ≤ 4 ∧ i = .int .i64 k ∧ wr = w5.drewN q ∧ Hid ((bs.drop n).take k = L4.take k)) (fun i _ => 4 - (intOf i).toNat)
  case atStart => exact ⟨0, 0, by omega, rfl, rfl, rfl⟩
  case round =>
    obtain ⟨k, q, hk, rfl, rfl, HT⟩ := hrel
    by_cases hlt : k < 4
    · obtain ⟨I, HI⟩ : ∃ I, Hid (I = n + k) := ⟨_, rfl⟩
      obtain ⟨ad, rfl, c1⟩ := src_at HV5.out I (by rw [HHN.out, HI.out]; omega)
      obtain ⟨bd, hbd, c2⟩ := src_at HS4.out k (by rw [HLL.out]; omega)
      obtain rfl : (⟨w2.heap.size, 0, none⟩ : Addr) = bd := by injection hbd
      rw [addr_add] at c2
      have hw : IntKind.i64.wrap ((n : Int) + (k : Int)) = (I : Int) := by rw [IntKind.wrap_i64, HI.out]; omega
      have hI1 : (I : Int) < (n : Int) + 4 := by rw [HI.out]; omega
      have hI0 : (0 : Int) ≤ (I : Int) := by omega
      obtain ⟨x, HX1⟩ : ∃ x : UInt8, Hid (x = bs.getD I 0) := ⟨_, rfl⟩
      obtain ⟨y, HY1⟩ : ∃ y : UInt8, Hid (y = L4.getD k 0) := ⟨_, rfl⟩
      rw [← HX1.out] at c1
      rw [← HY1.out] at c2
      have HXD := hid (show (bs.drop n).getD k 0 = x by rw [HX1.out, HI.out]; simp [List.getD_eq_getElem?_getD])
      have HDL := hid (show (bs.drop n).length = L4.length by rw [List.length_drop, HHN.out, HLL.out]; omega)
      by_cases hxy : x = y
      · subst hxy
        have HN := hid (take_eq_succ HDL.out (by rw [HDL.out, HLL.out]; omega) HT.out (by rw [HXD.out, HY1.out]))
        go_wp2
        go_quiet (fail)
        go_wp2
        exact ⟨⟨k + 1, _, by omega, by simp, rfl, HN⟩, by simp [intOf]; omega⟩
      · have hd : ((((x.toNat : Nat) : Int)) != ((y.toNat : Nat) : Int)) = true := by
          simp only [bne_iff_ne, ne_eq]
          intro e
          exact hxy (UInt8.toNat_inj.1 (by omega))
        have HNE := hid (show cokP bs = false by rw [HOK.out]; exact decide_eq_false (fun e => hxy (by rw [← HXD.out, HY1.out, e])))
        clear hxy
        go_wp2
        go_quiet (fail)
        go_wp2
        refine bodyPost_ret (results_tmp2 rfl _ _ _) rfl (OpenPost.bad HNE.out ?_)
        exact ⟨HB5.out.os, HB5.out.tape, HB5.out.output, HB5.out.size, HB5.out.block⟩
    · obtain rfl : k = 4 := by omega
      have HE := hid (show cokP bs = true by
        rw [HOK.out]
        refine decide_eq_true ?_
        have h1 := HT.out
        rwa [List.take_of_length_le (by rw [List.length_drop, HHN.out]; omega), List.take_of_length_le (by rw [HLL.out]; omega)] at h1)
      have HXq := hid (show Src (w5.drewN q) vx (bs.take n) from HX5.out)
      have HBq := hid (show Below w1.heap.size w1 (w5.drewN q) from ⟨HB5.out.os, HB5.out.tape, HB5.out.output, HB5.out.size, HB5.out.block⟩)
      clear HT HOK
      generalize w5.drewN q = w6 at HXq HBq ⊢
      go_wp2_with (at_builtin; refine app_src rfl _ _ rfl w6.heap.size _ [] rfl (OwnB.nil _ _) _ (bs.take n) rfl HXq.out (by simp; omega) (Nat.le_refl _) ?_)
      intro v7 w7 ho7 hg7
      have HO7 := hid ((show OwnB w7 w6.heap.size v7 (bs.take n) from ho7).le HBq.out.size)
      have HB7 := hid (HBq.out.trans ((gb_below hg7).mono HBq.out.size))
      clear ho7 hg7
      go_wp2
      refine bodyPost_ret (results_tmp2 rfl _ _ _) rfl (OpenPost.good HE.out HB7.out ?_)
      rw [HHN.out, Nat.add_sub_cancel]
      exact HO7.out

end Go.Proofs.YtiibhccbbpgehabGreat

/- A region in which no step can panic. -/
namespace Go.Proofs.YtiibhccbbpgehabGreat
open Go.RowKit
variable {P : Program}

/-- what must be shown where no step can panic -/
def noPanic (Q : Exit → Act → World → Prop) : Exit → Act → World → Prop := fun e a w => match e with
  | .panic _ => False
  | e => Q e a w
theorem wp_noPanic {c : Code} {Q : Exit → Act → World → Prop} {a : Act} {w : World} (h : c.wp P (noPanic Q) a w) : c.wp P Q a w :=
  Code.wp_mono (fun e a w h => by
    cases e
    all_goals first | exact h | exact h.elim) h

end Go.Proofs.YtiibhccbbpgehabGreat

/- Toward a Bye, written by the program. -/
namespace Go.Proofs.YtiibhccbbpgehabGreat
open Go.RowKit Go.BigFrame

theorem strs_nil (w : World) : Strs w nS [] := Or.inl ⟨none, 0, rfl, rfl, fun _ => rfl⟩

set_option maxRecDepth 100000 in
set_option maxHeartbeats 1000000 in
theorem ownBye_any (f : Fr) (va : Value) (w : World) (hk : f.kind = 5) (hf : f.tool.length = 32) :
    Calls Tryz.prog 118 #[.agg (fcells f va).toArray] w fun e w' => e = .returned (.agg (fcells byeF nS).toArray) ∧ Below w.heap.size w w' := by
  have HNB := hid (hp_two w (.cells (fcells f va).toArray 65) (.cells (fcells zF nS).toArray 65))
  have HBL := hid (below_walk2 w (.cells (fcells f va).toArray 65) (.cells (fcells zF nS).toArray 65))
  have HZ : Hid ((w.alloc (.cells (fcells f va).toArray 65)).heap.size = w.heap.size + 1) := hid (by simp)
  have HK := hid hk
  have HF := hid hf
  clear hk hf
  go_enter Tryz.func118, Tryz.ntmps118
  go_upto_region 1 with (refine al_row (by rfl) 65 (by rfl) _ zeroFrame ?_)
  try rw [HZ.out]
  generalize (w.alloc (.cells (fcells f va).toArray 65)).alloc (.cells (fcells zF nS).toArray 65) = w2 at HNB HBL ⊢
  have x0 := (Fb.of HNB.out.1 HF.out).k
  rw [HK.out] at x0
  go_wp2_with (first
    | (refine bd_row (by rfl) 65 #[(0, .tmp 4)] (by rfl) _ (by simp [Act.eval]) _ built_bye ?_)
    | (refine st_row (by rfl) 65 _ _ (by rfl) (w.heap.size + 1) (fcells byeF nS) (by rfl) (by rfl) 65 _ HNB.out.2 (frame_size byeF nS rfl) rfl (fcells_one byeF nS rfl) ?_; intro w3 hw3))
  refine ret_row 2 65 rfl (w.heap.size + 1) rfl (fcells byeF nS) 65 hw3.blk _ Tryz.underlying65 rfl (frame_size byeF nS rfl) rfl ⟨rfl, Below.of_gb HBL.out hw3.grown (by omega)⟩

set_option maxHeartbeats 1000000 in
theorem mayAlways_any (v : Array Value) (w : World) :
    Calls Tryz.prog 115 #[.agg v] w fun e w' => e = .returned (.bool true) ∧ Below w.heap.size w w' := by
  go_enter Tryz.func115, Tryz.ntmps115
  go_wp2
  go_ret
  exact ⟨rfl, below_walk w _⟩

set_option maxHeartbeats 1000000 in
theorem layBye_any (ao : Option Addr) (n c : Nat) (v : Array Value) (w : World) :
    Calls Tryz.prog 119 #[.slice ao n c, .agg v] w fun e w' => e = .returned (.slice ao n c) ∧ Below w.heap.size w w' := by
  go_enter Tryz.func119, Tryz.ntmps119
  go_wp2
  go_ret
  exact ⟨rfl, below_walk w _⟩

theorem below_tr {w w' w'' : World} {a : Nat} (h : Below a w w') (k : Below a w' w'') : Below a w w'' :=
  ⟨k.os.trans h.os, k.tape.trans h.tape, k.output.trans h.output, Nat.le_trans h.size k.size, fun i hi => (k.block i hi).trans (h.block i hi)⟩
theorem srcNil (w : World) : Src w nS [] := ⟨by simp, Or.inl ⟨rfl, rfl⟩⟩
theorem nums_five (w : World) : Nums (w.alloc (.cells #[.int .i64 5] 3)) (.slice (some ⟨w.heap.size, 0, none⟩) 1 1) [5] := nums_one w 5
theorem nums_bye (w : World) : Nums (w.alloc (.cells #[.int .i64 1, .int .i64 5] 3)) (.slice (some ⟨w.heap.size, 0, none⟩) 2 2) [1, 5] := nums_two w 1 5
theorem size_zero (w : World) : Calls Tryz.prog 42 #[.int .u64 0] w fun e w' => e = .returned (.int .i64 1) ∧ w' = w := size_any 0 w (by decide)
theorem put_five (w : World) : Calls Tryz.prog 125 #[.slice none 0 0, .slice (some ⟨w.heap.size, 0, none⟩) 1 1] (w.alloc (.cells #[.int .i64 5] 3)) fun e w' => ∃ ao c, e = .returned (.slice ao 1 c) ∧ Src w' (.slice ao 1 c) [5] ∧ Below w.heap.size w w' := by
  refine (putCounts_any nS _ [] [5] _ (srcNil _) (nums_five w) (by simp) (by simp) (by simp)).mono ?_
  rintro e w' ⟨v, rfl, hs, hb⟩
  have hs' : Src w' v [5] := hs
  obtain ⟨ao, c, rfl⟩ := src_shape hs'
  exact ⟨ao, c, rfl, hs', below_then (below_walk w _) hb⟩
theorem put_bye (w : World) : Calls Tryz.prog 125 #[.slice none 0 0, .slice (some ⟨w.heap.size, 0, none⟩) 2 2] (w.alloc (.cells #[.int .i64 1, .int .i64 5] 3)) fun e w' => ∃ ao c, e = .returned (.slice ao 2 c) ∧ Src w' (.slice ao 2 c) [1, 5] ∧ Below w.heap.size w w' := by
  refine (putCounts_any nS _ [] [1, 5] _ (srcNil _) (nums_bye w) (by simp) (by simp) (by simp)).mono ?_
  rintro e w' ⟨v, rfl, hs, hb⟩
  have hs' : Src w' v [1, 5] := hs
  obtain ⟨ao, c, rfl⟩ := src_shape hs'
  exact ⟨ao, c, rfl, hs', below_then (below_walk w _) hb⟩

end Go.Proofs.YtiibhccbbpgehabGreat

/- A hello's fields as bytes. -/
namespace Go.Proofs.YtiibhccbbpgehabGreat
open Go.RowKit Go.BigFrame

theorem src_tool {w : World} {b : Nat} {f : Fr} {va : Value} (h : Fb w b f va) (hl : f.tool.length = 32) (hb : b < w.heap.size) : Src w (.slice (some ⟨b, 4, none⟩) 32 32) f.tool := by
  refine ⟨by omega, Or.inr ⟨⟨b, 4, none⟩, 32, by rw [hl], by omega, by unfold maxLen; omega, fun _ => hb, fun j hj => ?_⟩⟩
  rw [Addr.add_mid]
  refine h.t j _ ?_
  rw [bytesV_get, List.getElem?_eq_getElem hj]
  simp [List.getD_eq_getElem?_getD, List.getElem?_eq_getElem hj]
theorem step_app2 {ops : Array Oper} {o : Oper} {act : Act} {w : World} {K : Act → World → Prop} {Q : Exit → Act → World → Prop} {E : Prop} (hgd : o.guard = none) (s x : Operand)
    (ho : o.op = .call { callee := .builtin .append, args := #[s, x], argTypes := #[22, 22] })
    (base : Nat) (v : Value) (bs : List UInt8) (hs : act.eval s = v) (hown : OwnB w base v bs) (vx : Value) (cs : List UInt8) (hx : act.eval x = vx) (hsrc : Src w vx cs)
    (hlen : bs.length + cs.length ≤ 140737488355327) (hbase : base ≤ w.heap.size)
    (h : ∀ v' w', OwnB w' base v' (bs ++ cs) → w.grownBy w' v.ownBlock → K (act.put o.dst v') w') :
    if Region.wanted o (yielded ops act.tmps) = true then Oper.wp Tryz.prog o act w K Q else E := by
  have hw : Region.wanted o (yielded ops act.tmps) = true := by simp [Region.wanted, hgd]
  rw [if_pos hw]
  obtain ⟨i0, hi, hz0, hz1, hz2⟩ := info_parts Tryz.infoU8
  obtain ⟨_, ⟨rfl, rfl⟩ | ⟨ad, cap, rfl, h1, h2, hlt, hc⟩⟩ := hsrc
  · have hrun := run_append_owned_none (P := Tryz.prog) (w := w) base 22 o.type 5 i0 1 Tryz.underlying22 hi v bs.length (bytesV bs) hown
    unfold Oper.wp
    simp [execOp, ho, resolve, invoke, builtin, hs, hx, hrun, Result.andThen]
    exact h v w (by simpa using hown) (gb_refl _ _)
  · obtain ⟨v', w', hrun, r1, r2, _⟩ := run_append_own (P := Tryz.prog) w base 22 o.type 5 i0 (.int .u8 0) 1 1 Tryz.underlying22 hi hz0 hz1 hz2 rfl (by decide) v bs.length (bytesV bs) hown ad cs.length cap (bytesV cs) (by simp [bytesV]) (src_cells hc) (bytesV_one cs) (by unfold maxLen; omega) (by omega) hbase
    unfold Oper.wp
    simp [execOp, ho, resolve, invoke, builtin, hs, hx, hrun, Result.andThen]
    exact h v' w' (by unfold OwnB; rw [bytesV_append, List.length_append]; exact r1) r2

set_option maxRecDepth 100000 in
set_option maxHeartbeats 4000000 in
theorem layHello_any (vb : Value) (bs : List UInt8) (f : Fr) (va : Value) (V S : Nat) (w : World) (hb : Src w vb bs) (hbl : bs.length ≤ 1000) (hf : f.tool.length = 32) (h1 : f.ver = (V : Int)) (h2 : f.slots = (S : Int)) (k1 : V ≤ 9223372036854775807) (k2 : S ≤ 9223372036854775807) :
    Calls Tryz.prog 104 #[vb, .agg (fcells f va).toArray] w fun e w' => ∃ v, e = .returned v ∧ Src w' v (bs ++ (sns [V, S] ++ f.tool)) ∧ Below w.heap.size w w' := by
  obtain ⟨ab, nb, cb, rfl⟩ := src_named hb
  have HNB := hid (hp_new w (.cells (fcells f va).toArray 65))
  have HBL := hid (below_walk w (.cells (fcells f va).toArray 65))
  have HS := hid (hb.below HBL.out)
  have HF := hid hf
  have H1 := hid h1
  have H2 := hid h2
  clear hb hf h1 h2
  go_enter Tryz.func104, Tryz.ntmps104
  go_upto_region 1 with fail
  generalize w.alloc (.cells (fcells f va).toArray 65) = w1 at HNB HBL HS ⊢
  have HL := hid (hp_lt HNB.out)
  have HFB := hid (Fb.of HNB.out HF.out)
  have HX2 := hid HFB.out.v
  have HX3 := hid HFB.out.s
  rw [H1.out] at HX2
  rw [H2.out] at HX3
  refine wp_noPanic (wp_region_held_drew (S := fun W => Below w1.heap.size w1 W) (by kernel_rfl) ⟨rfl, rfl, rfl, Nat.le_refl _, fun _ _ => rfl⟩ ?_)
  intro hHeld
  refine wpAnyH_take (i := 0) (v := .slice ab nb cb) rfl (by kernel_rfl) (by kernel_rfl) (by kernel_rfl) (fun _ _ _ h => h) (Or.inl ⟨by rfl, fun W _ => by go_simp⟩) hHeld ?_
  simp only [Act.put, List.getElem_toArray, List.getElem_cons_zero, List.setIfInBounds_toArray, List.set_cons_succ, List.set_cons_zero]
  refine wpAnyH_take (i := 1) (v := .pointer (some ⟨w.heap.size, 2, none⟩)) rfl (by kernel_rfl) (by kernel_rfl) (by kernel_rfl) (fun _ _ _ h => h) (Or.inl ⟨by rfl, fun W _ => by go_simp⟩) hHeld ?_
  simp only [Act.put, List.getElem_toArray, List.getElem_cons_zero, List.getElem_cons_succ, List.setIfInBounds_toArray, List.set_cons_succ, List.set_cons_zero]
  refine wpAnyH_take (i := 2) (v := .int .i64 (V : Nat)) rfl (by kernel_rfl) (by kernel_rfl) (by kernel_rfl) (fun _ _ _ h => h) (Or.inl ⟨by rfl, fun W hW => by have hcell := (hW.cell (p := ⟨w.heap.size, 2, none⟩) HL.out).trans HX2.out; clear hW; go_simp⟩) hHeld ?_
  simp only [Act.put, List.getElem_toArray, List.getElem_cons_zero, List.getElem_cons_succ, List.setIfInBounds_toArray, List.set_cons_succ, List.set_cons_zero]
  refine wpAnyH_take (i := 3) (v := .pointer (some ⟨w.heap.size, 3, none⟩)) rfl (by kernel_rfl) (by kernel_rfl) (by kernel_rfl) (fun _ _ _ h => h) (Or.inl ⟨by rfl, fun W _ => by go_simp⟩) hHeld ?_
  simp only [Act.put, List.getElem_toArray, List.getElem_cons_zero, List.getElem_cons_succ, List.setIfInBounds_toArray, List.set_cons_succ, List.set_cons_zero]
  refine wpAnyH_take (i := 4) (v := .int .i64 (S : Nat)) rfl (by kernel_rfl) (by kernel_rfl) (by kernel_rfl) (fun _ _ _ h => h) (Or.inl ⟨by rfl, fun W hW => by have hcell := (hW.cell (p := ⟨w.heap.size, 3, none⟩) HL.out).trans HX3.out; clear hW; go_simp⟩) hHeld ?_
  simp only [Act.put, List.getElem_toArray, List.getElem_cons_zero, List.getElem_cons_succ, List.setIfInBounds_toArray, List.set_cons_succ, List.set_cons_zero]
  refine wpAnyH_take (i := 7) (v := .pointer (some ⟨w.heap.size, 4, none⟩)) rfl (by kernel_rfl) (by kernel_rfl) (by kernel_rfl) (fun _ _ _ h => h) (Or.inl ⟨by rfl, fun W _ => by go_simp⟩) hHeld ?_
  simp only [Act.put, List.getElem_toArray, List.getElem_cons_zero, List.getElem_cons_succ, List.setIfInBounds_toArray, List.set_cons_succ, List.set_cons_zero]
  refine wpAnyH_take (i := 8) (v := .slice (some ⟨w.heap.size, 4, none⟩) 32 32) rfl (by kernel_rfl) (by kernel_rfl) (by kernel_rfl) (fun _ _ _ h => h) (Or.inl ⟨by rfl, fun W _ => by go_simp⟩) hHeld ?_
  simp only [Act.put, List.getElem_toArray, List.getElem_cons_zero, List.getElem_cons_succ, List.setIfInBounds_toArray, List.set_cons_succ, List.set_cons_zero]
  obtain ⟨wx, HWX⟩ : ∃ x, Hid (w1.drew = x) := ⟨_, rfl⟩
  rw [HWX.out] at hHeld ⊢
  have hH0 := hHeld
  refine wpAnyH_ready (rs := [5]) (by kernel_rfl) (by simp) ?_
  refine AllReadyH.cons rfl (fun K hK => ?_) AllReadyH.nil
  go_simp
  have hq := below_tr hH0 ((below_walk wx (.cells #[.int .i64 (V : Nat), .int .i64 (S : Nat)] 3)).mono hH0.size)
  refine hK.out _ _ hq (fun hHeld => ?_)
  clear hK K
  try simp only [Act.put, List.getElem_toArray, List.getElem_cons_zero, List.getElem_cons_succ, List.setIfInBounds_toArray, List.set_cons_succ, List.set_cons_zero]
  refine wpAnyH_ready (rs := [6]) (by kernel_rfl) (by simp) ?_
  refine AllReadyH.cons rfl (fun K hK => ?_) AllReadyH.nil
  go_simp
  refine (putCounts_own (.slice ab nb cb) _ bs [V, S] _ (HS.out.below hq) (nums_two wx V S) (by simp; omega) (by simp) (by simp) (by omega)).mono ?_
  rintro e w2 ⟨v2, rfl, ho2, hb2⟩
  have hq2 := below_tr hq (hb2.mono hq.size)
  have HO2 := hid ho2
  have HZ2 := hid hb2.size
  obtain ⟨a2, n2, c2, e2⟩ := src_named (ho2.src (by rw [List.length_append]; have := sns_length [V, S]; simp only [List.length_cons, List.length_nil] at this; omega))
  subst e2
  have HT2 := hid (show Src w2 (.slice (some ⟨w.heap.size, 4, none⟩) 32 32) f.tool from src_tool (HFB.out.below HL.out hq2) HF.out (Nat.lt_of_lt_of_le HL.out hq2.size))
  clear ho2 hb2
  go_wp2_with fail
  refine hK.out _ _ hq2 (fun hHeld => ?_)
  clear hK K
  try simp only [Act.put, List.getElem_toArray, List.getElem_cons_zero, List.getElem_cons_succ, List.setIfInBounds_toArray, List.set_cons_succ, List.set_cons_zero]
  refine wpAnyH_ready (rs := [9]) (by kernel_rfl) (by simp) ?_
  refine AllReadyH.cons rfl (fun K hK => ?_) AllReadyH.nil
  refine step_app2 (by rfl) (.tmp 11) (.tmp 13) (by rfl) (wx.alloc (.cells #[.int .i64 (V : Nat), .int .i64 (S : Nat)] 3)).heap.size _ (bs ++ sns [V, S]) (by rfl) HO2.out _ f.tool (by rfl) HT2.out (by rw [List.length_append, HF.out]; have := sns_length [V, S]; simp only [List.length_cons, List.length_nil] at this; omega) HZ2.out ?_
  intro v3 w3 ho3 hg3
  have hs3 := ho3.src (by rw [List.length_append, List.length_append, HF.out]; have := sns_length [V, S]; simp only [List.length_cons, List.length_nil] at this; omega)
  have HS3 := hid (show Src w3 v3 (bs ++ (sns [V, S] ++ f.tool)) by rw [← List.append_assoc]; exact hs3)
  have hq3 : Below w1.heap.size w1 w3 := below_tr hq2 ⟨hg3.os, hg3.tape, hg3.output, hg3.size, fun k hk => hg3.block k (by have := hq2.size; omega) (fun e => by have := (HO2.out.lt k e.symm).1; have := hq.size; omega)⟩
  obtain ⟨a3, n3, c3, e3⟩ := src_named hs3
  subst e3
  clear ho3 hg3 hs3 HO2 HT2
  refine hK.out _ _ hq3 (fun hHeld => ?_)
  clear hK K
  try simp only [Act.put, List.getElem_toArray, List.getElem_cons_zero, List.getElem_cons_succ, List.setIfInBounds_toArray, List.set_cons_succ, List.set_cons_zero]
  refine wpAnyH_take (i := 10) (v := .slice a3 n3 c3) rfl (by kernel_rfl) (by kernel_rfl) (by kernel_rfl) (fun _ _ _ h => h) (Or.inl ⟨by rfl, fun W _ => by go_simp⟩) hHeld ?_
  simp only [Act.put, List.getElem_toArray, List.getElem_cons_zero, List.getElem_cons_succ, List.setIfInBounds_toArray, List.set_cons_succ, List.set_cons_zero]
  have HB3 := hid (below_then HBL.out hq3)
  refine wpAnyH_done (by kernel_rfl) ?_ _
  simp only [noPanic]
  clear hHeld
  go_wp2
  go_ret
  exact ⟨_, rfl, HS3.out, HB3.out⟩

end Go.Proofs.YtiibhccbbpgehabGreat

/- A response's fields as bytes. -/
namespace Go.Proofs.YtiibhccbbpgehabGreat
open Go.RowKit Go.BigFrame

set_option maxRecDepth 100000 in
set_option maxHeartbeats 8000000 in
theorem layResponse_any (vb : Value) (bs : List UInt8) (f : Fr) (va : Value) (I S : Nat) (w : World) (hb : Src w vb bs) (hbl : bs.length ≤ 1000) (hf : f.tool.length = 32) (hi : f.id = (I : Int)) (hI : I < 18446744073709551616) (hst : f.status = (S : Int)) (k1 : S ≤ 9223372036854775807) (hB : f.body.length ≤ 2097152) :
    Calls Tryz.prog 112 #[vb, .agg (fcells f va).toArray] w fun e w' => ∃ v, e = .returned v ∧ Src w' v (bs ++ (sn I ++ (sns [S] ++ tx (mk f.body)))) ∧ Below w.heap.size w w' := by
  obtain ⟨ab, nb, cb, rfl⟩ := src_named hb
  have HNB := hid (hp_new w (.cells (fcells f va).toArray 65))
  have HBL := hid (below_walk w (.cells (fcells f va).toArray 65))
  have HS := hid (hb.below HBL.out)
  have HF := hid hf
  have H1 := hid hi
  have H2 := hid hst
  have HTX := hid (tx_len2 (mk f.body))
  rw [mk_size] at HTX
  have h10 := sn_length_le I
  have h20 := sns_length [S]
  simp only [List.length_cons, List.length_nil] at h20
  clear hb hf hi hst
  go_enter Tryz.func112, Tryz.ntmps112
  go_upto_region 1 with fail
  generalize w.alloc (.cells (fcells f va).toArray 65) = w1 at HNB HBL HS ⊢
  have HL := hid (hp_lt HNB.out)
  have HFB := hid (Fb.of HNB.out HF.out)
  have HX1 := hid HFB.out.i
  have HX5 := hid HFB.out.st
  have HX8 := hid HFB.out.bd
  rw [H1.out] at HX1
  rw [H2.out] at HX5
  obtain ⟨s, HSS⟩ : ∃ s, Hid (mk f.body = s) := ⟨_, rfl⟩
  rw [HSS.out] at HX8 HTX
  refine wp_noPanic (wp_region_held_drew (S := fun W => Below w1.heap.size w1 W) (by kernel_rfl) ⟨rfl, rfl, rfl, Nat.le_refl _, fun _ _ => rfl⟩ ?_)
  intro hHeld
  refine wpAnyH_take (i := 0) (v := .slice ab nb cb) rfl (by kernel_rfl) (by kernel_rfl) (by kernel_rfl) (fun _ _ _ h => h) (Or.inl ⟨by rfl, fun W _ => by go_simp⟩) hHeld ?_
  simp only [Act.put, List.getElem_toArray, List.getElem_cons_zero, List.setIfInBounds_toArray, List.set_cons_succ, List.set_cons_zero]
  refine wpAnyH_take (i := 1) (v := .pointer (some ⟨w.heap.size, 1, none⟩)) rfl (by kernel_rfl) (by kernel_rfl) (by kernel_rfl) (fun _ _ _ h => h) (Or.inl ⟨by rfl, fun W _ => by go_simp⟩) hHeld ?_
  simp only [Act.put, List.getElem_toArray, List.getElem_cons_zero, List.getElem_cons_succ, List.setIfInBounds_toArray, List.set_cons_succ, List.set_cons_zero]
  refine wpAnyH_take (i := 2) (v := .int .u64 (I : Nat)) rfl (by kernel_rfl) (by kernel_rfl) (by kernel_rfl) (fun _ _ _ h => h) (Or.inl ⟨by rfl, fun W hW => by have hcell := (hW.cell (p := ⟨w.heap.size, 1, none⟩) HL.out).trans HX1.out; clear hW; go_simp⟩) hHeld ?_
  simp only [Act.put, List.getElem_toArray, List.getElem_cons_zero, List.getElem_cons_succ, List.setIfInBounds_toArray, List.set_cons_succ, List.set_cons_zero]
  refine wpAnyH_take (i := 4) (v := .pointer (some ⟨w.heap.size, 36, none⟩)) rfl (by kernel_rfl) (by kernel_rfl) (by kernel_rfl) (fun _ _ _ h => h) (Or.inl ⟨by rfl, fun W _ => by go_simp⟩) hHeld ?_
  simp only [Act.put, List.getElem_toArray, List.getElem_cons_zero, List.getElem_cons_succ, List.setIfInBounds_toArray, List.set_cons_succ, List.set_cons_zero]
  refine wpAnyH_take (i := 5) (v := .int .i64 (S : Nat)) rfl (by kernel_rfl) (by kernel_rfl) (by kernel_rfl) (fun _ _ _ h => h) (Or.inl ⟨by rfl, fun W hW => by have hcell := (hW.cell (p := ⟨w.heap.size, 36, none⟩) HL.out).trans HX5.out; clear hW; go_simp⟩) hHeld ?_
  simp only [Act.put, List.getElem_toArray, List.getElem_cons_zero, List.getElem_cons_succ, List.setIfInBounds_toArray, List.set_cons_succ, List.set_cons_zero]
  refine wpAnyH_take (i := 8) (v := .pointer (some ⟨w.heap.size, 41, none⟩)) rfl (by kernel_rfl) (by kernel_rfl) (by kernel_rfl) (fun _ _ _ h => h) (Or.inl ⟨by rfl, fun W _ => by go_simp⟩) hHeld ?_
  simp only [Act.put, List.getElem_toArray, List.getElem_cons_zero, List.getElem_cons_succ, List.setIfInBounds_toArray, List.set_cons_succ, List.set_cons_zero]
  refine wpAnyH_take (i := 9) (v := .string s) rfl (by kernel_rfl) (by kernel_rfl) (by kernel_rfl) (fun _ _ _ h => h) (Or.inl ⟨by rfl, fun W hW => by have hcell := (hW.cell (p := ⟨w.heap.size, 41, none⟩) HL.out).trans HX8.out; clear hW; go_simp⟩) hHeld ?_
  simp only [Act.put, List.getElem_toArray, List.getElem_cons_zero, List.getElem_cons_succ, List.setIfInBounds_toArray, List.set_cons_succ, List.set_cons_zero]
  obtain ⟨wx, HWX⟩ : ∃ x, Hid (w1.drew = x) := ⟨_, rfl⟩
  rw [HWX.out] at hHeld ⊢
  have hH0 := hHeld
  have hS0 := HS.out.below hH0
  refine wpAnyH_ready (rs := [3, 6, 10]) (by kernel_rfl) (by simp) ?_
  refine AllReadyH.cons rfl (fun K hK => ?_) (AllReadyH.cons rfl (fun K hK => ?_) (AllReadyH.cons rfl (fun K hK => ?_) AllReadyH.nil))
  · go_simp
    refine (putUint_any _ bs I wx hS0 hI (by omega)).mono ?_
    rintro e wk1 ⟨v3, rfl, ho1, hb1⟩
    have hq1 := below_tr hH0 (hb1.mono hH0.size)
    have sx1 := hS0.below hb1
    have v3x1 := ho1.src (by rw [List.length_append]; omega)
    obtain ⟨a3, n3, c3, e3⟩ := src_named v3x1
    subst e3
    clear ho1 hb1
    go_wp2_with fail
    refine hK.out _ _ hq1 (fun hHeld => ?_)
    clear hK K
    try simp only [Act.put, List.getElem_toArray, List.getElem_cons_zero, List.getElem_cons_succ, List.setIfInBounds_toArray, List.set_cons_succ, List.set_cons_zero]
    refine wpAnyH_ready (rs := [6, 10]) (by kernel_rfl) (by simp) ?_
    refine AllReadyH.cons rfl (fun K hK => ?_) (AllReadyH.cons rfl (fun K hK => ?_) AllReadyH.nil)
    · go_simp
      have hb2 := below_walk wk1 (.cells #[.int .i64 (S : Nat)] 3)
      have hq2 := below_tr hq1 (hb2.mono hq1.size)
      have sx2 := sx1.below hb2
      have v3x2 := v3x1.below hb2
      have n6x2 := nums_one wk1 S
      refine hK.out _ _ hq2 (fun hHeld => ?_)
      clear hK K
      try simp only [Act.put, List.getElem_toArray, List.getElem_cons_zero, List.getElem_cons_succ, List.setIfInBounds_toArray, List.set_cons_succ, List.set_cons_zero]
      obtain ⟨wn2, hwn2⟩ : ∃ x, (wk1.alloc (.cells #[.int .i64 (S : Nat)] 3)) = x := ⟨_, rfl⟩
      rw [hwn2] at hq2 hHeld sx2 v3x2 n6x2 ⊢
      clear hb2
      refine wpAnyH_ready (rs := [7, 10]) (by kernel_rfl) (by simp) ?_
      refine AllReadyH.cons rfl (fun K hK => ?_) (AllReadyH.cons rfl (fun K hK => ?_) AllReadyH.nil)
      · go_simp
        refine (putCounts_any _ _ (bs ++ sn I) [S] wn2 v3x2 n6x2 (by simp; omega) (by simp) (by rw [List.length_append]; omega)).mono ?_
        rintro e wk3 ⟨v7, rfl, ho3, hb3⟩
        have hq3 := below_tr hq2 (hb3.mono hq2.size)
        have sx3 := sx2.below hb3
        have v3x3 := v3x2.below hb3
        have n6x3 := n6x2.below hb3
        have v7x3 := ho3
        obtain ⟨a7, n7, c7, e7⟩ := src_named v7x3
        subst e7
        clear ho3 hb3
        go_wp2_with fail
        refine hK.out _ _ hq3 (fun hHeld => ?_)
        clear hK K
        try simp only [Act.put, List.getElem_toArray, List.getElem_cons_zero, List.getElem_cons_succ, List.setIfInBounds_toArray, List.set_cons_succ, List.set_cons_zero]
        refine wpAnyH_ready (rs := [10]) (by kernel_rfl) (by simp) ?_
        refine AllReadyH.cons rfl (fun K hK => ?_) AllReadyH.nil
        go_simp
        have hb4 := below_walk wk3 (.cells #[.string s] 9)
        have hq4 := below_tr hq3 (hb4.mono hq3.size)
        have sx4 := sx3.below hb4
        have v3x4 := v3x3.below hb4
        have n6x4 := n6x3.below hb4
        have v7x4 := v7x3.below hb4
        have t10x4 := wstrs_one wk3 s
        refine hK.out _ _ hq4 (fun hHeld => ?_)
        clear hK K
        try simp only [Act.put, List.getElem_toArray, List.getElem_cons_zero, List.getElem_cons_succ, List.setIfInBounds_toArray, List.set_cons_succ, List.set_cons_zero]
        obtain ⟨wn4, hwn4⟩ : ∃ x, (wk3.alloc (.cells #[.string s] 9)) = x := ⟨_, rfl⟩
        rw [hwn4] at hq4 hHeld sx4 v3x4 n6x4 v7x4 t10x4 ⊢
        clear hb4
        refine wpAnyH_ready (rs := [11]) (by kernel_rfl) (by simp) ?_
        refine AllReadyH.cons rfl (fun K hK => ?_) AllReadyH.nil
        go_simp
        refine (putText_any _ (bs ++ sn I ++ sns [S]) _ [s] wn4 v7x4 t10x4 (by rw [List.length_append, List.length_append]; omega) (by rw [txs_one]; have := HTX.out; omega)).mono ?_
        rw [txs_one]
        rintro e wk5 ⟨v11, rfl, ho5, hb5⟩
        have hq5 := below_tr hq4 (hb5.mono hq4.size)
        have sx5 := sx4.below hb5
        have v3x5 := v3x4.below hb5
        have n6x5 := n6x4.below hb5
        have v7x5 := v7x4.below hb5
        have t10x5 := t10x4.below hb5
        have v11x5 := ho5.src (by rw [List.length_append, List.length_append, List.length_append]; have := HTX.out; omega)
        have HS9 := hid (show Src wk5 v11 (bs ++ (sn I ++ (sns [S] ++ tx s))) by simpa only [List.append_assoc] using v11x5)
        obtain ⟨a11, n11, c11, e11⟩ := src_named v11x5
        subst e11
        clear ho5 hb5
        go_wp2_with fail
        refine hK.out _ _ hq5 (fun hHeld => ?_)
        clear hK K
        try simp only [Act.put, List.getElem_toArray, List.getElem_cons_zero, List.getElem_cons_succ, List.setIfInBounds_toArray, List.set_cons_succ, List.set_cons_zero]
        refine wpAnyH_take (i := 12) (v := .slice a11 n11 c11) rfl (by kernel_rfl) (by kernel_rfl) (by kernel_rfl) (fun _ _ _ h => h) (Or.inl ⟨by rfl, fun W _ => by go_simp⟩) hHeld ?_
        simp only [Act.put, List.getElem_toArray, List.getElem_cons_zero, List.getElem_cons_succ, List.setIfInBounds_toArray, List.set_cons_succ, List.set_cons_zero]
        have HB9 := hid (below_then HBL.out hq5)
        refine wpAnyH_done (by kernel_rfl) ?_ _
        simp only [noPanic]
        clear hHeld
        go_wp2
        go_ret
        exact ⟨_, rfl, by rw [HSS.out]; exact HS9.out, HB9.out⟩
      · go_simp
        have hb6 := below_walk wn2 (.cells #[.string s] 9)
        have hq6 := below_tr hq2 (hb6.mono hq2.size)
        have sx6 := sx2.below hb6
        have v3x6 := v3x2.below hb6
        have n6x6 := n6x2.below hb6
        have t10x6 := wstrs_one wn2 s
        refine hK.out _ _ hq6 (fun hHeld => ?_)
        clear hK K
        try simp only [Act.put, List.getElem_toArray, List.getElem_cons_zero, List.getElem_cons_succ, List.setIfInBounds_toArray, List.set_cons_succ, List.set_cons_zero]
        obtain ⟨wn6, hwn6⟩ : ∃ x, (wn2.alloc (.cells #[.string s] 9)) = x := ⟨_, rfl⟩
        rw [hwn6] at hq6 hHeld sx6 v3x6 n6x6 t10x6 ⊢
        clear hb6
        refine wpAnyH_ready (rs := [7]) (by kernel_rfl) (by simp) ?_
        refine AllReadyH.cons rfl (fun K hK => ?_) AllReadyH.nil
        go_simp
        refine (putCounts_any _ _ (bs ++ sn I) [S] wn6 v3x6 n6x6 (by simp; omega) (by simp) (by rw [List.length_append]; omega)).mono ?_
        rintro e wk7 ⟨v7, rfl, ho7, hb7⟩
        have hq7 := below_tr hq6 (hb7.mono hq6.size)
        have sx7 := sx6.below hb7
        have v3x7 := v3x6.below hb7
        have n6x7 := n6x6.below hb7
        have t10x7 := t10x6.below hb7
        have v7x7 := ho7
        obtain ⟨a7, n7, c7, e7⟩ := src_named v7x7
        subst e7
        clear ho7 hb7
        go_wp2_with fail
        refine hK.out _ _ hq7 (fun hHeld => ?_)
        clear hK K
        try simp only [Act.put, List.getElem_toArray, List.getElem_cons_zero, List.getElem_cons_succ, List.setIfInBounds_toArray, List.set_cons_succ, List.set_cons_zero]
        refine wpAnyH_ready (rs := [11]) (by kernel_rfl) (by simp) ?_
        refine AllReadyH.cons rfl (fun K hK => ?_) AllReadyH.nil
        go_simp
        refine (putText_any _ (bs ++ sn I ++ sns [S]) _ [s] wk7 v7x7 t10x7 (by rw [List.length_append, List.length_append]; omega) (by rw [txs_one]; have := HTX.out; omega)).mono ?_
        rw [txs_one]
        rintro e wk8 ⟨v11, rfl, ho8, hb8⟩
        have hq8 := below_tr hq7 (hb8.mono hq7.size)
        have sx8 := sx7.below hb8
        have v3x8 := v3x7.below hb8
        have n6x8 := n6x7.below hb8
        have t10x8 := t10x7.below hb8
        have v7x8 := v7x7.below hb8
        have v11x8 := ho8.src (by rw [List.length_append, List.length_append, List.length_append]; have := HTX.out; omega)
        have HS9 := hid (show Src wk8 v11 (bs ++ (sn I ++ (sns [S] ++ tx s))) by simpa only [List.append_assoc] using v11x8)
        obtain ⟨a11, n11, c11, e11⟩ := src_named v11x8
        subst e11
        clear ho8 hb8
        go_wp2_with fail
        refine hK.out _ _ hq8 (fun hHeld => ?_)
        clear hK K
        try simp only [Act.put, List.getElem_toArray, List.getElem_cons_zero, List.getElem_cons_succ, List.setIfInBounds_toArray, List.set_cons_succ, List.set_cons_zero]
        refine wpAnyH_take (i := 12) (v := .slice a11 n11 c11) rfl (by kernel_rfl) (by kernel_rfl) (by kernel_rfl) (fun _ _ _ h => h) (Or.inl ⟨by rfl, fun W _ => by go_simp⟩) hHeld ?_
        simp only [Act.put, List.getElem_toArray, List.getElem_cons_zero, List.getElem_cons_succ, List.setIfInBounds_toArray, List.set_cons_succ, List.set_cons_zero]
        have HB9 := hid (below_then HBL.out hq8)
        refine wpAnyH_done (by kernel_rfl) ?_ _
        simp only [noPanic]
        clear hHeld
        go_wp2
        go_ret
        exact ⟨_, rfl, by rw [HSS.out]; exact HS9.out, HB9.out⟩
    · go_simp
      have hb9 := below_walk wk1 (.cells #[.string s] 9)
      have hq9 := below_tr hq1 (hb9.mono hq1.size)
      have sx9 := sx1.below hb9
      have v3x9 := v3x1.below hb9
      have t10x9 := wstrs_one wk1 s
      refine hK.out _ _ hq9 (fun hHeld => ?_)
      clear hK K
      try simp only [Act.put, List.getElem_toArray, List.getElem_cons_zero, List.getElem_cons_succ, List.setIfInBounds_toArray, List.set_cons_succ, List.set_cons_zero]
      obtain ⟨wn9, hwn9⟩ : ∃ x, (wk1.alloc (.cells #[.string s] 9)) = x := ⟨_, rfl⟩
      rw [hwn9] at hq9 hHeld sx9 v3x9 t10x9 ⊢
      clear hb9
      refine wpAnyH_ready (rs := [6]) (by kernel_rfl) (by simp) ?_
      refine AllReadyH.cons rfl (fun K hK => ?_) AllReadyH.nil
      go_simp
      have hb10 := below_walk wn9 (.cells #[.int .i64 (S : Nat)] 3)
      have hq10 := below_tr hq9 (hb10.mono hq9.size)
      have sx10 := sx9.below hb10
      have v3x10 := v3x9.below hb10
      have t10x10 := t10x9.below hb10
      have n6x10 := nums_one wn9 S
      refine hK.out _ _ hq10 (fun hHeld => ?_)
      clear hK K
      try simp only [Act.put, List.getElem_toArray, List.getElem_cons_zero, List.getElem_cons_succ, List.setIfInBounds_toArray, List.set_cons_succ, List.set_cons_zero]
      obtain ⟨wn10, hwn10⟩ : ∃ x, (wn9.alloc (.cells #[.int .i64 (S : Nat)] 3)) = x := ⟨_, rfl⟩
      rw [hwn10] at hq10 hHeld sx10 v3x10 t10x10 n6x10 ⊢
      clear hb10
      refine wpAnyH_ready (rs := [7]) (by kernel_rfl) (by simp) ?_
      refine AllReadyH.cons rfl (fun K hK => ?_) AllReadyH.nil
      go_simp
      refine (putCounts_any _ _ (bs ++ sn I) [S] wn10 v3x10 n6x10 (by simp; omega) (by simp) (by rw [List.length_append]; omega)).mono ?_
      rintro e wk11 ⟨v7, rfl, ho11, hb11⟩
      have hq11 := below_tr hq10 (hb11.mono hq10.size)
      have sx11 := sx10.below hb11
      have v3x11 := v3x10.below hb11
      have t10x11 := t10x10.below hb11
      have n6x11 := n6x10.below hb11
      have v7x11 := ho11
      obtain ⟨a7, n7, c7, e7⟩ := src_named v7x11
      subst e7
      clear ho11 hb11
      go_wp2_with fail
      refine hK.out _ _ hq11 (fun hHeld => ?_)
      clear hK K
      try simp only [Act.put, List.getElem_toArray, List.getElem_cons_zero, List.getElem_cons_succ, List.setIfInBounds_toArray, List.set_cons_succ, List.set_cons_zero]
      refine wpAnyH_ready (rs := [11]) (by kernel_rfl) (by simp) ?_
      refine AllReadyH.cons rfl (fun K hK => ?_) AllReadyH.nil
      go_simp
      refine (putText_any _ (bs ++ sn I ++ sns [S]) _ [s] wk11 v7x11 t10x11 (by rw [List.length_append, List.length_append]; omega) (by rw [txs_one]; have := HTX.out; omega)).mono ?_
      rw [txs_one]
      rintro e wk12 ⟨v11, rfl, ho12, hb12⟩
      have hq12 := below_tr hq11 (hb12.mono hq11.size)
      have sx12 := sx11.below hb12
      have v3x12 := v3x11.below hb12
      have t10x12 := t10x11.below hb12
      have n6x12 := n6x11.below hb12
      have v7x12 := v7x11.below hb12
      have v11x12 := ho12.src (by rw [List.length_append, List.length_append, List.length_append]; have := HTX.out; omega)
      have HS9 := hid (show Src wk12 v11 (bs ++ (sn I ++ (sns [S] ++ tx s))) by simpa only [List.append_assoc] using v11x12)
      obtain ⟨a11, n11, c11, e11⟩ := src_named v11x12
      subst e11
      clear ho12 hb12
      go_wp2_with fail
      refine hK.out _ _ hq12 (fun hHeld => ?_)
      clear hK K
      try simp only [Act.put, List.getElem_toArray, List.getElem_cons_zero, List.getElem_cons_succ, List.setIfInBounds_toArray, List.set_cons_succ, List.set_cons_zero]
      refine wpAnyH_take (i := 12) (v := .slice a11 n11 c11) rfl (by kernel_rfl) (by kernel_rfl) (by kernel_rfl) (fun _ _ _ h => h) (Or.inl ⟨by rfl, fun W _ => by go_simp⟩) hHeld ?_
      simp only [Act.put, List.getElem_toArray, List.getElem_cons_zero, List.getElem_cons_succ, List.setIfInBounds_toArray, List.set_cons_succ, List.set_cons_zero]
      have HB9 := hid (below_then HBL.out hq12)
      refine wpAnyH_done (by kernel_rfl) ?_ _
      simp only [noPanic]
      clear hHeld
      go_wp2
      go_ret
      exact ⟨_, rfl, by rw [HSS.out]; exact HS9.out, HB9.out⟩
  · go_simp
    have hb13 := below_walk wx (.cells #[.int .i64 (S : Nat)] 3)
    have hq13 := below_tr hH0 (hb13.mono hH0.size)
    have sx13 := hS0.below hb13
    have n6x13 := nums_one wx S
    refine hK.out _ _ hq13 (fun hHeld => ?_)
    clear hK K
    try simp only [Act.put, List.getElem_toArray, List.getElem_cons_zero, List.getElem_cons_succ, List.setIfInBounds_toArray, List.set_cons_succ, List.set_cons_zero]
    obtain ⟨wn13, hwn13⟩ : ∃ x, (wx.alloc (.cells #[.int .i64 (S : Nat)] 3)) = x := ⟨_, rfl⟩
    rw [hwn13] at hq13 hHeld sx13 n6x13 ⊢
    clear hb13
    refine wpAnyH_ready (rs := [3, 10]) (by kernel_rfl) (by simp) ?_
    refine AllReadyH.cons rfl (fun K hK => ?_) (AllReadyH.cons rfl (fun K hK => ?_) AllReadyH.nil)
    · go_simp
      refine (putUint_any _ bs I wn13 sx13 hI (by omega)).mono ?_
      rintro e wk14 ⟨v3, rfl, ho14, hb14⟩
      have hq14 := below_tr hq13 (hb14.mono hq13.size)
      have sx14 := sx13.below hb14
      have n6x14 := n6x13.below hb14
      have v3x14 := ho14.src (by rw [List.length_append]; omega)
      obtain ⟨a3, n3, c3, e3⟩ := src_named v3x14
      subst e3
      clear ho14 hb14
      go_wp2_with fail
      refine hK.out _ _ hq14 (fun hHeld => ?_)
      clear hK K
      try simp only [Act.put, List.getElem_toArray, List.getElem_cons_zero, List.getElem_cons_succ, List.setIfInBounds_toArray, List.set_cons_succ, List.set_cons_zero]
      refine wpAnyH_ready (rs := [7, 10]) (by kernel_rfl) (by simp) ?_
      refine AllReadyH.cons rfl (fun K hK => ?_) (AllReadyH.cons rfl (fun K hK => ?_) AllReadyH.nil)
      · go_simp
        refine (putCounts_any _ _ (bs ++ sn I) [S] wk14 v3x14 n6x14 (by simp; omega) (by simp) (by rw [List.length_append]; omega)).mono ?_
        rintro e wk15 ⟨v7, rfl, ho15, hb15⟩
        have hq15 := below_tr hq14 (hb15.mono hq14.size)
        have sx15 := sx14.below hb15
        have n6x15 := n6x14.below hb15
        have v3x15 := v3x14.below hb15
        have v7x15 := ho15
        obtain ⟨a7, n7, c7, e7⟩ := src_named v7x15
        subst e7
        clear ho15 hb15
        go_wp2_with fail
        refine hK.out _ _ hq15 (fun hHeld => ?_)
        clear hK K
        try simp only [Act.put, List.getElem_toArray, List.getElem_cons_zero, List.getElem_cons_succ, List.setIfInBounds_toArray, List.set_cons_succ, List.set_cons_zero]
        refine wpAnyH_ready (rs := [10]) (by kernel_rfl) (by simp) ?_
        refine AllReadyH.cons rfl (fun K hK => ?_) AllReadyH.nil
        go_simp
        have hb16 := below_walk wk15 (.cells #[.string s] 9)
        have hq16 := below_tr hq15 (hb16.mono hq15.size)
        have sx16 := sx15.below hb16
        have n6x16 := n6x15.below hb16
        have v3x16 := v3x15.below hb16
        have v7x16 := v7x15.below hb16
        have t10x16 := wstrs_one wk15 s
        refine hK.out _ _ hq16 (fun hHeld => ?_)
        clear hK K
        try simp only [Act.put, List.getElem_toArray, List.getElem_cons_zero, List.getElem_cons_succ, List.setIfInBounds_toArray, List.set_cons_succ, List.set_cons_zero]
        obtain ⟨wn16, hwn16⟩ : ∃ x, (wk15.alloc (.cells #[.string s] 9)) = x := ⟨_, rfl⟩
        rw [hwn16] at hq16 hHeld sx16 n6x16 v3x16 v7x16 t10x16 ⊢
        clear hb16
        refine wpAnyH_ready (rs := [11]) (by kernel_rfl) (by simp) ?_
        refine AllReadyH.cons rfl (fun K hK => ?_) AllReadyH.nil
        go_simp
        refine (putText_any _ (bs ++ sn I ++ sns [S]) _ [s] wn16 v7x16 t10x16 (by rw [List.length_append, List.length_append]; omega) (by rw [txs_one]; have := HTX.out; omega)).mono ?_
        rw [txs_one]
        rintro e wk17 ⟨v11, rfl, ho17, hb17⟩
        have hq17 := below_tr hq16 (hb17.mono hq16.size)
        have sx17 := sx16.below hb17
        have n6x17 := n6x16.below hb17
        have v3x17 := v3x16.below hb17
        have v7x17 := v7x16.below hb17
        have t10x17 := t10x16.below hb17
        have v11x17 := ho17.src (by rw [List.length_append, List.length_append, List.length_append]; have := HTX.out; omega)
        have HS9 := hid (show Src wk17 v11 (bs ++ (sn I ++ (sns [S] ++ tx s))) by simpa only [List.append_assoc] using v11x17)
        obtain ⟨a11, n11, c11, e11⟩ := src_named v11x17
        subst e11
        clear ho17 hb17
        go_wp2_with fail
        refine hK.out _ _ hq17 (fun hHeld => ?_)
        clear hK K
        try simp only [Act.put, List.getElem_toArray, List.getElem_cons_zero, List.getElem_cons_succ, List.setIfInBounds_toArray, List.set_cons_succ, List.set_cons_zero]
        refine wpAnyH_take (i := 12) (v := .slice a11 n11 c11) rfl (by kernel_rfl) (by kernel_rfl) (by kernel_rfl) (fun _ _ _ h => h) (Or.inl ⟨by rfl, fun W _ => by go_simp⟩) hHeld ?_
        simp only [Act.put, List.getElem_toArray, List.getElem_cons_zero, List.getElem_cons_succ, List.setIfInBounds_toArray, List.set_cons_succ, List.set_cons_zero]
        have HB9 := hid (below_then HBL.out hq17)
        refine wpAnyH_done (by kernel_rfl) ?_ _
        simp only [noPanic]
        clear hHeld
        go_wp2
        go_ret
        exact ⟨_, rfl, by rw [HSS.out]; exact HS9.out, HB9.out⟩
      · go_simp
        have hb18 := below_walk wk14 (.cells #[.string s] 9)
        have hq18 := below_tr hq14 (hb18.mono hq14.size)
        have sx18 := sx14.below hb18
        have n6x18 := n6x14.below hb18
        have v3x18 := v3x14.below hb18
        have t10x18 := wstrs_one wk14 s
        refine hK.out _ _ hq18 (fun hHeld => ?_)
        clear hK K
        try simp only [Act.put, List.getElem_toArray, List.getElem_cons_zero, List.getElem_cons_succ, List.setIfInBounds_toArray, List.set_cons_succ, List.set_cons_zero]
        obtain ⟨wn18, hwn18⟩ : ∃ x, (wk14.alloc (.cells #[.string s] 9)) = x := ⟨_, rfl⟩
        rw [hwn18] at hq18 hHeld sx18 n6x18 v3x18 t10x18 ⊢
        clear hb18
        refine wpAnyH_ready (rs := [7]) (by kernel_rfl) (by simp) ?_
        refine AllReadyH.cons rfl (fun K hK => ?_) AllReadyH.nil
        go_simp
        refine (putCounts_any _ _ (bs ++ sn I) [S] wn18 v3x18 n6x18 (by simp; omega) (by simp) (by rw [List.length_append]; omega)).mono ?_
        rintro e wk19 ⟨v7, rfl, ho19, hb19⟩
        have hq19 := below_tr hq18 (hb19.mono hq18.size)
        have sx19 := sx18.below hb19
        have n6x19 := n6x18.below hb19
        have v3x19 := v3x18.below hb19
        have t10x19 := t10x18.below hb19
        have v7x19 := ho19
        obtain ⟨a7, n7, c7, e7⟩ := src_named v7x19
        subst e7
        clear ho19 hb19
        go_wp2_with fail
        refine hK.out _ _ hq19 (fun hHeld => ?_)
        clear hK K
        try simp only [Act.put, List.getElem_toArray, List.getElem_cons_zero, List.getElem_cons_succ, List.setIfInBounds_toArray, List.set_cons_succ, List.set_cons_zero]
        refine wpAnyH_ready (rs := [11]) (by kernel_rfl) (by simp) ?_
        refine AllReadyH.cons rfl (fun K hK => ?_) AllReadyH.nil
        go_simp
        refine (putText_any _ (bs ++ sn I ++ sns [S]) _ [s] wk19 v7x19 t10x19 (by rw [List.length_append, List.length_append]; omega) (by rw [txs_one]; have := HTX.out; omega)).mono ?_
        rw [txs_one]
        rintro e wk20 ⟨v11, rfl, ho20, hb20⟩
        have hq20 := below_tr hq19 (hb20.mono hq19.size)
        have sx20 := sx19.below hb20
        have n6x20 := n6x19.below hb20
        have v3x20 := v3x19.below hb20
        have t10x20 := t10x19.below hb20
        have v7x20 := v7x19.below hb20
        have v11x20 := ho20.src (by rw [List.length_append, List.length_append, List.length_append]; have := HTX.out; omega)
        have HS9 := hid (show Src wk20 v11 (bs ++ (sn I ++ (sns [S] ++ tx s))) by simpa only [List.append_assoc] using v11x20)
        obtain ⟨a11, n11, c11, e11⟩ := src_named v11x20
        subst e11
        clear ho20 hb20
        go_wp2_with fail
        refine hK.out _ _ hq20 (fun hHeld => ?_)
        clear hK K
        try simp only [Act.put, List.getElem_toArray, List.getElem_cons_zero, List.getElem_cons_succ, List.setIfInBounds_toArray, List.set_cons_succ, List.set_cons_zero]
        refine wpAnyH_take (i := 12) (v := .slice a11 n11 c11) rfl (by kernel_rfl) (by kernel_rfl) (by kernel_rfl) (fun _ _ _ h => h) (Or.inl ⟨by rfl, fun W _ => by go_simp⟩) hHeld ?_
        simp only [Act.put, List.getElem_toArray, List.getElem_cons_zero, List.getElem_cons_succ, List.setIfInBounds_toArray, List.set_cons_succ, List.set_cons_zero]
        have HB9 := hid (below_then HBL.out hq20)
        refine wpAnyH_done (by kernel_rfl) ?_ _
        simp only [noPanic]
        clear hHeld
        go_wp2
        go_ret
        exact ⟨_, rfl, by rw [HSS.out]; exact HS9.out, HB9.out⟩
    · go_simp
      have hb21 := below_walk wn13 (.cells #[.string s] 9)
      have hq21 := below_tr hq13 (hb21.mono hq13.size)
      have sx21 := sx13.below hb21
      have n6x21 := n6x13.below hb21
      have t10x21 := wstrs_one wn13 s
      refine hK.out _ _ hq21 (fun hHeld => ?_)
      clear hK K
      try simp only [Act.put, List.getElem_toArray, List.getElem_cons_zero, List.getElem_cons_succ, List.setIfInBounds_toArray, List.set_cons_succ, List.set_cons_zero]
      obtain ⟨wn21, hwn21⟩ : ∃ x, (wn13.alloc (.cells #[.string s] 9)) = x := ⟨_, rfl⟩
      rw [hwn21] at hq21 hHeld sx21 n6x21 t10x21 ⊢
      clear hb21
      refine wpAnyH_ready (rs := [3]) (by kernel_rfl) (by simp) ?_
      refine AllReadyH.cons rfl (fun K hK => ?_) AllReadyH.nil
      go_simp
      refine (putUint_any _ bs I wn21 sx21 hI (by omega)).mono ?_
      rintro e wk22 ⟨v3, rfl, ho22, hb22⟩
      have hq22 := below_tr hq21 (hb22.mono hq21.size)
      have sx22 := sx21.below hb22
      have n6x22 := n6x21.below hb22
      have t10x22 := t10x21.below hb22
      have v3x22 := ho22.src (by rw [List.length_append]; omega)
      obtain ⟨a3, n3, c3, e3⟩ := src_named v3x22
      subst e3
      clear ho22 hb22
      go_wp2_with fail
      refine hK.out _ _ hq22 (fun hHeld => ?_)
      clear hK K
      try simp only [Act.put, List.getElem_toArray, List.getElem_cons_zero, List.getElem_cons_succ, List.setIfInBounds_toArray, List.set_cons_succ, List.set_cons_zero]
      refine wpAnyH_ready (rs := [7]) (by kernel_rfl) (by simp) ?_
      refine AllReadyH.cons rfl (fun K hK => ?_) AllReadyH.nil
      go_simp
      refine (putCounts_any _ _ (bs ++ sn I) [S] wk22 v3x22 n6x22 (by simp; omega) (by simp) (by rw [List.length_append]; omega)).mono ?_
      rintro e wk23 ⟨v7, rfl, ho23, hb23⟩
      have hq23 := below_tr hq22 (hb23.mono hq22.size)
      have sx23 := sx22.below hb23
      have n6x23 := n6x22.below hb23
      have t10x23 := t10x22.below hb23
      have v3x23 := v3x22.below hb23
      have v7x23 := ho23
      obtain ⟨a7, n7, c7, e7⟩ := src_named v7x23
      subst e7
      clear ho23 hb23
      go_wp2_with fail
      refine hK.out _ _ hq23 (fun hHeld => ?_)
      clear hK K
      try simp only [Act.put, List.getElem_toArray, List.getElem_cons_zero, List.getElem_cons_succ, List.setIfInBounds_toArray, List.set_cons_succ, List.set_cons_zero]
      refine wpAnyH_ready (rs := [11]) (by kernel_rfl) (by simp) ?_
      refine AllReadyH.cons rfl (fun K hK => ?_) AllReadyH.nil
      go_simp
      refine (putText_any _ (bs ++ sn I ++ sns [S]) _ [s] wk23 v7x23 t10x23 (by rw [List.length_append, List.length_append]; omega) (by rw [txs_one]; have := HTX.out; omega)).mono ?_
      rw [txs_one]
      rintro e wk24 ⟨v11, rfl, ho24, hb24⟩
      have hq24 := below_tr hq23 (hb24.mono hq23.size)
      have sx24 := sx23.below hb24
      have n6x24 := n6x23.below hb24
      have t10x24 := t10x23.below hb24
      have v3x24 := v3x23.below hb24
      have v7x24 := v7x23.below hb24
      have v11x24 := ho24.src (by rw [List.length_append, List.length_append, List.length_append]; have := HTX.out; omega)
      have HS9 := hid (show Src wk24 v11 (bs ++ (sn I ++ (sns [S] ++ tx s))) by simpa only [List.append_assoc] using v11x24)
      obtain ⟨a11, n11, c11, e11⟩ := src_named v11x24
      subst e11
      clear ho24 hb24
      go_wp2_with fail
      refine hK.out _ _ hq24 (fun hHeld => ?_)
      clear hK K
      try simp only [Act.put, List.getElem_toArray, List.getElem_cons_zero, List.getElem_cons_succ, List.setIfInBounds_toArray, List.set_cons_succ, List.set_cons_zero]
      refine wpAnyH_take (i := 12) (v := .slice a11 n11 c11) rfl (by kernel_rfl) (by kernel_rfl) (by kernel_rfl) (fun _ _ _ h => h) (Or.inl ⟨by rfl, fun W _ => by go_simp⟩) hHeld ?_
      simp only [Act.put, List.getElem_toArray, List.getElem_cons_zero, List.getElem_cons_succ, List.setIfInBounds_toArray, List.set_cons_succ, List.set_cons_zero]
      have HB9 := hid (below_then HBL.out hq24)
      refine wpAnyH_done (by kernel_rfl) ?_ _
      simp only [noPanic]
      clear hHeld
      go_wp2
      go_ret
      exact ⟨_, rfl, by rw [HSS.out]; exact HS9.out, HB9.out⟩
  · go_simp
    have hb25 := below_walk wx (.cells #[.string s] 9)
    have hq25 := below_tr hH0 (hb25.mono hH0.size)
    have sx25 := hS0.below hb25
    have t10x25 := wstrs_one wx s
    refine hK.out _ _ hq25 (fun hHeld => ?_)
    clear hK K
    try simp only [Act.put, List.getElem_toArray, List.getElem_cons_zero, List.getElem_cons_succ, List.setIfInBounds_toArray, List.set_cons_succ, List.set_cons_zero]
    obtain ⟨wn25, hwn25⟩ : ∃ x, (wx.alloc (.cells #[.string s] 9)) = x := ⟨_, rfl⟩
    rw [hwn25] at hq25 hHeld sx25 t10x25 ⊢
    clear hb25
    refine wpAnyH_ready (rs := [3, 6]) (by kernel_rfl) (by simp) ?_
    refine AllReadyH.cons rfl (fun K hK => ?_) (AllReadyH.cons rfl (fun K hK => ?_) AllReadyH.nil)
    · go_simp
      refine (putUint_any _ bs I wn25 sx25 hI (by omega)).mono ?_
      rintro e wk26 ⟨v3, rfl, ho26, hb26⟩
      have hq26 := below_tr hq25 (hb26.mono hq25.size)
      have sx26 := sx25.below hb26
      have t10x26 := t10x25.below hb26
      have v3x26 := ho26.src (by rw [List.length_append]; omega)
      obtain ⟨a3, n3, c3, e3⟩ := src_named v3x26
      subst e3
      clear ho26 hb26
      go_wp2_with fail
      refine hK.out _ _ hq26 (fun hHeld => ?_)
      clear hK K
      try simp only [Act.put, List.getElem_toArray, List.getElem_cons_zero, List.getElem_cons_succ, List.setIfInBounds_toArray, List.set_cons_succ, List.set_cons_zero]
      refine wpAnyH_ready (rs := [6]) (by kernel_rfl) (by simp) ?_
      refine AllReadyH.cons rfl (fun K hK => ?_) AllReadyH.nil
      go_simp
      have hb27 := below_walk wk26 (.cells #[.int .i64 (S : Nat)] 3)
      have hq27 := below_tr hq26 (hb27.mono hq26.size)
      have sx27 := sx26.below hb27
      have t10x27 := t10x26.below hb27
      have v3x27 := v3x26.below hb27
      have n6x27 := nums_one wk26 S
      refine hK.out _ _ hq27 (fun hHeld => ?_)
      clear hK K
      try simp only [Act.put, List.getElem_toArray, List.getElem_cons_zero, List.getElem_cons_succ, List.setIfInBounds_toArray, List.set_cons_succ, List.set_cons_zero]
      obtain ⟨wn27, hwn27⟩ : ∃ x, (wk26.alloc (.cells #[.int .i64 (S : Nat)] 3)) = x := ⟨_, rfl⟩
      rw [hwn27] at hq27 hHeld sx27 t10x27 v3x27 n6x27 ⊢
      clear hb27
      refine wpAnyH_ready (rs := [7]) (by kernel_rfl) (by simp) ?_
      refine AllReadyH.cons rfl (fun K hK => ?_) AllReadyH.nil
      go_simp
      refine (putCounts_any _ _ (bs ++ sn I) [S] wn27 v3x27 n6x27 (by simp; omega) (by simp) (by rw [List.length_append]; omega)).mono ?_
      rintro e wk28 ⟨v7, rfl, ho28, hb28⟩
      have hq28 := below_tr hq27 (hb28.mono hq27.size)
      have sx28 := sx27.below hb28
      have t10x28 := t10x27.below hb28
      have v3x28 := v3x27.below hb28
      have n6x28 := n6x27.below hb28
      have v7x28 := ho28
      obtain ⟨a7, n7, c7, e7⟩ := src_named v7x28
      subst e7
      clear ho28 hb28
      go_wp2_with fail
      refine hK.out _ _ hq28 (fun hHeld => ?_)
      clear hK K
      try simp only [Act.put, List.getElem_toArray, List.getElem_cons_zero, List.getElem_cons_succ, List.setIfInBounds_toArray, List.set_cons_succ, List.set_cons_zero]
      refine wpAnyH_ready (rs := [11]) (by kernel_rfl) (by simp) ?_
      refine AllReadyH.cons rfl (fun K hK => ?_) AllReadyH.nil
      go_simp
      refine (putText_any _ (bs ++ sn I ++ sns [S]) _ [s] wk28 v7x28 t10x28 (by rw [List.length_append, List.length_append]; omega) (by rw [txs_one]; have := HTX.out; omega)).mono ?_
      rw [txs_one]
      rintro e wk29 ⟨v11, rfl, ho29, hb29⟩
      have hq29 := below_tr hq28 (hb29.mono hq28.size)
      have sx29 := sx28.below hb29
      have t10x29 := t10x28.below hb29
      have v3x29 := v3x28.below hb29
      have n6x29 := n6x28.below hb29
      have v7x29 := v7x28.below hb29
      have v11x29 := ho29.src (by rw [List.length_append, List.length_append, List.length_append]; have := HTX.out; omega)
      have HS9 := hid (show Src wk29 v11 (bs ++ (sn I ++ (sns [S] ++ tx s))) by simpa only [List.append_assoc] using v11x29)
      obtain ⟨a11, n11, c11, e11⟩ := src_named v11x29
      subst e11
      clear ho29 hb29
      go_wp2_with fail
      refine hK.out _ _ hq29 (fun hHeld => ?_)
      clear hK K
      try simp only [Act.put, List.getElem_toArray, List.getElem_cons_zero, List.getElem_cons_succ, List.setIfInBounds_toArray, List.set_cons_succ, List.set_cons_zero]
      refine wpAnyH_take (i := 12) (v := .slice a11 n11 c11) rfl (by kernel_rfl) (by kernel_rfl) (by kernel_rfl) (fun _ _ _ h => h) (Or.inl ⟨by rfl, fun W _ => by go_simp⟩) hHeld ?_
      simp only [Act.put, List.getElem_toArray, List.getElem_cons_zero, List.getElem_cons_succ, List.setIfInBounds_toArray, List.set_cons_succ, List.set_cons_zero]
      have HB9 := hid (below_then HBL.out hq29)
      refine wpAnyH_done (by kernel_rfl) ?_ _
      simp only [noPanic]
      clear hHeld
      go_wp2
      go_ret
      exact ⟨_, rfl, by rw [HSS.out]; exact HS9.out, HB9.out⟩
    · go_simp
      have hb30 := below_walk wn25 (.cells #[.int .i64 (S : Nat)] 3)
      have hq30 := below_tr hq25 (hb30.mono hq25.size)
      have sx30 := sx25.below hb30
      have t10x30 := t10x25.below hb30
      have n6x30 := nums_one wn25 S
      refine hK.out _ _ hq30 (fun hHeld => ?_)
      clear hK K
      try simp only [Act.put, List.getElem_toArray, List.getElem_cons_zero, List.getElem_cons_succ, List.setIfInBounds_toArray, List.set_cons_succ, List.set_cons_zero]
      obtain ⟨wn30, hwn30⟩ : ∃ x, (wn25.alloc (.cells #[.int .i64 (S : Nat)] 3)) = x := ⟨_, rfl⟩
      rw [hwn30] at hq30 hHeld sx30 t10x30 n6x30 ⊢
      clear hb30
      refine wpAnyH_ready (rs := [3]) (by kernel_rfl) (by simp) ?_
      refine AllReadyH.cons rfl (fun K hK => ?_) AllReadyH.nil
      go_simp
      refine (putUint_any _ bs I wn30 sx30 hI (by omega)).mono ?_
      rintro e wk31 ⟨v3, rfl, ho31, hb31⟩
      have hq31 := below_tr hq30 (hb31.mono hq30.size)
      have sx31 := sx30.below hb31
      have t10x31 := t10x30.below hb31
      have n6x31 := n6x30.below hb31
      have v3x31 := ho31.src (by rw [List.length_append]; omega)
      obtain ⟨a3, n3, c3, e3⟩ := src_named v3x31
      subst e3
      clear ho31 hb31
      go_wp2_with fail
      refine hK.out _ _ hq31 (fun hHeld => ?_)
      clear hK K
      try simp only [Act.put, List.getElem_toArray, List.getElem_cons_zero, List.getElem_cons_succ, List.setIfInBounds_toArray, List.set_cons_succ, List.set_cons_zero]
      refine wpAnyH_ready (rs := [7]) (by kernel_rfl) (by simp) ?_
      refine AllReadyH.cons rfl (fun K hK => ?_) AllReadyH.nil
      go_simp
      refine (putCounts_any _ _ (bs ++ sn I) [S] wk31 v3x31 n6x31 (by simp; omega) (by simp) (by rw [List.length_append]; omega)).mono ?_
      rintro e wk32 ⟨v7, rfl, ho32, hb32⟩
      have hq32 := below_tr hq31 (hb32.mono hq31.size)
      have sx32 := sx31.below hb32
      have t10x32 := t10x31.below hb32
      have n6x32 := n6x31.below hb32
      have v3x32 := v3x31.below hb32
      have v7x32 := ho32
      obtain ⟨a7, n7, c7, e7⟩ := src_named v7x32
      subst e7
      clear ho32 hb32
      go_wp2_with fail
      refine hK.out _ _ hq32 (fun hHeld => ?_)
      clear hK K
      try simp only [Act.put, List.getElem_toArray, List.getElem_cons_zero, List.getElem_cons_succ, List.setIfInBounds_toArray, List.set_cons_succ, List.set_cons_zero]
      refine wpAnyH_ready (rs := [11]) (by kernel_rfl) (by simp) ?_
      refine AllReadyH.cons rfl (fun K hK => ?_) AllReadyH.nil
      go_simp
      refine (putText_any _ (bs ++ sn I ++ sns [S]) _ [s] wk32 v7x32 t10x32 (by rw [List.length_append, List.length_append]; omega) (by rw [txs_one]; have := HTX.out; omega)).mono ?_
      rw [txs_one]
      rintro e wk33 ⟨v11, rfl, ho33, hb33⟩
      have hq33 := below_tr hq32 (hb33.mono hq32.size)
      have sx33 := sx32.below hb33
      have t10x33 := t10x32.below hb33
      have n6x33 := n6x32.below hb33
      have v3x33 := v3x32.below hb33
      have v7x33 := v7x32.below hb33
      have v11x33 := ho33.src (by rw [List.length_append, List.length_append, List.length_append]; have := HTX.out; omega)
      have HS9 := hid (show Src wk33 v11 (bs ++ (sn I ++ (sns [S] ++ tx s))) by simpa only [List.append_assoc] using v11x33)
      obtain ⟨a11, n11, c11, e11⟩ := src_named v11x33
      subst e11
      clear ho33 hb33
      go_wp2_with fail
      refine hK.out _ _ hq33 (fun hHeld => ?_)
      clear hK K
      try simp only [Act.put, List.getElem_toArray, List.getElem_cons_zero, List.getElem_cons_succ, List.setIfInBounds_toArray, List.set_cons_succ, List.set_cons_zero]
      refine wpAnyH_take (i := 12) (v := .slice a11 n11 c11) rfl (by kernel_rfl) (by kernel_rfl) (by kernel_rfl) (fun _ _ _ h => h) (Or.inl ⟨by rfl, fun W _ => by go_simp⟩) hHeld ?_
      simp only [Act.put, List.getElem_toArray, List.getElem_cons_zero, List.getElem_cons_succ, List.setIfInBounds_toArray, List.set_cons_succ, List.set_cons_zero]
      have HB9 := hid (below_then HBL.out hq33)
      refine wpAnyH_done (by kernel_rfl) ?_ _
      simp only [noPanic]
      clear hHeld
      go_wp2
      go_ret
      exact ⟨_, rfl, by rw [HSS.out]; exact HS9.out, HB9.out⟩

end Go.Proofs.YtiibhccbbpgehabGreat

/- A frame with those fields alone that its kind has. -/
namespace Go.Proofs.YtiibhccbbpgehabGreat
open Go.RowKit Go.BigFrame

/-- those fields alone that the kind has; of a number that is no kind: none -/
def ownF (f : Fr) : Fr :=
  if f.kind = 1 then ⟨1, 0, f.ver, f.slots, f.tool, 0, (0, 0, 0), [], []⟩ else if f.kind = 2 then reqF f.id f.lim f.args f.body else if f.kind = 3 then resF f.id f.status f.body else if f.kind = 4 then canF f.id else if f.kind = 5 then byeF else if f.kind = 6 then noteF f.body else { zF with kind := f.kind }
def ownV (f : Fr) (va : Value) : Value := if f.kind = 2 then va else nS
theorem ownF_tool (f : Fr) (h : f.tool.length = 32) : (ownF f).tool.length = 32 := by
  unfold ownF
  repeat' split
  all_goals first | exact h | rfl
theorem built_hello2 (v s : Int) (T : List UInt8) (h : T.length = 32) : Tryz.prog.built 65 [(0, .int .i64 1), (2, .int .i64 v), (3, .int .i64 s), (4, .agg (bytesV T).toArray)] = some (fcells ⟨1, 0, v, s, T, 0, (0, 0, 0), [], []⟩ nS).toArray := by
  obtain ⟨t0, t1, t2, t3, t4, t5, t6, t7, t8, t9, t10, t11, t12, t13, t14, t15, t16, t17, t18, t19, t20, t21, t22, t23, t24, t25, t26, t27, t28, t29, t30, t31, rfl⟩ := list32 h
  kernel_rfl
theorem ld_mid10 {P : Program} {w : World} {ops : Array Oper} {rest : List Oper} {o : Oper} {a : Act} {Q : Exit → Act → World → Prop} (hgd : o.guard = none) (ty : TypeId) (x : Operand) (ho : o.op = .load ty x)
    (b off : Nat) (hx : a.eval x = .pointer (some ⟨b, off, none⟩)) (cs : List Value) (d : TypeDesc) (hc : w.rangeAt b off cs)
    (hu : P.underlying ty = some d) (hd : d.isRow = true) (hi : (P.info? ty).map (·.size) = some cs.length)
    (h : wpList P ops Q rest (a.put o.dst (.agg cs.toArray)) w) : wpList P ops Q (o :: rest) a w := wpList_load_mid hgd ty x ho b off hx cs d hc hu hd hi h

set_option maxRecDepth 100000 in
set_option maxHeartbeats 1000000 in
theorem ownHello_any (f : Fr) (va : Value) (w : World) (hk : f.kind = 1) (hf : f.tool.length = 32) (hv : ∃ ao n c, va = .slice ao n c) :
    Calls Tryz.prog 102 #[.agg (fcells f va).toArray] w fun e w' => e = .returned (.agg (fcells (ownF f) (ownV f va)).toArray) ∧ Below w.heap.size w w' := by
  obtain ⟨ao, nn, cc, rfl⟩ := hv
  have HNB := hid (hp_two w (.cells (fcells f (.slice ao nn cc)).toArray 65) (.cells (fcells zF nS).toArray 65))
  have HBL := hid (below_walk2 w (.cells (fcells f (.slice ao nn cc)).toArray 65) (.cells (fcells zF nS).toArray 65))
  have HZ : Hid ((w.alloc (.cells (fcells f (.slice ao nn cc)).toArray 65)).heap.size = w.heap.size + 1) := hid (by simp)
  have HBU : Hid (Tryz.prog.built 65 [(0, .int .i64 1), (2, .int .i64 f.ver), (3, .int .i64 f.slots), (4, .agg (bytesV f.tool).toArray)] = some (fcells (ownF f) (ownV f (.slice ao nn cc))).toArray) := hid (by
    unfold ownF ownV
    rw [if_pos hk, if_neg (show ¬ f.kind = 2 by omega)]
    exact built_hello2 f.ver f.slots f.tool hf)
  have HOT := hid (ownF_tool f hf)
  have HSZ := hid (frame_size (ownF f) (ownV f (.slice ao nn cc)) HOT.out)
  have HON := hid (fcells_one (ownF f) (ownV f (.slice ao nn cc)) (by unfold ownV; split <;> rfl))
  have HOS := hid (show (fcells zF nS).toArray.size = (fcells (ownF f) (ownV f (.slice ao nn cc))).length by rw [fcells_length _ _ HOT.out]; rfl)
  have HTS := hid (tool_size f.tool hf)
  have HK := hid hk
  have HF := hid hf
  clear hk hf
  go_enter Tryz.func102, Tryz.ntmps102
  go_upto_region 1 with (refine al_row (by rfl) 65 (by rfl) _ zeroFrame ?_)
  try rw [HZ.out]
  generalize (w.alloc (.cells (fcells f (.slice ao nn cc)).toArray 65)).alloc (.cells (fcells zF nS).toArray 65) = w2 at HNB HBL ⊢
  have HFB := hid (Fb.of HNB.out.1 HF.out)
  have HTR := hid HFB.out.t
  have x0 := HFB.out.k
  rw [HK.out] at x0
  have y_v := HFB.out.v
  have y_s := HFB.out.s
  obtain ⟨FO, HFO⟩ : ∃ L, Hid (fcells (ownF f) (ownV f (.slice ao nn cc)) = L) := ⟨_, rfl⟩
  rw [HFO.out] at HBU HSZ HON HOS
  clear HFB
  go_wp2_with (first
    | (refine ld_mid10 (by rfl) 60 (.tmp 9) (by rfl) w.heap.size 4 (by rfl) (bytesV f.tool) _ HTR.out Tryz.underlying60 rfl HTS.out ?_)
    | (refine bd_row (by rfl) 65 #[(0, .tmp 4), (2, .tmp 6), (3, .tmp 8), (4, .tmp 10)] (by rfl) _ (by simp [Act.eval, Act.put]) _ HBU.out ?_)
    | (refine st_row (by rfl) 65 _ _ (by rfl) (w.heap.size + 1) FO (by rfl) (by rfl) 65 _ HNB.out.2 HSZ.out HOS.out HON.out ?_; intro w3 hw3))
  refine ret_row 2 65 rfl (w.heap.size + 1) rfl FO 65 hw3.blk _ Tryz.underlying65 rfl HSZ.out rfl ⟨by rw [HFO.out], Below.of_gb HBL.out hw3.grown (by omega)⟩

set_option maxRecDepth 100000 in
set_option maxHeartbeats 1000000 in
theorem ownRequest_any (f : Fr) (va : Value) (w : World) (hk : f.kind = 2) (hf : f.tool.length = 32) (hv : ∃ ao n c, va = .slice ao n c) :
    Calls Tryz.prog 106 #[.agg (fcells f va).toArray] w fun e w' => e = .returned (.agg (fcells (ownF f) (ownV f va)).toArray) ∧ Below w.heap.size w w' := by
  obtain ⟨ao, nn, cc, rfl⟩ := hv
  have HNB := hid (hp_two w (.cells (fcells f (.slice ao nn cc)).toArray 65) (.cells (fcells zF nS).toArray 65))
  have HBL := hid (below_walk2 w (.cells (fcells f (.slice ao nn cc)).toArray 65) (.cells (fcells zF nS).toArray 65))
  have HZ : Hid ((w.alloc (.cells (fcells f (.slice ao nn cc)).toArray 65)).heap.size = w.heap.size + 1) := hid (by simp)
  have HBU : Hid (Tryz.prog.built 65 [(0, .int .i64 2), (1, .int .u64 f.id), (6, .agg #[.int .i64 f.lim.1, .int .i64 f.lim.2.1, .int .i64 f.lim.2.2]), (7, .slice ao nn cc), (8, .string (mk f.body))] = some (fcells (ownF f) (ownV f (.slice ao nn cc))).toArray) := hid (by
    unfold ownF ownV
    rw [if_neg (show ¬ f.kind = 1 by omega), if_pos hk, if_pos hk]
    exact built_req f.id f.lim.1 f.lim.2.1 f.lim.2.2 ao nn cc f.body f.args)
  have HOT := hid (ownF_tool f hf)
  have HSZ := hid (frame_size (ownF f) (ownV f (.slice ao nn cc)) HOT.out)
  have HON := hid (fcells_one (ownF f) (ownV f (.slice ao nn cc)) (by unfold ownV; split <;> rfl))
  have HOS := hid (show (fcells zF nS).toArray.size = (fcells (ownF f) (ownV f (.slice ao nn cc))).length by rw [fcells_length _ _ HOT.out]; rfl)
  have HTS := hid (tool_size f.tool hf)
  have HK := hid hk
  have HF := hid hf
  clear hk hf
  go_enter Tryz.func106, Tryz.ntmps106
  go_upto_region 1 with (refine al_row (by rfl) 65 (by rfl) _ zeroFrame ?_)
  try rw [HZ.out]
  generalize (w.alloc (.cells (fcells f (.slice ao nn cc)).toArray 65)).alloc (.cells (fcells zF nS).toArray 65) = w2 at HNB HBL ⊢
  have HFB := hid (Fb.of HNB.out.1 HF.out)
  have HTR := hid HFB.out.t
  have x0 := HFB.out.k
  rw [HK.out] at x0
  have y_i := HFB.out.i
  have y_l1 := HFB.out.l1
  have y_l2 := HFB.out.l2
  have y_l3 := HFB.out.l3
  have y_a := HFB.out.a
  have y_bd := HFB.out.bd
  obtain ⟨FO, HFO⟩ : ∃ L, Hid (fcells (ownF f) (ownV f (.slice ao nn cc)) = L) := ⟨_, rfl⟩
  rw [HFO.out] at HBU HSZ HON HOS
  clear HFB
  go_wp2_with (first
    | (refine bd_row (by rfl) 65 #[(0, .tmp 4), (1, .tmp 6), (6, .tmp 8), (7, .tmp 10), (8, .tmp 12)] (by rfl) _ (by simp [Act.eval]) _ HBU.out ?_)
    | (refine st_row (by rfl) 65 _ _ (by rfl) (w.heap.size + 1) FO (by rfl) (by rfl) 65 _ HNB.out.2 HSZ.out HOS.out HON.out ?_; intro w3 hw3))
  refine ret_row 2 65 rfl (w.heap.size + 1) rfl FO 65 hw3.blk _ Tryz.underlying65 rfl HSZ.out rfl ⟨by rw [HFO.out], Below.of_gb HBL.out hw3.grown (by omega)⟩

set_option maxRecDepth 100000 in
set_option maxHeartbeats 1000000 in
theorem ownResponse_any (f : Fr) (va : Value) (w : World) (hk : f.kind = 3) (hf : f.tool.length = 32) (hv : ∃ ao n c, va = .slice ao n c) :
    Calls Tryz.prog 110 #[.agg (fcells f va).toArray] w fun e w' => e = .returned (.agg (fcells (ownF f) (ownV f va)).toArray) ∧ Below w.heap.size w w' := by
  obtain ⟨ao, nn, cc, rfl⟩ := hv
  have HNB := hid (hp_two w (.cells (fcells f (.slice ao nn cc)).toArray 65) (.cells (fcells zF nS).toArray 65))
  have HBL := hid (below_walk2 w (.cells (fcells f (.slice ao nn cc)).toArray 65) (.cells (fcells zF nS).toArray 65))
  have HZ : Hid ((w.alloc (.cells (fcells f (.slice ao nn cc)).toArray 65)).heap.size = w.heap.size + 1) := hid (by simp)
  have HBU : Hid (Tryz.prog.built 65 [(0, .int .i64 3), (1, .int .u64 f.id), (5, .int .i64 f.status), (8, .string (mk f.body))] = some (fcells (ownF f) (ownV f (.slice ao nn cc))).toArray) := hid (by
    unfold ownF ownV
    rw [if_neg (show ¬ f.kind = 1 by omega), if_neg (show ¬ f.kind = 2 by omega), if_pos hk, if_neg (show ¬ f.kind = 2 by omega)]
    exact built_res f.id f.status f.body)
  have HOT := hid (ownF_tool f hf)
  have HSZ := hid (frame_size (ownF f) (ownV f (.slice ao nn cc)) HOT.out)
  have HON := hid (fcells_one (ownF f) (ownV f (.slice ao nn cc)) (by unfold ownV; split <;> rfl))
  have HOS := hid (show (fcells zF nS).toArray.size = (fcells (ownF f) (ownV f (.slice ao nn cc))).length by rw [fcells_length _ _ HOT.out]; rfl)
  have HTS := hid (tool_size f.tool hf)
  have HK := hid hk
  have HF := hid hf
  clear hk hf
  go_enter Tryz.func110, Tryz.ntmps110
  go_upto_region 1 with (refine al_row (by rfl) 65 (by rfl) _ zeroFrame ?_)
  try rw [HZ.out]
  generalize (w.alloc (.cells (fcells f (.slice ao nn cc)).toArray 65)).alloc (.cells (fcells zF nS).toArray 65) = w2 at HNB HBL ⊢
  have HFB := hid (Fb.of HNB.out.1 HF.out)
  have HTR := hid HFB.out.t
  have x0 := HFB.out.k
  rw [HK.out] at x0
  have y_i := HFB.out.i
  have y_st := HFB.out.st
  have y_bd := HFB.out.bd
  obtain ⟨FO, HFO⟩ : ∃ L, Hid (fcells (ownF f) (ownV f (.slice ao nn cc)) = L) := ⟨_, rfl⟩
  rw [HFO.out] at HBU HSZ HON HOS
  clear HFB
  go_wp2_with (first
    | (refine bd_row (by rfl) 65 #[(0, .tmp 4), (1, .tmp 6), (5, .tmp 8), (8, .tmp 10)] (by rfl) _ (by simp [Act.eval]) _ HBU.out ?_)
    | (refine st_row (by rfl) 65 _ _ (by rfl) (w.heap.size + 1) FO (by rfl) (by rfl) 65 _ HNB.out.2 HSZ.out HOS.out HON.out ?_; intro w3 hw3))
  refine ret_row 2 65 rfl (w.heap.size + 1) rfl FO 65 hw3.blk _ Tryz.underlying65 rfl HSZ.out rfl ⟨by rw [HFO.out], Below.of_gb HBL.out hw3.grown (by omega)⟩

set_option maxRecDepth 100000 in
set_option maxHeartbeats 1000000 in
theorem ownCancel_any (f : Fr) (va : Value) (w : World) (hk : f.kind = 4) (hf : f.tool.length = 32) (hv : ∃ ao n c, va = .slice ao n c) :
    Calls Tryz.prog 114 #[.agg (fcells f va).toArray] w fun e w' => e = .returned (.agg (fcells (ownF f) (ownV f va)).toArray) ∧ Below w.heap.size w w' := by
  obtain ⟨ao, nn, cc, rfl⟩ := hv
  have HNB := hid (hp_two w (.cells (fcells f (.slice ao nn cc)).toArray 65) (.cells (fcells zF nS).toArray 65))
  have HBL := hid (below_walk2 w (.cells (fcells f (.slice ao nn cc)).toArray 65) (.cells (fcells zF nS).toArray 65))
  have HZ : Hid ((w.alloc (.cells (fcells f (.slice ao nn cc)).toArray 65)).heap.size = w.heap.size + 1) := hid (by simp)
  have HBU : Hid (Tryz.prog.built 65 [(0, .int .i64 4), (1, .int .u64 f.id)] = some (fcells (ownF f) (ownV f (.slice ao nn cc))).toArray) := hid (by
    unfold ownF ownV
    rw [if_neg (show ¬ f.kind = 1 by omega), if_neg (show ¬ f.kind = 2 by omega), if_neg (show ¬ f.kind = 3 by omega), if_pos hk, if_neg (show ¬ f.kind = 2 by omega)]
    exact built_can f.id)
  have HOT := hid (ownF_tool f hf)
  have HSZ := hid (frame_size (ownF f) (ownV f (.slice ao nn cc)) HOT.out)
  have HON := hid (fcells_one (ownF f) (ownV f (.slice ao nn cc)) (by unfold ownV; split <;> rfl))
  have HOS := hid (show (fcells zF nS).toArray.size = (fcells (ownF f) (ownV f (.slice ao nn cc))).length by rw [fcells_length _ _ HOT.out]; rfl)
  have HTS := hid (tool_size f.tool hf)
  have HK := hid hk
  have HF := hid hf
  clear hk hf
  go_enter Tryz.func114, Tryz.ntmps114
  go_upto_region 1 with (refine al_row (by rfl) 65 (by rfl) _ zeroFrame ?_)
  try rw [HZ.out]
  generalize (w.alloc (.cells (fcells f (.slice ao nn cc)).toArray 65)).alloc (.cells (fcells zF nS).toArray 65) = w2 at HNB HBL ⊢
  have HFB := hid (Fb.of HNB.out.1 HF.out)
  have HTR := hid HFB.out.t
  have x0 := HFB.out.k
  rw [HK.out] at x0
  have y_i := HFB.out.i
  obtain ⟨FO, HFO⟩ : ∃ L, Hid (fcells (ownF f) (ownV f (.slice ao nn cc)) = L) := ⟨_, rfl⟩
  rw [HFO.out] at HBU HSZ HON HOS
  clear HFB
  go_wp2_with (first
    | (refine bd_row (by rfl) 65 #[(0, .tmp 4), (1, .tmp 6)] (by rfl) _ (by simp [Act.eval]) _ HBU.out ?_)
    | (refine st_row (by rfl) 65 _ _ (by rfl) (w.heap.size + 1) FO (by rfl) (by rfl) 65 _ HNB.out.2 HSZ.out HOS.out HON.out ?_; intro w3 hw3))
  refine ret_row 2 65 rfl (w.heap.size + 1) rfl FO 65 hw3.blk _ Tryz.underlying65 rfl HSZ.out rfl ⟨by rw [HFO.out], Below.of_gb HBL.out hw3.grown (by omega)⟩

set_option maxRecDepth 100000 in
set_option maxHeartbeats 1000000 in
theorem ownBye2_any (f : Fr) (va : Value) (w : World) (hk : f.kind = 5) (hf : f.tool.length = 32) (hv : ∃ ao n c, va = .slice ao n c) :
    Calls Tryz.prog 118 #[.agg (fcells f va).toArray] w fun e w' => e = .returned (.agg (fcells (ownF f) (ownV f va)).toArray) ∧ Below w.heap.size w w' := by
  obtain ⟨ao, nn, cc, rfl⟩ := hv
  have HNB := hid (hp_two w (.cells (fcells f (.slice ao nn cc)).toArray 65) (.cells (fcells zF nS).toArray 65))
  have HBL := hid (below_walk2 w (.cells (fcells f (.slice ao nn cc)).toArray 65) (.cells (fcells zF nS).toArray 65))
  have HZ : Hid ((w.alloc (.cells (fcells f (.slice ao nn cc)).toArray 65)).heap.size = w.heap.size + 1) := hid (by simp)
  have HBU : Hid (Tryz.prog.built 65 [(0, .int .i64 5)] = some (fcells (ownF f) (ownV f (.slice ao nn cc))).toArray) := hid (by
    unfold ownF ownV
    rw [if_neg (show ¬ f.kind = 1 by omega), if_neg (show ¬ f.kind = 2 by omega), if_neg (show ¬ f.kind = 3 by omega), if_neg (show ¬ f.kind = 4 by omega), if_pos hk, if_neg (show ¬ f.kind = 2 by omega)]
    exact built_bye)
  have HOT := hid (ownF_tool f hf)
  have HSZ := hid (frame_size (ownF f) (ownV f (.slice ao nn cc)) HOT.out)
  have HON := hid (fcells_one (ownF f) (ownV f (.slice ao nn cc)) (by unfold ownV; split <;> rfl))
  have HOS := hid (show (fcells zF nS).toArray.size = (fcells (ownF f) (ownV f (.slice ao nn cc))).length by rw [fcells_length _ _ HOT.out]; rfl)
  have HTS := hid (tool_size f.tool hf)
  have HK := hid hk
  have HF := hid hf
  clear hk hf
  go_enter Tryz.func118, Tryz.ntmps118
  go_upto_region 1 with (refine al_row (by rfl) 65 (by rfl) _ zeroFrame ?_)
  try rw [HZ.out]
  generalize (w.alloc (.cells (fcells f (.slice ao nn cc)).toArray 65)).alloc (.cells (fcells zF nS).toArray 65) = w2 at HNB HBL ⊢
  have HFB := hid (Fb.of HNB.out.1 HF.out)
  have HTR := hid HFB.out.t
  have x0 := HFB.out.k
  rw [HK.out] at x0
  obtain ⟨FO, HFO⟩ : ∃ L, Hid (fcells (ownF f) (ownV f (.slice ao nn cc)) = L) := ⟨_, rfl⟩
  rw [HFO.out] at HBU HSZ HON HOS
  clear HFB
  go_wp2_with (first
    | (refine bd_row (by rfl) 65 #[(0, .tmp 4)] (by rfl) _ (by simp [Act.eval]) _ HBU.out ?_)
    | (refine st_row (by rfl) 65 _ _ (by rfl) (w.heap.size + 1) FO (by rfl) (by rfl) 65 _ HNB.out.2 HSZ.out HOS.out HON.out ?_; intro w3 hw3))
  refine ret_row 2 65 rfl (w.heap.size + 1) rfl FO 65 hw3.blk _ Tryz.underlying65 rfl HSZ.out rfl ⟨by rw [HFO.out], Below.of_gb HBL.out hw3.grown (by omega)⟩

set_option maxRecDepth 100000 in
set_option maxHeartbeats 1000000 in
theorem ownNote_any (f : Fr) (va : Value) (w : World) (hk : f.kind = 6) (hf : f.tool.length = 32) (hv : ∃ ao n c, va = .slice ao n c) :
    Calls Tryz.prog 121 #[.agg (fcells f va).toArray] w fun e w' => e = .returned (.agg (fcells (ownF f) (ownV f va)).toArray) ∧ Below w.heap.size w w' := by
  obtain ⟨ao, nn, cc, rfl⟩ := hv
  have HNB := hid (hp_two w (.cells (fcells f (.slice ao nn cc)).toArray 65) (.cells (fcells zF nS).toArray 65))
  have HBL := hid (below_walk2 w (.cells (fcells f (.slice ao nn cc)).toArray 65) (.cells (fcells zF nS).toArray 65))
  have HZ : Hid ((w.alloc (.cells (fcells f (.slice ao nn cc)).toArray 65)).heap.size = w.heap.size + 1) := hid (by simp)
  have HBU : Hid (Tryz.prog.built 65 [(0, .int .i64 6), (8, .string (mk f.body))] = some (fcells (ownF f) (ownV f (.slice ao nn cc))).toArray) := hid (by
    unfold ownF ownV
    rw [if_neg (show ¬ f.kind = 1 by omega), if_neg (show ¬ f.kind = 2 by omega), if_neg (show ¬ f.kind = 3 by omega), if_neg (show ¬ f.kind = 4 by omega), if_neg (show ¬ f.kind = 5 by omega), if_pos hk, if_neg (show ¬ f.kind = 2 by omega)]
    exact built_note f.body)
  have HOT := hid (ownF_tool f hf)
  have HSZ := hid (frame_size (ownF f) (ownV f (.slice ao nn cc)) HOT.out)
  have HON := hid (fcells_one (ownF f) (ownV f (.slice ao nn cc)) (by unfold ownV; split <;> rfl))
  have HOS := hid (show (fcells zF nS).toArray.size = (fcells (ownF f) (ownV f (.slice ao nn cc))).length by rw [fcells_length _ _ HOT.out]; rfl)
  have HTS := hid (tool_size f.tool hf)
  have HK := hid hk
  have HF := hid hf
  clear hk hf
  go_enter Tryz.func121, Tryz.ntmps121
  go_upto_region 1 with (refine al_row (by rfl) 65 (by rfl) _ zeroFrame ?_)
  try rw [HZ.out]
  generalize (w.alloc (.cells (fcells f (.slice ao nn cc)).toArray 65)).alloc (.cells (fcells zF nS).toArray 65) = w2 at HNB HBL ⊢
  have HFB := hid (Fb.of HNB.out.1 HF.out)
  have HTR := hid HFB.out.t
  have x0 := HFB.out.k
  rw [HK.out] at x0
  have y_bd := HFB.out.bd
  obtain ⟨FO, HFO⟩ : ∃ L, Hid (fcells (ownF f) (ownV f (.slice ao nn cc)) = L) := ⟨_, rfl⟩
  rw [HFO.out] at HBU HSZ HON HOS
  clear HFB
  go_wp2_with (first
    | (refine bd_row (by rfl) 65 #[(0, .tmp 4), (8, .tmp 6)] (by rfl) _ (by simp [Act.eval]) _ HBU.out ?_)
    | (refine st_row (by rfl) 65 _ _ (by rfl) (w.heap.size + 1) FO (by rfl) (by rfl) 65 _ HNB.out.2 HSZ.out HOS.out HON.out ?_; intro w3 hw3))
  refine ret_row 2 65 rfl (w.heap.size + 1) rfl FO 65 hw3.blk _ Tryz.underlying65 rfl HSZ.out rfl ⟨by rw [HFO.out], Below.of_gb HBL.out hw3.grown (by omega)⟩

end Go.Proofs.YtiibhccbbpgehabGreat

/- How many bytes a frame's body has, told by the program. -/
namespace Go.Proofs.YtiibhccbbpgehabGreat
open Go.RowKit Go.BigFrame

/-- a frame without its body -/
def noBody (f : Fr) : Fr := { f with body := [] }
theorem fcells_noBody (f : Fr) (va : Value) (h : f.tool.length = 32) : (fcells f va).toArray.setIfInBounds 41 (.string ⟨#[]⟩) = (fcells (noBody f) va).toArray := by
  obtain ⟨t0, t1, t2, t3, t4, t5, t6, t7, t8, t9, t10, t11, t12, t13, t14, t15, t16, t17, t18, t19, t20, t21, t22, t23, t24, t25, t26, t27, t28, t29, t30, t31, hT⟩ := list32 h
  unfold noBody fcells
  rw [hT]
  rfl


end Go.Proofs.YtiibhccbbpgehabGreat

/- How many bytes a Bye's body has, told by the program. -/
namespace Go.Proofs.YtiibhccbbpgehabGreat
open Go.RowKit Go.BigFrame

end Go.Proofs.YtiibhccbbpgehabGreat

/- A Bye, written by the program: its plan, its bytes. -/
namespace Go.Proofs.YtiibhccbbpgehabGreat
open Go.RowKit Go.BigFrame

theorem results_cell3 {fn : Func} {p q s : Tmp} {ty : TypeId} (h : fn.results = #[.cell p ty, .tmp q, .tmp s]) (tmps : Array Value) (P : Program) (w : World) :
    (results fn tmps).run P w = ((asAddr (tmps.getD p undef)).run P w).andThen fun a w₁ => ((loadVar ty a).run P w₁).andThen fun v w₂ => .ok (.tuple #[v, tmps.getD q undef, tmps.getD s undef]) w₂ := by
  simp only [results, h]
  simp [Sem.run_bind, Result.andThen]
/-- the answer is a whole row that lies in a variable, and two values -/
theorem ret_row3 {P : Program} {fn : Func} {R : Ending → World → Prop} {a : Act} {w : World} (p q s : Tmp) (ty : TypeId) (h : fn.results = #[.cell p ty, .tmp q, .tmp s]) (g : Nat) (hp : a.tmps.getD p undef = .pointer (some ⟨g, 0, none⟩))
    (cs : List Value) (t : TypeId) (hb : w.heap[g]? = some (.cells cs.toArray t (0, 0))) (d : TypeDesc) (hu : P.underlying ty = some d) (hd : d.isRow = true) (hi : (P.info? ty).map (·.size) = some cs.length)
    (v u : Value) (hq : a.tmps.getD q undef = v) (hs : a.tmps.getD s undef = u) (hdf : a.defers = []) (hR : R (.returned (.tuple #[.agg cs.toArray, v, u])) w) : bodyPost P fn R .ret a w := by
  refine bodyPost_ret (v := .tuple #[.agg cs.toArray, v, u]) ?_ hdf hR
  rw [results_cell3 h, hp, hq, hs]
  have := run_loadVar_mid (P := P) w g 0 ty cs d (fun j v hv => by rw [Nat.zero_add, cell_of_row w g j cs.toArray t (0, 0) hb]; simpa using hv) hu hd hi
  simp [asAddr, this]

end Go.Proofs.YtiibhccbbpgehabGreat

/- Whether what a request's fields hold may be. -/
namespace Go.Proofs.YtiibhccbbpgehabGreat
open Go.RowKit Go.BigFrame

set_option maxHeartbeats 1000000 in
theorem tooLong_any (s : List UInt8) (w : World) :
    Calls Tryz.prog 127 #[.string (mk s)] w fun e w' => e = .returned (.bool (decide (4096 < s.length))) ∧ w' = w := by
  have hsz : (mk s).size = s.length := mk_size s
  by_cases h : 4096 < s.length
  · have q : (4096 : Int) < (s.length : Int) := by omega
    have q2 : decide ((4096 : Int) < (s.length : Int)) = true := by simpa using q
    rw [decide_eq_true h]
    clear h
    go_enter Tryz.func127, Tryz.ntmps127
    go_wp2
    go_ret
    exact ⟨rfl, rfl⟩
  · have q : ¬ (4096 : Int) < (s.length : Int) := by omega
    have q2 : decide ((4096 : Int) < (s.length : Int)) = false := by simpa using q
    rw [decide_eq_false h]
    clear h
    go_enter Tryz.func127, Tryz.ntmps127
    go_wp2
    go_ret
    exact ⟨rfl, rfl⟩

theorem long_no {A : List (List UInt8)} {k : Nat} (hk : k < A.length) (h : longA (A.take k) = false) (h2 : ¬ 4096 < (A.getD k []).length) : longA (A.take (k + 1)) = false := by
  rw [List.take_succ_eq_append_getElem hk]
  unfold longA at h ⊢
  rw [List.any_append, h]
  rw [List.getD_eq_getElem?_getD, List.getElem?_eq_getElem hk] at h2
  simp only [Option.getD_some] at h2
  simp only [Bool.false_or, List.any_cons, List.any_nil, Bool.or_false]
  exact decide_eq_false h2
theorem long_yes {A : List (List UInt8)} {k : Nat} (hk : k < A.length) (h2 : 4096 < (A.getD k []).length) : longA A = true := by
  unfold longA
  rw [List.any_eq_true]
  rw [List.getD_eq_getElem?_getD, List.getElem?_eq_getElem hk] at h2
  exact ⟨A[k], List.getElem_mem hk, decide_eq_true h2⟩

set_option maxRecDepth 100000 in
set_option maxHeartbeats 1000000 in
theorem indexFunc_any (va : Value) (A : List (List UInt8)) (w : World) (ha : Strs w va A) (hn : A.length ≤ 9223372036854775807) :
    Calls Tryz.prog 134 #[va, .func (.func 127) #[] #[]] w fun e w' => ∃ i : Int, e = .returned (.int .i64 i) ∧ decide (0 ≤ i) = longA A ∧ w' = w := by
  obtain ⟨aa, ca, rfl⟩ := ha.shape
  have HA := hid ha
  clear ha
  go_enter Tryz.func134, Tryz.ntmps134
  go_wp2
  go_loopw [8] (fun i wr => ∃ k : Nat, k ≤ A.length ∧ i = .int .i64 k ∧ wr = w ∧ Hid (longA (A.take k) = false)) (fun i _ => A.length - (intOf i).toNat)
  case atStart => exact ⟨0, by omega, rfl, rfl, hid (by simp [longA])⟩
  case round =>
    obtain ⟨k, hk, rfl, rfl, HL⟩ := hrel
    by_cases hlt : k < A.length
    · obtain ⟨g1, o1, rfl, c1⟩ := HA.out.at k hlt
      have HT := hid (tooLong_any (A.getD k []) wr)
      have hki : (k : Int) < (A.length : Int) := by omega
      have hd : decide ((k : Int) < (A.length : Int)) = true := by simpa using hki
      have hkw : IntKind.i64.wrap ((k : Int) + 1) = (k : Int) + 1 := by rw [IntKind.wrap_i64]; omega
      by_cases hlg : 4096 < (A.getD k []).length
      · have HY := hid (long_yes hlt hlg)
        rw [decide_eq_true hlg] at HT
        clear hlg
        generalize mk (A.getD k []) = s at *
        go_wp2_with fail
        refine HT.out.mono ?_
        rintro e w2 ⟨rfl, hw2⟩
        subst hw2
        go_wp2
        go_ret
        exact ⟨_, rfl, by rw [HY.out]; exact decide_eq_true (by omega), rfl⟩
      · have HN := hid (long_no hlt HL.out hlg)
        rw [decide_eq_false hlg] at HT
        clear hlg
        generalize mk (A.getD k []) = s at *
        go_wp2_with fail
        refine HT.out.mono ?_
        rintro e w2 ⟨rfl, hw2⟩
        subst hw2
        go_wp2
        exact ⟨⟨k + 1, by omega, by simp, by first | rfl | trivial, HN⟩, by simp [intOf]; omega⟩
    · obtain rfl : k = A.length := by omega
      rw [List.take_length] at HL
      go_wp2
      go_ret
      exact ⟨_, rfl, by rw [HL.out]; rfl, rfl⟩

set_option maxRecDepth 100000 in
set_option maxHeartbeats 1000000 in
theorem containsFunc_any (va : Value) (A : List (List UInt8)) (w : World) (ha : Strs w va A) (hn : A.length ≤ 9223372036854775807) :
    Calls Tryz.prog 128 #[va, .func (.func 127) #[] #[]] w fun e w' => e = .returned (.bool (longA A)) ∧ w' = w := by
  have HI := hid (indexFunc_any va A w ha hn)
  obtain ⟨aa, ca, rfl⟩ := ha.shape
  clear ha
  go_enter Tryz.func128, Tryz.ntmps128
  go_wp2_with fail
  refine HI.out.mono ?_
  rintro e w2 ⟨i, rfl, hi, hw2⟩
  subst hw2
  have HQ := hid hi
  clear hi HI
  go_wp2
  go_ret
  exact ⟨ret_eq HQ.out, rfl⟩

end Go.Proofs.YtiibhccbbpgehabGreat

/- A request's fields: all conditions together. -/
namespace Go.Proofs.YtiibhccbbpgehabGreat
open Go.RowKit Go.BigFrame

set_option maxRecDepth 100000 in
set_option maxHeartbeats 2000000 in
theorem mayRequest_any (f : Fr) (va : Value) (w : World) (hf : f.tool.length = 32) (ha : Strs w va f.args) (hn : f.args.length ≤ 9223372036854775807) :
    Calls Tryz.prog 107 #[.agg (fcells f va).toArray] w fun e w' => e = .returned (.bool (mayReqP f)) ∧ Below w.heap.size w w' := by
  have HNB := hid (hp_new w (.cells (fcells f va).toArray 65))
  have HBL := hid (below_walk w (.cells (fcells f va).toArray 65))
  have HS := hid (ha.below HBL.out)
  have HF := hid hf
  have HN := hid hn
  unfold mayReqP
  obtain ⟨ao, c, rfl⟩ := ha.shape
  clear hf ha hn
  go_enter Tryz.func107, Tryz.ntmps107
  go_upto_region 1 with fail
  generalize w.alloc (.cells (fcells f (.slice ao f.args.length c)).toArray 65) = w1 at HNB HBL HS ⊢
  have HL1 := hid (hp_lt HNB.out)
  have HFB := hid (Fb.of HNB.out HF.out)
  have x1 := HFB.out.l1
  have x2 := HFB.out.l2
  have x3 := HFB.out.l3
  go_upto_region 3 with fail
  have HBL2 := hid (below_then HBL.out (below_walk w1 (.cells #[.int .i64 f.lim.1, .int .i64 f.lim.2.1, .int .i64 f.lim.2.2] 62)))
  have HNX := hid (hp_new w1 (.cells #[.int .i64 f.lim.1, .int .i64 f.lim.2.1, .int .i64 f.lim.2.2] 62))
  have HS2 := hid (HS.out.below (below_walk w1 (.cells #[.int .i64 f.lim.1, .int .i64 f.lim.2.1, .int .i64 f.lim.2.2] 62)))
  have y40 : (w1.alloc (.cells #[.int .i64 f.lim.1, .int .i64 f.lim.2.1, .int .i64 f.lim.2.2] 62)).cell? ⟨w.heap.size, 40, none⟩ = some (.slice ao f.args.length c) := ((below_walk w1 (.cells #[.int .i64 f.lim.1, .int .i64 f.lim.2.1, .int .i64 f.lim.2.2] 62)).cell (p := ⟨w.heap.size, 40, none⟩) HL1.out).trans HFB.out.a
  obtain ⟨B3, HB3⟩ : ∃ b : Nat, Hid (w1.heap.size = b) := ⟨_, rfl⟩
  rw [HB3.out] at HNX ⊢
  generalize w1.alloc (.cells #[.int .i64 f.lim.1, .int .i64 f.lim.2.1, .int .i64 f.lim.2.2] 62) = w2 at HBL2 HNX HS2 y40 ⊢
  have z0 := cell_of_row w2 B3 0 _ _ _ HNX.out
  have z1 := cell_of_row w2 B3 1 _ _ _ HNX.out
  have z2 := cell_of_row w2 B3 2 _ _ _ HNX.out
  simp at z0 z1 z2
  have HCF := hid (containsFunc_any _ f.args w2 HS2.out HN.out)
  clear x1 x2 x3 HFB HNB HBL HS HL1 HNX HS2 HN HF
  by_cases h0 : 0 ≤ f.lim.1
  · have q0 : decide (0 ≤ f.lim.1) = true := by simpa using h0
    by_cases h1 : 0 ≤ f.lim.2.1
    · have q1 : decide (0 ≤ f.lim.2.1) = true := by simpa using h1
      by_cases h2 : 0 ≤ f.lim.2.2
      · have q2 : decide (0 ≤ f.lim.2.2) = true := by simpa using h2
        by_cases h3 : f.args.length ≤ 8
        · have q3 : decide ((f.args.length : Int) ≤ 8) = true := by simp; omega
          have q3b : (f.args.length : Int) ≤ 8 := by omega
          obtain ⟨b, HBB⟩ : ∃ b, Hid (longA f.args = b) := ⟨_, rfl⟩
          rw [HBB.out] at HCF
          have HR := hid (show (!b) = decide (0 ≤ f.lim.1 ∧ 0 ≤ f.lim.2.1 ∧ 0 ≤ f.lim.2.2 ∧ f.args.length ≤ 8 ∧ longA f.args = false) by rw [HBB.out]; cases b <;> simp [h0, h1, h2, h3])
          go_wp2_with fail
          refine HCF.out.mono ?_
          rintro e w3 ⟨rfl, hw3⟩
          subst hw3
          cases b with
          | false =>
            go_wp2
            go_ret
            first | exact ⟨ret_eq HR.out, HBL2.out⟩ | exact ⟨rfl, HBL2.out⟩
          | true =>
            go_wp2
            go_ret
            first | exact ⟨ret_eq HR.out, HBL2.out⟩ | exact ⟨rfl, HBL2.out⟩
        · have q3 : decide ((f.args.length : Int) ≤ 8) = false := by simp; omega
          have q3b : ¬ (f.args.length : Int) ≤ 8 := by omega
          have HR := hid (show false = decide (0 ≤ f.lim.1 ∧ 0 ≤ f.lim.2.1 ∧ 0 ≤ f.lim.2.2 ∧ f.args.length ≤ 8 ∧ longA f.args = false) from (decide_eq_false (fun h => h3 h.2.2.2.1)).symm)
          clear HCF
          go_wp2
          go_ret
          first | exact ⟨ret_eq HR.out, HBL2.out⟩ | exact ⟨rfl, HBL2.out⟩
      · have q2 : decide (0 ≤ f.lim.2.2) = false := by simpa using h2
        have HR := hid (show false = decide (0 ≤ f.lim.1 ∧ 0 ≤ f.lim.2.1 ∧ 0 ≤ f.lim.2.2 ∧ f.args.length ≤ 8 ∧ longA f.args = false) from (decide_eq_false (fun h => h2 h.2.2.1)).symm)
        clear HCF
        go_wp2
        go_ret
        first | exact ⟨ret_eq HR.out, HBL2.out⟩ | exact ⟨rfl, HBL2.out⟩
    · have q1 : decide (0 ≤ f.lim.2.1) = false := by simpa using h1
      have HR := hid (show false = decide (0 ≤ f.lim.1 ∧ 0 ≤ f.lim.2.1 ∧ 0 ≤ f.lim.2.2 ∧ f.args.length ≤ 8 ∧ longA f.args = false) from (decide_eq_false (fun h => h1 h.2.1)).symm)
      clear HCF
      go_wp2
      go_ret
      first | exact ⟨ret_eq HR.out, HBL2.out⟩ | exact ⟨rfl, HBL2.out⟩
  · have q0 : decide (0 ≤ f.lim.1) = false := by simpa using h0
    have HR := hid (show false = decide (0 ≤ f.lim.1 ∧ 0 ≤ f.lim.2.1 ∧ 0 ≤ f.lim.2.2 ∧ f.args.length ≤ 8 ∧ longA f.args = false) from (decide_eq_false (fun h => h0 h.1)).symm)
    clear HCF
    go_wp2
    go_ret
    first | exact ⟨ret_eq HR.out, HBL2.out⟩ | exact ⟨rfl, HBL2.out⟩

end Go.Proofs.YtiibhccbbpgehabGreat

/- What a frame's plan is, plainly; the plan of a frame of no kind. -/
namespace Go.Proofs.YtiibhccbbpgehabGreat
open Go.RowKit Go.BigFrame

/-- what plan answers: of the kind's row, whether it is what it owns, whether it may be, how long it is -/
def planA (k : List Value) (S M : Bool) (Z : Int) : Value :=
  if (S && M) = true then (if 2097152 < Z then .tuple #[.agg zRow.toArray, .int .i64 0, .int .i64 3] else .tuple #[.agg k.toArray, .int .i64 Z, .int .i64 0]) else .tuple #[.agg zRow.toArray, .int .i64 0, .int .i64 70]
theorem own_strs {W : World} {va : Value} {f : Fr} (h : Strs W va f.args) : Strs W (ownV f va) (ownF f).args := by
  unfold ownV ownF
  repeat' split
  all_goals first | exact h | exact strs_nil W | omega
theorem built_zRow : Tryz.prog.built 153 [] = some zRow.toArray := by kernel_rfl

end Go.Proofs.YtiibhccbbpgehabGreat

/- Encode, Check and Size of the program, out of the plan. -/
namespace Go.Proofs.YtiibhccbbpgehabGreat
open Go.RowKit Go.BigFrame

theorem put_zk (w : World) (Z KN : Nat) (hZ : Z ≤ 2097152) (hK : KN ≤ 6) : Calls Tryz.prog 125 #[.slice none 0 0, .slice (some ⟨w.heap.size, 0, none⟩) 2 2] (w.alloc (.cells #[.int .i64 (Z : Nat), .int .i64 (KN : Nat)] 3)) fun e w' => ∃ ao n c, e = .returned (.slice ao n c) ∧ Src w' (.slice ao n c) (sns [Z, KN]) ∧ Below w.heap.size w w' := by
  refine (putCounts_any nS _ [] [Z, KN] _ (srcNil _) (nums_two w Z KN) (by simp; omega) (by simp) (by simp)).mono ?_
  rintro e w' ⟨v, rfl, hs, hb⟩
  have hs' : Src w' v (sns [Z, KN]) := by simpa using hs
  obtain ⟨ao, n, c, rfl⟩ := src_named hs'
  exact ⟨ao, n, c, rfl, hs', below_then (below_walk w _) hb⟩

end Go.Proofs.YtiibhccbbpgehabGreat

/- Of how many bytes a body has, plainly. -/
namespace Go.Proofs.YtiibhccbbpgehabGreat
open Go.RowKit

theorem mk_data (B : List UInt8) : (mk B).data.toList = B := rfl
theorem tx_body (B : List UInt8) : tx (mk B) = sn B.length ++ B := by
  unfold tx
  rw [mk_size, mk_data]
theorem sn_zero : (sn 0).length = 1 := rfl
theorem tx_empty : (tx (mk [])).length = 1 := rfl
/-- a kind with a Body: what is reckoned is what is laid down -/
theorem reck_body (X : List UInt8) (B : List UInt8) : (((X ++ tx (mk [])).length : Int) + ((sn B.length).length : Int) - 1 + (B.length : Int)) = ((X ++ tx (mk B)).length : Int) := by
  rw [List.length_append, List.length_append, tx_empty, tx_body, List.length_append]
  omega
/-- a kind without a Body -/
theorem reck_none (X : List UInt8) : ((X.length : Int) + ((sn ([] : List UInt8).length).length : Int) - 1 + (([] : List UInt8).length : Int)) = (X.length : Int) := by
  rw [show ([] : List UInt8).length = 0 from rfl, sn_zero]
  omega
theorem txs_len : ∀ A : List (List UInt8), (∀ t ∈ A, t.length ≤ 4096) → (txs (A.map mk)).length ≤ A.length * 4106
  | [], _ => by simp [txs]
  | a :: r, h => by
    have ih := txs_len r (fun t ht => h t (by simp [ht]))
    have h1 := tx_len2 (mk a)
    rw [mk_size] at h1
    have h2 := h a (by simp)
    simp only [txs, List.map_cons, List.flatMap_cons, List.length_append, List.length_cons] at ih ⊢
    omega
theorem long_all {A : List (List UInt8)} (h : longA A = false) : ∀ t ∈ A, t.length ≤ 4096 := by
  intro t ht
  unfold longA at h
  rw [List.any_eq_false] at h
  have := h t ht
  simp at this
  omega
/-- the sum of lengths of a request's texts -/
theorem args_len {A : List (List UInt8)} (h : longA A = false) (hn : A.length ≤ 8) : (txs (A.map mk)).length ≤ 100000 := by
  have := txs_len A (long_all h)
  omega
theorem int_nat {x : Int} (h : 0 ≤ x) : ∃ n : Nat, x = (n : Int) := ⟨x.toNat, by omega⟩
end Go.Proofs.YtiibhccbbpgehabGreat

/- Frames as bytes, plainly. -/
namespace Go.Proofs.YtiibhccbbpgehabGreat
open Go.RowKit

/-- a frame's fields as bytes, behind its kind -/
def layP (f : Fr) : List UInt8 :=
  if f.kind = 1 then sns [f.ver.toNat, f.slots.toNat] ++ f.tool else if f.kind = 2 then layReqP f.id.toNat f.lim.1.toNat f.lim.2.1.toNat f.lim.2.2.toNat f.args f.body else if f.kind = 3 then sn f.id.toNat ++ (sns [f.status.toNat] ++ tx (mk f.body)) else if f.kind = 4 then sn f.id.toNat else if f.kind = 6 then tx (mk f.body) else []
def bodyP (f : Fr) : List UInt8 := sn f.kind.toNat ++ layP f
def mayF (f : Fr) : Bool := if f.kind = 1 then mayHelloP f else if f.kind = 2 then mayReqP f else if f.kind = 3 then mayResP f else true
def okFr (f : Fr) : Bool := decide (1 ≤ f.kind ∧ f.kind ≤ 6) && (sameP f (ownF f) && mayF f)
/-- what Check answers -/
def chkE (f : Fr) : Int := if okFr f = true then (if 2097152 < (bodyP f).length then 3 else 0) else 70
/-- a frame's bytes -/
def encP (f : Fr) : List UInt8 := sealP (sn (bodyP f).length ++ bodyP f)
/-- a frame whose fields are within their types -/
structure Rng (f : Fr) : Prop where
  intro ::
  tool : f.tool.length = 32
  idl : 0 ≤ f.id
  idh : f.id ≤ 18446744073709551615
  ver : f.ver ≤ 9223372036854775807
  slots : f.slots ≤ 9223372036854775807
  status : f.status ≤ 9223372036854775807
  l1 : f.lim.1 ≤ 9223372036854775807
  l2 : f.lim.2.1 ≤ 9223372036854775807
  l3 : f.lim.2.2 ≤ 9223372036854775807
  body : f.body.length ≤ 140737488355327
  many : f.args.length ≤ 9223372036854775807
theorem Rng.noBody {f : Fr} (h : Rng f) : Rng (noBody f) := ⟨h.tool, h.idl, h.idh, h.ver, h.slots, h.status, h.l1, h.l2, h.l3, by simp [Go.Proofs.YtiibhccbbpgehabGreat.noBody], h.many⟩

theorem lay_1 (f : Fr) (h : f.kind = 1) : layP f = sns [f.ver.toNat, f.slots.toNat] ++ f.tool := by unfold layP; rw [if_pos h]
theorem lay_2 (f : Fr) (h : f.kind = 2) : layP f = layReqP f.id.toNat f.lim.1.toNat f.lim.2.1.toNat f.lim.2.2.toNat f.args f.body := by unfold layP; rw [if_neg (by omega), if_pos h]
theorem lay_3 (f : Fr) (h : f.kind = 3) : layP f = sn f.id.toNat ++ (sns [f.status.toNat] ++ tx (mk f.body)) := by unfold layP; rw [if_neg (by omega), if_neg (by omega), if_pos h]
theorem lay_4 (f : Fr) (h : f.kind = 4) : layP f = sn f.id.toNat := by unfold layP; rw [if_neg (by omega), if_neg (by omega), if_neg (by omega), if_pos h]
theorem lay_5 (f : Fr) (h : f.kind = 5) : layP f = [] := by unfold layP; rw [if_neg (by omega), if_neg (by omega), if_neg (by omega), if_neg (by omega), if_neg (by omega)]
theorem lay_6 (f : Fr) (h : f.kind = 6) : layP f = tx (mk f.body) := by unfold layP; rw [if_neg (by omega), if_neg (by omega), if_neg (by omega), if_neg (by omega), if_pos h]
theorem own_1 (f : Fr) (h : f.kind = 1) : ownF f = ⟨1, 0, f.ver, f.slots, f.tool, 0, (0, 0, 0), [], []⟩ := by unfold ownF; rw [if_pos h]
theorem own_2 (f : Fr) (h : f.kind = 2) : ownF f = reqF f.id f.lim f.args f.body := by unfold ownF; rw [if_neg (by omega), if_pos h]
theorem own_3 (f : Fr) (h : f.kind = 3) : ownF f = resF f.id f.status f.body := by unfold ownF; rw [if_neg (by omega), if_neg (by omega), if_pos h]
theorem own_4 (f : Fr) (h : f.kind = 4) : ownF f = canF f.id := by unfold ownF; rw [if_neg (by omega), if_neg (by omega), if_neg (by omega), if_pos h]
theorem own_5 (f : Fr) (h : f.kind = 5) : ownF f = byeF := by unfold ownF; rw [if_neg (by omega), if_neg (by omega), if_neg (by omega), if_neg (by omega), if_pos h]
theorem own_6 (f : Fr) (h : f.kind = 6) : ownF f = noteF f.body := by unfold ownF; rw [if_neg (by omega), if_neg (by omega), if_neg (by omega), if_neg (by omega), if_neg (by omega), if_pos h]
theorem same_eq {f g : Fr} (h : sameP f g = true) : f = g := by
  unfold sameP at h
  obtain ⟨a, b, c, d, e, x, y, z, u⟩ := of_decide_eq_true h
  cases f; cases g
  simp only at a b c d e x y z u
  subst a b c d e x y z u
  rfl
theorem same_own_body {f : Fr} (h : sameP f (ownF f) = true) (hk : f.kind = 1 ∨ f.kind = 4 ∨ f.kind = 5) : f.body = [] := by
  have e := congrArg Fr.body (same_eq h)
  rcases hk with k | k | k
  · rw [own_1 f k] at e; exact e
  · rw [own_4 f k] at e; exact e
  · rw [own_5 f k] at e; exact e
theorem sns_two (a b : Nat) : sns [a, b] = sn a ++ sn b := by simp [sns]
theorem sns_one (a : Nat) : sns [a] = sn a := by simp [sns]
theorem sns_thr (a b c : Nat) : sns [a, b, c] = sn a ++ (sn b ++ sn c) := by simp [sns]
theorem tx_len_ge (B : List UInt8) : B.length ≤ (tx (mk B)).length := by
  rw [tx_body, List.length_append]
  omega
theorem ls_len {A : List (List UInt8)} (h : longA A = false) (hn : A.length ≤ 8) : (ls (A.map mk)).length ≤ 100010 := by
  have := args_len h hn
  have h2 := sn_length_le (A.map mk).length
  unfold ls
  rw [List.length_append]
  omega
/-- what a frame's size is reckoned to be is how many bytes its body has -/
theorem reck_any (f : Fr) (h : sameP f (ownF f) = true) (hk : 1 ≤ f.kind ∧ f.kind ≤ 6) (K : Nat) (hK : f.kind = (K : Int)) :
    ((sn K ++ layP (noBody f)).length : Int) + ((sn f.body.length).length : Int) - 1 + (f.body.length : Int) = ((bodyP f).length : Int) := by
  unfold bodyP
  rw [show f.kind.toNat = K by omega]
  have hc : f.kind = 1 ∨ f.kind = 2 ∨ f.kind = 3 ∨ f.kind = 4 ∨ f.kind = 5 ∨ f.kind = 6 := by omega
  rcases hc with k | k | k | k | k | k
  · rw [same_own_body h (Or.inl k), lay_1 f k, lay_1 (noBody f) k]
    exact reck_none _
  · rw [lay_2 f k, lay_2 (noBody f) k]
    unfold layReqP
    simp only [← List.append_assoc]
    exact reck_body _ _
  · rw [lay_3 f k, lay_3 (noBody f) k]
    simp only [← List.append_assoc]
    exact reck_body _ _
  · rw [same_own_body h (Or.inr (Or.inl k)), lay_4 f k, lay_4 (noBody f) k]
    exact reck_none _
  · rw [same_own_body h (Or.inr (Or.inr k)), lay_5 f k, lay_5 (noBody f) k]
    exact reck_none _
  · rw [lay_6 f k, lay_6 (noBody f) k]
    exact reck_body _ _
theorem mayReq_of {f : Fr} (h : mayReqP f = true) : 0 ≤ f.lim.1 ∧ 0 ≤ f.lim.2.1 ∧ 0 ≤ f.lim.2.2 ∧ f.args.length ≤ 8 ∧ longA f.args = false := of_decide_eq_true h
theorem mayHello_of {f : Fr} (h : mayHelloP f = true) : f.ver = 1 ∧ 1 ≤ f.slots ∧ f.slots ≤ 64 := of_decide_eq_true h
theorem mayRes_of {f : Fr} (h : mayResP f = true) : 1 ≤ f.status ∧ f.status ≤ 3 := by
  rcases of_decide_eq_true h with h | ⟨h | h, _⟩ <;> omega
theorem lay_short (f : Fr) (hm : mayF f = true) (ht : f.tool.length = 32) : (layP (noBody f)).length ≤ 1000000 := by
  unfold mayF at hm
  have h1 := sn_length_le f.id.toNat
  have hm0 : (tx (mk (noBody f).body)).length = 1 := rfl
  by_cases k1 : f.kind = 1
  · have := sns_length [f.ver.toNat, f.slots.toNat]
    rw [lay_1 (noBody f) k1]
    simp only [List.length_append, List.length_cons, List.length_nil] at this ⊢
    show (sns [f.ver.toNat, f.slots.toNat]).length + f.tool.length ≤ 1000000
    omega
  · rw [if_neg k1] at hm
    by_cases k2 : f.kind = 2
    · rw [if_pos k2] at hm
      obtain ⟨_, _, _, hA, hL⟩ := mayReq_of hm
      have h2 := ls_len hL hA
      have h3 := sns_length [f.lim.1.toNat, f.lim.2.1.toNat, f.lim.2.2.toNat]
      rw [lay_2 (noBody f) k2]
      unfold layReqP
      simp only [List.length_append, List.length_cons, List.length_nil] at h3 ⊢
      rw [hm0]
      show (sn f.id.toNat).length + ((sns [f.lim.1.toNat, f.lim.2.1.toNat, f.lim.2.2.toNat]).length + ((ls (f.args.map mk)).length + 1)) ≤ 1000000
      omega
    · by_cases k3 : f.kind = 3
      · have h3 := sns_length [f.status.toNat]
        rw [lay_3 (noBody f) k3]
        simp only [List.length_append, List.length_cons, List.length_nil] at h3 ⊢
        rw [hm0]
        show (sn f.id.toNat).length + ((sns [f.status.toNat]).length + 1) ≤ 1000000
        omega
      · by_cases k4 : f.kind = 4
        · rw [lay_4 (noBody f) k4]
          show (sn f.id.toNat).length ≤ 1000000
          omega
        · by_cases k6 : f.kind = 6
          · rw [lay_6 (noBody f) k6, hm0]
            omega
          · unfold layP
            rw [if_neg (show ¬ (noBody f).kind = 1 from k1), if_neg (show ¬ (noBody f).kind = 2 from k2), if_neg (show ¬ (noBody f).kind = 3 from k3), if_neg (show ¬ (noBody f).kind = 4 from k4), if_neg (show ¬ (noBody f).kind = 6 from k6)]
            simp
theorem body_le (f : Fr) (h : f.kind = 2 ∨ f.kind = 3 ∨ f.kind = 6) (hl : (bodyP f).length ≤ 2097152) : f.body.length ≤ 2097152 := by
  have h1 := tx_len_ge f.body
  unfold bodyP at hl
  rw [List.length_append] at hl
  rcases h with k | k | k
  · rw [lay_2 f k] at hl
    unfold layReqP at hl
    simp only [List.length_append] at hl
    omega
  · rw [lay_3 f k] at hl
    simp only [List.length_append] at hl
    omega
  · rw [lay_6 f k] at hl
    omega
end Go.Proofs.YtiibhccbbpgehabGreat

/- lay and told of the statements: what the program lays behind bytes, and what the document says, are the same bytes. -/
namespace Go.Proofs.YtiibhccbbpgehabGreat
open Go.RowKit

/-- which of five -/
def five (K : Int) : Int := (wrap64 (K.tmod 5 + 5)).tmod 5
/-- the bytes of one thing laid down -/
def putB (K : Int) (U : Nat) (I : Int) (ss : List ByteArray) : List UInt8 :=
  if (five K == 0) = true then sn U else if (five K == 1) = true then sn (zz I) else if (five K == 2) = true then [if (((U : Int) % 2) == 1) = true then 1 else 0] else if (five K == 3) = true then txs ss else ls ss

theorem putB_len (K : Int) (U : Nat) (I : Int) (ss : List ByteArray) : (putB K U I ss).length ≤ (txs ss).length + 10 := by
  have h1 := sn_length_le U
  have h2 := sn_length_le (zz I)
  have h3 := sn_length_le ss.length
  unfold putB ls
  split
  · omega
  · split
    · omega
    · split
      · simp
      · split
        · omega
        · simp; omega

/-- what is asked of one thing laid down -/
structure PutOk (w : World) (U : Nat) (I : Int) (tv : Value) (ss : List ByteArray) : Prop where
  u : U < 18446744073709551616
  i0 : -9223372036854775808 ≤ I
  i1 : I ≤ 9223372036854775807
  strs : WStrs w tv ss
  len : (txs ss).length ≤ 549755813888

theorem PutOk.below {w w' : World} {U : Nat} {I : Int} {tv : Value} {ss : List ByteArray} (h : PutOk w U I tv ss) (hb : Below w.heap.size w w') : PutOk w' U I tv ss := ⟨h.u, h.i0, h.i1, h.strs.below hb, h.len⟩

theorem putB0 {K : Int} {U : Nat} {I : Int} {ss : List ByteArray}  (h0 : ((wrap64 (K.tmod 5 + 5)).tmod 5 == 0) = true) : putB K U I ss = sn U := by
  unfold putB five
  rw [if_pos h0]
theorem putB1 {K : Int} {U : Nat} {I : Int} {ss : List ByteArray} (h0 : ((wrap64 (K.tmod 5 + 5)).tmod 5 == 0) = false) (h1 : ((wrap64 (K.tmod 5 + 5)).tmod 5 == 1) = true) : putB K U I ss = sn (zz I) := by
  unfold putB five
  rw [if_neg (by rw [h0]; decide), if_pos h1]
theorem putB2 {K : Int} {U : Nat} {I : Int} {ss : List ByteArray} (h0 : ((wrap64 (K.tmod 5 + 5)).tmod 5 == 0) = false) (h1 : ((wrap64 (K.tmod 5 + 5)).tmod 5 == 1) = false) (h2 : ((wrap64 (K.tmod 5 + 5)).tmod 5 == 2) = true) : putB K U I ss = [if (((U : Int) % 2) == 1) = true then 1 else 0] := by
  unfold putB five
  rw [if_neg (by rw [h0]; decide), if_neg (by rw [h1]; decide), if_pos h2]
theorem putB3 {K : Int} {U : Nat} {I : Int} {ss : List ByteArray} (h0 : ((wrap64 (K.tmod 5 + 5)).tmod 5 == 0) = false) (h1 : ((wrap64 (K.tmod 5 + 5)).tmod 5 == 1) = false) (h2 : ((wrap64 (K.tmod 5 + 5)).tmod 5 == 2) = false) (h3 : ((wrap64 (K.tmod 5 + 5)).tmod 5 == 3) = true) : putB K U I ss = txs ss := by
  unfold putB five
  rw [if_neg (by rw [h0]; decide), if_neg (by rw [h1]; decide), if_neg (by rw [h2]; decide), if_pos h3]
theorem putB4 {K : Int} {U : Nat} {I : Int} {ss : List ByteArray} (h0 : ((wrap64 (K.tmod 5 + 5)).tmod 5 == 0) = false) (h1 : ((wrap64 (K.tmod 5 + 5)).tmod 5 == 1) = false) (h2 : ((wrap64 (K.tmod 5 + 5)).tmod 5 == 2) = false) (h3 : ((wrap64 (K.tmod 5 + 5)).tmod 5 == 3) = false) : putB K U I ss = ls ss := by
  unfold putB five
  rw [if_neg (by rw [h0]; decide), if_neg (by rw [h1]; decide), if_neg (by rw [h2]; decide), if_neg (by rw [h3]; decide)]

end Go.Proofs.YtiibhccbbpgehabGreat

/- The law WirePuts, walked: it answers true, and only makes memory. -/
namespace Go.Proofs.YtiibhccbbpgehabGreat
open Go.RowKit

/-- one thing laid down, as it is read -/
structure PutD where
  k : Int
  u : Nat
  i : Int
  tv : Value
  ss : List ByteArray
def PutD.bytes (d : PutD) : List UInt8 := putB d.k d.u d.i d.ss
def allB (ps : List PutD) : List UInt8 := ps.flatMap PutD.bytes
/-- v is a slice that holds the things ps, wherever they lie -/
def PutsAt (w : World) (v : Value) (ps : List PutD) : Prop :=
  (∃ ao c, v = .slice ao 0 c ∧ ps = []) ∨ ∃ g o c, v = .slice (some ⟨g, o, none⟩) ps.length c ∧ g < w.heap.size ∧ ∀ j d, ps[j]? = some d →
    w.cell? ⟨g, o + j * 4, none⟩ = some (.int .i64 d.k) ∧ w.cell? ⟨g, o + j * 4 + 1, none⟩ = some (.int .u64 d.u) ∧ w.cell? ⟨g, o + j * 4 + 2, none⟩ = some (.int .i64 d.i) ∧ w.cell? ⟨g, o + j * 4 + 3, none⟩ = some d.tv ∧ PutOk w d.u d.i d.tv d.ss

theorem allB_snoc {ps : List PutD} {k : Nat} {d : PutD} (h : ps[k]? = some d) : allB (ps.take (k + 1)) = allB (ps.take k) ++ d.bytes := by
  obtain ⟨hk, he⟩ := List.getElem?_eq_some_iff.1 h
  rw [List.take_succ_eq_append_getElem hk, he]
  simp [allB]
theorem allB_append (a b : List PutD) : allB (a ++ b) = allB a ++ allB b := by simp [allB]
theorem allB_take_le (ps : List PutD) (k : Nat) : (allB (ps.take k)).length ≤ (allB ps).length := by
  have e := allB_append (ps.take k) (ps.drop k)
  rw [List.take_append_drop] at e
  rw [e]; simp

theorem OwnB.far {w w' : World} {base : Nat} {v : Value} {bs : List UInt8} {row : Option Nat} (h : OwnB w base v bs) (hg : w.grownBy w' row) (hr : ∀ j, row = some j → j < base) : OwnB w' base v bs := by
  refine h.kept hg ?_
  cases e : v.ownBlock with
  | none => exact Or.inl rfl
  | some j =>
    refine Or.inr (fun e2 => ?_)
    have h1 := (h.lt j e).1
    have h2 := hr j e2.symm
    omega

theorem refUint_len (n : Nat) (w : World) (hn : n < 18446744073709551616) :
    Calls Tryz.prog 46 #[.int .u64 n] w fun e w' => ∃ ao c, e = .returned (.slice ao (sn n).length c) ∧ Below w.heap.size w w' := by
  refine (refUint_any n w hn).mono ?_
  rintro e w' ⟨v, rfl, ho, hb⟩
  obtain ⟨ao, c, rfl⟩ := ho.shape
  exact ⟨ao, c, rfl, hb⟩

theorem sn_300 : sn 300 = [172, 2] := by decide
theorem size_300 (w : World) : Calls Tryz.prog 42 #[.int .u64 300] w fun e w' => e = .returned (.int .i64 2) ∧ w' = w := by
  have h := size_any 300 w (by omega)
  rw [sn_300] at h
  exact h
theorem put_300 (v0 : Value) (w : World) (hs : Src w v0 [7]) : Calls Tryz.prog 22 #[v0, .int .u64 300] w fun e w' => ∃ v, e = .returned v ∧ OwnB w' w.heap.size v [7, 172, 2] ∧ Below w.heap.size w w' := by
  have h := putUint_any v0 [7] 300 w hs (by omega) (by simp)
  rw [sn_300] at h
  exact h

theorem own_three (w : World) : OwnB (w.alloc (.cells #[.int .u8 7, .int .u8 172, .int .u8 2] 5)) w.heap.size (.slice (some ⟨w.heap.size, 0, none⟩) 3 3) [7, 172, 2] :=
  ⟨rfl, Or.inr ⟨w.heap.size, 3, #[.int .u8 7, .int .u8 172, .int .u8 2], rfl, Nat.le_refl _, heap_alloc_new w _, Nat.le_refl _, by unfold maxLen; omega, rfl, rfl⟩⟩

end Go.Proofs.YtiibhccbbpgehabGreat

/- Short numbers read: the plain mathematics. Nothing here speaks of the program. -/
namespace Go.Proofs.YtiibhccbbpgehabGreat

/-- the number that stands there, behind i bytes that made acc: the error (0: none), the number, how many bytes it has -/
def dec : List UInt8 → Nat → Nat → Nat × Nat × Nat
  | [], _, _ => (4, 0, 0)
  | c :: r, i, acc => if i = 9 ∧ 1 < c.toNat then (10, 0, 0) else if 0 < i ∧ c.toNat = 0 then (5, 0, 0) else if c.toNat < 128 then (0, acc + c.toNat * 128 ^ i, i + 1) else dec r (i + 1) (acc + (c.toNat - 128) * 128 ^ i)

theorem dec_cons (c : UInt8) (r : List UInt8) (i acc : Nat) : dec (c :: r) i acc = if i = 9 ∧ 1 < c.toNat then (10, 0, 0) else if 0 < i ∧ c.toNat = 0 then (5, 0, 0) else if c.toNat < 128 then (0, acc + c.toNat * 128 ^ i, i + 1) else dec r (i + 1) (acc + (c.toNat - 128) * 128 ^ i) := rfl

theorem pow_mono {i : Nat} (h : i ≤ 9) : 128 ^ i ≤ 9223372036854775808 := by
  have : (128 : Nat) ^ i ≤ 128 ^ 9 := Nat.pow_le_pow_right (by decide) h
  omega
theorem pow_step {i : Nat} (h : i < 9) : 128 ^ i ≤ 72057594037927936 := by
  have : (128 : Nat) ^ i ≤ 128 ^ 8 := Nat.pow_le_pow_right (by decide) (by omega)
  omega

theorem dec_err : ∀ (l : List UInt8) (i acc : Nat), (dec l i acc).1 ≠ 0 → (dec l i acc).2 = (0, 0)
  | [], _, _, _ => rfl
  | c :: r, i, acc, h => by
    rw [dec_cons] at h ⊢
    split
    · rfl
    · split
      · rfl
      · split
        · rename_i h1 h2 h3
          rw [if_neg h1, if_neg h2, if_pos h3] at h
          exact absurd rfl h
        · rename_i h1 h2 h3
          rw [if_neg h1, if_neg h2, if_neg h3] at h
          exact dec_err r (i + 1) _ h

theorem dec_cases : ∀ (l : List UInt8) (i acc : Nat), (dec l i acc).1 = 0 ∨ (dec l i acc).1 = 4 ∨ (dec l i acc).1 = 5 ∨ (dec l i acc).1 = 10
  | [], _, _ => Or.inr (Or.inl rfl)
  | c :: r, i, acc => by
    rw [dec_cons]
    split
    · exact Or.inr (Or.inr (Or.inr rfl))
    · split
      · exact Or.inr (Or.inr (Or.inl rfl))
      · split
        · exact Or.inl rfl
        · exact dec_cases r (i + 1) _

/-- what is read is below 2^64, has that many bytes, and they are its own -/
theorem dec_sound : ∀ (l : List UInt8) (i acc n k : Nat), i ≤ 9 → acc < 128 ^ i → dec l i acc = (0, n, k) →
    i < k ∧ k ≤ i + l.length ∧ n < 18446744073709551616 ∧ ∃ m, n = acc + m * 128 ^ i ∧ l.take (k - i) = sn m ∧ (0 < i → 0 < m) ∧ m < 18446744073709551616
  | [], i, acc, n, k, _, _, h => by simp [dec] at h
  | c :: r, i, acc, n, k, hi, ha, h => by
    rw [dec_cons] at h
    have hc := UInt8.toNat_lt c
    have hp := pow_mono hi
    split at h
    · simp at h
    · rename_i h1
      split at h
      · simp at h
      · rename_i h2
        split at h
        · rename_i h3
          simp only [Prod.mk.injEq, true_and] at h
          obtain ⟨rfl, rfl⟩ := h
          refine ⟨by omega, by simp, ?_, c.toNat, rfl, ?_, by omega, by omega⟩
          · rcases Nat.lt_or_ge i 9 with h9 | h9
            · have := pow_step h9
              have h4 : c.toNat * 128 ^ i ≤ 127 * 72057594037927936 := Nat.mul_le_mul (by omega) this
              omega
            · obtain rfl : i = 9 := by omega
              have h5 : c.toNat ≤ 1 := by omega
              have h4 : c.toNat * 128 ^ 9 ≤ 1 * 128 ^ 9 := Nat.mul_le_mul_right _ h5
              omega
          · rw [sn_lt h3]
            have : i + 1 - i = 1 := by omega
            rw [this]
            simp
        · rename_i h3
          have hi9 : i < 9 := by
            rcases Nat.lt_or_ge i 9 with h9 | h9
            · exact h9
            · exact absurd ⟨by omega, by omega⟩ h1
          have hps : 128 ^ (i + 1) = 128 ^ i * 128 := Nat.pow_succ _ _
          have hacc : acc + (c.toNat - 128) * 128 ^ i < 128 ^ (i + 1) := by
            have : (c.toNat - 128) * 128 ^ i ≤ 127 * 128 ^ i := Nat.mul_le_mul_right _ (by omega)
            rw [hps]; omega
          obtain ⟨h4, h5, h6, m, h7, h8, h9, h10⟩ := dec_sound r (i + 1) _ n k (by omega) hacc h
          refine ⟨by omega, by simp; omega, h6, m * 128 + (c.toNat - 128), ?_, ?_, by have := h9 (by omega); omega, ?_⟩
          · rw [h7, hps, Nat.add_mul, Nat.mul_assoc m 128, Nat.mul_comm 128]; omega
          · have hm := h9 (by omega)
            have hlt : m * 128 + (c.toNat - 128) < 18446744073709551616 := by
              have hpp : 1 ≤ 128 ^ i := Nat.pow_pos (by decide)
              have : m * 128 * 1 ≤ m * 128 * 128 ^ i := Nat.mul_le_mul_left _ hpp
              have h11 : (c.toNat - 128) * 1 ≤ (c.toNat - 128) * 128 ^ i := Nat.mul_le_mul_left _ hpp
              rw [h7, hps] at h6
              have : m * (128 ^ i * 128) = m * 128 * 128 ^ i := by rw [Nat.mul_comm (128 ^ i), Nat.mul_assoc]
              omega
            rw [sn_ge (by omega) hlt]
            have e1 : (m * 128 + (c.toNat - 128)) % 128 + 128 = c.toNat := by omega
            have e2 : (m * 128 + (c.toNat - 128)) / 128 = m := by omega
            have e3 : k - i = (k - (i + 1)) + 1 := by omega
            rw [e1, e2, e3, List.take_succ_cons, h8]
            simp
          · have hpp : 1 ≤ 128 ^ i := Nat.pow_pos (by decide)
            have : m * 128 * 1 ≤ m * 128 * 128 ^ i := Nat.mul_le_mul_left _ hpp
            have h11 : (c.toNat - 128) * 1 ≤ (c.toNat - 128) * 128 ^ i := Nat.mul_le_mul_left _ hpp
            rw [h7, hps] at h6
            have : m * (128 ^ i * 128) = m * 128 * 128 ^ i := by rw [Nat.mul_comm (128 ^ i), Nat.mul_assoc]
            omega

/-- what was laid down is read back, with whatever behind it -/
theorem dec_snF : ∀ (f m i acc : Nat) (r : List UInt8), 0 < f → m < 128 ^ f → i ≤ 9 → m * 128 ^ i < 18446744073709551616 → (0 < i → 0 < m) → dec (snF f m ++ r) i acc = (0, acc + m * 128 ^ i, i + (snF f m).length)
  | 0, _, _, _, _, h, _, _, _, _ => absurd h (Nat.lt_irrefl _)
  | f + 1, m, i, acc, r, _, hm, hi, hlt, hpos => by
    rw [snF_succ]
    by_cases h : m < 128
    · rw [if_pos h]
      have e : (m.toUInt8).toNat = m := by simp; omega
      have h1 : ¬ (i = 9 ∧ 1 < (m.toUInt8).toNat) := by
        rw [e]
        rintro ⟨rfl, h2⟩
        have : 2 * 128 ^ 9 ≤ m * 128 ^ 9 := Nat.mul_le_mul_right _ h2
        omega
      have h2 : ¬ (0 < i ∧ (m.toUInt8).toNat = 0) := by
        rw [e]
        rintro ⟨h3, h4⟩
        have := hpos h3
        omega
      show dec (m.toUInt8 :: r) i acc = _
      rw [dec_cons, if_neg h1, if_neg h2, if_pos (by rw [e]; exact h), e]
      rfl
    · rw [if_neg h]
      have e : ((m % 128 + 128).toUInt8).toNat = m % 128 + 128 := by simp; omega
      have hi9 : i < 9 := by
        rcases Nat.lt_or_ge i 9 with h9 | h9
        · exact h9
        · obtain rfl : i = 9 := by omega
          have : 128 * 128 ^ 9 ≤ m * 128 ^ 9 := Nat.mul_le_mul_right _ (by omega)
          omega
      have hd : m / 128 < 128 ^ f := by
        rw [Nat.pow_succ] at hm
        exact Nat.div_lt_of_lt_mul (by rw [Nat.mul_comm]; exact hm)
      have hf : 0 < f := by
        rcases Nat.eq_zero_or_pos f with rfl | h'
        · simp at hd; omega
        · exact h'
      have hps : 128 ^ (i + 1) = 128 ^ i * 128 := Nat.pow_succ _ _
      have hmul : m / 128 * 128 ^ (i + 1) + m % 128 * 128 ^ i = m * 128 ^ i := by
        rw [hps, ← Nat.mul_assoc, Nat.mul_right_comm, ← Nat.add_mul, Nat.div_add_mod']
      show dec ((m % 128 + 128).toUInt8 :: (snF f (m / 128) ++ r)) i acc = _
      rw [dec_cons, if_neg (by omega), if_neg (by omega), if_neg (by omega), e, dec_snF f (m / 128) (i + 1) _ r hf hd (by omega) (by omega) (by omega)]
      simp only [List.length_cons, Prod.mk.injEq, true_and]
      constructor
      · have : m % 128 + 128 - 128 = m % 128 := by omega
        rw [this]; omega
      · omega
theorem dec_sn (n : Nat) (r : List UInt8) (hn : n < 18446744073709551616) : dec (sn n ++ r) 0 0 = (0, n, (sn n).length) := by
  have := dec_snF 10 n 0 0 r (by omega) (by omega) (by omega) (by omega) (by omega)
  unfold sn
  simpa using this

/-- a beginning: the same, or bytes are missing -/
theorem dec_begin : ∀ (l : List UInt8) (j i acc : Nat), dec (l.take j) i acc = dec l i acc ∨ dec (l.take j) i acc = (4, 0, 0)
  | [], _, _, _ => by simp
  | c :: r, 0, i, acc => Or.inr rfl
  | c :: r, j + 1, i, acc => by
    rw [List.take_succ_cons, dec_cons, dec_cons]
    split
    · exact Or.inl rfl
    · split
      · exact Or.inl rfl
      · split
        · exact Or.inl rfl
        · exact dec_begin r j _ _

theorem dec_ok {l : List UInt8} {n k : Nat} (h : dec l 0 0 = (0, n, k)) : 0 < k ∧ k ≤ l.length ∧ n < 18446744073709551616 ∧ l.take k = sn n := by
  obtain ⟨h1, h2, h3, m, h4, h5, _, _⟩ := dec_sound l 0 0 n k (by omega) (by simp) h
  have e : n = m := by simpa using h4
  subst e
  exact ⟨h1, by omega, h3, by simpa using h5⟩
theorem dec_ok_len {l : List UInt8} {n k : Nat} (h : dec l 0 0 = (0, n, k)) : k = (sn n).length := by
  obtain ⟨_, h2, _, h4⟩ := dec_ok h
  rw [← h4]; simp; omega
theorem dec_le (l : List UInt8) {e n k : Nat} (h : dec l 0 0 = (e, n, k)) : k ≤ l.length ∧ n < 18446744073709551616 ∧ e < 16 ∧ (e ≠ 0 → n = 0 ∧ k = 0) := by
  by_cases he : e = 0
  · subst he
    obtain ⟨_, h2, h3, _⟩ := dec_ok h
    exact ⟨h2, h3, by omega, fun h' => absurd rfl h'⟩
  · have h1 := dec_err l 0 0 (by rw [h]; exact he)
    rw [h] at h1
    simp at h1
    refine ⟨by omega, by omega, ?_, fun _ => h1⟩
    have := dec_cases l 0 0
    rw [h] at this
    simp at this
    omega

end Go.Proofs.YtiibhccbbpgehabGreat

/- place.number over a reader that NewReader gave: it reads the short number that stands there, or tells why there is none. -/
namespace Go.Proofs.YtiibhccbbpgehabGreat
open Go.RowKit

theorem drop_cons {bs : List UInt8} {j : Nat} (h : j < bs.length) : bs.drop j = bs.getD j 0 :: bs.drop (j + 1) := by
  rw [List.drop_eq_getElem_cons h]
  simp [List.getD_eq_getElem?_getD, List.getElem?_eq_getElem h]

theorem bits_and_127_all : ∀ a : Fin 256, bits BinOp.and IntKind.u8 (a.val : Int) 127 = ((a.val % 128 : Nat) : Int) := by decide +kernel
theorem bits_and_127 (c : Nat) (h : c < 256) : bits BinOp.and IntKind.u8 (c : Int) 127 = ((c % 128 : Nat) : Int) := bits_and_127_all ⟨c, h⟩
theorem seven_pow (j : Nat) : (2 : Nat) ^ (7 * j) = 128 ^ j := by rw [Nat.pow_mul]
theorem group_lt {c j : Nat} (hj : j ≤ 9) (h9 : j = 9 → c ≤ 1) : c % 128 * 128 ^ j < 18446744073709551616 := by
  rcases Nat.lt_or_ge j 9 with h | h
  · have h1 := pow_step h
    have : c % 128 * 128 ^ j ≤ 127 * 72057594037927936 := Nat.mul_le_mul (by omega) h1
    omega
  · obtain rfl : j = 9 := by omega
    have h1 := h9 rfl
    have : c % 128 * 128 ^ 9 ≤ 1 * 128 ^ 9 := Nat.mul_le_mul_right _ (by omega)
    omega
/-- one group more -/
theorem num_step {acc c j : Nat} (hj : j ≤ 9) (ha : acc < 128 ^ j) (hc : c < 256) (h9 : j = 9 → c ≤ 1) :
    bits BinOp.or IntKind.u64 (acc : Int) (IntKind.u64.wrap (IntKind.u64.wrap (bits BinOp.and IntKind.u8 (c : Int) 127) * 2 ^ (7 * j))) = ((acc + c % 128 * 128 ^ j : Nat) : Int) := by
  have hg := group_lt hj h9
  have hp := pow_mono hj
  have e1 : IntKind.u64.wrap (bits BinOp.and IntKind.u8 (c : Int) 127) = ((c % 128 : Nat) : Int) := by rw [bits_and_127 c hc, IntKind.wrap_u64]; omega
  have e2 : ((c % 128 : Nat) : Int) * 2 ^ (7 * j) = ((c % 128 * 128 ^ j : Nat) : Int) := by rw [← seven_pow j]; simp
  have e3 : IntKind.u64.wrap ((c % 128 * 128 ^ j : Nat) : Int) = ((c % 128 * 128 ^ j : Nat) : Int) := by rw [IntKind.wrap_u64]; omega
  rw [e1, e2, e3, bits_or_u64 _ _ (by omega) hg]
  have e4 := Nat.two_pow_add_eq_or_of_lt (i := 7 * j) (b := acc) (by rw [seven_pow]; exact ha) (c % 128)
  rw [seven_pow] at e4
  rw [Nat.or_comm, Nat.mul_comm (c % 128), ← e4]
  omega
theorem num_step9 {acc c : Nat} (ha : acc < 128 ^ 9) (h9 : c ≤ 1) :
    bits BinOp.or IntKind.u64 (acc : Int) (IntKind.u64.wrap (IntKind.u64.wrap (bits BinOp.and IntKind.u8 (c : Int) 127) * 9223372036854775808)) = ((acc + c % 128 * 128 ^ 9 : Nat) : Int) :=
  num_step (j := 9) (by omega) ha (by omega) (fun _ => h9)

theorem ret_num {x y : Int} (h : x = y) : Ending.returned (.tuple #[.int .u64 x, .int .i64 0]) = .returned (.tuple #[.int .u64 y, .int .i64 0]) := by rw [h]

section
variable {er n k j c acc : Nat} {r : List UInt8}
theorem end_wide (H : (er, n, k) = if j = 9 ∧ 1 < c then (10, 0, 0) else if 0 < j ∧ c = 0 then (5, 0, 0) else if c < 128 then (0, acc + c * 128 ^ j, j + 1) else dec r (j + 1) (acc + (c - 128) * 128 ^ j)) (h1 : j = 9) (h2 : 1 < c) : er = 10 ∧ n = 0 ∧ k = 0 := by
  rw [if_pos ⟨h1, h2⟩] at H; simpa using H
theorem end_form (H : (er, n, k) = if j = 9 ∧ 1 < c then (10, 0, 0) else if 0 < j ∧ c = 0 then (5, 0, 0) else if c < 128 then (0, acc + c * 128 ^ j, j + 1) else dec r (j + 1) (acc + (c - 128) * 128 ^ j)) (h1 : ¬ (j = 9 ∧ 1 < c)) (h2 : 0 < j) (h3 : c = 0) : er = 5 ∧ n = 0 ∧ k = 0 := by
  rw [if_neg h1, if_pos ⟨h2, h3⟩] at H; simpa using H
theorem end_done (H : (er, n, k) = if j = 9 ∧ 1 < c then (10, 0, 0) else if 0 < j ∧ c = 0 then (5, 0, 0) else if c < 128 then (0, acc + c * 128 ^ j, j + 1) else dec r (j + 1) (acc + (c - 128) * 128 ^ j)) (h1 : ¬ (j = 9 ∧ 1 < c)) (h2 : ¬ (0 < j ∧ c = 0)) (h3 : c < 128) : er = 0 ∧ n = acc + c * 128 ^ j ∧ k = j + 1 := by
  rw [if_neg h1, if_neg h2, if_pos h3] at H; simpa using H
theorem end_more (H : (er, n, k) = if j = 9 ∧ 1 < c then (10, 0, 0) else if 0 < j ∧ c = 0 then (5, 0, 0) else if c < 128 then (0, acc + c * 128 ^ j, j + 1) else dec r (j + 1) (acc + (c - 128) * 128 ^ j)) (h1 : ¬ j = 9) (h2 : 128 ≤ c) : dec r (j + 1) (acc + (c - 128) * 128 ^ j) = (er, n, k) := by
  rw [if_neg (by omega), if_neg (by omega), if_neg (by omega)] at H; exact H.symm
end

set_option maxRecDepth 100000 in
set_option maxHeartbeats 1000000 in
theorem number_any (base b : Nat) (v : Value) (bs : List UInt8) (a : Nat) (why wat : Int) (w : World) (h : Rd w base b v bs a why wat) (er n k : Nat) (hdec : dec (bs.drop a) 0 0 = (er, n, k)) :
    Calls Tryz.prog 54 #[.pointer (some ⟨b, 0, none⟩)] w fun e w' => e = .returned (.tuple #[.int .u64 n, .int .i64 er]) ∧ Rd w' base b v bs (a + k) why wat ∧ w.grownBy w' (some b) := by
  have HD := hid hdec
  have HR := hid h
  have h0 := h.c0
  have h1 := h.c1
  have f1 := h.fz 1
  have hl := h.own.len
  have hle := h.le
  have HF := hid h.own.forms
  obtain ⟨ad, cap, rfl⟩ := h.own.shape
  clear h hdec
  have hl' := hl
  unfold maxLen at hl'
  go_enter Tryz.func54, Tryz.ntmps54
  go_wp2_with fail
  go_loopw [4, 5] (fun x i wr => ∃ (j acc q : Nat), j ≤ 9 ∧ a + j ≤ bs.length ∧ acc < 128 ^ j ∧ dec (bs.drop (a + j)) j acc = (er, n, k) ∧ x = .int .u64 acc ∧ i = .int .i64 j ∧ wr = w.drewN q) (fun _ i _ => 10 - (intOf i).toNat)
  case atStart => exact ⟨0, 0, 0, by omega, by omega, by simp, HD.out, rfl, rfl, rfl⟩
  case round =>
    obtain ⟨j, acc, q, hj, haj, hacc, hd, rfl, rfl, rfl⟩ := hrel
    have HDR := hid hd
    have HAC := hid hacc
    clear hd hacc HD
    by_cases hlt : a + j < bs.length
    · obtain ⟨g, hadr, hbyte⟩ : ∃ g, ad = some ⟨g, 0, none⟩ ∧ w.cell? ⟨g, a + j, none⟩ = some (.int .u8 (bs.getD (a + j) 0).toNat) := by
        rcases HF.out with ⟨_, rfl⟩ | ⟨g, cp, hv, _, _, _, _, _, hc⟩
        · simp at hlt
        · simp only [Value.slice.injEq] at hv
          exact ⟨g, hv.1, hc _ hlt⟩
      subst hadr
      have HDR2 := hid (by rw [← HDR.out, drop_cons hlt, dec_cons] : (er, n, k) = _)
      have hcl := UInt8.toNat_lt (bs.getD (a + j) 0)
      generalize (bs.getD (a + j) 0).toNat = c at *
      have hbd : (a : Int) + (j : Int) < (bs.length : Int) := by omega
      have hbd0 : 0 ≤ (a : Int) + (j : Int) := by omega
      have hte : ((a : Int) + (j : Int)).toNat = a + j := by omega
      go_wp2_with (go_at_call 68; go_must (refine (pleft_any _ _ _ (a : Int) _ _ hl (by omega) (by omega) (by exact h0) (by exact h1)).mono ?_); rintro e w' ⟨rfl, q2, rfl⟩)
      go_quiet (fail)
      by_cases h9 : (j : Int) = 9
      · have HJ := hid (by omega : j = 9)
        go_wp2_with fail
        · go_ret2
          have hc1 : (1 : Int) < (c : Int) := by assumption
          obtain ⟨rfl, rfl, rfl⟩ := end_wide HDR2.out HJ.out (by omega)
          exact ⟨rfl, HR.out.drewN _, gb_drewN _ _ _⟩
        · go_ret2
          have hz : ((c : Int) == 0) = true := by assumption
          have hz' : c = 0 := by simpa using hz
          obtain ⟨rfl, rfl, rfl⟩ := end_form HDR2.out (by omega) (by have := HJ.out; omega) hz'
          exact ⟨rfl, HR.out.drewN _, gb_drewN _ _ _⟩
        · have hz : ((c : Int) == 0) = false := by assumption
          have hz' : c ≠ 0 := by simpa using hz
          have hc1 : (c : Int) ≤ 1 := by assumption
          go_ret2
          have e0 := end_done HDR2.out (by omega) (by omega) (by omega)
          have R := (HR.out.drewN (q + q2 + nq)).setAt (a + (j + 1)) (by omega)
          have e1 : c % 128 = c := by omega
          have e2 : (a : Int) + 10 = ((a + (j + 1) : Nat) : Int) := by omega
          rw [e2]
          obtain ⟨rfl, rfl, rfl⟩ := e0
          exact ⟨ret_num (by rw [num_step9 (HJ.out ▸ HAC.out) (by omega), e1, HJ.out]), R, gb_trans (gb_drewN _ _ _) (gb_set _ _ _)⟩
      · have HJ9 := hid (by omega : ¬ j = 9)
        by_cases h0 : 0 < j
        · go_wp2_with fail
          · go_ret2
            have hz : ((c : Int) == 0) = true := by assumption
            have hz' : c = 0 := by simpa using hz
            obtain ⟨rfl, rfl, rfl⟩ := end_form HDR2.out (by omega) h0 hz'
            exact ⟨rfl, HR.out.drewN _, gb_drewN _ _ _⟩
          · have hz : ((c : Int) == 0) = false := by assumption
            have hz' : c ≠ 0 := by simpa using hz
            have hc1 : (c : Int) < 128 := by assumption
            go_ret2
            have e0 := end_done HDR2.out (by omega) (by omega) (by omega)
            have R := (HR.out.drewN (q + q2 + nq)).setAt (a + (j + 1)) (by omega)
            have e1 : c % 128 = c := by omega
            have e2 : (a : Int) + ((j : Int) + 1) = ((a + (j + 1) : Nat) : Int) := by omega
            rw [e2]
            obtain ⟨rfl, rfl, rfl⟩ := e0
            exact ⟨ret_num (by rw [num_step (by omega) HAC.out hcl (fun e => absurd e HJ9.out), e1]), R, gb_trans (gb_drewN _ _ _) (gb_set _ _ _)⟩
          · have hz : ((c : Int) == 0) = false := by assumption
            have hc128 : (128 : Int) ≤ (c : Int) := by assumption
            have e0 := end_more HDR2.out HJ9.out (by omega)
            have e1 : c % 128 = c - 128 := by omega
            have hps : 128 ^ (j + 1) = 128 ^ j * 128 := Nat.pow_succ _ _
            have hmul : (c - 128) * 128 ^ j ≤ 127 * 128 ^ j := Nat.mul_le_mul_right _ (by omega)
            have hac := HAC.out
            refine ⟨⟨j + 1, acc + (c - 128) * 128 ^ j, q + q2 + nq, by omega, by omega, by rw [hps]; omega, by rw [← Nat.add_assoc]; exact e0, ?_, by go_num, rfl⟩, by simp [intOf]; omega⟩
            rw [num_step (by omega) HAC.out hcl (fun e => absurd e HJ9.out), e1]
        · go_wp2_with fail
          · have hc1 : (c : Int) < 128 := by assumption
            go_ret2
            have e0 := end_done HDR2.out (by omega) (by omega) (by omega)
            have R := (HR.out.drewN (q + q2 + nq)).setAt (a + (j + 1)) (by omega)
            have e1 : c % 128 = c := by omega
            have e2 : (a : Int) + ((j : Int) + 1) = ((a + (j + 1) : Nat) : Int) := by omega
            rw [e2]
            obtain ⟨rfl, rfl, rfl⟩ := e0
            exact ⟨ret_num (by rw [num_step (by omega) HAC.out hcl (fun e => absurd e HJ9.out), e1]), R, gb_trans (gb_drewN _ _ _) (gb_set _ _ _)⟩
          · have hc128 : (128 : Int) ≤ (c : Int) := by assumption
            have e0 := end_more HDR2.out HJ9.out (by omega)
            have e1 : c % 128 = c - 128 := by omega
            have hps : 128 ^ (j + 1) = 128 ^ j * 128 := Nat.pow_succ _ _
            have hmul : (c - 128) * 128 ^ j ≤ 127 * 128 ^ j := Nat.mul_le_mul_right _ (by omega)
            have hac := HAC.out
            refine ⟨⟨j + 1, acc + (c - 128) * 128 ^ j, q + q2 + nq, by omega, by omega, by rw [hps]; omega, by rw [← Nat.add_assoc]; exact e0, ?_, by go_num, rfl⟩, by simp [intOf]; omega⟩
            rw [num_step (by omega) HAC.out hcl (fun e => absurd e HJ9.out), e1]
    · have hnl : ¬ ((j : Int) < (bs.length : Int) - (a : Int)) := by omega
      have HN := hid (by rw [← HDR.out, List.drop_eq_nil_of_le (by omega)]; rfl : (er, n, k) = (4, 0, 0))
      go_wp2_with (go_at_call 68; go_must (refine (pleft_any _ _ _ (a : Int) _ _ hl (by omega) (by omega) (by exact h0) (by exact h1)).mono ?_); rintro e w' ⟨rfl, q2, rfl⟩)
      go_ret2
      have e1 := HN.out
      simp only [Prod.mk.injEq] at e1
      obtain ⟨rfl, rfl, rfl⟩ := e1
      exact ⟨rfl, HR.out.drewN _, gb_drewN _ _ _⟩

end Go.Proofs.YtiibhccbbpgehabGreat
