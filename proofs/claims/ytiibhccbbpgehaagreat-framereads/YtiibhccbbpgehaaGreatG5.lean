/- Contracts and pure facts that the proof needs, joined. -/
import Derived.Test.YtiibhccbbpgehaaGreatG3
import Derived.Test.YtiibhccbbpgehaaGreatG4
import Derived.StillTailTactics

/- The plan of a frame of kind 4. -/
namespace Go.Proofs.YtiibhccbbpgehaaGreat
open Go.RowKit Go.BigFrame

theorem kindOf_4 (w : World) : Calls Tryz.prog 68 #[.int .i64 4] w fun e w' => e = .returned (.tuple #[.agg k4.toArray, .bool true]) ∧ Below w.heap.size w w' := kindOf_any 4 w

set_option maxRecDepth 100000 in
set_option maxHeartbeats 8000000 in
theorem plan4_any (f : Fr) (va : Value) (w : World) (M : Bool) (Z : Int) (hf : f.tool.length = 32) (ha : Strs w va f.args) (hn : f.args.length ≤ 9223372036854775807) (hk : f.kind = 4)
    (hmay : ∀ W, Strs W va f.args → Calls Tryz.prog 132 #[.agg (fcells f va).toArray] W fun e w' => e = .returned (.bool M) ∧ Below W.heap.size W w')
    (hsz : sameP f (ownF f) = true → M = true → ∀ W, Strs W va f.args → Calls Tryz.prog 109 #[.agg k4.toArray, .agg (fcells f va).toArray] W fun e w' => e = .returned (.int .i64 Z) ∧ Below W.heap.size W w') :
    Calls Tryz.prog 79 #[.agg (fcells f va).toArray] w fun e w' => e = .returned (planA k4 (sameP f (ownF f)) M Z) ∧ Below w.heap.size w w' := by
  obtain ⟨ao, c, rfl⟩ := ha.shape
  have HNB := hid (hp_two w (.cells (fcells f (.slice ao f.args.length c)).toArray 30) (.cells zRow.toArray 135))
  have HBL := hid (below_walk2 w (.cells (fcells f (.slice ao f.args.length c)).toArray 30) (.cells zRow.toArray 135))
  have HZ : Hid ((w.alloc (.cells (fcells f (.slice ao f.args.length c)).toArray 30)).heap.size = w.heap.size + 1) := hid (by simp)
  have HSZ := hid (frame_size f (.slice ao f.args.length c) hf)
  have HS0 := hid ha
  have HF := hid hf
  have HK := hid hk
  have HOWN := hid (fun W => ownCancel_any f (.slice ao f.args.length c) W hk hf ⟨_, _, _, rfl⟩)
  have HSAME := hid (fun W (h : Strs W (.slice ao f.args.length c) f.args) => same_any f (ownF f) (.slice ao f.args.length c) (ownV f (.slice ao f.args.length c)) W hf (ownF_tool f hf) h (own_strs h) hn)
  have HMAY := hid hmay
  have HSIZE := hid hsz
  clear hf ha hn hk hmay hsz
  go_enter Tryz.func79, Tryz.ntmps79
  go_upto_region 1 with (refine al_row (by rfl) 135 (by rfl) _ zeroKind ?_)
  try rw [HZ.out]
  generalize (w.alloc (.cells (fcells f (.slice ao f.args.length c)).toArray 30)).alloc (.cells zRow.toArray 135) = w2 at HNB HBL ⊢
  have x0 := (Fb.of HNB.out.1 HF.out).k
  rw [HK.out] at x0
  have HL2 := hid (hp_lt HNB.out.2)
  go_wp2_with fail
  refine (kindOf_4 w2).mono ?_
  rintro e w3 ⟨rfl, hb3⟩
  have HN1 := hid ((hb3.block _ (by have := HL2.out; omega)).trans HNB.out.1)
  have HN2 := hid ((hb3.block _ HL2.out).trans HNB.out.2)
  have HB3 := hid (below_then HBL.out hb3)
  have HL3 := hid (hp_lt HN2.out)
  clear hb3 x0 HNB HBL HL2
  go_upto_region 2 with (first
    | (refine al_row (by rfl) 135 (by rfl) _ zeroKind ?_)
    | (refine st_new (by rfl) 135 _ _ (by rfl) k4 (by rfl) (by rfl) 135 _ kindSize rfl (kOne _ _ _ _ _) ?_))
  have HN4 := hid ((below_walk w3 (.cells k4.toArray 135)).block _ (by have := HL3.out; omega) |>.trans HN1.out)
  have HN5 := hid ((below_walk w3 (.cells k4.toArray 135)).block _ HL3.out |>.trans HN2.out)
  have HN6 := hid (hp_new w3 (.cells k4.toArray 135))
  have HB4 := hid (below_then HB3.out (below_walk w3 (.cells k4.toArray 135)))
  obtain ⟨B5, HB5⟩ : ∃ b : Nat, Hid (w3.heap.size = b) := ⟨_, rfl⟩
  rw [HB5.out] at HN6 ⊢
  generalize w3.alloc (.cells k4.toArray 135) = w4 at HN4 HN5 HN6 HB4 ⊢
  clear HN1 HN2 HB3 HL3
  have HS4 := hid (HS0.out.below HB4.out)
  have HL6 := hid (hp_lt HN6.out)
  have HL4 := hid (hp_lt HN4.out)
  have y1 : w4.cell? ⟨B5, 1, none⟩ = some (.func (.func 131) #[] #[]) := by rw [cell_of_row w4 B5 1 _ _ _ HN6.out]; rfl
  have y2 : w4.cell? ⟨B5, 2, none⟩ = some (.func (.func 132) #[] #[]) := by rw [cell_of_row w4 B5 2 _ _ _ HN6.out]; rfl
  have z1 := fun p : Bel w4 => p.cell y1 HL6.out
  have z2 := fun p : Bel w4 => p.cell y2 HL6.out
  have ib : Nonempty (Bel w4) := bel_some w4
  have HRA := hid (Bel.range (range_row HN4.out) HL4.out)
  have HSM := hid (fun p : Bel w4 => HSAME.out p.out (HS4.out.below p.bel))
  have HMY := hid (fun p : Bel w4 => HMAY.out p.out (HS4.out.below p.bel))
  clear y1 y2 HSAME HMAY
  obtain ⟨FF, HFF⟩ : ∃ x, Hid (fcells f (.slice ao f.args.length c) = x) := ⟨_, rfl⟩
  obtain ⟨FO, HFO⟩ : ∃ x, Hid (fcells (ownF f) (ownV f (.slice ao f.args.length c)) = x) := ⟨_, rfl⟩
  rw [HFF.out] at HOWN HSM HMY HSIZE HN4 HSZ HRA ⊢
  rw [HFO.out] at HOWN HSM
  cases hS : sameP f (ownF f) with
  | false =>
    as_aux_lemma =>
      have HPA := hid (show planA k4 (sameP f (ownF f)) M Z = .tuple #[.agg zRow.toArray, .int .i64 0, .int .i64 70] by unfold planA; rw [hS]; rfl)
      rw [hS] at HSM
      clear hS HSIZE
      refine wp_region_quiet_bel (by kernel_rfl) (by kernel_rfl) ?_
      go_big_quiet_step (fail)
      go_big_quiet_step (fail)
      go_big_quiet_step (fail)
      refine wpQuiet_want (by rfl) fun K hK => quiet_ld 30 (.tmp 1) (by rfl) w.heap.size 0 (by rfl) _ _ HRA.out Tryz.underlying30 rfl HSZ.out (hK _ ?_)
      simp only [Act.put, List.setIfInBounds_toArray, List.set_cons_succ, List.set_cons_zero]
      go_big_quiet_step (fail)
      go_big_quiet_step (fail)
      refine wpQuiet_want (by rfl) fun K hK => quiet_ld 30 (.tmp 1) (by rfl) w.heap.size 0 (by rfl) _ _ HRA.out Tryz.underlying30 rfl HSZ.out (hK _ ?_)
      simp only [Act.put, List.setIfInBounds_toArray, List.set_cons_succ, List.set_cons_zero]
      go_big_quiet_step (first | (go_at_call 131; exact bel_of (HOWN.out _)))
      go_big_quiet_step (first | (go_at_call 108; exact bel_of (HSM.out _)))
      go_big_quiet_step (fail)
      go_big_quiet_step (fail)
      go_big_quiet_step (fail)
      go_big_quiet_step (fail)
      go_big_quiet_step (fail)
      go_big_quiet_step (fail)
      go_big_quiet_step (fail)
      go_big_quiet_step (fail)
      go_big_quiet_step (fail)
      refine wpQuiet_nil ?_
      rintro w5 ⟨⟨w5', hb5⟩, hw5⟩
      obtain rfl : w5 = w5' := hw5
      have HN7 := hid ((hb5.block _ HL4.out).trans HN4.out)
      have HN8 := hid ((hb5.block _ (hp_lt HN5.out)).trans HN5.out)
      have HN9 := hid ((hb5.block _ HL6.out).trans HN6.out)
      have HB6 := hid (below_then HB4.out hb5)
      have HS5 := hid (HS4.out.below hb5)
      clear hb5 z1 z2 ib HRA HN4 HN5 HN6 HB4 HL4 HL6 HOWN HSM HMY
      go_wp2_with (first
        | (refine bd_row (by rfl) 135 #[] (by rfl) [] (by simp) zRow.toArray built_zRow ?_)
        | (refine st_row (by rfl) 135 _ _ (by rfl) (w.heap.size + 1) zRow (by rfl) (by rfl) 135 _ HN8.out kindSize rfl zOne ?_; intro w7 hw7))
      refine ret_row3 2 3 4 135 rfl (w.heap.size + 1) rfl zRow 135 hw7.blk _ Tryz.underlying135 rfl kindSize _ _ rfl rfl rfl ⟨by rw [HPA.out]; rfl, Below.of_gb HB6.out hw7.grown (by omega)⟩
  | true =>
    rw [hS] at HSM
    have HSI := hid (HSIZE.out hS)
    clear HSIZE
    cases M with
    | false =>
      as_aux_lemma =>
        have HPA := hid (show planA k4 (sameP f (ownF f)) false Z = .tuple #[.agg zRow.toArray, .int .i64 0, .int .i64 70] by unfold planA; rw [hS]; rfl)
        clear hS HSI
        refine wp_region_quiet_bel (by kernel_rfl) (by kernel_rfl) ?_
        go_big_quiet_step (fail)
        go_big_quiet_step (fail)
        go_big_quiet_step (fail)
        refine wpQuiet_want (by rfl) fun K hK => quiet_ld 30 (.tmp 1) (by rfl) w.heap.size 0 (by rfl) _ _ HRA.out Tryz.underlying30 rfl HSZ.out (hK _ ?_)
        simp only [Act.put, List.setIfInBounds_toArray, List.set_cons_succ, List.set_cons_zero]
        go_big_quiet_step (fail)
        go_big_quiet_step (fail)
        refine wpQuiet_want (by rfl) fun K hK => quiet_ld 30 (.tmp 1) (by rfl) w.heap.size 0 (by rfl) _ _ HRA.out Tryz.underlying30 rfl HSZ.out (hK _ ?_)
        simp only [Act.put, List.setIfInBounds_toArray, List.set_cons_succ, List.set_cons_zero]
        go_big_quiet_step (first | (go_at_call 131; exact bel_of (HOWN.out _)))
        go_big_quiet_step (first | (go_at_call 108; exact bel_of (HSM.out _)))
        go_big_quiet_step (fail)
        go_big_quiet_step (fail)
        go_big_quiet_step (fail)
        go_big_quiet_step (fail)
        go_big_quiet_step (fail)
        refine wpQuiet_want (by rfl) fun K hK => quiet_ld 30 (.tmp 1) (by rfl) w.heap.size 0 (by rfl) _ _ HRA.out Tryz.underlying30 rfl HSZ.out (hK _ ?_)
        simp only [Act.put, List.setIfInBounds_toArray, List.set_cons_succ, List.set_cons_zero]
        go_big_quiet_step (first | (go_at_call 132; exact bel_of (HMY.out _)))
        go_big_quiet_step (fail)
        go_big_quiet_step (fail)
        refine wpQuiet_nil ?_
        rintro w5 ⟨⟨w5', hb5⟩, hw5⟩
        obtain rfl : w5 = w5' := hw5
        have HN7 := hid ((hb5.block _ HL4.out).trans HN4.out)
        have HN8 := hid ((hb5.block _ (hp_lt HN5.out)).trans HN5.out)
        have HN9 := hid ((hb5.block _ HL6.out).trans HN6.out)
        have HB6 := hid (below_then HB4.out hb5)
        have HS5 := hid (HS4.out.below hb5)
        clear hb5 z1 z2 ib HRA HN4 HN5 HN6 HB4 HL4 HL6 HOWN HSM HMY
        go_wp2_with (first
          | (refine bd_row (by rfl) 135 #[] (by rfl) [] (by simp) zRow.toArray built_zRow ?_)
          | (refine st_row (by rfl) 135 _ _ (by rfl) (w.heap.size + 1) zRow (by rfl) (by rfl) 135 _ HN8.out kindSize rfl zOne ?_; intro w7 hw7))
        refine ret_row3 2 3 4 135 rfl (w.heap.size + 1) rfl zRow 135 hw7.blk _ Tryz.underlying135 rfl kindSize _ _ rfl rfl rfl ⟨by rw [HPA.out]; rfl, Below.of_gb HB6.out hw7.grown (by omega)⟩
    | true =>
      as_aux_lemma =>
        have HSJ := hid (HSI.out rfl)
        clear HSI
        refine wp_region_quiet_bel (by kernel_rfl) (by kernel_rfl) ?_
        go_big_quiet_step (fail)
        go_big_quiet_step (fail)
        go_big_quiet_step (fail)
        refine wpQuiet_want (by rfl) fun K hK => quiet_ld 30 (.tmp 1) (by rfl) w.heap.size 0 (by rfl) _ _ HRA.out Tryz.underlying30 rfl HSZ.out (hK _ ?_)
        simp only [Act.put, List.setIfInBounds_toArray, List.set_cons_succ, List.set_cons_zero]
        go_big_quiet_step (fail)
        go_big_quiet_step (fail)
        refine wpQuiet_want (by rfl) fun K hK => quiet_ld 30 (.tmp 1) (by rfl) w.heap.size 0 (by rfl) _ _ HRA.out Tryz.underlying30 rfl HSZ.out (hK _ ?_)
        simp only [Act.put, List.setIfInBounds_toArray, List.set_cons_succ, List.set_cons_zero]
        go_big_quiet_step (first | (go_at_call 131; exact bel_of (HOWN.out _)))
        go_big_quiet_step (first | (go_at_call 108; exact bel_of (HSM.out _)))
        go_big_quiet_step (fail)
        go_big_quiet_step (fail)
        go_big_quiet_step (fail)
        go_big_quiet_step (fail)
        go_big_quiet_step (fail)
        refine wpQuiet_want (by rfl) fun K hK => quiet_ld 30 (.tmp 1) (by rfl) w.heap.size 0 (by rfl) _ _ HRA.out Tryz.underlying30 rfl HSZ.out (hK _ ?_)
        simp only [Act.put, List.setIfInBounds_toArray, List.set_cons_succ, List.set_cons_zero]
        go_big_quiet_step (first | (go_at_call 132; exact bel_of (HMY.out _)))
        go_big_quiet_step (fail)
        go_big_quiet_step (fail)
        refine wpQuiet_nil ?_
        rintro w5 ⟨⟨w5', hb5⟩, hw5⟩
        obtain rfl : w5 = w5' := hw5
        have HN7 := hid ((hb5.block _ HL4.out).trans HN4.out)
        have HN8 := hid ((hb5.block _ (hp_lt HN5.out)).trans HN5.out)
        have HN9 := hid ((hb5.block _ HL6.out).trans HN6.out)
        have HB6 := hid (below_then HB4.out hb5)
        have HS5 := hid (HS4.out.below hb5)
        clear hb5 z1 z2 ib HRA HN4 HN5 HN6 HB4 HL4 HL6 HOWN HSM HMY
        go_wp2_with (first
          | (refine ld_row (by rfl) 135 (.tmp 5) (by rfl) B5 (by rfl) k4 135 HN9.out _ Tryz.underlying135 rfl kindSize ?_)
          | (refine ld_row (by rfl) 30 (.tmp 1) (by rfl) w.heap.size (by rfl) FF 30 HN7.out _ Tryz.underlying30 rfl HSZ.out ?_))
        refine (HSJ.out w5 HS5.out).mono ?_
        rintro e w6 ⟨rfl, hb6⟩
        have HNA := hid ((hb6.block _ (hp_lt HN8.out)).trans HN8.out)
        have HNB := hid ((hb6.block _ (hp_lt HN9.out)).trans HN9.out)
        have HB7 := hid (below_then HB6.out hb6)
        clear hb6 HN7 HN8 HN9 HB6 HSJ
        by_cases hZ : 2097152 < Z
        · have HPA := hid (show planA k4 (sameP f (ownF f)) true Z = .tuple #[.agg zRow.toArray, .int .i64 0, .int .i64 3] by unfold planA; rw [hS]; simp only [Bool.and_true, if_true, if_pos hZ])
          have q1 : decide ((2097152 : Int) < Z) = true := by simpa using hZ
          clear hS
          go_wp2_with (first
            | (refine bd_row (by rfl) 135 #[] (by rfl) [] (by simp) zRow.toArray built_zRow ?_)
            | (refine st_row (by rfl) 135 _ _ (by rfl) (w.heap.size + 1) zRow (by rfl) (by rfl) 135 _ HNA.out kindSize rfl zOne ?_; intro w7 hw7))
          refine ret_row3 2 3 4 135 rfl (w.heap.size + 1) rfl zRow 135 hw7.blk _ Tryz.underlying135 rfl kindSize _ _ rfl rfl rfl ⟨by rw [HPA.out]; rfl, Below.of_gb HB7.out hw7.grown (by omega)⟩
        · have HPA := hid (show planA k4 (sameP f (ownF f)) true Z = .tuple #[.agg k4.toArray, .int .i64 Z, .int .i64 0] by unfold planA; rw [hS]; simp only [Bool.and_true, if_true, if_neg hZ])
          have q1 : decide ((2097152 : Int) < Z) = false := by simpa using hZ
          clear hS
          go_wp2_with (first
            | (refine ld_row (by rfl) 135 (.tmp 5) (by rfl) B5 (by rfl) k4 135 HNB.out _ Tryz.underlying135 rfl kindSize ?_)
            | (refine st_row (by rfl) 135 _ _ (by rfl) (w.heap.size + 1) k4 (by rfl) (by rfl) 135 _ HNA.out kindSize rfl (kOne _ _ _ _ _) ?_; intro w7 hw7))
          refine ret_row3 2 3 4 135 rfl (w.heap.size + 1) rfl k4 135 hw7.blk _ Tryz.underlying135 rfl kindSize _ _ rfl rfl rfl ⟨by rw [HPA.out]; rfl, Below.of_gb HB7.out hw7.grown (by omega)⟩

end Go.Proofs.YtiibhccbbpgehaaGreat

/- The plan of a frame of kind 5. -/
namespace Go.Proofs.YtiibhccbbpgehaaGreat
open Go.RowKit Go.BigFrame

theorem kindOf_5 (w : World) : Calls Tryz.prog 68 #[.int .i64 5] w fun e w' => e = .returned (.tuple #[.agg k5.toArray, .bool true]) ∧ Below w.heap.size w w' := kindOf_any 5 w

set_option maxRecDepth 100000 in
set_option maxHeartbeats 8000000 in
theorem plan5_any (f : Fr) (va : Value) (w : World) (M : Bool) (Z : Int) (hf : f.tool.length = 32) (ha : Strs w va f.args) (hn : f.args.length ≤ 9223372036854775807) (hk : f.kind = 5)
    (hmay : ∀ W, Strs W va f.args → Calls Tryz.prog 132 #[.agg (fcells f va).toArray] W fun e w' => e = .returned (.bool M) ∧ Below W.heap.size W w')
    (hsz : sameP f (ownF f) = true → M = true → ∀ W, Strs W va f.args → Calls Tryz.prog 109 #[.agg k5.toArray, .agg (fcells f va).toArray] W fun e w' => e = .returned (.int .i64 Z) ∧ Below W.heap.size W w') :
    Calls Tryz.prog 79 #[.agg (fcells f va).toArray] w fun e w' => e = .returned (planA k5 (sameP f (ownF f)) M Z) ∧ Below w.heap.size w w' := by
  obtain ⟨ao, c, rfl⟩ := ha.shape
  have HNB := hid (hp_two w (.cells (fcells f (.slice ao f.args.length c)).toArray 30) (.cells zRow.toArray 135))
  have HBL := hid (below_walk2 w (.cells (fcells f (.slice ao f.args.length c)).toArray 30) (.cells zRow.toArray 135))
  have HZ : Hid ((w.alloc (.cells (fcells f (.slice ao f.args.length c)).toArray 30)).heap.size = w.heap.size + 1) := hid (by simp)
  have HSZ := hid (frame_size f (.slice ao f.args.length c) hf)
  have HS0 := hid ha
  have HF := hid hf
  have HK := hid hk
  have HOWN := hid (fun W => ownBye2_any f (.slice ao f.args.length c) W hk hf ⟨_, _, _, rfl⟩)
  have HSAME := hid (fun W (h : Strs W (.slice ao f.args.length c) f.args) => same_any f (ownF f) (.slice ao f.args.length c) (ownV f (.slice ao f.args.length c)) W hf (ownF_tool f hf) h (own_strs h) hn)
  have HMAY := hid hmay
  have HSIZE := hid hsz
  clear hf ha hn hk hmay hsz
  go_enter Tryz.func79, Tryz.ntmps79
  go_upto_region 1 with (refine al_row (by rfl) 135 (by rfl) _ zeroKind ?_)
  try rw [HZ.out]
  generalize (w.alloc (.cells (fcells f (.slice ao f.args.length c)).toArray 30)).alloc (.cells zRow.toArray 135) = w2 at HNB HBL ⊢
  have x0 := (Fb.of HNB.out.1 HF.out).k
  rw [HK.out] at x0
  have HL2 := hid (hp_lt HNB.out.2)
  go_wp2_with fail
  refine (kindOf_5 w2).mono ?_
  rintro e w3 ⟨rfl, hb3⟩
  have HN1 := hid ((hb3.block _ (by have := HL2.out; omega)).trans HNB.out.1)
  have HN2 := hid ((hb3.block _ HL2.out).trans HNB.out.2)
  have HB3 := hid (below_then HBL.out hb3)
  have HL3 := hid (hp_lt HN2.out)
  clear hb3 x0 HNB HBL HL2
  go_upto_region 2 with (first
    | (refine al_row (by rfl) 135 (by rfl) _ zeroKind ?_)
    | (refine st_new (by rfl) 135 _ _ (by rfl) k5 (by rfl) (by rfl) 135 _ kindSize rfl (kOne _ _ _ _ _) ?_))
  have HN4 := hid ((below_walk w3 (.cells k5.toArray 135)).block _ (by have := HL3.out; omega) |>.trans HN1.out)
  have HN5 := hid ((below_walk w3 (.cells k5.toArray 135)).block _ HL3.out |>.trans HN2.out)
  have HN6 := hid (hp_new w3 (.cells k5.toArray 135))
  have HB4 := hid (below_then HB3.out (below_walk w3 (.cells k5.toArray 135)))
  obtain ⟨B5, HB5⟩ : ∃ b : Nat, Hid (w3.heap.size = b) := ⟨_, rfl⟩
  rw [HB5.out] at HN6 ⊢
  generalize w3.alloc (.cells k5.toArray 135) = w4 at HN4 HN5 HN6 HB4 ⊢
  clear HN1 HN2 HB3 HL3
  have HS4 := hid (HS0.out.below HB4.out)
  have HL6 := hid (hp_lt HN6.out)
  have HL4 := hid (hp_lt HN4.out)
  have y1 : w4.cell? ⟨B5, 1, none⟩ = some (.func (.func 135) #[] #[]) := by rw [cell_of_row w4 B5 1 _ _ _ HN6.out]; rfl
  have y2 : w4.cell? ⟨B5, 2, none⟩ = some (.func (.func 132) #[] #[]) := by rw [cell_of_row w4 B5 2 _ _ _ HN6.out]; rfl
  have z1 := fun p : Bel w4 => p.cell y1 HL6.out
  have z2 := fun p : Bel w4 => p.cell y2 HL6.out
  have ib : Nonempty (Bel w4) := bel_some w4
  have HRA := hid (Bel.range (range_row HN4.out) HL4.out)
  have HSM := hid (fun p : Bel w4 => HSAME.out p.out (HS4.out.below p.bel))
  have HMY := hid (fun p : Bel w4 => HMAY.out p.out (HS4.out.below p.bel))
  clear y1 y2 HSAME HMAY
  obtain ⟨FF, HFF⟩ : ∃ x, Hid (fcells f (.slice ao f.args.length c) = x) := ⟨_, rfl⟩
  obtain ⟨FO, HFO⟩ : ∃ x, Hid (fcells (ownF f) (ownV f (.slice ao f.args.length c)) = x) := ⟨_, rfl⟩
  rw [HFF.out] at HOWN HSM HMY HSIZE HN4 HSZ HRA ⊢
  rw [HFO.out] at HOWN HSM
  cases hS : sameP f (ownF f) with
  | false =>
    as_aux_lemma =>
      have HPA := hid (show planA k5 (sameP f (ownF f)) M Z = .tuple #[.agg zRow.toArray, .int .i64 0, .int .i64 70] by unfold planA; rw [hS]; rfl)
      rw [hS] at HSM
      clear hS HSIZE
      refine wp_region_quiet_bel (by kernel_rfl) (by kernel_rfl) ?_
      go_big_quiet_step (fail)
      go_big_quiet_step (fail)
      go_big_quiet_step (fail)
      refine wpQuiet_want (by rfl) fun K hK => quiet_ld 30 (.tmp 1) (by rfl) w.heap.size 0 (by rfl) _ _ HRA.out Tryz.underlying30 rfl HSZ.out (hK _ ?_)
      simp only [Act.put, List.setIfInBounds_toArray, List.set_cons_succ, List.set_cons_zero]
      go_big_quiet_step (fail)
      go_big_quiet_step (fail)
      refine wpQuiet_want (by rfl) fun K hK => quiet_ld 30 (.tmp 1) (by rfl) w.heap.size 0 (by rfl) _ _ HRA.out Tryz.underlying30 rfl HSZ.out (hK _ ?_)
      simp only [Act.put, List.setIfInBounds_toArray, List.set_cons_succ, List.set_cons_zero]
      go_big_quiet_step (first | (go_at_call 135; exact bel_of (HOWN.out _)))
      go_big_quiet_step (first | (go_at_call 108; exact bel_of (HSM.out _)))
      go_big_quiet_step (fail)
      go_big_quiet_step (fail)
      go_big_quiet_step (fail)
      go_big_quiet_step (fail)
      go_big_quiet_step (fail)
      go_big_quiet_step (fail)
      go_big_quiet_step (fail)
      go_big_quiet_step (fail)
      go_big_quiet_step (fail)
      refine wpQuiet_nil ?_
      rintro w5 ⟨⟨w5', hb5⟩, hw5⟩
      obtain rfl : w5 = w5' := hw5
      have HN7 := hid ((hb5.block _ HL4.out).trans HN4.out)
      have HN8 := hid ((hb5.block _ (hp_lt HN5.out)).trans HN5.out)
      have HN9 := hid ((hb5.block _ HL6.out).trans HN6.out)
      have HB6 := hid (below_then HB4.out hb5)
      have HS5 := hid (HS4.out.below hb5)
      clear hb5 z1 z2 ib HRA HN4 HN5 HN6 HB4 HL4 HL6 HOWN HSM HMY
      go_wp2_with (first
        | (refine bd_row (by rfl) 135 #[] (by rfl) [] (by simp) zRow.toArray built_zRow ?_)
        | (refine st_row (by rfl) 135 _ _ (by rfl) (w.heap.size + 1) zRow (by rfl) (by rfl) 135 _ HN8.out kindSize rfl zOne ?_; intro w7 hw7))
      refine ret_row3 2 3 4 135 rfl (w.heap.size + 1) rfl zRow 135 hw7.blk _ Tryz.underlying135 rfl kindSize _ _ rfl rfl rfl ⟨by rw [HPA.out]; rfl, Below.of_gb HB6.out hw7.grown (by omega)⟩
  | true =>
    rw [hS] at HSM
    have HSI := hid (HSIZE.out hS)
    clear HSIZE
    cases M with
    | false =>
      as_aux_lemma =>
        have HPA := hid (show planA k5 (sameP f (ownF f)) false Z = .tuple #[.agg zRow.toArray, .int .i64 0, .int .i64 70] by unfold planA; rw [hS]; rfl)
        clear hS HSI
        refine wp_region_quiet_bel (by kernel_rfl) (by kernel_rfl) ?_
        go_big_quiet_step (fail)
        go_big_quiet_step (fail)
        go_big_quiet_step (fail)
        refine wpQuiet_want (by rfl) fun K hK => quiet_ld 30 (.tmp 1) (by rfl) w.heap.size 0 (by rfl) _ _ HRA.out Tryz.underlying30 rfl HSZ.out (hK _ ?_)
        simp only [Act.put, List.setIfInBounds_toArray, List.set_cons_succ, List.set_cons_zero]
        go_big_quiet_step (fail)
        go_big_quiet_step (fail)
        refine wpQuiet_want (by rfl) fun K hK => quiet_ld 30 (.tmp 1) (by rfl) w.heap.size 0 (by rfl) _ _ HRA.out Tryz.underlying30 rfl HSZ.out (hK _ ?_)
        simp only [Act.put, List.setIfInBounds_toArray, List.set_cons_succ, List.set_cons_zero]
        go_big_quiet_step (first | (go_at_call 135; exact bel_of (HOWN.out _)))
        go_big_quiet_step (first | (go_at_call 108; exact bel_of (HSM.out _)))
        go_big_quiet_step (fail)
        go_big_quiet_step (fail)
        go_big_quiet_step (fail)
        go_big_quiet_step (fail)
        go_big_quiet_step (fail)
        refine wpQuiet_want (by rfl) fun K hK => quiet_ld 30 (.tmp 1) (by rfl) w.heap.size 0 (by rfl) _ _ HRA.out Tryz.underlying30 rfl HSZ.out (hK _ ?_)
        simp only [Act.put, List.setIfInBounds_toArray, List.set_cons_succ, List.set_cons_zero]
        go_big_quiet_step (first | (go_at_call 132; exact bel_of (HMY.out _)))
        go_big_quiet_step (fail)
        go_big_quiet_step (fail)
        refine wpQuiet_nil ?_
        rintro w5 ⟨⟨w5', hb5⟩, hw5⟩
        obtain rfl : w5 = w5' := hw5
        have HN7 := hid ((hb5.block _ HL4.out).trans HN4.out)
        have HN8 := hid ((hb5.block _ (hp_lt HN5.out)).trans HN5.out)
        have HN9 := hid ((hb5.block _ HL6.out).trans HN6.out)
        have HB6 := hid (below_then HB4.out hb5)
        have HS5 := hid (HS4.out.below hb5)
        clear hb5 z1 z2 ib HRA HN4 HN5 HN6 HB4 HL4 HL6 HOWN HSM HMY
        go_wp2_with (first
          | (refine bd_row (by rfl) 135 #[] (by rfl) [] (by simp) zRow.toArray built_zRow ?_)
          | (refine st_row (by rfl) 135 _ _ (by rfl) (w.heap.size + 1) zRow (by rfl) (by rfl) 135 _ HN8.out kindSize rfl zOne ?_; intro w7 hw7))
        refine ret_row3 2 3 4 135 rfl (w.heap.size + 1) rfl zRow 135 hw7.blk _ Tryz.underlying135 rfl kindSize _ _ rfl rfl rfl ⟨by rw [HPA.out]; rfl, Below.of_gb HB6.out hw7.grown (by omega)⟩
    | true =>
      as_aux_lemma =>
        have HSJ := hid (HSI.out rfl)
        clear HSI
        refine wp_region_quiet_bel (by kernel_rfl) (by kernel_rfl) ?_
        go_big_quiet_step (fail)
        go_big_quiet_step (fail)
        go_big_quiet_step (fail)
        refine wpQuiet_want (by rfl) fun K hK => quiet_ld 30 (.tmp 1) (by rfl) w.heap.size 0 (by rfl) _ _ HRA.out Tryz.underlying30 rfl HSZ.out (hK _ ?_)
        simp only [Act.put, List.setIfInBounds_toArray, List.set_cons_succ, List.set_cons_zero]
        go_big_quiet_step (fail)
        go_big_quiet_step (fail)
        refine wpQuiet_want (by rfl) fun K hK => quiet_ld 30 (.tmp 1) (by rfl) w.heap.size 0 (by rfl) _ _ HRA.out Tryz.underlying30 rfl HSZ.out (hK _ ?_)
        simp only [Act.put, List.setIfInBounds_toArray, List.set_cons_succ, List.set_cons_zero]
        go_big_quiet_step (first | (go_at_call 135; exact bel_of (HOWN.out _)))
        go_big_quiet_step (first | (go_at_call 108; exact bel_of (HSM.out _)))
        go_big_quiet_step (fail)
        go_big_quiet_step (fail)
        go_big_quiet_step (fail)
        go_big_quiet_step (fail)
        go_big_quiet_step (fail)
        refine wpQuiet_want (by rfl) fun K hK => quiet_ld 30 (.tmp 1) (by rfl) w.heap.size 0 (by rfl) _ _ HRA.out Tryz.underlying30 rfl HSZ.out (hK _ ?_)
        simp only [Act.put, List.setIfInBounds_toArray, List.set_cons_succ, List.set_cons_zero]
        go_big_quiet_step (first | (go_at_call 132; exact bel_of (HMY.out _)))
        go_big_quiet_step (fail)
        go_big_quiet_step (fail)
        refine wpQuiet_nil ?_
        rintro w5 ⟨⟨w5', hb5⟩, hw5⟩
        obtain rfl : w5 = w5' := hw5
        have HN7 := hid ((hb5.block _ HL4.out).trans HN4.out)
        have HN8 := hid ((hb5.block _ (hp_lt HN5.out)).trans HN5.out)
        have HN9 := hid ((hb5.block _ HL6.out).trans HN6.out)
        have HB6 := hid (below_then HB4.out hb5)
        have HS5 := hid (HS4.out.below hb5)
        clear hb5 z1 z2 ib HRA HN4 HN5 HN6 HB4 HL4 HL6 HOWN HSM HMY
        go_wp2_with (first
          | (refine ld_row (by rfl) 135 (.tmp 5) (by rfl) B5 (by rfl) k5 135 HN9.out _ Tryz.underlying135 rfl kindSize ?_)
          | (refine ld_row (by rfl) 30 (.tmp 1) (by rfl) w.heap.size (by rfl) FF 30 HN7.out _ Tryz.underlying30 rfl HSZ.out ?_))
        refine (HSJ.out w5 HS5.out).mono ?_
        rintro e w6 ⟨rfl, hb6⟩
        have HNA := hid ((hb6.block _ (hp_lt HN8.out)).trans HN8.out)
        have HNB := hid ((hb6.block _ (hp_lt HN9.out)).trans HN9.out)
        have HB7 := hid (below_then HB6.out hb6)
        clear hb6 HN7 HN8 HN9 HB6 HSJ
        by_cases hZ : 2097152 < Z
        · have HPA := hid (show planA k5 (sameP f (ownF f)) true Z = .tuple #[.agg zRow.toArray, .int .i64 0, .int .i64 3] by unfold planA; rw [hS]; simp only [Bool.and_true, if_true, if_pos hZ])
          have q1 : decide ((2097152 : Int) < Z) = true := by simpa using hZ
          clear hS
          go_wp2_with (first
            | (refine bd_row (by rfl) 135 #[] (by rfl) [] (by simp) zRow.toArray built_zRow ?_)
            | (refine st_row (by rfl) 135 _ _ (by rfl) (w.heap.size + 1) zRow (by rfl) (by rfl) 135 _ HNA.out kindSize rfl zOne ?_; intro w7 hw7))
          refine ret_row3 2 3 4 135 rfl (w.heap.size + 1) rfl zRow 135 hw7.blk _ Tryz.underlying135 rfl kindSize _ _ rfl rfl rfl ⟨by rw [HPA.out]; rfl, Below.of_gb HB7.out hw7.grown (by omega)⟩
        · have HPA := hid (show planA k5 (sameP f (ownF f)) true Z = .tuple #[.agg k5.toArray, .int .i64 Z, .int .i64 0] by unfold planA; rw [hS]; simp only [Bool.and_true, if_true, if_neg hZ])
          have q1 : decide ((2097152 : Int) < Z) = false := by simpa using hZ
          clear hS
          go_wp2_with (first
            | (refine ld_row (by rfl) 135 (.tmp 5) (by rfl) B5 (by rfl) k5 135 HNB.out _ Tryz.underlying135 rfl kindSize ?_)
            | (refine st_row (by rfl) 135 _ _ (by rfl) (w.heap.size + 1) k5 (by rfl) (by rfl) 135 _ HNA.out kindSize rfl (kOne _ _ _ _ _) ?_; intro w7 hw7))
          refine ret_row3 2 3 4 135 rfl (w.heap.size + 1) rfl k5 135 hw7.blk _ Tryz.underlying135 rfl kindSize _ _ rfl rfl rfl ⟨by rw [HPA.out]; rfl, Below.of_gb HB7.out hw7.grown (by omega)⟩

end Go.Proofs.YtiibhccbbpgehaaGreat

/- The plan of a frame of kind 6. -/
namespace Go.Proofs.YtiibhccbbpgehaaGreat
open Go.RowKit Go.BigFrame

theorem kindOf_6 (w : World) : Calls Tryz.prog 68 #[.int .i64 6] w fun e w' => e = .returned (.tuple #[.agg k6.toArray, .bool true]) ∧ Below w.heap.size w w' := kindOf_any 6 w

set_option maxRecDepth 100000 in
set_option maxHeartbeats 8000000 in
theorem plan6_any (f : Fr) (va : Value) (w : World) (M : Bool) (Z : Int) (hf : f.tool.length = 32) (ha : Strs w va f.args) (hn : f.args.length ≤ 9223372036854775807) (hk : f.kind = 6)
    (hmay : ∀ W, Strs W va f.args → Calls Tryz.prog 132 #[.agg (fcells f va).toArray] W fun e w' => e = .returned (.bool M) ∧ Below W.heap.size W w')
    (hsz : sameP f (ownF f) = true → M = true → ∀ W, Strs W va f.args → Calls Tryz.prog 109 #[.agg k6.toArray, .agg (fcells f va).toArray] W fun e w' => e = .returned (.int .i64 Z) ∧ Below W.heap.size W w') :
    Calls Tryz.prog 79 #[.agg (fcells f va).toArray] w fun e w' => e = .returned (planA k6 (sameP f (ownF f)) M Z) ∧ Below w.heap.size w w' := by
  obtain ⟨ao, c, rfl⟩ := ha.shape
  have HNB := hid (hp_two w (.cells (fcells f (.slice ao f.args.length c)).toArray 30) (.cells zRow.toArray 135))
  have HBL := hid (below_walk2 w (.cells (fcells f (.slice ao f.args.length c)).toArray 30) (.cells zRow.toArray 135))
  have HZ : Hid ((w.alloc (.cells (fcells f (.slice ao f.args.length c)).toArray 30)).heap.size = w.heap.size + 1) := hid (by simp)
  have HSZ := hid (frame_size f (.slice ao f.args.length c) hf)
  have HS0 := hid ha
  have HF := hid hf
  have HK := hid hk
  have HOWN := hid (fun W => ownNote_any f (.slice ao f.args.length c) W hk hf ⟨_, _, _, rfl⟩)
  have HSAME := hid (fun W (h : Strs W (.slice ao f.args.length c) f.args) => same_any f (ownF f) (.slice ao f.args.length c) (ownV f (.slice ao f.args.length c)) W hf (ownF_tool f hf) h (own_strs h) hn)
  have HMAY := hid hmay
  have HSIZE := hid hsz
  clear hf ha hn hk hmay hsz
  go_enter Tryz.func79, Tryz.ntmps79
  go_upto_region 1 with (refine al_row (by rfl) 135 (by rfl) _ zeroKind ?_)
  try rw [HZ.out]
  generalize (w.alloc (.cells (fcells f (.slice ao f.args.length c)).toArray 30)).alloc (.cells zRow.toArray 135) = w2 at HNB HBL ⊢
  have x0 := (Fb.of HNB.out.1 HF.out).k
  rw [HK.out] at x0
  have HL2 := hid (hp_lt HNB.out.2)
  go_wp2_with fail
  refine (kindOf_6 w2).mono ?_
  rintro e w3 ⟨rfl, hb3⟩
  have HN1 := hid ((hb3.block _ (by have := HL2.out; omega)).trans HNB.out.1)
  have HN2 := hid ((hb3.block _ HL2.out).trans HNB.out.2)
  have HB3 := hid (below_then HBL.out hb3)
  have HL3 := hid (hp_lt HN2.out)
  clear hb3 x0 HNB HBL HL2
  go_upto_region 2 with (first
    | (refine al_row (by rfl) 135 (by rfl) _ zeroKind ?_)
    | (refine st_new (by rfl) 135 _ _ (by rfl) k6 (by rfl) (by rfl) 135 _ kindSize rfl (kOne _ _ _ _ _) ?_))
  have HN4 := hid ((below_walk w3 (.cells k6.toArray 135)).block _ (by have := HL3.out; omega) |>.trans HN1.out)
  have HN5 := hid ((below_walk w3 (.cells k6.toArray 135)).block _ HL3.out |>.trans HN2.out)
  have HN6 := hid (hp_new w3 (.cells k6.toArray 135))
  have HB4 := hid (below_then HB3.out (below_walk w3 (.cells k6.toArray 135)))
  obtain ⟨B5, HB5⟩ : ∃ b : Nat, Hid (w3.heap.size = b) := ⟨_, rfl⟩
  rw [HB5.out] at HN6 ⊢
  generalize w3.alloc (.cells k6.toArray 135) = w4 at HN4 HN5 HN6 HB4 ⊢
  clear HN1 HN2 HB3 HL3
  have HS4 := hid (HS0.out.below HB4.out)
  have HL6 := hid (hp_lt HN6.out)
  have HL4 := hid (hp_lt HN4.out)
  have y1 : w4.cell? ⟨B5, 1, none⟩ = some (.func (.func 138) #[] #[]) := by rw [cell_of_row w4 B5 1 _ _ _ HN6.out]; rfl
  have y2 : w4.cell? ⟨B5, 2, none⟩ = some (.func (.func 132) #[] #[]) := by rw [cell_of_row w4 B5 2 _ _ _ HN6.out]; rfl
  have z1 := fun p : Bel w4 => p.cell y1 HL6.out
  have z2 := fun p : Bel w4 => p.cell y2 HL6.out
  have ib : Nonempty (Bel w4) := bel_some w4
  have HRA := hid (Bel.range (range_row HN4.out) HL4.out)
  have HSM := hid (fun p : Bel w4 => HSAME.out p.out (HS4.out.below p.bel))
  have HMY := hid (fun p : Bel w4 => HMAY.out p.out (HS4.out.below p.bel))
  clear y1 y2 HSAME HMAY
  obtain ⟨FF, HFF⟩ : ∃ x, Hid (fcells f (.slice ao f.args.length c) = x) := ⟨_, rfl⟩
  obtain ⟨FO, HFO⟩ : ∃ x, Hid (fcells (ownF f) (ownV f (.slice ao f.args.length c)) = x) := ⟨_, rfl⟩
  rw [HFF.out] at HOWN HSM HMY HSIZE HN4 HSZ HRA ⊢
  rw [HFO.out] at HOWN HSM
  cases hS : sameP f (ownF f) with
  | false =>
    as_aux_lemma =>
      have HPA := hid (show planA k6 (sameP f (ownF f)) M Z = .tuple #[.agg zRow.toArray, .int .i64 0, .int .i64 70] by unfold planA; rw [hS]; rfl)
      rw [hS] at HSM
      clear hS HSIZE
      refine wp_region_quiet_bel (by kernel_rfl) (by kernel_rfl) ?_
      go_big_quiet_step (fail)
      go_big_quiet_step (fail)
      go_big_quiet_step (fail)
      refine wpQuiet_want (by rfl) fun K hK => quiet_ld 30 (.tmp 1) (by rfl) w.heap.size 0 (by rfl) _ _ HRA.out Tryz.underlying30 rfl HSZ.out (hK _ ?_)
      simp only [Act.put, List.setIfInBounds_toArray, List.set_cons_succ, List.set_cons_zero]
      go_big_quiet_step (fail)
      go_big_quiet_step (fail)
      refine wpQuiet_want (by rfl) fun K hK => quiet_ld 30 (.tmp 1) (by rfl) w.heap.size 0 (by rfl) _ _ HRA.out Tryz.underlying30 rfl HSZ.out (hK _ ?_)
      simp only [Act.put, List.setIfInBounds_toArray, List.set_cons_succ, List.set_cons_zero]
      go_big_quiet_step (first | (go_at_call 138; exact bel_of (HOWN.out _)))
      go_big_quiet_step (first | (go_at_call 108; exact bel_of (HSM.out _)))
      go_big_quiet_step (fail)
      go_big_quiet_step (fail)
      go_big_quiet_step (fail)
      go_big_quiet_step (fail)
      go_big_quiet_step (fail)
      go_big_quiet_step (fail)
      go_big_quiet_step (fail)
      go_big_quiet_step (fail)
      go_big_quiet_step (fail)
      refine wpQuiet_nil ?_
      rintro w5 ⟨⟨w5', hb5⟩, hw5⟩
      obtain rfl : w5 = w5' := hw5
      have HN7 := hid ((hb5.block _ HL4.out).trans HN4.out)
      have HN8 := hid ((hb5.block _ (hp_lt HN5.out)).trans HN5.out)
      have HN9 := hid ((hb5.block _ HL6.out).trans HN6.out)
      have HB6 := hid (below_then HB4.out hb5)
      have HS5 := hid (HS4.out.below hb5)
      clear hb5 z1 z2 ib HRA HN4 HN5 HN6 HB4 HL4 HL6 HOWN HSM HMY
      go_wp2_with (first
        | (refine bd_row (by rfl) 135 #[] (by rfl) [] (by simp) zRow.toArray built_zRow ?_)
        | (refine st_row (by rfl) 135 _ _ (by rfl) (w.heap.size + 1) zRow (by rfl) (by rfl) 135 _ HN8.out kindSize rfl zOne ?_; intro w7 hw7))
      refine ret_row3 2 3 4 135 rfl (w.heap.size + 1) rfl zRow 135 hw7.blk _ Tryz.underlying135 rfl kindSize _ _ rfl rfl rfl ⟨by rw [HPA.out]; rfl, Below.of_gb HB6.out hw7.grown (by omega)⟩
  | true =>
    rw [hS] at HSM
    have HSI := hid (HSIZE.out hS)
    clear HSIZE
    cases M with
    | false =>
      as_aux_lemma =>
        have HPA := hid (show planA k6 (sameP f (ownF f)) false Z = .tuple #[.agg zRow.toArray, .int .i64 0, .int .i64 70] by unfold planA; rw [hS]; rfl)
        clear hS HSI
        refine wp_region_quiet_bel (by kernel_rfl) (by kernel_rfl) ?_
        go_big_quiet_step (fail)
        go_big_quiet_step (fail)
        go_big_quiet_step (fail)
        refine wpQuiet_want (by rfl) fun K hK => quiet_ld 30 (.tmp 1) (by rfl) w.heap.size 0 (by rfl) _ _ HRA.out Tryz.underlying30 rfl HSZ.out (hK _ ?_)
        simp only [Act.put, List.setIfInBounds_toArray, List.set_cons_succ, List.set_cons_zero]
        go_big_quiet_step (fail)
        go_big_quiet_step (fail)
        refine wpQuiet_want (by rfl) fun K hK => quiet_ld 30 (.tmp 1) (by rfl) w.heap.size 0 (by rfl) _ _ HRA.out Tryz.underlying30 rfl HSZ.out (hK _ ?_)
        simp only [Act.put, List.setIfInBounds_toArray, List.set_cons_succ, List.set_cons_zero]
        go_big_quiet_step (first | (go_at_call 138; exact bel_of (HOWN.out _)))
        go_big_quiet_step (first | (go_at_call 108; exact bel_of (HSM.out _)))
        go_big_quiet_step (fail)
        go_big_quiet_step (fail)
        go_big_quiet_step (fail)
        go_big_quiet_step (fail)
        go_big_quiet_step (fail)
        refine wpQuiet_want (by rfl) fun K hK => quiet_ld 30 (.tmp 1) (by rfl) w.heap.size 0 (by rfl) _ _ HRA.out Tryz.underlying30 rfl HSZ.out (hK _ ?_)
        simp only [Act.put, List.setIfInBounds_toArray, List.set_cons_succ, List.set_cons_zero]
        go_big_quiet_step (first | (go_at_call 132; exact bel_of (HMY.out _)))
        go_big_quiet_step (fail)
        go_big_quiet_step (fail)
        refine wpQuiet_nil ?_
        rintro w5 ⟨⟨w5', hb5⟩, hw5⟩
        obtain rfl : w5 = w5' := hw5
        have HN7 := hid ((hb5.block _ HL4.out).trans HN4.out)
        have HN8 := hid ((hb5.block _ (hp_lt HN5.out)).trans HN5.out)
        have HN9 := hid ((hb5.block _ HL6.out).trans HN6.out)
        have HB6 := hid (below_then HB4.out hb5)
        have HS5 := hid (HS4.out.below hb5)
        clear hb5 z1 z2 ib HRA HN4 HN5 HN6 HB4 HL4 HL6 HOWN HSM HMY
        go_wp2_with (first
          | (refine bd_row (by rfl) 135 #[] (by rfl) [] (by simp) zRow.toArray built_zRow ?_)
          | (refine st_row (by rfl) 135 _ _ (by rfl) (w.heap.size + 1) zRow (by rfl) (by rfl) 135 _ HN8.out kindSize rfl zOne ?_; intro w7 hw7))
        refine ret_row3 2 3 4 135 rfl (w.heap.size + 1) rfl zRow 135 hw7.blk _ Tryz.underlying135 rfl kindSize _ _ rfl rfl rfl ⟨by rw [HPA.out]; rfl, Below.of_gb HB6.out hw7.grown (by omega)⟩
    | true =>
      as_aux_lemma =>
        have HSJ := hid (HSI.out rfl)
        clear HSI
        refine wp_region_quiet_bel (by kernel_rfl) (by kernel_rfl) ?_
        go_big_quiet_step (fail)
        go_big_quiet_step (fail)
        go_big_quiet_step (fail)
        refine wpQuiet_want (by rfl) fun K hK => quiet_ld 30 (.tmp 1) (by rfl) w.heap.size 0 (by rfl) _ _ HRA.out Tryz.underlying30 rfl HSZ.out (hK _ ?_)
        simp only [Act.put, List.setIfInBounds_toArray, List.set_cons_succ, List.set_cons_zero]
        go_big_quiet_step (fail)
        go_big_quiet_step (fail)
        refine wpQuiet_want (by rfl) fun K hK => quiet_ld 30 (.tmp 1) (by rfl) w.heap.size 0 (by rfl) _ _ HRA.out Tryz.underlying30 rfl HSZ.out (hK _ ?_)
        simp only [Act.put, List.setIfInBounds_toArray, List.set_cons_succ, List.set_cons_zero]
        go_big_quiet_step (first | (go_at_call 138; exact bel_of (HOWN.out _)))
        go_big_quiet_step (first | (go_at_call 108; exact bel_of (HSM.out _)))
        go_big_quiet_step (fail)
        go_big_quiet_step (fail)
        go_big_quiet_step (fail)
        go_big_quiet_step (fail)
        go_big_quiet_step (fail)
        refine wpQuiet_want (by rfl) fun K hK => quiet_ld 30 (.tmp 1) (by rfl) w.heap.size 0 (by rfl) _ _ HRA.out Tryz.underlying30 rfl HSZ.out (hK _ ?_)
        simp only [Act.put, List.setIfInBounds_toArray, List.set_cons_succ, List.set_cons_zero]
        go_big_quiet_step (first | (go_at_call 132; exact bel_of (HMY.out _)))
        go_big_quiet_step (fail)
        go_big_quiet_step (fail)
        refine wpQuiet_nil ?_
        rintro w5 ⟨⟨w5', hb5⟩, hw5⟩
        obtain rfl : w5 = w5' := hw5
        have HN7 := hid ((hb5.block _ HL4.out).trans HN4.out)
        have HN8 := hid ((hb5.block _ (hp_lt HN5.out)).trans HN5.out)
        have HN9 := hid ((hb5.block _ HL6.out).trans HN6.out)
        have HB6 := hid (below_then HB4.out hb5)
        have HS5 := hid (HS4.out.below hb5)
        clear hb5 z1 z2 ib HRA HN4 HN5 HN6 HB4 HL4 HL6 HOWN HSM HMY
        go_wp2_with (first
          | (refine ld_row (by rfl) 135 (.tmp 5) (by rfl) B5 (by rfl) k6 135 HN9.out _ Tryz.underlying135 rfl kindSize ?_)
          | (refine ld_row (by rfl) 30 (.tmp 1) (by rfl) w.heap.size (by rfl) FF 30 HN7.out _ Tryz.underlying30 rfl HSZ.out ?_))
        refine (HSJ.out w5 HS5.out).mono ?_
        rintro e w6 ⟨rfl, hb6⟩
        have HNA := hid ((hb6.block _ (hp_lt HN8.out)).trans HN8.out)
        have HNB := hid ((hb6.block _ (hp_lt HN9.out)).trans HN9.out)
        have HB7 := hid (below_then HB6.out hb6)
        clear hb6 HN7 HN8 HN9 HB6 HSJ
        by_cases hZ : 2097152 < Z
        · have HPA := hid (show planA k6 (sameP f (ownF f)) true Z = .tuple #[.agg zRow.toArray, .int .i64 0, .int .i64 3] by unfold planA; rw [hS]; simp only [Bool.and_true, if_true, if_pos hZ])
          have q1 : decide ((2097152 : Int) < Z) = true := by simpa using hZ
          clear hS
          go_wp2_with (first
            | (refine bd_row (by rfl) 135 #[] (by rfl) [] (by simp) zRow.toArray built_zRow ?_)
            | (refine st_row (by rfl) 135 _ _ (by rfl) (w.heap.size + 1) zRow (by rfl) (by rfl) 135 _ HNA.out kindSize rfl zOne ?_; intro w7 hw7))
          refine ret_row3 2 3 4 135 rfl (w.heap.size + 1) rfl zRow 135 hw7.blk _ Tryz.underlying135 rfl kindSize _ _ rfl rfl rfl ⟨by rw [HPA.out]; rfl, Below.of_gb HB7.out hw7.grown (by omega)⟩
        · have HPA := hid (show planA k6 (sameP f (ownF f)) true Z = .tuple #[.agg k6.toArray, .int .i64 Z, .int .i64 0] by unfold planA; rw [hS]; simp only [Bool.and_true, if_true, if_neg hZ])
          have q1 : decide ((2097152 : Int) < Z) = false := by simpa using hZ
          clear hS
          go_wp2_with (first
            | (refine ld_row (by rfl) 135 (.tmp 5) (by rfl) B5 (by rfl) k6 135 HNB.out _ Tryz.underlying135 rfl kindSize ?_)
            | (refine st_row (by rfl) 135 _ _ (by rfl) (w.heap.size + 1) k6 (by rfl) (by rfl) 135 _ HNA.out kindSize rfl (kOne _ _ _ _ _) ?_; intro w7 hw7))
          refine ret_row3 2 3 4 135 rfl (w.heap.size + 1) rfl k6 135 hw7.blk _ Tryz.underlying135 rfl kindSize _ _ rfl rfl rfl ⟨by rw [HPA.out]; rfl, Below.of_gb HB7.out hw7.grown (by omega)⟩

end Go.Proofs.YtiibhccbbpgehaaGreat

/- The plan of a frame of no kind; Check. -/
namespace Go.Proofs.YtiibhccbbpgehaaGreat
open Go.RowKit Go.BigFrame

set_option maxRecDepth 100000 in
set_option maxHeartbeats 8000000 in
theorem planN_any (f : Fr) (va : Value) (w : World) (hf : f.tool.length = 32) (ha : Strs w va f.args) (hk : ¬ (1 ≤ f.kind ∧ f.kind ≤ 6)) :
    Calls Tryz.prog 79 #[.agg (fcells f va).toArray] w fun e w' => e = .returned (.tuple #[.agg zRow.toArray, .int .i64 0, .int .i64 70]) ∧ Below w.heap.size w w' := by
  obtain ⟨ao, c, rfl⟩ := ha.shape
  have HNB := hid (hp_two w (.cells (fcells f (.slice ao f.args.length c)).toArray 30) (.cells zRow.toArray 135))
  have HBL := hid (below_walk2 w (.cells (fcells f (.slice ao f.args.length c)).toArray 30) (.cells zRow.toArray 135))
  have HZ : Hid ((w.alloc (.cells (fcells f (.slice ao f.args.length c)).toArray 30)).heap.size = w.heap.size + 1) := hid (by simp)
  have HSZ := hid (frame_size f (.slice ao f.args.length c) hf)
  have HS0 := hid ha
  have HF := hid hf
  have HKO : Hid (kOf f.kind = zRow) := hid (by
    unfold kOf
    rw [if_neg (by omega), if_neg (by omega), if_neg (by omega), if_neg (by omega), if_neg (by omega), if_neg (by omega)])
  have HKD := hid (decide_eq_false hk)
  clear hf ha hk
  go_enter Tryz.func79, Tryz.ntmps79
  go_upto_region 1 with (refine al_row (by rfl) 135 (by rfl) _ zeroKind ?_)
  try rw [HZ.out]
  generalize (w.alloc (.cells (fcells f (.slice ao f.args.length c)).toArray 30)).alloc (.cells zRow.toArray 135) = w2 at HNB HBL ⊢
  have x0 := (Fb.of HNB.out.1 HF.out).k
  have HL2 := hid (hp_lt HNB.out.2)
  go_wp2_with fail
  have HKI := hid (kindOf_any f.kind w2)
  rw [HKO.out, HKD.out] at HKI
  refine HKI.out.mono ?_
  rintro e w3 ⟨rfl, hb3⟩
  have HN1 := hid ((hb3.block _ (by have := HL2.out; omega)).trans HNB.out.1)
  have HN2 := hid ((hb3.block _ HL2.out).trans HNB.out.2)
  have HB3 := hid (below_then HBL.out hb3)
  have HL3 := hid (hp_lt HN2.out)
  clear hb3 x0 HNB HBL HL2
  go_upto_region 2 with (first
    | (refine al_row (by rfl) 135 (by rfl) _ zeroKind ?_)
    | (refine st_new (by rfl) 135 _ _ (by rfl) zRow (by rfl) (by rfl) 135 _ kindSize rfl zOne ?_))
  have HN4 := hid ((below_walk w3 (.cells zRow.toArray 135)).block _ (by have := HL3.out; omega) |>.trans HN1.out)
  have HN5 := hid ((below_walk w3 (.cells zRow.toArray 135)).block _ HL3.out |>.trans HN2.out)
  have HN6 := hid (hp_new w3 (.cells zRow.toArray 135))
  have HB4 := hid (below_then HB3.out (below_walk w3 (.cells zRow.toArray 135)))
  obtain ⟨B5, HB5⟩ : ∃ b : Nat, Hid (w3.heap.size = b) := ⟨_, rfl⟩
  rw [HB5.out] at HN6 ⊢
  generalize w3.alloc (.cells zRow.toArray 135) = w4 at HN4 HN5 HN6 HB4 ⊢
  clear HN1 HN2 HB3 HL3
  obtain ⟨FF, HFF⟩ : ∃ x, Hid (fcells f (.slice ao f.args.length c) = x) := ⟨_, rfl⟩
  rw [HFF.out] at HN4 ⊢
  have ib : Nonempty (Bel w4) := bel_some w4
  refine wp_region_quiet_bel (by kernel_rfl) (by kernel_rfl) ?_
  go_big_quiet_step (fail)
  go_big_quiet_step (fail)
  go_big_quiet_step (fail)
  go_big_quiet_step (fail)
  go_big_quiet_step (fail)
  go_big_quiet_step (fail)
  go_big_quiet_step (fail)
  go_big_quiet_step (fail)
  go_big_quiet_step (fail)
  go_big_quiet_step (fail)
  go_big_quiet_step (fail)
  go_big_quiet_step (fail)
  go_big_quiet_step (fail)
  go_big_quiet_step (fail)
  go_big_quiet_step (fail)
  go_big_quiet_step (fail)
  go_big_quiet_step (fail)
  go_big_quiet_step (fail)
  refine wpQuiet_nil ?_
  rintro w5 ⟨⟨w5', hb5⟩, hw5⟩
  obtain rfl : w5 = w5' := hw5
  have HN8 := hid ((hb5.block _ (hp_lt HN5.out)).trans HN5.out)
  have HB6 := hid (below_then HB4.out hb5)
  clear hb5 ib HN4 HN5 HN6 HB4
  go_wp2_with (first
    | (refine bd_row (by rfl) 135 #[] (by rfl) [] (by simp) zRow.toArray built_zRow ?_)
    | (refine st_row (by rfl) 135 _ _ (by rfl) (w.heap.size + 1) zRow (by rfl) (by rfl) 135 _ HN8.out kindSize rfl zOne ?_; intro w7 hw7))
  refine ret_row3 2 3 4 135 rfl (w.heap.size + 1) rfl zRow 135 hw7.blk _ Tryz.underlying135 rfl kindSize _ _ rfl rfl rfl ⟨rfl, Below.of_gb HB6.out hw7.grown (by omega)⟩

set_option maxRecDepth 100000 in
set_option maxHeartbeats 4000000 in
theorem fsize_err (f : Fr) (va : Value) (w : World) (k : List Value) (Z E : Int) (hE : E ≠ 0) (hl : k.length = 5) (hone : ∀ v ∈ k, v.oneCell' = true) (hf : f.tool.length = 32) (ha : Strs w va f.args)
    (hplan : ∀ W, Strs W va f.args → Calls Tryz.prog 79 #[.agg (fcells f va).toArray] W fun e w' => e = .returned (.tuple #[.agg k.toArray, .int .i64 Z, .int .i64 E]) ∧ Below W.heap.size W w') :
    Calls Tryz.prog 53 #[.agg (fcells f va).toArray] w fun e w' => e = .returned (.tuple #[.int .i64 0, .int .i64 E]) ∧ Below w.heap.size w w' := by
  have HNB := hid (hp_new w (.cells (fcells f va).toArray 30))
  have HBL := hid (below_walk w (.cells (fcells f va).toArray 30))
  have HSZ := hid (frame_size f va hf)
  have HPL := hid (hplan _ (ha.below HBL.out))
  have HKS := hid (show (Tryz.prog.info? 135).map (·.size) = some k.length by rw [hl]; exact kindSize)
  have HKO := hid (show zRow.toArray.size = k.length by rw [hl]; rfl)
  have HON := hid hone
  clear hplan ha hf hone hl
  go_enter Tryz.func53, Tryz.ntmps53
  go_upto_region 1 with fail
  generalize w.alloc (.cells (fcells f va).toArray 30) = w1 at HNB HBL HPL ⊢
  generalize fcells f va = FF at *
  go_wp2_with (refine ld_row (by rfl) 30 (.tmp 1) (by rfl) w.heap.size (by rfl) FF 30 HNB.out _ Tryz.underlying30 rfl HSZ.out ?_)
  refine HPL.out.mono ?_
  rintro e w2 ⟨rfl, hb2⟩
  have HB2 := hid (below_then (below_then HBL.out hb2) (below_walk w2 (.cells k.toArray 135)))
  clear hb2 HNB HBL HPL
  have q1 : (E != 0) = true := by simpa using hE
  have q2 : (E == 0) = false := by simpa using hE
  go_wp2_with (first
    | (refine al_row (by rfl) 135 (by rfl) _ zeroKind ?_)
    | (refine st_new (by rfl) 135 _ _ (by rfl) k (by rfl) (by rfl) 135 _ HKS.out HKO.out HON.out ?_))
  go_ret2
  exact ⟨rfl, HB2.out⟩

set_option maxRecDepth 100000 in
set_option maxHeartbeats 4000000 in
theorem fsize_ok (f : Fr) (va : Value) (w : World) (k : List Value) (Z : Nat) (hZ : Z ≤ 2097152) (hl : k.length = 5) (hone : ∀ v ∈ k, v.oneCell' = true) (hf : f.tool.length = 32) (ha : Strs w va f.args)
    (hplan : ∀ W, Strs W va f.args → Calls Tryz.prog 79 #[.agg (fcells f va).toArray] W fun e w' => e = .returned (.tuple #[.agg k.toArray, .int .i64 (Z : Int), .int .i64 0]) ∧ Below W.heap.size W w') :
    Calls Tryz.prog 53 #[.agg (fcells f va).toArray] w fun e w' => e = .returned (.tuple #[.int .i64 (((sn Z).length : Int) + (Z : Int) + 4), .int .i64 0]) ∧ Below w.heap.size w w' := by
  have HNB := hid (hp_new w (.cells (fcells f va).toArray 30))
  have HBL := hid (below_walk w (.cells (fcells f va).toArray 30))
  have HSZ := hid (frame_size f va hf)
  have HPL := hid (hplan _ (ha.below HBL.out))
  have HKS := hid (show (Tryz.prog.info? 135).map (·.size) = some k.length by rw [hl]; exact kindSize)
  have HKO := hid (show zRow.toArray.size = k.length by rw [hl]; rfl)
  have HON := hid hone
  clear hplan ha hf hone hl
  go_enter Tryz.func53, Tryz.ntmps53
  go_upto_region 1 with fail
  generalize w.alloc (.cells (fcells f va).toArray 30) = w1 at HNB HBL HPL ⊢
  generalize fcells f va = FF at *
  go_wp2_with (refine ld_row (by rfl) 30 (.tmp 1) (by rfl) w.heap.size (by rfl) FF 30 HNB.out _ Tryz.underlying30 rfl HSZ.out ?_)
  refine HPL.out.mono ?_
  rintro e w2 ⟨rfl, hb2⟩
  have HB2 := hid (below_then (below_then HBL.out hb2) (below_walk w2 (.cells k.toArray 135)))
  clear hb2 HNB HBL HPL
  have wz : IntKind.u64.wrap (Z : Int) = (Z : Int) := by rw [IntKind.wrap_u64]; omega
  have hsl := sn_length_le Z
  obtain ⟨SL, HSL⟩ : ∃ n, Hid ((sn Z).length = n) := ⟨_, rfl⟩
  rw [HSL.out] at hsl
  have w1' : IntKind.i64.wrap ((SL : Int) + (Z : Int)) = (SL : Int) + (Z : Int) := by rw [IntKind.wrap_i64]; omega
  have w2' : IntKind.i64.wrap ((SL : Int) + (Z : Int) + 4) = (SL : Int) + (Z : Int) + 4 := by rw [IntKind.wrap_i64]; omega
  have HSZE := hid (fun W => size_any Z W (by omega))
  rw [HSL.out] at HSZE
  go_wp2_with (first
    | (refine al_row (by rfl) 135 (by rfl) _ zeroKind ?_)
    | (refine st_new (by rfl) 135 _ _ (by rfl) k (by rfl) (by rfl) 135 _ HKS.out HKO.out HON.out ?_))
  refine (HSZE.out _).mono ?_
  rintro e w4 ⟨rfl, hw4⟩
  subst hw4
  go_wp2
  go_ret2
  exact ⟨by rw [HSL.out]; rfl, HB2.out⟩

end Go.Proofs.YtiibhccbbpgehaaGreat

/- What the program's plan, Check, Size and Encode answer, of every frame. -/
namespace Go.Proofs.YtiibhccbbpgehaaGreat
open Go.RowKit

theorem toNat_eq {x : Int} (h : 0 ≤ x) : x = (x.toNat : Int) := by omega

theorem layF_1 (f : Fr) (va : Value) (hr : Rng f) (hk : f.kind = 1) (h1 : 0 ≤ f.ver) (h2 : 0 ≤ f.slots) : ∀ W vb bs, Src W vb bs → bs.length ≤ 1000 → Strs W va f.args → Calls Tryz.prog 121 #[vb, .agg (fcells f va).toArray] W fun e w' => ∃ v, e = .returned v ∧ Src w' v (bs ++ layP f) ∧ Below W.heap.size W w' := by
  intro W vb bs hs hb ha
  rw [lay_1 f hk]
  exact layHello_any vb bs f va f.ver.toNat f.slots.toNat W hs hb hr.tool (toNat_eq h1) (toNat_eq h2) (by have := hr.ver; omega) (by have := hr.slots; omega)

theorem layF_2 (f : Fr) (va : Value) (hr : Rng f) (hk : f.kind = 2) (h1 : 0 ≤ f.lim.1) (h2 : 0 ≤ f.lim.2.1) (h3 : 0 ≤ f.lim.2.2) (hA : (txs (f.args.map mk)).length ≤ 100000) (hB : f.body.length ≤ 2097152) : ∀ W vb bs, Src W vb bs → bs.length ≤ 1000 → Strs W va f.args → Calls Tryz.prog 125 #[vb, .agg (fcells f va).toArray] W fun e w' => ∃ v, e = .returned v ∧ Src w' v (bs ++ layP f) ∧ Below W.heap.size W w' := by
  intro W vb bs hs hb ha
  rw [lay_2 f hk]
  exact layRequest_any vb bs f va f.id.toNat f.lim.1.toNat f.lim.2.1.toNat f.lim.2.2.toNat W hs hb hr.tool ha (toNat_eq hr.idl) (by have := hr.idh; omega) (toNat_eq h1) (toNat_eq h2) (toNat_eq h3) (by have := hr.l1; omega) (by have := hr.l2; omega) (by have := hr.l3; omega) hA hB

theorem layF_3 (f : Fr) (va : Value) (hr : Rng f) (hk : f.kind = 3) (h1 : 0 ≤ f.status) (hB : f.body.length ≤ 2097152) : ∀ W vb bs, Src W vb bs → bs.length ≤ 1000 → Strs W va f.args → Calls Tryz.prog 129 #[vb, .agg (fcells f va).toArray] W fun e w' => ∃ v, e = .returned v ∧ Src w' v (bs ++ layP f) ∧ Below W.heap.size W w' := by
  intro W vb bs hs hb ha
  rw [lay_3 f hk]
  exact layResponse_any vb bs f va f.id.toNat f.status.toNat W hs hb hr.tool (toNat_eq hr.idl) (by have := hr.idh; omega) (toNat_eq h1) (by have := hr.status; omega) hB

theorem layF_4 (f : Fr) (va : Value) (hr : Rng f) (hk : f.kind = 4)  : ∀ W vb bs, Src W vb bs → bs.length ≤ 1000 → Strs W va f.args → Calls Tryz.prog 133 #[vb, .agg (fcells f va).toArray] W fun e w' => ∃ v, e = .returned v ∧ Src w' v (bs ++ layP f) ∧ Below W.heap.size W w' := by
  intro W vb bs hs hb ha
  rw [lay_4 f hk]
  exact layCancel_any vb bs f va f.id.toNat W hs hb hr.tool (toNat_eq hr.idl) (by have := hr.idh; omega)

theorem layF_5 (f : Fr) (va : Value) (_ : Rng f) (hk : f.kind = 5) : ∀ W vb bs, Src W vb bs → bs.length ≤ 1000 → Strs W va f.args → Calls Tryz.prog 136 #[vb, .agg (fcells f va).toArray] W fun e w' => ∃ v, e = .returned v ∧ Src w' v (bs ++ layP f) ∧ Below W.heap.size W w' := by
  intro W vb bs hs hb ha
  rw [lay_5 f hk, List.append_nil]
  obtain ⟨ao, n, c, rfl⟩ := src_named hs
  refine (layBye_any ao n c _ W).mono ?_
  rintro e w' ⟨rfl, hbl⟩
  exact ⟨_, rfl, hs.below hbl, hbl⟩

theorem layF_6 (f : Fr) (va : Value) (hr : Rng f) (hk : f.kind = 6) (hB : f.body.length ≤ 2097152) : ∀ W vb bs, Src W vb bs → bs.length ≤ 1000 → Strs W va f.args → Calls Tryz.prog 139 #[vb, .agg (fcells f va).toArray] W fun e w' => ∃ v, e = .returned v ∧ Src w' v (bs ++ layP f) ∧ Below W.heap.size W w' := by
  intro W vb bs hs hb ha
  rw [lay_6 f hk]
  exact layNote_any vb bs f va W hs hb hr.tool hB

theorem mayF_1 (f : Fr) (hk : f.kind = 1) : mayF f = mayHelloP f := by
  unfold mayF
  rw [if_pos hk]

set_option maxRecDepth 100000 in
theorem planF_1 (f : Fr) (va : Value) (w : World) (hr : Rng f) (ha : Strs w va f.args) (hk : f.kind = 1) :
    Calls Tryz.prog 79 #[.agg (fcells f va).toArray] w fun e w' => e = .returned (planA k1 (sameP f (ownF f)) (mayF f) ((bodyP f).length : Int)) ∧ Below w.heap.size w w' := by
  refine plan1_any f va w (mayF f) _ hr.tool ha hr.many hk (fun W hW => by rw [mayF_1 f hk]; exact mayHello_any f va W hr.tool) ?_
  intro hsm hmf W hW
  have hls := lay_short f hmf hr.tool
  have hm := hmf
  rw [mayF_1 f hk] at hm
  refine (ksize1_any f va 1 (layP (noBody f)) W hr.tool hW hk (by omega) hr.body hls (fun W' vb bs hs hb hS => layF_1 (noBody f) va hr.noBody hk (by have := mayHello_of hm; show 0 ≤ f.ver; omega) (by have := mayHello_of hm; show 0 ≤ f.slots; omega) W' vb bs hs hb hS)).mono ?_
  rintro e w' ⟨rfl, hb⟩
  exact ⟨by rw [reck_any f hsm (by omega) 1 hk], hb⟩

theorem mayF_2 (f : Fr) (hk : f.kind = 2) : mayF f = mayReqP f := by
  unfold mayF
  rw [if_neg (by omega), if_pos hk]

set_option maxRecDepth 100000 in
theorem planF_2 (f : Fr) (va : Value) (w : World) (hr : Rng f) (ha : Strs w va f.args) (hk : f.kind = 2) :
    Calls Tryz.prog 79 #[.agg (fcells f va).toArray] w fun e w' => e = .returned (planA k2 (sameP f (ownF f)) (mayF f) ((bodyP f).length : Int)) ∧ Below w.heap.size w w' := by
  refine plan2_any f va w (mayF f) _ hr.tool ha hr.many hk (fun W hW => by rw [mayF_2 f hk]; exact mayRequest_any f va W hr.tool hW hr.many) ?_
  intro hsm hmf W hW
  have hls := lay_short f hmf hr.tool
  have hm := hmf
  rw [mayF_2 f hk] at hm
  refine (ksize2_any f va 2 (layP (noBody f)) W hr.tool hW hk (by omega) hr.body hls (fun W' vb bs hs hb hS => layF_2 (noBody f) va hr.noBody hk (mayReq_of hm).1 (mayReq_of hm).2.1 (mayReq_of hm).2.2.1 (args_len (mayReq_of hm).2.2.2.2 (mayReq_of hm).2.2.2.1) (by simp [noBody]) W' vb bs hs hb hS)).mono ?_
  rintro e w' ⟨rfl, hb⟩
  exact ⟨by rw [reck_any f hsm (by omega) 2 hk], hb⟩

theorem mayF_3 (f : Fr) (hk : f.kind = 3) : mayF f = mayResP f := by
  unfold mayF
  rw [if_neg (by omega), if_neg (by omega), if_pos hk]

set_option maxRecDepth 100000 in
theorem planF_3 (f : Fr) (va : Value) (w : World) (hr : Rng f) (ha : Strs w va f.args) (hk : f.kind = 3) :
    Calls Tryz.prog 79 #[.agg (fcells f va).toArray] w fun e w' => e = .returned (planA k3 (sameP f (ownF f)) (mayF f) ((bodyP f).length : Int)) ∧ Below w.heap.size w w' := by
  refine plan3_any f va w (mayF f) _ hr.tool ha hr.many hk (fun W hW => by rw [mayF_3 f hk]; exact mayResponse_any f va W hr.tool) ?_
  intro hsm hmf W hW
  have hls := lay_short f hmf hr.tool
  have hm := hmf
  rw [mayF_3 f hk] at hm
  refine (ksize3_any f va 3 (layP (noBody f)) W hr.tool hW hk (by omega) hr.body hls (fun W' vb bs hs hb hS => layF_3 (noBody f) va hr.noBody hk (by have := mayRes_of hm; show 0 ≤ f.status; omega) (by simp [noBody]) W' vb bs hs hb hS)).mono ?_
  rintro e w' ⟨rfl, hb⟩
  exact ⟨by rw [reck_any f hsm (by omega) 3 hk], hb⟩

theorem mayF_4 (f : Fr) (hk : f.kind = 4) : mayF f = true := by
  unfold mayF
  rw [if_neg (by omega), if_neg (by omega), if_neg (by omega)]

set_option maxRecDepth 100000 in
theorem planF_4 (f : Fr) (va : Value) (w : World) (hr : Rng f) (ha : Strs w va f.args) (hk : f.kind = 4) :
    Calls Tryz.prog 79 #[.agg (fcells f va).toArray] w fun e w' => e = .returned (planA k4 (sameP f (ownF f)) (mayF f) ((bodyP f).length : Int)) ∧ Below w.heap.size w w' := by
  refine plan4_any f va w (mayF f) _ hr.tool ha hr.many hk (fun W hW => by rw [mayF_4 f hk]; exact mayAlways_any _ W) ?_
  intro hsm hmf W hW
  have hls := lay_short f hmf hr.tool
  have hm := hmf
  rw [mayF_4 f hk] at hm
  refine (ksize4_any f va 4 (layP (noBody f)) W hr.tool hW hk (by omega) hr.body hls (fun W' vb bs hs hb hS => layF_4 (noBody f) va hr.noBody hk  W' vb bs hs hb hS)).mono ?_
  rintro e w' ⟨rfl, hb⟩
  exact ⟨by rw [reck_any f hsm (by omega) 4 hk], hb⟩

theorem mayF_5 (f : Fr) (hk : f.kind = 5) : mayF f = true := by
  unfold mayF
  rw [if_neg (by omega), if_neg (by omega), if_neg (by omega)]

set_option maxRecDepth 100000 in
theorem planF_5 (f : Fr) (va : Value) (w : World) (hr : Rng f) (ha : Strs w va f.args) (hk : f.kind = 5) :
    Calls Tryz.prog 79 #[.agg (fcells f va).toArray] w fun e w' => e = .returned (planA k5 (sameP f (ownF f)) (mayF f) ((bodyP f).length : Int)) ∧ Below w.heap.size w w' := by
  refine plan5_any f va w (mayF f) _ hr.tool ha hr.many hk (fun W hW => by rw [mayF_5 f hk]; exact mayAlways_any _ W) ?_
  intro hsm hmf W hW
  have hls := lay_short f hmf hr.tool
  have hm := hmf
  rw [mayF_5 f hk] at hm
  refine (ksize5_any f va 5 (layP (noBody f)) W hr.tool hW hk (by omega) hr.body hls (fun W' vb bs hs hb hS => layF_5 (noBody f) va hr.noBody hk  W' vb bs hs hb hS)).mono ?_
  rintro e w' ⟨rfl, hb⟩
  exact ⟨by rw [reck_any f hsm (by omega) 5 hk], hb⟩

theorem mayF_6 (f : Fr) (hk : f.kind = 6) : mayF f = true := by
  unfold mayF
  rw [if_neg (by omega), if_neg (by omega), if_neg (by omega)]

set_option maxRecDepth 100000 in
theorem planF_6 (f : Fr) (va : Value) (w : World) (hr : Rng f) (ha : Strs w va f.args) (hk : f.kind = 6) :
    Calls Tryz.prog 79 #[.agg (fcells f va).toArray] w fun e w' => e = .returned (planA k6 (sameP f (ownF f)) (mayF f) ((bodyP f).length : Int)) ∧ Below w.heap.size w w' := by
  refine plan6_any f va w (mayF f) _ hr.tool ha hr.many hk (fun W hW => by rw [mayF_6 f hk]; exact mayAlways_any _ W) ?_
  intro hsm hmf W hW
  have hls := lay_short f hmf hr.tool
  have hm := hmf
  rw [mayF_6 f hk] at hm
  refine (ksize6_any f va 6 (layP (noBody f)) W hr.tool hW hk (by omega) hr.body hls (fun W' vb bs hs hb hS => layF_6 (noBody f) va hr.noBody hk (by simp [noBody]) W' vb bs hs hb hS)).mono ?_
  rintro e w' ⟨rfl, hb⟩
  exact ⟨by rw [reck_any f hsm (by omega) 6 hk], hb⟩

/-- what the plan answers -/
def planR (f : Fr) : Value := if chkE f = 0 then .tuple #[.agg (kOf f.kind).toArray, .int .i64 ((bodyP f).length : Int), .int .i64 0] else .tuple #[.agg zRow.toArray, .int .i64 0, .int .i64 (chkE f)]

theorem planA_R (f : Fr) (k : List Value) (hk : 1 ≤ f.kind ∧ f.kind ≤ 6) (e : kOf f.kind = k) : planA k (sameP f (ownF f)) (mayF f) ((bodyP f).length : Int) = planR f := by
  unfold planR planA chkE okFr
  rw [e, decide_eq_true hk, Bool.true_and]
  by_cases h : (sameP f (ownF f) && mayF f) = true
  · rw [if_pos h, if_pos h]
    by_cases hl : 2097152 < (bodyP f).length
    · rw [if_pos hl, if_pos (show (2097152 : Int) < ((bodyP f).length : Int) by omega)]
      rfl
    · rw [if_neg hl, if_neg (show ¬ (2097152 : Int) < ((bodyP f).length : Int) by omega)]
      rfl
  · rw [if_neg h, if_neg h]
    rfl

theorem planF_any (f : Fr) (va : Value) (w : World) (hr : Rng f) (ha : Strs w va f.args) :
    Calls Tryz.prog 79 #[.agg (fcells f va).toArray] w fun e w' => e = .returned (planR f) ∧ Below w.heap.size w w' := by
  by_cases hk : 1 ≤ f.kind ∧ f.kind ≤ 6
  · have hc : f.kind = 1 ∨ f.kind = 2 ∨ f.kind = 3 ∨ f.kind = 4 ∨ f.kind = 5 ∨ f.kind = 6 := by omega
    rcases hc with k | k | k | k | k | k
    · rw [← planA_R f k1 hk (by rw [k]; rfl)]
      exact planF_1 f va w hr ha k
    · rw [← planA_R f k2 hk (by rw [k]; rfl)]
      exact planF_2 f va w hr ha k
    · rw [← planA_R f k3 hk (by rw [k]; rfl)]
      exact planF_3 f va w hr ha k
    · rw [← planA_R f k4 hk (by rw [k]; rfl)]
      exact planF_4 f va w hr ha k
    · rw [← planA_R f k5 hk (by rw [k]; rfl)]
      exact planF_5 f va w hr ha k
    · rw [← planA_R f k6 hk (by rw [k]; rfl)]
      exact planF_6 f va w hr ha k
  · have e : planR f = .tuple #[.agg zRow.toArray, .int .i64 0, .int .i64 70] := by
      unfold planR chkE okFr
      rw [decide_eq_false hk]
      rfl
    rw [e]
    exact planN_any f va w hr.tool ha hk

theorem kOf_one (n : Int) : ∀ v ∈ kOf n, v.oneCell' = true := by
  unfold kOf
  repeat' split
  all_goals (intro v hv; revert v; decide)

/-- what Size answers -/
def sizeN (f : Fr) : Int := if chkE f = 0 then ((encP f).length : Int) else 0

theorem chk_ok {f : Fr} (h : chkE f = 0) : okFr f = true ∧ (bodyP f).length ≤ 2097152 := by
  unfold chkE at h
  by_cases ho : okFr f = true
  · rw [if_pos ho] at h
    by_cases hl : 2097152 < (bodyP f).length
    · rw [if_pos hl] at h; cases h
    · exact ⟨ho, by omega⟩
  · rw [if_neg ho] at h; cases h

theorem sizeF_any (f : Fr) (va : Value) (w : World) (hr : Rng f) (ha : Strs w va f.args) :
    Calls Tryz.prog 53 #[.agg (fcells f va).toArray] w fun e w' => e = .returned (.tuple #[.int .i64 (sizeN f), .int .i64 (chkE f)]) ∧ Below w.heap.size w w' := by
  unfold sizeN
  by_cases h : chkE f = 0
  · rw [if_pos h, h]
    have e : ((encP f).length : Int) = ((sn (bodyP f).length).length : Int) + ((bodyP f).length : Int) + 4 := by
      unfold encP
      rw [sealP_length, List.length_append]
      omega
    rw [e]
    refine fsize_ok f va w (kOf f.kind) (bodyP f).length (chk_ok h).2 (kOf_length _) (kOf_one _) hr.tool ha fun W hW => ?_
    have := planF_any f va W hr hW
    unfold planR at this
    rw [if_pos h] at this
    exact this
  · rw [if_neg h]
    refine fsize_err f va w zRow 0 (chkE f) h (kOf_length 0) (kOf_one 0) hr.tool ha fun W hW => ?_
    have := planF_any f va W hr hW
    unfold planR at this
    rw [if_neg h] at this
    exact this

theorem encF_err (f : Fr) (va : Value) (w : World) (hr : Rng f) (ha : Strs w va f.args) (h : chkE f ≠ 0) :
    Calls Tryz.prog 37 #[.agg (fcells f va).toArray] w fun e w' => e = .returned (.tuple #[.slice none 0 0, .int .i64 (chkE f)]) ∧ Below w.heap.size w w' := by
  refine encode_err f va w (chkE f) hr.tool ha h fun W hW => ?_
  have := planF_any f va W hr hW
  unfold planR at this
  rw [if_neg h] at this
  exact this

theorem okFr_of {f : Fr} (h : okFr f = true) : (1 ≤ f.kind ∧ f.kind ≤ 6) ∧ sameP f (ownF f) = true ∧ mayF f = true := by
  unfold okFr at h
  simp only [Bool.and_eq_true, decide_eq_true_eq] at h
  exact h

theorem body_cons (f : Fr) (Z K : Nat) (hK : f.kind = (K : Int)) : sns [Z, K] ++ layP f = sn Z ++ bodyP f := by
  unfold bodyP
  rw [sns_two, List.append_assoc, show f.kind.toNat = K by omega]

theorem lay_le (f : Fr) (h : (bodyP f).length ≤ 2097152) : (layP f).length ≤ 4000000 := by
  unfold bodyP at h
  rw [List.length_append] at h
  omega

theorem encF_ok (f : Fr) (va : Value) (w : World) (hr : Rng f) (ha : Strs w va f.args) (h : chkE f = 0) :
    Calls Tryz.prog 37 #[.agg (fcells f va).toArray] w fun e w' => ∃ v, e = .returned (.tuple #[v, .int .i64 0]) ∧ OwnB w' w.heap.size v (encP f) ∧ Below w.heap.size w w' := by
  obtain ⟨ho, hl⟩ := chk_ok h
  obtain ⟨hk, hsm, hm⟩ := okFr_of ho
  have hll := lay_le f hl
  have hplan : ∀ W, Strs W va f.args → Calls Tryz.prog 79 #[.agg (fcells f va).toArray] W fun e w' => e = .returned (.tuple #[.agg (kOf f.kind).toArray, .int .i64 ((bodyP f).length : Int), .int .i64 0]) ∧ Below W.heap.size W w' := fun W hW => by
    have := planF_any f va W hr hW
    unfold planR at this
    rw [if_pos h] at this
    exact this
  unfold encP
  have hc : f.kind = 1 ∨ f.kind = 2 ∨ f.kind = 3 ∨ f.kind = 4 ∨ f.kind = 5 ∨ f.kind = 6 := by omega
  rcases hc with k | k | k | k | k | k
  · rw [mayF_1 f k] at hm
    rw [← body_cons f _ 1 k]
    rw [show kOf f.kind = k1 by rw [k]; rfl] at hplan
    exact encode1_ok f va w (bodyP f).length (layP f) hr.tool ha k hl hll hplan (layF_1 f va hr k (by have := mayHello_of hm; show 0 ≤ f.ver; omega) (by have := mayHello_of hm; show 0 ≤ f.slots; omega))
  · rw [mayF_2 f k] at hm
    rw [← body_cons f _ 2 k]
    rw [show kOf f.kind = k2 by rw [k]; rfl] at hplan
    exact encode2_ok f va w (bodyP f).length (layP f) hr.tool ha k hl hll hplan (layF_2 f va hr k (mayReq_of hm).1 (mayReq_of hm).2.1 (mayReq_of hm).2.2.1 (args_len (mayReq_of hm).2.2.2.2 (mayReq_of hm).2.2.2.1) (body_le f (Or.inl k) hl))
  · rw [mayF_3 f k] at hm
    rw [← body_cons f _ 3 k]
    rw [show kOf f.kind = k3 by rw [k]; rfl] at hplan
    exact encode3_ok f va w (bodyP f).length (layP f) hr.tool ha k hl hll hplan (layF_3 f va hr k (by have := mayRes_of hm; show 0 ≤ f.status; omega) (body_le f (Or.inr (Or.inl k)) hl))
  · rw [mayF_4 f k] at hm
    rw [← body_cons f _ 4 k]
    rw [show kOf f.kind = k4 by rw [k]; rfl] at hplan
    exact encode4_ok f va w (bodyP f).length (layP f) hr.tool ha k hl hll hplan (layF_4 f va hr k )
  · rw [mayF_5 f k] at hm
    rw [← body_cons f _ 5 k]
    rw [show kOf f.kind = k5 by rw [k]; rfl] at hplan
    exact encode5_ok f va w (bodyP f).length (layP f) hr.tool ha k hl hll hplan (layF_5 f va hr k )
  · rw [mayF_6 f k] at hm
    rw [← body_cons f _ 6 k]
    rw [show kOf f.kind = k6 by rw [k]; rfl] at hplan
    exact encode6_ok f va w (bodyP f).length (layP f) hr.tool ha k hl hll hplan (layF_6 f va hr k (body_le f (Or.inr (Or.inr k)) hl))

end Go.Proofs.YtiibhccbbpgehaaGreat

/- Toward a frame that is read: two answers that lie in variables; stores in regions that draw; what a frame of bytes is. -/
namespace Go.Proofs.YtiibhccbbpgehaaGreat
open Go.RowKit

theorem G2.keep {w w' : World} {b c k : Nat} {o : Obj} (h : G2 w w' b c) (hk : w.heap[k]? = some o) (h1 : k ≠ b) (h2 : k ≠ c) : w'.heap[k]? = some o := (h.block k (hp_lt hk) h1 h2).trans hk
theorem gb_keep {w w' : World} {b k : Nat} {o : Obj} (h : w.grownBy w' (some b)) (hk : w.heap[k]? = some o) (h1 : k ≠ b) : w'.heap[k]? = some o := (h.block k (hp_lt hk) (fun e => h1 (by injection e))).trans hk
theorem bel_keep {w w' : World} {k : Nat} {o : Obj} (h : Below w.heap.size w w') (hk : w.heap[k]? = some o) : w'.heap[k]? = some o := (h.block k (hp_lt hk)).trans hk
theorem results_cc {fn : Func} {p q : Tmp} {ty ty2 : TypeId} (h : fn.results = #[.cell p ty, .cell q ty2]) (tmps : Array Value) (P : Program) (w : World) :
    (results fn tmps).run P w = ((asAddr (tmps.getD p undef)).run P w).andThen fun a w₁ => ((loadVar ty a).run P w₁).andThen fun v w₂ => ((asAddr (tmps.getD q undef)).run P w₂).andThen fun a2 w₃ => ((loadVar ty2 a2).run P w₃).andThen fun v2 w₄ => .ok (.tuple #[v, v2]) w₄ := by
  simp only [results, h]
  simp [Sem.run_bind, Result.andThen]
/-- the answers are two rows that lie in variables -/
theorem ret_cc {P : Program} {fn : Func} {R : Ending → World → Prop} {a : Act} {w : World} (p q : Tmp) (ty ty2 : TypeId) (h : fn.results = #[.cell p ty, .cell q ty2]) (g : Nat) (hp : a.tmps.getD p undef = .pointer (some ⟨g, 0, none⟩)) (g2 : Nat) (hq : a.tmps.getD q undef = .pointer (some ⟨g2, 0, none⟩))
    (cs : List Value) (t : TypeId) (hb : w.heap[g]? = some (.cells cs.toArray t (0, 0))) (d : TypeDesc) (hu : P.underlying ty = some d) (hd : d.isRow = true) (hi : (P.info? ty).map (·.size) = some cs.length)
    (cs2 : List Value) (t2 : TypeId) (hb2 : w.heap[g2]? = some (.cells cs2.toArray t2 (0, 0))) (d2 : TypeDesc) (hu2 : P.underlying ty2 = some d2) (hd2 : d2.isRow = true) (hi2 : (P.info? ty2).map (·.size) = some cs2.length)
    (hdf : a.defers = []) (hR : R (.returned (.tuple #[.agg cs.toArray, .agg cs2.toArray])) w) : bodyPost P fn R .ret a w := by
  refine bodyPost_ret (v := .tuple #[.agg cs.toArray, .agg cs2.toArray]) ?_ hdf hR
  rw [results_cc h, hp, hq]
  have h1 := run_loadVar_mid (P := P) w g 0 ty cs d (fun j v hv => by rw [Nat.zero_add, cell_of_row w g j cs.toArray t (0, 0) hb]; simpa using hv) hu hd hi
  have h2 := run_loadVar_mid (P := P) w g2 0 ty2 cs2 d2 (fun j v hv => by rw [Nat.zero_add, cell_of_row w g2 j cs2.toArray t2 (0, 0) hb2]; simpa using hv) hu2 hd2 hi2
  simp [asAddr, h1, h2]
theorem yields_build {P : Program} {ops : Array Oper} {S : World → Prop} {o : Oper} {a : Act} (hw : Region.wanted o (yielded ops a.tmps) = true) (t : TypeId) (parts : Array (Nat × Operand)) (ho : o.op = .build t parts)
    (vs : List (Nat × Value)) (hvs : (parts.map fun (i, x) => (i, a.eval x)).toList = vs) (cs : Array Value) (hb : P.built t vs = some cs) : YieldsIf P ops S o (.agg cs) a :=
  .inl ⟨hw, fun w _ => by
    unfold execOp
    simp only [ho, Sem.run_bind, run_build w t (parts.map fun (i, x) => (i, a.eval x)) cs (by rw [hvs]; exact hb), Sem.run_pure, Result.andThen_ok]⟩
/-- a store of a row, as one step -/
theorem step_store_row {P : Program} {ops : Array Oper} {o : Oper} {a : Act} {w : World} {K : Act → World → Prop} {Q : Exit → Act → World → Prop} {E : Prop} (hgd : o.guard = none) (ty : TypeId) (x y : Operand) (ho : o.op = .store ty x y)
    (g : Nat) (cs : List Value) (hx : a.eval x = .pointer (some ⟨g, 0, none⟩)) (hy : a.eval y = .agg cs.toArray)
    (t : TypeId) (old : Array Value) (hg : w.heap[g]? = some (.cells old t (0, 0))) (hi : (P.info? ty).map (·.size) = some cs.length) (hold : old.size = cs.length) (h1 : ∀ v ∈ cs, v.oneCell' = true)
    (h : ∀ w', RowSet w w' g cs t → K (a.put o.dst undef) w') : if Region.wanted o (yielded ops a.tmps) = true then Oper.wp P o a w K Q else E := by
  rw [if_pos (by simp [Region.wanted, hgd])]
  exact wp_store_row ty x y ho g cs.toArray hx hy t old hg (by rw [List.size_toArray]; exact hi) (by rw [List.size_toArray]; exact hold) (by simpa using h1) (h _ (rowSet w g cs t old hg))

theorem kindOf_0 (w : World) : Calls Tryz.prog 68 #[.int .i64 0] w fun e w' => e = .returned (.tuple #[.agg zRow.toArray, .bool false]) ∧ Below w.heap.size w w' := kindOf_any 0 w
theorem built_k0 : Tryz.prog.built 30 [(0, .int .i64 0)] = some (fcells (kF 0) nS).toArray := by kernel_rfl
theorem built_k1 : Tryz.prog.built 30 [(0, .int .i64 1)] = some (fcells (kF 1) nS).toArray := by kernel_rfl
theorem built_k2 : Tryz.prog.built 30 [(0, .int .i64 2)] = some (fcells (kF 2) nS).toArray := by kernel_rfl
theorem built_k3 : Tryz.prog.built 30 [(0, .int .i64 3)] = some (fcells (kF 3) nS).toArray := by kernel_rfl
theorem built_k4 : Tryz.prog.built 30 [(0, .int .i64 4)] = some (fcells (kF 4) nS).toArray := by kernel_rfl
theorem built_k5 : Tryz.prog.built 30 [(0, .int .i64 5)] = some (fcells (kF 5) nS).toArray := by kernel_rfl
theorem built_k6 : Tryz.prog.built 30 [(0, .int .i64 6)] = some (fcells (kF 6) nS).toArray := by kernel_rfl
theorem built_zf : Tryz.prog.built 30 [] = some (fcells zF nS).toArray := by kernel_rfl
theorem built_ft (a b : Int) : Tryz.prog.built 33 [(0, .int .i64 a), (1, .int .i64 b)] = some [Value.int .i64 a, .int .i64 b].toArray := by kernel_rfl
theorem built_fz : Tryz.prog.built 33 [] = some [Value.int .i64 0, .int .i64 0].toArray := by kernel_rfl
theorem fault_one (a b : Int) : ∀ v ∈ [Value.int .i64 a, .int .i64 b], v.oneCell' = true := by
  intro v hv
  simp only [List.mem_cons, List.not_mem_nil, or_false] at hv
  rcases hv with rfl | rfl <;> rfl

theorem wowns_g2 {w w' : World} {base b c : Nat} {v : Value} {ts : List (List UInt8)} (h : WOwnS w base v ts) (hg : G2 w w' b c) (hb : b < base) (hc : c < base) : WOwnS w' base v ts := by
  rcases h with ⟨h1, h2 | ⟨g, cap, cur, hv, hb2, hh, r⟩⟩
  · exact ⟨h1, Or.inl h2⟩
  · exact ⟨h1, Or.inr ⟨g, cap, cur, hv, hb2, hg.keep hh (by omega) (by omega), r⟩⟩
theorem wowns_len {w : World} {base : Nat} {v : Value} {ts : List (List UInt8)} (h : WOwnS w base v ts) : ts.length ≤ 9223372036854775807 := by
  rcases h.2 with ⟨_, h9⟩ | ⟨_, _, _, _, _, _, h8, h9, _⟩
  · omega
  · unfold maxLen at h9
    omega
/-- texts of one's own are texts -/
theorem wowns_strs {w : World} {base : Nat} {v : Value} {ts : List (List UInt8)} (h : WOwnS w base v ts) : Strs w v ts := by
  rcases h.2 with ⟨h0, h1⟩ | ⟨g, cap, cur, hv, hb, hh, h1, h2, h3, h4⟩
  · exact Or.inl ⟨none, 0, h0, List.length_eq_zero_iff.1 h1, fun _ => rfl⟩
  · refine Or.inr ⟨g, 0, cap, hv, hp_lt hh, h1, fun j hj => ?_⟩
    have hc := World.ownsRow.cells h (g := g) (by rw [hv]; rfl) j (.string (mk (ts.getD j []))) (by
      rw [List.getElem?_map, List.getElem?_eq_getElem hj]
      simp [List.getD_eq_getElem?_getD, List.getElem?_eq_getElem hj, mk])
    rw [addr_add] at hc
    rw [Nat.zero_add]
    exact hc
theorem frameP_zero (bs : List UInt8) (head : Nat) (h : (oS bs 6 (head, 0, 0)).1 = 0) : frameP bs head = (zF, eS bs (oS bs 6 (head, 0, 0)).2) := by unfold frameP; rw [if_pos h]
theorem frameP_bad (bs : List UInt8) (head : Nat) (K : Nat) (hK : (oS bs 6 (head, 0, 0)).1 = K) (h : K ≠ 0) (he : (eS bs (fieldsP bs (K : Int) (oS bs 6 (head, 0, 0)).2).2).1 ≠ 0) : frameP bs head = (zF, eS bs (fieldsP bs (K : Int) (oS bs 6 (head, 0, 0)).2).2) := by
  unfold frameP
  rw [hK, if_neg h, if_pos he]
theorem frameP_ok (bs : List UInt8) (head : Nat) (K : Nat) (hK : (oS bs 6 (head, 0, 0)).1 = K) (h : K ≠ 0) (he : (eS bs (fieldsP bs (K : Int) (oS bs 6 (head, 0, 0)).2).2).1 = 0) (hm : mayF (fieldsP bs (K : Int) (oS bs 6 (head, 0, 0)).2).1 = true) : frameP bs head = ((fieldsP bs (K : Int) (oS bs 6 (head, 0, 0)).2).1, 0, 0) := by
  unfold frameP
  rw [hK, if_neg h, if_neg (fun h2 => h2 he), if_pos hm]
theorem frameP_may (bs : List UInt8) (head : Nat) (K : Nat) (hK : (oS bs 6 (head, 0, 0)).1 = K) (h : K ≠ 0) (he : (eS bs (fieldsP bs (K : Int) (oS bs 6 (head, 0, 0)).2).2).1 = 0) (hm : mayF (fieldsP bs (K : Int) (oS bs 6 (head, 0, 0)).2).1 = false) : frameP bs head = (zF, 70, (head : Int)) := by
  unfold frameP
  rw [hK, if_neg h, if_neg (fun h2 => h2 he), if_neg (by rw [hm]; decide)]
end Go.Proofs.YtiibhccbbpgehaaGreat

/- The document's reader: what it means that a block is one; its calls fail and short, and New. -/
namespace Go.Proofs.YtiibhccbbpgehaaGreat
open Go.RowKit

/-- block b is a reader of the document's: its bytes, its place, its fault -/
structure Qd (w : World) (base b : Nat) (v : Value) (bs : List UInt8) (a : Nat) (why wat : Int) : Prop where
  lo : base ≤ b
  blk : w.heap[b]? = some (.cells #[v, .int .i64 a, .int .i64 why, .int .i64 wat] 88 (0, 0))
  own : OwnB w base v bs
  ne : v.ownBlock ≠ some b
  le : a ≤ bs.length

section
variable {w w' : World} {base b : Nat} {v : Value} {bs : List UInt8} {a : Nat} {why wat : Int}
theorem Qd.lt (h : Qd w base b v bs a why wat) : b < w.heap.size := by
  rcases Nat.lt_or_ge b w.heap.size with h1 | h1
  · exact h1
  · have := h.blk; rw [Array.getElem?_eq_none h1] at this; cases this
theorem Qd.c0 (h : Qd w base b v bs a why wat) : w.cell? ⟨b, 0, none⟩ = some v := by simp [World.cell?, h.blk]
theorem Qd.c1 (h : Qd w base b v bs a why wat) : w.cell? ⟨b, 1, none⟩ = some (.int .i64 a) := by simp [World.cell?, h.blk]
theorem Qd.c2 (h : Qd w base b v bs a why wat) : w.cell? ⟨b, 2, none⟩ = some (.int .i64 why) := by simp [World.cell?, h.blk]
theorem Qd.c3 (h : Qd w base b v bs a why wat) : w.cell? ⟨b, 3, none⟩ = some (.int .i64 wat) := by simp [World.cell?, h.blk]
theorem Qd.fz (h : Qd w base b v bs a why wat) (i : Nat) : w.frozen? ⟨b, i, none⟩ = false := by simp [World.frozen?, h.blk]
theorem Qd.grown {row : Option Nat} (h : Qd w base b v bs a why wat) (hg : w.grownBy w' row) (hb : row ≠ some b) (hv : v.ownBlock = none ∨ v.ownBlock ≠ row) : Qd w' base b v bs a why wat :=
  ⟨h.lo, (hg.block b h.lt (fun e => hb e.symm)).trans h.blk, h.own.kept hg hv, h.ne, h.le⟩
theorem Qd.below (h : Qd w base b v bs a why wat) (hb : Below w.heap.size w w') : Qd w' base b v bs a why wat :=
  ⟨h.lo, (hb.block b h.lt).trans h.blk, h.own.below hb, h.ne, h.le⟩
theorem Qd.drewN (h : Qd w base b v bs a why wat) (k : Nat) : Qd (w.drewN k) base b v bs a why wat := ⟨h.lo, h.blk, h.own, h.ne, h.le⟩
theorem Qd.drew (h : Qd w base b v bs a why wat) : Qd w.drew base b v bs a why wat := ⟨h.lo, h.blk, h.own, h.ne, h.le⟩
theorem Qd.setAt (h : Qd w base b v bs a why wat) (a' : Nat) (h' : a' ≤ bs.length) : Qd (w.setCell ⟨b, 1, none⟩ (.int .i64 a')) base b v bs a' why wat :=
  ⟨h.lo, blk_set h.blk _, h.own.kept (gb_set w _ _) (Or.inr (by simpa using h.ne)), h.ne, h'⟩
theorem Qd.setFault (h : Qd w base b v bs a why wat) (e x : Int) : Qd ((w.setCell ⟨b, 2, none⟩ (.int .i64 e)).setCell ⟨b, 3, none⟩ (.int .i64 x)) base b v bs a e x :=
  ⟨h.lo, blk_set (blk_set h.blk _) _, (h.own.kept (gb_set w _ _) (Or.inr (by simpa using h.ne))).kept (gb_set _ _ _) (Or.inr (by simpa using h.ne)), h.ne, h.le⟩

set_option maxHeartbeats 400000 in
theorem qfail_any (h : Qd w base b v bs a why wat) (e x : Int) :
    Calls Tryz.prog 78 #[.pointer (some ⟨b, 0, none⟩), .int .i64 e, .int .i64 x] w fun r w' => r = .returned (.tuple #[]) ∧ Qd w' base b v bs a e x ∧ w.grownBy w' (some b) := by
  have HR := hid h
  have h2 := h.c2
  have h3 := h.c3
  have f2 := h.fz 2
  have f3 := h.fz 3
  clear h
  go_enter Tryz.func78, Tryz.ntmps78
  go_wp2
  go_end0
  exact ⟨rfl, HR.out.setFault _ _, gb_trans (gb_set _ _ _) (gb_set _ _ _)⟩
end

theorem num_plus {acc c j : Nat} (hj : j ≤ 9) (ha : acc < 128 ^ j) (h9 : j = 9 → c ≤ 1) :
    IntKind.u64.wrap ((acc : Int) + IntKind.u64.wrap ((c : Int) % 128 * 2 ^ (7 * j))) = ((acc + c % 128 * 128 ^ j : Nat) : Int) := by
  have hg := group_lt hj h9
  have hp := pow_mono hj
  have e0 : (c : Int) % 128 = ((c % 128 : Nat) : Int) := by omega
  have e2 : ((c % 128 : Nat) : Int) * 2 ^ (7 * j) = ((c % 128 * 128 ^ j : Nat) : Int) := by rw [← seven_pow j]; simp
  have e3 : IntKind.u64.wrap ((c % 128 * 128 ^ j : Nat) : Int) = ((c % 128 * 128 ^ j : Nat) : Int) := by rw [IntKind.wrap_u64]; omega
  have hb : acc + c % 128 * 128 ^ j < 18446744073709551616 := by
    rcases Nat.lt_or_ge j 9 with h | h
    · have h1 := pow_step h
      have h2 : c % 128 * 128 ^ j ≤ 127 * 72057594037927936 := Nat.mul_le_mul (by omega) h1
      omega
    · obtain rfl : j = 9 := by omega
      have h1 := h9 rfl
      have : c % 128 * 128 ^ 9 ≤ 1 * 128 ^ 9 := Nat.mul_le_mul_right _ (by omega)
      omega
  rw [e0, e2, e3, IntKind.wrap_u64]
  omega

theorem ret_num3 {x y : Int} {k : Int} (h : x = y) : Ending.returned (.tuple #[.int .u64 x, .int .i64 k, .int .i64 0]) = .returned (.tuple #[.int .u64 y, .int .i64 k, .int .i64 0]) := by rw [h]

set_option maxRecDepth 100000 in
set_option maxHeartbeats 1000000 in
theorem short_any (base : Nat) (v : Value) (bs : List UInt8) (a : Nat) (w : World) (ho : OwnB w base v bs) (hle : a ≤ bs.length) (er n k : Nat) (hdec : dec (bs.drop a) 0 0 = (er, n, k)) :
    Calls Tryz.prog 105 #[v, .int .i64 a] w fun e w' => e = .returned (.tuple #[.int .u64 n, .int .i64 k, .int .i64 er]) ∧ w' = w := by
  have HD := hid hdec
  have hl := ho.len
  have HF := hid ho.forms
  obtain ⟨ad, cap, rfl⟩ := ho.shape
  clear ho hdec
  unfold maxLen at hl
  go_enter Tryz.func105, Tryz.ntmps105
  go_wp2_with fail
  go_loop [7, 8] (fun x i => ∃ (j acc : Nat), j ≤ 9 ∧ a + j ≤ bs.length ∧ acc < 128 ^ j ∧ dec (bs.drop (a + j)) j acc = (er, n, k) ∧ x = .int .u64 acc ∧ i = .int .i64 j) (fun _ i => 10 - (intOf i).toNat)
  case atStart => exact ⟨0, 0, by omega, by omega, by simp, HD.out, rfl, rfl⟩
  case round =>
    obtain ⟨j, acc, hj, haj, hacc, hd, rfl, rfl⟩ := hrel
    have HDR := hid hd
    have HAC := hid hacc
    clear hd hacc HD
    by_cases hlt : a + j < bs.length
    · obtain ⟨g, hadr, hbyte⟩ : ∃ g, ad = some ⟨g, 0, none⟩ ∧ w.cell? ⟨g, a + j, none⟩ = some (.int .u8 (bs.getD (a + j) 0).toNat) := by
        rcases HF.out with ⟨_, rfl⟩ | ⟨g, cp, hv, _, _, _, _, _, hc⟩
        · simp at hlt
        · simp only [Value.slice.injEq] at hv
          exact ⟨g, hv.1, hc _ hlt⟩
      subst hadr
      have HDR2 := hid (by rw [← HDR.out, drop_cons hlt, dec_cons] : (er, n, k) = _)
      have hcl := UInt8.toNat_lt (bs.getD (a + j) 0)
      generalize (bs.getD (a + j) 0).toNat = c at *
      have hbd : (a : Int) + (j : Int) < (bs.length : Int) := by omega
      have hbd0 : 0 ≤ (a : Int) + (j : Int) := by omega
      have hte : ((a : Int) + (j : Int)).toNat = a + j := by omega
      by_cases h9 : j = 9
      · subst h9
        have hbd' : (a : Int) + 9 < (bs.length : Int) := by omega
        have hbd0' : 0 ≤ (a : Int) + 9 := by omega
        have hte' : ((a : Int) + 9).toNat = a + 9 := by omega
        by_cases hc1 : (1 : Int) < (c : Int)
        · have HE := hid (end_wide (j := 9) HDR2.out rfl (by omega : 1 < c))
          clear HDR2
          go_wp2_with fail
          go_ret3
          obtain ⟨rfl, rfl, rfl⟩ := HE.out
          exact ⟨rfl, rfl⟩
        · by_cases hz : c = 0
          · have hz' : (c : Int) = 0 := by omega
            have HE := hid (end_form (j := 9) (c := c) HDR2.out (by omega) (by omega) hz)
            clear hz HDR2
            go_wp2_with fail
            go_ret3
            obtain ⟨rfl, rfl, rfl⟩ := HE.out
            exact ⟨rfl, rfl⟩
          · obtain rfl : c = 1 := by omega
            have HE := hid (end_done (j := 9) (c := 1) HDR2.out (by omega) (by omega) (by omega))
            clear HDR2
            go_wp2_with fail
            go_ret3
            obtain ⟨rfl, rfl, rfl⟩ := HE.out
            exact ⟨ret_num3 (num_plus (c := 1) (j := 9) (by omega) HAC.out (by omega)), rfl⟩
      · have HJ9 := hid h9
        have hj9 : ¬ (j : Int) = 9 := by omega
        clear h9
        by_cases hc1 : (c : Int) < 128
        · by_cases hz : c = 0
          · have HZ := hid hz
            have hz' : (c : Int) = 0 := by omega
            clear hz
            by_cases hj0 : 0 < j
            · go_wp2_with fail
              go_ret3
              obtain ⟨rfl, rfl, rfl⟩ := end_form (c := c) (j := j) HDR2.out (by omega) hj0 HZ.out
              exact ⟨rfl, rfl⟩
            · have HE := hid (end_done (c := c) (j := j) HDR2.out (by omega) (by omega) (by omega))
              clear HDR2
              go_wp2_with fail
              go_ret3
              obtain ⟨rfl, rfl, rfl⟩ := HE.out
              refine ⟨ret_num3 (k := (j : Int) + 1) ?_, rfl⟩
              have h1 := pow_mono (show j ≤ 9 by omega)
              have h2 := HAC.out
              rw [HZ.out, IntKind.wrap_u64]
              omega
          · have hz' : ¬ (c : Int) = 0 := by omega
            go_wp2_with fail
            go_ret3
            obtain ⟨rfl, rfl, rfl⟩ := end_done HDR2.out (by have := HJ9.out; omega) (by omega) (by omega)
            have e1 : c % 128 = c := by omega
            exact ⟨ret_num3 (by rw [num_plus (by omega) HAC.out (fun e => absurd e HJ9.out), e1]), rfl⟩
        · go_wp2_with fail
          have e0 := end_more HDR2.out HJ9.out (by omega)
          have e1 : c % 128 = c - 128 := by omega
          have hps : 128 ^ (j + 1) = 128 ^ j * 128 := Nat.pow_succ _ _
          have hlt2 : acc + (c - 128) * 128 ^ j < 128 ^ (j + 1) := by
            have h1 : (c - 128) * 128 ^ j ≤ 127 * 128 ^ j := Nat.mul_le_mul_right _ (by omega)
            have h2 := HAC.out
            omega
          have hj' := HJ9.out
          go_round
          case rel => exact ⟨j + 1, acc + (c - 128) * 128 ^ j, by omega, by omega, hlt2, e0, by rw [num_plus (by omega) HAC.out (fun e => absurd e HJ9.out), e1], by go_num⟩
          case measure => simp [intOf]; omega
    · go_wp2_with fail
      go_ret3
      have e1 : bs.drop (a + j) = [] := List.drop_eq_nil_of_le (by omega)
      have e2 := HDR.out
      rw [e1] at e2
      simp [dec] at e2
      obtain ⟨rfl, rfl, rfl⟩ := e2
      exact ⟨rfl, rfl⟩

end Go.Proofs.YtiibhccbbpgehaaGreat

/- The document's reader: Uint, Int, Fail, End. -/
namespace Go.Proofs.YtiibhccbbpgehaaGreat
open Go.RowKit

theorem watOf_ne {er : Nat} (h : er ≠ 0) (a : Nat) (wat : Int) : watOf er a wat = a := by
  unfold watOf
  simp [h]

section

variable {w : World} {base b : Nat} {v : Value} {bs : List UInt8} {a : Nat} {why wat : Int}


set_option maxHeartbeats 1000000 in
theorem quint_over (h : Qd w base b v bs a why wat) (hw : why ≠ 0) :
    Calls Tryz.prog 70 #[.pointer (some ⟨b, 0, none⟩)] w fun e w' => e = .returned (.int .u64 0) ∧ w' = w := by
  have h2 := h.c2
  have hb : (why != 0) = true := by simpa using hw
  clear h
  go_enter Tryz.func70, Tryz.ntmps70
  go_wp2
  go_ret
  exact ⟨rfl, rfl⟩

set_option maxHeartbeats 1000000 in
theorem quint_go (h : Qd w base b v bs a 0 wat) (er n k : Nat) (hdec : dec (bs.drop a) 0 0 = (er, n, k)) :
    Calls Tryz.prog 70 #[.pointer (some ⟨b, 0, none⟩)] w fun e w' => e = .returned (.int .u64 n) ∧ Qd w' base b v bs (a + k) er (watOf er a wat) ∧ w.grownBy w' (some b) := by
  have HR := hid h
  have h0 := h.c0
  have h1 := h.c1
  have h2 := h.c2
  have f1 := h.fz 1
  have hle := h.le
  have hl := h.own.len
  unfold maxLen at hl
  have HD := hid hdec
  have HL := hid (dec_le _ hdec)
  clear h hdec
  go_enter Tryz.func70, Tryz.ntmps70
  go_wp2_with fail
  go_quiet (first | (go_at_call 105; exact Calls.quiet_of_same (short_any base v bs a _ (HR.out.drewN _).own HR.out.le er n k HD.out)))
  by_cases he : er = 0
  · subst he
    have hk : (a : Int) + (k : Int) ≤ 9223372036854775807 := by have := HL.out.1; simp at this; omega
    go_wp2_with fail
    go_ret
    have R := (HR.out.drewN nq).setAt (a + k) (by have := HL.out.1; simp at this; omega)
    rw [Int.natCast_add] at R
    exact ⟨rfl, by simpa [watOf] using R, gb_trans (gb_drewN _ _ _) (gb_set _ _ _)⟩
  · have hW := watOf_ne he a wat
    have HW := hid hW
    clear hW
    have he' : ((er : Int) != 0) = true := by simpa using he
    obtain ⟨rfl, rfl⟩ := HL.out.2.2.2 he
    clear he
    go_wp2_with fail
    refine (qfail_any (HR.out.drewN nq) _ _).mono ?_
    rintro e w1 ⟨rfl, hq, hg⟩
    have HQ := hid hq
    have HG := hid (gb_trans (gb_drewN w nq _) hg)
    clear hq hg
    go_wp2_with fail
    go_ret
    exact ⟨rfl, by rw [HW.out]; exact HQ.out, HG.out⟩

theorem quint_R (h : Qd w base b v bs a why wat) :
    Calls Tryz.prog 70 #[.pointer (some ⟨b, 0, none⟩)] w fun e w' => e = .returned (.int .u64 (uintF bs a why wat).1) ∧ Qd w' base b v bs (uintF bs a why wat).2.1 (uintF bs a why wat).2.2.1 (uintF bs a why wat).2.2.2 ∧ w.grownBy w' (some b) := by
  unfold uintF
  by_cases hw : why ≠ 0
  · rw [if_pos hw]
    refine (quint_over h hw).mono ?_
    rintro e w' ⟨rfl, rfl⟩
    exact ⟨rfl, h, gb_refl _ _⟩
  · rw [if_neg hw]
    obtain rfl : why = 0 := by omega
    exact quint_go h _ _ _ rfl

set_option maxHeartbeats 1000000 in
theorem qfailm_R (n : Int) (h : Qd w base b v bs a why wat) :
    Calls Tryz.prog 107 #[.pointer (some ⟨b, 0, none⟩), .int .i64 n] w fun e w' => e = .returned (.tuple #[]) ∧
      Qd w' base b v bs a (if why = 0 then n else why) (if why = 0 ∧ n ≠ 0 then a else wat) ∧ w.grownBy w' (some b) := by
  have h1 := h.c1
  have h2 := h.c2
  by_cases hw : why = 0
  · subst hw
    by_cases hn : n = 0
    · subst hn
      rw [if_pos rfl, if_neg (by simp)]
      have HR := hid h
      clear h
      go_enter Tryz.func107, Tryz.ntmps107
      go_wp2_with fail
      go_end0
      exact ⟨rfl, HR.out, gb_refl _ _⟩
    · rw [if_pos rfl, if_pos ⟨rfl, hn⟩]
      have HR := hid h
      have hn' : (n != 0) = true := by simpa using hn
      clear h hn
      go_enter Tryz.func107, Tryz.ntmps107
      go_wp2_with fail
      refine (qfail_any HR.out _ _).mono ?_
      rintro e w1 ⟨rfl, hq, hg⟩
      have HQ := hid hq
      have HG := hid hg
      clear hq hg HR
      go_wp2_with fail
      go_end0
      exact ⟨rfl, HQ.out, HG.out⟩
  · rw [if_neg hw, if_neg (by simp [hw])]
    have HR := hid h
    have hw' : (why == 0) = false := by simpa using hw
    clear h hw
    go_enter Tryz.func107, Tryz.ntmps107
    go_wp2_with fail
    go_end0
    exact ⟨rfl, HR.out, gb_refl _ _⟩

set_option maxHeartbeats 1000000 in
theorem qend_more (h : Qd w base b v bs a 0 wat) (hlt : a < bs.length) :
    Calls Tryz.prog 35 #[.pointer (some ⟨b, 0, none⟩)] w fun e w' => e = .returned (.tuple #[.int .i64 6, .int .i64 a]) ∧ Qd w' base b v bs a 6 a ∧ w.grownBy w' (some b) := by
  obtain ⟨ad, cap, rfl⟩ := h.own.shape
  have HR := hid h
  have h0 := h.c0
  have h1 := h.c1
  have h2 := h.c2
  have hlt' : (a : Int) < (bs.length : Int) := by omega
  clear h
  go_enter Tryz.func35, Tryz.ntmps35
  go_wp2_with fail
  go_quiet (fail)
  go_wp2_with fail
  refine (qfail_any (HR.out.drewN nq) _ _).mono ?_
  rintro e w1 ⟨rfl, hq, hg⟩
  have HQ := hid hq
  have HG := hid (gb_trans (gb_drewN w nq _) hg)
  have g2 := hq.c2
  have g3 := hq.c3
  clear hq hg HR
  go_wp2_with fail
  go_quiet (fail)
  go_wp2_with fail
  go_ret2
  exact ⟨rfl, HQ.out.drewN _, gb_trans HG.out (gb_drewN _ _ _)⟩

set_option maxHeartbeats 1000000 in
theorem qend_idle (h : Qd w base b v bs a why wat) (hidle : why ≠ 0 ∨ a = bs.length) :
    Calls Tryz.prog 35 #[.pointer (some ⟨b, 0, none⟩)] w fun e w' => e = .returned (.tuple #[.int .i64 why, .int .i64 wat]) ∧ Qd w' base b v bs a why wat ∧ w.grownBy w' (some b) := by
  obtain ⟨ad, cap, rfl⟩ := h.own.shape
  have HR := hid h
  have h0 := h.c0
  have h1 := h.c1
  have h2 := h.c2
  have h3 := h.c3
  clear h
  by_cases hw : why = 0
  · subst hw
    obtain rfl : a = bs.length := by rcases hidle with h | h; exact absurd rfl h; exact h
    clear hidle
    go_enter Tryz.func35, Tryz.ntmps35
    go_wp2_with fail
    go_quiet (fail)
    go_wp2_with fail
    go_quiet (fail)
    go_wp2_with fail
    go_ret2
    exact ⟨rfl, (HR.out.drewN _).drewN _, gb_trans (gb_drewN _ _ _) (gb_drewN _ _ _)⟩
  · have hw' : (why == 0) = false := by simpa using hw
    clear hidle hw
    go_enter Tryz.func35, Tryz.ntmps35
    go_wp2_with fail
    go_quiet (fail)
    go_wp2_with fail
    go_quiet (fail)
    go_wp2_with fail
    go_ret2
    exact ⟨rfl, (HR.out.drewN _).drewN _, gb_trans (gb_drewN _ _ _) (gb_drewN _ _ _)⟩

end

end Go.Proofs.YtiibhccbbpgehaaGreat

/- The document's reader: Raw, Byte, Bool, Count. -/
namespace Go.Proofs.YtiibhccbbpgehaaGreat
open Go.RowKit

/-- how bytes of the call's own are cut in their midst -/
theorem cut_mid {w : World} {base : Nat} {ad : Option Addr} {cap : Nat} {bs : List UInt8} (h : OwnB w base (.slice ad bs.length cap) bs) (hbl : bs.length ≤ 140737488355327) (a m : Nat) (hm : a + m ≤ bs.length) :
    ∃ vx, Src w vx ((bs.drop a).take m) ∧ vx.ownBlock = ad.map (·.block) ∧ (∀ W, (Instr.slice 22 (.slice ad bs.length cap) (some (.int .i64 (a : Int))) (some (.int .i64 ((a : Int) + (m : Int)))) none).run Tryz.prog W = .ok vx W) := by
  rcases h.forms with ⟨h1, rfl⟩ | ⟨g, cap', hv, _, hlt, h1, h2, _, hc⟩
  · simp at hm h1
    obtain ⟨rfl, rfl⟩ := hm
    obtain ⟨rfl, rfl⟩ := h1
    exact ⟨.slice none 0 0, ⟨by simp, Or.inl ⟨rfl, by simp⟩⟩, rfl, fun W => by go_simp⟩
  · simp only [Value.slice.injEq] at hv
    obtain ⟨rfl, _, rfl⟩ := hv
    have hlen : ((bs.drop a).take m).length = m := by simp; omega
    have hk1 : (a : Int) + (m : Int) ≤ (cap : Int) := by omega
    have hk0 : 0 ≤ (a : Int) + (m : Int) := by omega
    have hk2 : (a : Int) ≤ max ((a : Int) + (m : Int)) 0 := by omega
    have ht : ((a : Int) + (m : Int)).toNat - a = m := by omega
    refine ⟨.slice (if cap = a then some ⟨g, 0, none⟩ else some ⟨g, a, none⟩) m (cap - a), ?_, by split <;> rfl, fun W => by go_simp; intro hx; exact absurd hx (by omega)⟩
    refine ⟨by omega, Or.inr ?_⟩
    by_cases hca : cap = a
    · obtain rfl : m = 0 := by omega
      rw [if_pos hca]
      exact ⟨_, _, by rw [hlen], by omega, by omega, fun h => by omega, fun j hj => by rw [hlen] at hj; omega⟩
    · rw [if_neg hca]
      refine ⟨⟨g, a, none⟩, _, by rw [hlen], by omega, by omega, fun _ => hlt, fun j hj => ?_⟩
      rw [hlen] at hj
      have ha : (⟨g, a, none⟩ : Addr).add j = ⟨g, a + j, none⟩ := by
        by_cases h0 : j = 0
        · subst h0; simp [Addr.add]
        · simp [Addr.add, h0]
      rw [ha, hc (a + j) (by omega)]
      simp [List.getD_eq_getElem?_getD, hj]

section

variable {w : World} {base b : Nat} {v : Value} {bs : List UInt8} {a : Nat} {why wat : Int}


set_option maxHeartbeats 1000000 in
theorem qraw_over (m : Int) (h : Qd w base b v bs a why wat) (hw : why ≠ 0) :
    Calls Tryz.prog 74 #[.pointer (some ⟨b, 0, none⟩), .int .i64 m] w fun e w' => e = .returned (.slice none 0 0) ∧ w' = w := by
  have h2 := h.c2
  have hb : (why != 0) = true := by simpa using hw
  clear h
  go_enter Tryz.func74, Tryz.ntmps74
  go_wp2
  go_ret
  exact ⟨rfl, rfl⟩

set_option maxHeartbeats 1000000 in
theorem qraw_arg (m : Int) (h : Qd w base b v bs a 0 wat) (hm : m < 0) :
    Calls Tryz.prog 74 #[.pointer (some ⟨b, 0, none⟩), .int .i64 m] w fun e w' => e = .returned (.slice none 0 0) ∧ Qd w' base b v bs a 1 a ∧ w.grownBy w' (some b) := by
  have h1 := h.c1
  have h2 := h.c2
  have HR := hid h
  clear h
  go_enter Tryz.func74, Tryz.ntmps74
  go_wp2_with fail
  refine (qfail_any HR.out _ _).mono ?_
  rintro e w1 ⟨rfl, hq, hg⟩
  have HQ := hid hq
  have HG := hid hg
  clear hq hg HR
  go_wp2_with fail
  go_ret
  exact ⟨rfl, HQ.out, HG.out⟩

set_option maxHeartbeats 1000000 in
theorem qraw_short (m : Nat) (h : Qd w base b v bs a 0 wat) (hm : bs.length - a < m) :
    Calls Tryz.prog 74 #[.pointer (some ⟨b, 0, none⟩), .int .i64 m] w fun e w' => e = .returned (.slice none 0 0) ∧ Qd w' base b v bs a 4 a ∧ w.grownBy w' (some b) := by
  have hl := h.own.len
  unfold maxLen at hl
  have hle := h.le
  obtain ⟨ad, cap, rfl⟩ := h.own.shape
  have h0 := h.c0
  have h1 := h.c1
  have h2 := h.c2
  have HR := hid h
  have hm' : (bs.length : Int) - (a : Int) < (m : Int) := by omega
  clear h
  go_enter Tryz.func74, Tryz.ntmps74
  go_wp2_with fail
  go_quiet (fail)
  go_wp2_with fail
  refine (qfail_any (HR.out.drewN nq) _ _).mono ?_
  rintro e w1 ⟨rfl, hq, hg⟩
  have HQ := hid hq
  have HG := hid (gb_trans (gb_drewN w nq _) hg)
  clear hq hg HR
  go_wp2_with fail
  go_ret
  exact ⟨rfl, HQ.out, HG.out⟩

set_option maxRecDepth 100000 in
set_option maxHeartbeats 2000000 in
theorem qraw_ok (m : Nat) (h : Qd w base b v bs a 0 wat) (hbl : bs.length ≤ 140737488355327) (hm : a + m ≤ bs.length) :
    Calls Tryz.prog 74 #[.pointer (some ⟨b, 0, none⟩), .int .i64 m] w fun e w' => ∃ v', e = .returned v' ∧ OwnB w' w.heap.size v' ((bs.drop a).take m) ∧ Qd w' base b v bs (a + m) 0 wat ∧ w.grownBy w' (some b) := by
  obtain ⟨ad, cap, rfl⟩ := h.own.shape
  have h0 := h.c0
  have h1 := h.c1
  have h2 := h.c2
  have f1 := h.fz 1
  have HR := hid h
  have hm' : ¬ (bs.length : Int) - (a : Int) < (m : Int) := by omega
  clear h
  go_enter Tryz.func74, Tryz.ntmps74
  go_wp2_with fail
  go_quiet (fail)
  go_wp2_with fail
  have HQ := hid (HR.out.drewN nq |>.setAt (a + m) hm)
  rw [Int.natCast_add] at HQ
  have HG := hid (gb_trans (gb_drewN w nq _) (gb_set (w.drewN nq) ⟨b, 1, none⟩ (.int .i64 ((a : Int) + (m : Int)))))
  generalize (w.drewN nq).setCell ⟨b, 1, none⟩ (.int .i64 ((a : Int) + (m : Int))) = W at *
  clear h0 h1 h2 f1 HR
  have HQD := hid (HQ.out.drew)
  have HGD := hid (gb_trans HG.out (gb_drew W _))
  obtain ⟨X, HX⟩ : ∃ X : World, Hid (X = W.drew) := ⟨_, rfl⟩
  rw [← HX.out] at HQD HGD
  have h0 := HQD.out.c0
  have h1 := HQD.out.c1
  obtain ⟨vx, hvx, hob, hcut⟩ := cut_mid HQD.out.own hbl a m hm
  have HVX := hid hvx
  have HOB := hid hob
  clear hvx hob HQ HG
  have e1 : (a : Int) + (m : Int) - (m : Int) = (a : Int) := by omega
  have e2 : ((a : Int) + (m : Int)) ≤ 140737488355327 := by omega
  have e3 : IntKind.i64.wrap (a : Int) = (a : Int) := by rw [IntKind.wrap_i64]; omega
  rw [Int.natCast_add] at h1
  refine wp_region_still_tail 15 (by kernel_rfl) (by kernel_rfl) ?_
  simp only [List.take_succ_cons, List.take_zero, List.drop_succ_cons, List.drop_zero]
  rw [show ({ W with drawn := W.drawn + 1 } : World) = X from HX.out.symm]
  repeat still_step
  refine wpStill_nil ?_
  go_wp2_with (at_builtin; refine app_src rfl _ _ rfl X.heap.size _ _ rfl (OwnB.nil _ _) _ _ rfl HVX.out ?c1 (Nat.le_refl _) ?_)
  case c1 => omega
  intro v1 w1 ho1 hg1
  have HO1 := hid (by simpa using ho1 : OwnB w1 X.heap.size v1 ((bs.drop a).take m))
  have HB1 := hid (gb_below hg1)
  clear ho1 hg1
  go_wp2_with fail
  go_ret
  exact ⟨_, rfl, HO1.out.le HGD.out.size, HQD.out.below HB1.out, gb_trans HGD.out (below_gb HB1.out _)⟩

theorem qraw_R (m : Int) (hbl : bs.length ≤ 140737488355327) (h : Qd w base b v bs a why wat) :
    Calls Tryz.prog 74 #[.pointer (some ⟨b, 0, none⟩), .int .i64 m] w fun e w' => ∃ v', e = .returned v' ∧ OwnB w' w.heap.size v' (rawF bs a why wat m).1 ∧ Qd w' base b v bs (rawF bs a why wat m).2.1 (rawF bs a why wat m).2.2.1 (rawF bs a why wat m).2.2.2 ∧ w.grownBy w' (some b) := by
  unfold rawF
  by_cases hw : why ≠ 0
  · rw [if_pos hw]
    refine (qraw_over m h hw).mono ?_
    rintro e w' ⟨rfl, rfl⟩
    exact ⟨_, rfl, OwnB.nil _ _, h, gb_refl _ _⟩
  · rw [if_neg hw]
    obtain rfl : why = 0 := by omega
    by_cases h0 : m < 0
    · rw [if_pos h0]
      refine (qraw_arg m h h0).mono ?_
      rintro e w' ⟨rfl, hr⟩
      exact ⟨_, rfl, OwnB.nil _ _, hr⟩
    · rw [if_neg h0]
      obtain ⟨k, rfl⟩ : ∃ k : Nat, m = k := ⟨m.toNat, by omega⟩
      simp only [Int.toNat_natCast]
      have hle := h.le
      by_cases hl : bs.length - a < k
      · rw [if_pos hl]
        refine (qraw_short k h hl).mono ?_
        rintro e w' ⟨rfl, hr⟩
        exact ⟨_, rfl, OwnB.nil _ _, hr⟩
      · rw [if_neg hl]
        exact qraw_ok k h hbl (by omega)

set_option maxHeartbeats 1000000 in
theorem qcount_over (m : Int) (h : Qd w base b v bs a why wat) (hw : why ≠ 0) :
    Calls Tryz.prog 75 #[.pointer (some ⟨b, 0, none⟩), .int .i64 m] w fun e w' => e = .returned (.int .i64 0) ∧ w' = w := by
  have HC := hid (quint_over h hw)
  have h1 := h.c1
  have h2 := h.c2
  have hw' : (why == 0) = false := by simpa using hw
  clear h hw
  go_enter Tryz.func75, Tryz.ntmps75
  go_wp2_with fail
  refine Calls.mono HC.out ?_
  rintro e w1 ⟨rfl, rfl⟩
  go_wp2_with fail
  go_ret
  exact ⟨rfl, rfl⟩

set_option maxHeartbeats 1000000 in
theorem qcount_arg (m : Int) (h : Qd w base b v bs a 0 wat) (hm : m < 0) :
    Calls Tryz.prog 75 #[.pointer (some ⟨b, 0, none⟩), .int .i64 m] w fun e w' => e = .returned (.int .i64 0) ∧ Qd w' base b v bs a 1 a ∧ w.grownBy w' (some b) := by
  have h1 := h.c1
  have h2 := h.c2
  have HR := hid h
  clear h
  go_enter Tryz.func75, Tryz.ntmps75
  go_wp2_with fail
  refine (qfail_any HR.out _ _).mono ?_
  rintro e w1 ⟨rfl, hq, hg⟩
  have HQ := hid hq
  have HG := hid hg
  have g2 := hq.c2
  clear hq hg HR
  go_wp2_with fail
  refine (quint_over HQ.out (by decide)).mono ?_
  rintro e w2 ⟨rfl, rfl⟩
  go_wp2_with fail
  go_ret
  exact ⟨rfl, HQ.out, HG.out⟩

set_option maxHeartbeats 1000000 in
theorem qcount_go (m : Nat) (hm : m ≤ 9223372036854775807) (h : Qd w base b v bs a 0 wat) (er n k : Nat) (hup : upTo (bs.drop a) m 11 = (er, n, k)) :
    Calls Tryz.prog 75 #[.pointer (some ⟨b, 0, none⟩), .int .i64 m] w fun e w' => e = .returned (.int .i64 n) ∧ Qd w' base b v bs (a + k) er (watOf er a wat) ∧ w.grownBy w' (some b) := by
  obtain ⟨d1, d2, d3, hd⟩ : ∃ d1 d2 d3, dec (bs.drop a) 0 0 = (d1, d2, d3) := ⟨_, _, _, rfl⟩
  have HC := hid (quint_go h d1 d2 d3 hd)
  have h1 := h.c1
  have h2 := h.c2
  have hle := h.le
  obtain ⟨_, hlt, _, hz⟩ := dec_le _ hd
  unfold upTo at hup
  rw [hd] at hup
  simp only at hup
  clear h hd
  by_cases he : d1 = 0
  · subst he
    rw [if_neg (by simp)] at hup
    by_cases hn : m < d2
    · rw [if_pos hn] at hup
      simp only [Prod.mk.injEq] at hup
      obtain ⟨rfl, rfl, rfl⟩ := hup
      have hn' : (m : Int) < (d2 : Int) := by omega
      have HW := hid (watOf_ne (er := 11) (by decide) a wat)
      clear hz
      go_enter Tryz.func75, Tryz.ntmps75
      go_wp2_with fail
      refine Calls.mono HC.out ?_
      rintro e w1 ⟨rfl, hq, hg⟩
      have HQ := hid (hq.setAt a hle)
      have HG := hid (gb_trans hg (gb_set w1 ⟨b, 1, none⟩ (.int .i64 a)))
      have g2 := hq.c2
      have f1 := hq.fz 1
      have g1 := hq.c1
      clear hq hg HC
      go_wp2_with fail
      refine (qfail_any HQ.out _ _).mono ?_
      rintro e w2 ⟨rfl, hq, hg⟩
      have HQ2 := hid hq
      have HG2 := hid (gb_trans HG.out hg)
      clear hq hg
      go_wp2_with fail
      go_ret
      exact ⟨rfl, by rw [HW.out]; exact HQ2.out, HG2.out⟩
    · rw [if_neg hn] at hup
      simp only [Prod.mk.injEq] at hup
      obtain ⟨rfl, rfl, rfl⟩ := hup
      have hn' : ¬ (m : Int) < (d2 : Int) := by omega
      clear hz
      go_enter Tryz.func75, Tryz.ntmps75
      go_wp2_with fail
      refine Calls.mono HC.out ?_
      rintro e w1 ⟨rfl, hq, hg⟩
      have HQ := hid hq
      have HG := hid hg
      have g2 := hq.c2
      clear hq hg HC
      go_wp2_with fail
      go_ret
      exact ⟨rfl, HQ.out, HG.out⟩
  · rw [if_pos he] at hup
    simp only [Prod.mk.injEq] at hup
    obtain ⟨rfl, rfl, rfl⟩ := hup
    obtain ⟨rfl, rfl⟩ := hz he
    have he' : ((d1 : Int) == 0) = false := by simpa using he
    clear he hz
    go_enter Tryz.func75, Tryz.ntmps75
    go_wp2_with fail
    refine Calls.mono HC.out ?_
    rintro e w1 ⟨rfl, hq, hg⟩
    have HQ := hid hq
    have HG := hid hg
    have g2 := hq.c2
    clear hq hg HC
    go_wp2_with fail
    go_ret
    exact ⟨rfl, HQ.out, HG.out⟩

theorem qcount_R (m : Int) (hm : m ≤ 9223372036854775807) (h : Qd w base b v bs a why wat) :
    Calls Tryz.prog 75 #[.pointer (some ⟨b, 0, none⟩), .int .i64 m] w fun e w' => e = .returned (.int .i64 (countF bs a why wat m).1) ∧ Qd w' base b v bs (countF bs a why wat m).2.1 (countF bs a why wat m).2.2.1 (countF bs a why wat m).2.2.2 ∧ w.grownBy w' (some b) := by
  unfold countF
  by_cases hw : why ≠ 0
  · rw [if_pos hw]
    refine (qcount_over m h hw).mono ?_
    rintro e w' ⟨rfl, rfl⟩
    exact ⟨rfl, h, gb_refl _ _⟩
  · rw [if_neg hw]
    obtain rfl : why = 0 := by omega
    by_cases h0 : m < 0
    · rw [if_pos h0]
      exact qcount_arg m h h0
    · rw [if_neg h0]
      obtain ⟨k, rfl⟩ : ∃ k : Nat, m = k := ⟨m.toNat, by omega⟩
      exact qcount_go k (by omega) h _ _ _ rfl

end

end Go.Proofs.YtiibhccbbpgehaaGreat

/- The document's reader: Text. -/
namespace Go.Proofs.YtiibhccbbpgehaaGreat
open Go.RowKit

section
variable {w : World} {base b : Nat} {v : Value} {bs : List UInt8} {a : Nat} {why wat : Int}

set_option maxRecDepth 100000 in
set_option maxHeartbeats 1000000 in
theorem qtext_over (m : Int) (h : Qd w base b v bs a why wat) (hw : why ≠ 0) :
    Calls Tryz.prog 77 #[.pointer (some ⟨b, 0, none⟩), .int .i64 m] w fun e w' => e = .returned (.string ⟨#[]⟩) ∧ w' = w := by
  have HC := hid (quint_over h hw)
  have h1 := h.c1
  have h2 := h.c2
  have hw' : (why == 0) = false := by simpa using hw
  have hw2 : (why != 0) = true := by simpa using hw
  clear h hw
  go_enter Tryz.func77, Tryz.ntmps77
  go_wp2_with fail
  refine Calls.mono HC.out ?_
  rintro e w1 ⟨rfl, rfl⟩
  go_wp2_with fail
  go_ret
  exact ⟨rfl, rfl⟩

set_option maxRecDepth 100000 in
set_option maxHeartbeats 1000000 in
theorem qtext_arg (m : Int) (h : Qd w base b v bs a 0 wat) (hm : m < 0) :
    Calls Tryz.prog 77 #[.pointer (some ⟨b, 0, none⟩), .int .i64 m] w fun e w' => e = .returned (.string ⟨#[]⟩) ∧ Qd w' base b v bs a 1 a ∧ w.grownBy w' (some b) := by
  have h1 := h.c1
  have h2 := h.c2
  have HR := hid h
  clear h
  go_enter Tryz.func77, Tryz.ntmps77
  go_wp2_with fail
  refine (qfail_any HR.out _ _).mono ?_
  rintro e w1 ⟨rfl, hq, hg⟩
  have HQ := hid hq
  have HG := hid hg
  have g2 := hq.c2
  clear hq hg HR
  go_wp2_with fail
  refine (quint_over HQ.out (by decide)).mono ?_
  rintro e w2 ⟨rfl, rfl⟩
  go_wp2_with fail
  go_ret
  exact ⟨rfl, HQ.out, HG.out⟩

set_option maxRecDepth 100000 in
set_option maxHeartbeats 2000000 in
theorem qtext_go (m : Nat) (hm : m ≤ 9223372036854775807) (hbl : bs.length ≤ 140737488355327) (h : Qd w base b v bs a 0 wat) (er k : Nat) (s : List UInt8) (ht : wtxt (bs.drop a) m = (er, s, k)) :
    Calls Tryz.prog 77 #[.pointer (some ⟨b, 0, none⟩), .int .i64 m] w fun e w' => e = .returned (.string ⟨s.toArray⟩) ∧ Qd w' base b v bs (a + k) er (watOf er a wat) ∧ w.grownBy w' (some b) := by
  obtain ⟨d1, d2, d3, hd⟩ : ∃ d1 d2 d3, dec (bs.drop a) 0 0 = (d1, d2, d3) := ⟨_, _, _, rfl⟩
  have HC := hid (quint_go h d1 d2 d3 hd)
  have h1 := h.c1
  have h2 := h.c2
  have hle := h.le
  obtain ⟨ad, cap, rfl⟩ := h.own.shape
  obtain ⟨hk3, hlt, _, hz⟩ := dec_le _ hd
  have hdl : (bs.drop a).length = bs.length - a := by simp
  rw [hdl] at hk3
  unfold wtxt upTo at ht
  rw [hd, hdl] at ht
  simp only at ht
  clear h hd hdl
  by_cases he : d1 = 0
  · subst he
    obtain ⟨a', ha'⟩ : ∃ a', a' = a + d3 := ⟨_, rfl⟩
    have HA := hid ha'
    rw [← ha'] at HC
    have hW0 : watOf 0 a wat = wat := by simp [watOf]
    rw [hW0] at HC
    clear hW0
    by_cases hn : m < d2
    · have hsimp : (er, s, k) = (3, [], 0) := by
        rw [← ht]
        simp [hn]
      simp only [Prod.mk.injEq] at hsimp
      obtain ⟨rfl, rfl, rfl⟩ := hsimp
      have hn' : (m : Int) < (d2 : Int) := by omega
      have HW := hid (watOf_ne (er := 3) (by decide) a wat)
      clear hz ht ha'
      go_enter Tryz.func77, Tryz.ntmps77
      go_wp2_with fail
      refine Calls.mono HC.out ?_
      rintro e w1 ⟨rfl, hq, hg⟩
      have HQ := hid hq
      have HG := hid hg
      have g2 := hq.c2
      clear hq hg HC
      go_wp2_with fail
      refine (qfail_any HQ.out _ _).mono ?_
      rintro e w2 ⟨rfl, hq, hg⟩
      have HQ2 := hid (hq.setAt a hle)
      have HG2 := hid (gb_trans (gb_trans HG.out hg) (gb_set w2 ⟨b, 1, none⟩ (.int .i64 a)))
      have p2 := hq.c2
      have p1 := hq.c1
      have f1 := hq.fz 1
      clear hq hg
      go_wp2_with fail
      go_ret
      exact ⟨rfl, by rw [HW.out]; exact HQ2.out, HG2.out⟩
    · by_cases hsh : bs.length - a < d3 + d2
      · have hsimp : (er, s, k) = (4, [], 0) := by
          rw [← ht]
          simp [hn, hsh]
        simp only [Prod.mk.injEq] at hsimp
        obtain ⟨rfl, rfl, rfl⟩ := hsimp
        have hn' : ¬ (m : Int) < (d2 : Int) := by omega
        have hsh' : (bs.length : Int) - (a' : Int) < (d2 : Int) := by omega
        have hwr : IntKind.u64.wrap ((bs.length : Int) - (a' : Int)) = (bs.length : Int) - (a' : Int) := by rw [IntKind.wrap_u64]; omega
        have hi63 : (bs.length : Int) - (a' : Int) ≤ 9223372036854775807 := by omega
        have hi0 : 0 ≤ (bs.length : Int) - (a' : Int) := by omega
        have HW := hid (watOf_ne (er := 4) (by decide) a wat)
        clear hz ht ha'
        go_enter Tryz.func77, Tryz.ntmps77
        go_wp2_with fail
        refine Calls.mono HC.out ?_
        rintro e w1 ⟨rfl, hq, hg⟩
        have HQ := hid hq
        have HG := hid hg
        have g2 := hq.c2
        have g0 := hq.c0
        have g1 := hq.c1
        clear hq hg HC
        go_wp2_with fail
        go_quiet (fail)
        go_wp2_with fail
        refine (qfail_any (HQ.out.drewN nq) _ _).mono ?_
        rintro e w2 ⟨rfl, hq, hg⟩
        have HQ2 := hid (hq.setAt a hle)
        have HG2 := hid (gb_trans (gb_trans (gb_trans HG.out (gb_drewN _ _ _)) hg) (gb_set w2 ⟨b, 1, none⟩ (.int .i64 a)))
        have p2 := hq.c2
        have p1 := hq.c1
        have f1 := hq.fz 1
        clear hq hg
        go_wp2_with fail
        go_ret
        exact ⟨rfl, by rw [HW.out]; exact HQ2.out, HG2.out⟩
      · have hsimp : (er, s, k) = (0, (bs.drop (a + d3)).take d2, d3 + d2) := by
          rw [← ht]
          simp [hn, hsh]
        simp only [Prod.mk.injEq] at hsimp
        obtain ⟨rfl, rfl, rfl⟩ := hsimp
        have hn' : ¬ (m : Int) < (d2 : Int) := by omega
        have hsh' : ¬ (bs.length : Int) - (a' : Int) < (d2 : Int) := by omega
        have hwr : IntKind.u64.wrap ((bs.length : Int) - (a' : Int)) = (bs.length : Int) - (a' : Int) := by rw [IntKind.wrap_u64]; omega
        have hi63 : (bs.length : Int) - (a' : Int) ≤ 9223372036854775807 := by omega
        have hi0 : 0 ≤ (bs.length : Int) - (a' : Int) := by omega
        have HW := hid (by simp [watOf] : watOf 0 a wat = wat)
        have HS := hid (by omega : a' + d2 ≤ bs.length)
        clear hz ht ha'
        go_enter Tryz.func77, Tryz.ntmps77
        go_wp2_with fail
        refine Calls.mono HC.out ?_
        rintro e w1 ⟨rfl, hq, hg⟩
        have HQ := hid hq
        have HG := hid hg
        have g2 := hq.c2
        have g0 := hq.c0
        have g1 := hq.c1
        clear hq hg HC
        go_wp2_with fail
        go_quiet (fail)
        go_wp2_with fail
        refine (qraw_ok d2 (HQ.out.drewN nq) hbl HS.out).mono ?_
        rintro e w2 ⟨v2, rfl, ho, hq, hg⟩
        have hstr := run_str (ho.src (by rw [List.length_take, List.length_drop]; omega))
        have HQ2 := hid hq
        have HG2 := hid (gb_trans (gb_trans HG.out (gb_drewN _ _ _)) hg)
        clear hq hg ho
        rw [HA.out] at hstr HQ2
        go_wp2_with fail
        go_ret
        refine ⟨rfl, ?_, HG2.out⟩
        rw [HW.out, ← Nat.add_assoc]
        exact HQ2.out
  · have hsimp : (er, s, k) = (d1, [], 0) := by
      rw [← ht]
      simp [he]
    simp only [Prod.mk.injEq] at hsimp
    obtain ⟨rfl, rfl, rfl⟩ := hsimp
    obtain ⟨rfl, rfl⟩ := hz he
    have he' : ((er : Int) != 0) = true := by simpa using he
    clear he hz ht
    go_enter Tryz.func77, Tryz.ntmps77
    go_wp2_with fail
    refine Calls.mono HC.out ?_
    rintro e w1 ⟨rfl, hq, hg⟩
    have HQ := hid hq
    have HG := hid hg
    have g2 := hq.c2
    clear hq hg HC
    go_wp2_with fail
    go_ret
    exact ⟨rfl, HQ.out, HG.out⟩

theorem qtext_R (m : Int) (hm : m ≤ 9223372036854775807) (hbl : bs.length ≤ 140737488355327) (h : Qd w base b v bs a why wat) :
    Calls Tryz.prog 77 #[.pointer (some ⟨b, 0, none⟩), .int .i64 m] w fun e w' => e = .returned (.string ⟨(textF bs a why wat m).1.toArray⟩) ∧ Qd w' base b v bs (textF bs a why wat m).2.1 (textF bs a why wat m).2.2.1 (textF bs a why wat m).2.2.2 ∧ w.grownBy w' (some b) := by
  unfold textF
  by_cases hw : why ≠ 0
  · rw [if_pos hw]
    refine (qtext_over m h hw).mono ?_
    rintro e w' ⟨rfl, rfl⟩
    exact ⟨rfl, h, gb_refl _ _⟩
  · rw [if_neg hw]
    obtain rfl : why = 0 := by omega
    by_cases h0 : m < 0
    · rw [if_pos h0]
      exact qtext_arg m h h0
    · rw [if_neg h0]
      obtain ⟨k, rfl⟩ : ∃ k : Nat, m = k := ⟨m.toNat, by omega⟩
      exact qtext_go k (by omega) hbl h _ _ _ rfl
end

end Go.Proofs.YtiibhccbbpgehaaGreat

/- The document's reader: List. -/
namespace Go.Proofs.YtiibhccbbpgehaaGreat
open Go.RowKit

theorem Qd.far {w w' : World} {base b : Nat} {v : Value} {bs : List UInt8} {a : Nat} {why wat : Int} {row : Option Nat} {B : Nat} (h : Qd w base b v bs a why wat) (hg : w.grownBy w' row) (hb : b < B) (hv : ∀ j, v.ownBlock = some j → j < B) (hr : ∀ j, row = some j → B ≤ j) : Qd w' base b v bs a why wat := by
  refine h.grown hg (fun e => by have := hr _ e; omega) ?_
  cases e : v.ownBlock with
  | none => exact Or.inl rfl
  | some j =>
    refine Or.inr (fun e2 => ?_)
    have h1 := hv j e
    have h2 := hr j e2.symm
    omega

section
variable {w : World} {base b : Nat} {v : Value} {bs : List UInt8} {a : Nat} {why wat : Int}

set_option maxRecDepth 100000 in
set_option maxHeartbeats 1000000 in
theorem qlist_over (m n : Int) (h : Qd w base b v bs a why wat) (hw : why ≠ 0) :
    Calls Tryz.prog 76 #[.pointer (some ⟨b, 0, none⟩), .int .i64 m, .int .i64 n] w fun e w' => e = .returned (.slice none 0 0) ∧ Qd w' base b v bs a why wat ∧ w.grownBy w' (some b) := by
  have HC := hid (quint_over h hw)
  have h1 := h.c1
  have h2 := h.c2
  have f1 := h.fz 1
  have HR := hid (h.setAt a h.le)
  have hw' : (why == 0) = false := by simpa using hw
  have hw2 : (why != 0) = true := by simpa using hw
  clear h hw
  go_enter Tryz.func76, Tryz.ntmps76
  go_wp2_with fail
  refine Calls.mono HC.out ?_
  rintro e w1 ⟨rfl, rfl⟩
  go_wp2_with fail
  go_loop [9, 10] (fun x i => x = .slice none 0 0 ∧ i = .int .u64 0) (fun _ _ => 0)
  case atStart => exact ⟨rfl, rfl⟩
  case round =>
    obtain ⟨rfl, rfl⟩ := hrel
    go_wp2_with fail
    go_ret
    exact ⟨rfl, HR.out, gb_set _ _ _⟩

set_option maxRecDepth 100000 in
set_option maxHeartbeats 1000000 in
theorem qlist_arg (m n : Int) (h : Qd w base b v bs a 0 wat) (hmn : m < 0 ∨ n < 0) :
    Calls Tryz.prog 76 #[.pointer (some ⟨b, 0, none⟩), .int .i64 m, .int .i64 n] w fun e w' => e = .returned (.slice none 0 0) ∧ Qd w' base b v bs a 1 a ∧ w.grownBy w' (some b) := by
  have h1 := h.c1
  have h2 := h.c2
  have hle := h.le
  have HR := hid h
  have HM := hid hmn
  clear h hmn
  by_cases hm : m < 0
  all_goals
    have hn : ¬ m < 0 → n < 0 := fun h' => HM.out.elim (fun h => absurd h h') id
    first
    | have hn' : n < 0 := hn hm
    | skip
    clear hn HM
    go_enter Tryz.func76, Tryz.ntmps76
    go_wp2_with fail
    refine (qfail_any HR.out _ _).mono ?_
    rintro e w1 ⟨rfl, hq, hg⟩
    have HQ := hid hq
    have HQ2 := hid (hq.setAt a hle)
    have HG := hid (gb_trans hg (gb_set w1 ⟨b, 1, none⟩ (.int .i64 a)))
    have g2 := hq.c2
    have g1 := hq.c1
    have f1 := hq.fz 1
    clear hq hg HR
    go_wp2_with fail
    refine (quint_over HQ.out (by decide)).mono ?_
    rintro e w2 ⟨rfl, rfl⟩
    go_wp2_with fail
    go_loop [9, 10] (fun x i => x = .slice none 0 0 ∧ i = .int .u64 0) (fun _ _ => 0)
    case atStart => exact ⟨rfl, rfl⟩
    case round =>
      obtain ⟨rfl, rfl⟩ := hrel
      go_wp2_with fail
      go_ret
      exact ⟨rfl, HQ2.out, HG.out⟩

set_option maxRecDepth 100000 in
set_option maxHeartbeats 4000000 in
theorem qlist_go (m n : Nat) (hm : m ≤ 9223372036854775807) (hn : n ≤ 9223372036854775807) (hbl : bs.length ≤ 1099511627776) (h : Qd w base b v bs a 0 wat) (er k : Nat) (ts : List (List UInt8)) (hl : lst (bs.drop a) m n = (er, ts, k)) :
    Calls Tryz.prog 76 #[.pointer (some ⟨b, 0, none⟩), .int .i64 m, .int .i64 n] w fun e w' => ∃ v', e = .returned v' ∧ WOwnS w' w.heap.size v' ts ∧ (er ≠ 0 → v' = .slice none 0 0) ∧ (er = 0 → Qd w' base b v bs (a + k) 0 wat) ∧ (er ≠ 0 → Qd w' base b v bs a er ((a + k : Nat) : Int)) ∧ w.grownBy w' (some b) := by
  obtain ⟨d1, n0, d3, hd⟩ : ∃ d1 d2 d3, dec (bs.drop a) 0 0 = (d1, d2, d3) := ⟨_, _, _, rfl⟩
  have HC := hid (quint_go h d1 n0 d3 hd)
  have h1 := h.c1
  have h2 := h.c2
  have hle := h.le
  have hblt := h.lt
  have HVB := hid (fun j e => (h.own.lt j e).2 : ∀ j, v.ownBlock = some j → j < w.heap.size)
  obtain ⟨hk3, hlt, _, hz⟩ := dec_le _ hd
  have hdl : (bs.drop a).length = bs.length - a := by simp
  rw [hdl] at hk3
  unfold lst upTo at hl
  rw [hd] at hl
  simp only [List.drop_drop] at hl
  clear h hd hdl
  by_cases he : d1 = 0
  · subst he
    have hW0 : watOf 0 a wat = wat := by simp [watOf]
    rw [hW0] at HC
    clear hW0 hz
    by_cases hmn : m < n0
    · have hsimp : (er, ts, k) = (11, [], 0) := by
        rw [← hl]
        simp [hmn]
      simp only [Prod.mk.injEq] at hsimp
      have HE := hid hsimp
      clear hsimp
      have hn' : (m : Int) < (n0 : Int) := by omega
      have hn0 : (0 : Int) < (n0 : Int) := by omega
      clear hl
      go_enter Tryz.func76, Tryz.ntmps76
      go_wp2_with fail
      refine Calls.mono HC.out ?_
      rintro e w1 ⟨rfl, hq, hg⟩
      have HQ := hid hq
      have HG := hid hg
      have g2 := hq.c2
      clear hq hg HC
      go_wp2_with fail
      refine (qfail_any HQ.out _ _).mono ?_
      rintro e w2 ⟨rfl, hq, hg⟩
      have HQ2 := hid (hq.setAt a hle)
      have HG2 := hid (gb_trans (gb_trans HG.out hg) (gb_set w2 ⟨b, 1, none⟩ (.int .i64 a)))
      have p2 := hq.c2
      have p1 := hq.c1
      have f1 := hq.fz 1
      clear hq hg
      go_wp2_with fail
      go_loop [9, 10] (fun x i => x = .slice none 0 0 ∧ i = .int .u64 0) (fun _ _ => 0)
      case atStart => exact ⟨rfl, rfl⟩
      case round =>
        obtain ⟨rfl, rfl⟩ := hrel
        go_wp2_with fail
        go_ret
        obtain ⟨rfl, rfl, rfl⟩ := HE.out
        exact ⟨_, rfl, WOwnS.nil _ _, fun _ => rfl, fun h' => absurd h' (by decide), fun _ => HQ2.out, HG2.out⟩
    · have hsimp : (er, ts, k) = ((lstR n0 (bs.drop (a + d3)) n).1, (lstR n0 (bs.drop (a + d3)) n).2.1, d3 + (lstR n0 (bs.drop (a + d3)) n).2.2) := by
        rw [← hl]
        simp [hmn]
      have HG0 := hid (⟨rfl, fun _ => by simp, fun h' => lstR_err _ _ _ h', by simp, by omega, by simp⟩ : Going (lstR n0 (bs.drop (a + d3)) n) bs n (a + d3) (a + d3) 0 n0 [])
      generalize lstR n0 (bs.drop (a + d3)) n = R at *
      simp only [Prod.mk.injEq] at hsimp
      have HE := hid hsimp
      have hn' : ¬ (m : Int) < (n0 : Int) := by omega
      clear hl hsimp
      go_enter Tryz.func76, Tryz.ntmps76
      go_wp2_with fail
      refine Calls.mono HC.out ?_
      rintro e w1 ⟨rfl, hq, hg⟩
      have HQ := hid hq
      have HG := hid hg
      have g2 := hq.c2
      clear hq hg HC
      go_wp2_with fail
      go_loopw [9, 10] (fun x i wr => ∃ (c a' : Nat) (us : List (List UInt8)) (why' wat' : Int), c ≤ n0 ∧ i = .int .u64 c ∧ WOwnS wr w.heap.size x us ∧ Qd wr base b v bs a' why' wat' ∧ w.grownBy wr (some b) ∧ ((why' = 0 ∧ wat' = wat ∧ Going R bs n (a + d3) a' c (n0 - c) us) ∨ (why' ≠ 0 ∧ why' = R.1 ∧ R.2.1 = [] ∧ wat' = ((a + (d3 + R.2.2) : Nat) : Int)))) (fun _ i _ => n0 - (intOf i).toNat)
      case atStart => exact ⟨0, a + d3, [], 0, wat, by omega, rfl, WOwnS.nil _ _, HQ.out, HG.out, Or.inl ⟨rfl, rfl, by simpa using HG0.out⟩⟩
      case round =>
        obtain ⟨c, a', us, why', wat', hc, rfl, hos, hRr, hgr, hst⟩ := hrel
        have HOS := hid hos
        have HRR := hid hRr
        have HGR := hid hgr
        have hsr := hgr.size
        have q2 := hRr.c2
        have q1 := hRr.c1
        have qf := hRr.fz 1
        clear hos hRr hgr HG0 HQ HG
        rcases hst with ⟨rfl, rfl, hgo⟩ | ⟨hne, rfl, hnil, rfl⟩
        · have HGO := hid hgo
          clear hgo
          by_cases hcn : c < n0
          · obtain ⟨m1, hm1⟩ : ∃ m1, n0 - c = m1 + 1 := ⟨n0 - c - 1, by omega⟩
            rw [hm1] at HGO
            obtain ⟨er1, x1, k1, ht⟩ : ∃ er1 x1 k1, wtxt (bs.drop a') n = (er1, x1, k1) := ⟨_, _, _, rfl⟩
            have HT := hid ht
            have HK1 := hid ((txt_le ht).2.2)
            have HM := hid hm1
            have hcn' : (c : Int) < (n0 : Int) := by omega
            clear ht hm1
            by_cases her : er1 = 0
            · subst her
              have HST := hid (HGO.out.step HT.out)
              have hcnt := HGO.out.cnt
              have hle2 := HGO.out.le
              go_wp2_with fail
              refine (qtext_go n hn (by omega) HRR.out _ _ _ HT.out).mono ?_
              rintro e w2 ⟨rfl, hR2, hg2⟩
              have HR2 := hid (by simpa [watOf] using hR2 : Qd w2 base b v bs (a' + k1) 0 wat')
              have HG2 := hid hg2
              have hs2 := hg2.size
              have HOS2 := hid (HOS.out.far hg2 (fun j e => by cases e; omega))
              have r2 := HR2.out.c2
              clear hR2 hg2
              go_wp2_with (at_builtin; refine wapp_text rfl _ _ rfl w.heap.size _ _ rfl (HOS2.out.alloc _) x1 w2.heap.size rfl ?c0 ?c1 ?c2 ?_)
              case c0 => simp
              case c1 => omega
              case c2 => simp; omega
              intro v3 w3 ho3 hg3
              have HO3 := hid ho3
              have hvlt : ∀ j, u9.ownBlock = some j → w.heap.size ≤ j := fun j e => (HOS.out.lt j e).1
              have HR3 := hid ((HR2.out.below (below_walk _ _)).far hg3 hblt HVB.out hvlt : Qd w3 base b v bs (a' + k1) 0 wat')
              have HG3 := hid (gb_then (gb_trans (gb_trans HGR.out HG2.out) (gb_alloc _ _ _)) hg3 (fun j e => Or.inl (hvlt j e)) : w.grownBy w3 (some b))
              clear ho3 hg3 hvlt
              go_wp2_with fail
              go_roundw
              case rel => exact ⟨c + 1, a' + k1, us ++ [x1], 0, wat', by omega, by go_num, HO3.out, HR3.out, HG3.out, Or.inl ⟨rfl, rfl, by have := HM.out; rw [show n0 - (c + 1) = m1 by omega]; exact HST.out⟩⟩
              case measure => simp [intOf]; omega
            · have HSP := hid (HGO.out.stop HT.out her)
              have heb : ((er1 : Int) == 0) = false := by simp; omega
              have HK0 := hid (HK1.out her)
              have hle2 := HGO.out.le
              have HW := hid (watOf_ne her a' wat')
              have HER := hid her
              clear her
              go_wp2_with fail
              refine (qtext_go n hn (by omega) HRR.out _ _ _ HT.out).mono ?_
              rintro e w2 ⟨rfl, hR2, hg2⟩
              rw [HW.out, HK0.out.2, Nat.add_zero] at hR2
              have HR2 := hid hR2
              have HG2 := hid (gb_trans HGR.out hg2)
              have HOS2 := hid (HOS.out.far hg2 (fun j e => by cases e; omega))
              have r2 := HR2.out.c2
              clear hR2 hg2
              go_wp2_with fail
              go_roundw
              case rel =>
                obtain ⟨e1, e2, e3⟩ := HSP.out
                have := HER.out
                exact ⟨c + 1, a', us, er1, (a' : Int), by omega, by go_num, HOS2.out, HR2.out, HG2.out, Or.inr ⟨by omega, by rw [e1], e2, by rw [e3]; omega⟩⟩
              case measure => simp [intOf]; omega
          · have hcn' : ¬ (c : Int) < (n0 : Int) := by omega
            have hc0 : n0 - c = 0 := by omega
            rw [hc0] at HGO
            have HDN := hid HGO.out.done
            have hle2 := HGO.out.le
            go_wp2_with fail
            go_ret
            obtain ⟨rfl, rfl, rfl⟩ := HE.out
            obtain ⟨e1, e2, e3⟩ := HDN.out
            refine ⟨_, rfl, by rw [e2]; exact HOS.out, fun h' => absurd e1 h', fun _ => ?_, fun h' => absurd e1 h', HGR.out⟩
            rw [e3, show a + (d3 + (a' - (a + d3))) = a' by omega]
            exact HRR.out
        · have heb : (((R.1 : Nat) : Int) == 0) = false := by simpa using hne
          have heb2 : (((R.1 : Nat) : Int) != 0) = true := by simpa using hne
          have HNE := hid hne
          have HNIL := hid hnil
          have HQ2 := hid (HRR.out.setAt a hle)
          have HG2 := hid (gb_trans HGR.out (gb_set wr ⟨b, 1, none⟩ (.int .i64 a)))
          clear hne hnil
          generalize R.1 = R1 at *
          by_cases hcn : (c : Int) < (n0 : Int)
          all_goals
            go_wp2_with fail
            go_ret
            obtain ⟨rfl, rfl, rfl⟩ := HE.out
            exact ⟨_, rfl, by rw [HNIL.out]; exact WOwnS.nil _ _, fun _ => rfl, fun h' => absurd (by rw [h']; rfl) HNE.out, fun _ => HQ2.out, HG2.out⟩
  · have hsimp : (er, ts, k) = (d1, [], 0) := by
      rw [← hl]
      simp [he]
    simp only [Prod.mk.injEq] at hsimp
    obtain ⟨rfl, rfl, rfl⟩ := hsimp
    obtain ⟨rfl, rfl⟩ := hz he
    have he' : ((er : Int) != 0) = true := by simpa using he
    have he2 : ((er : Int) == 0) = false := by simpa using he
    have HER := hid he
    have HW := hid (watOf_ne he a wat)
    clear he hz hl
    go_enter Tryz.func76, Tryz.ntmps76
    go_wp2_with fail
    refine Calls.mono HC.out ?_
    rintro e w1 ⟨rfl, hq, hg⟩
    rw [HW.out, Nat.add_zero] at hq
    have HQ2 := hid (hq.setAt a hle)
    have HG2 := hid (gb_trans hg (gb_set w1 ⟨b, 1, none⟩ (.int .i64 a)))
    have g2 := hq.c2
    have g1 := hq.c1
    have f1 := hq.fz 1
    clear hq hg HC
    go_wp2_with fail
    go_loop [9, 10] (fun x i => x = .slice none 0 0 ∧ i = .int .u64 0) (fun _ _ => 0)
    case atStart => exact ⟨rfl, rfl⟩
    case round =>
      obtain ⟨rfl, rfl⟩ := hrel
      go_wp2_with fail
      go_ret
      exact ⟨_, rfl, WOwnS.nil _ _, fun _ => rfl, fun h' => absurd h' HER.out, fun _ => by simpa using HQ2.out, HG2.out⟩

theorem qlist_R (m n : Int) (hm : m ≤ 9223372036854775807) (hn : n ≤ 9223372036854775807) (hbl : bs.length ≤ 1099511627776) (h : Qd w base b v bs a why wat) :
    Calls Tryz.prog 76 #[.pointer (some ⟨b, 0, none⟩), .int .i64 m, .int .i64 n] w fun e w' => ∃ v', e = .returned v' ∧ WOwnS w' w.heap.size v' (listF bs a why wat m n).1 ∧ Qd w' base b v bs (listF bs a why wat m n).2.1 (listF bs a why wat m n).2.2.1 (listF bs a why wat m n).2.2.2 ∧ w.grownBy w' (some b) := by
  unfold listF
  by_cases hw : why ≠ 0
  · rw [if_pos hw]
    refine (qlist_over m n h hw).mono ?_
    rintro e w' ⟨rfl, hr⟩
    exact ⟨_, rfl, WOwnS.nil _ _, hr⟩
  · rw [if_neg hw]
    obtain rfl : why = 0 := by omega
    by_cases h0 : m < 0 ∨ n < 0
    · rw [if_pos h0]
      refine (qlist_arg m n h h0).mono ?_
      rintro e w' ⟨rfl, hr⟩
      exact ⟨_, rfl, WOwnS.nil _ _, hr⟩
    · rw [if_neg h0]
      obtain ⟨k, rfl⟩ : ∃ k : Nat, m = k := ⟨m.toNat, by omega⟩
      obtain ⟨j, rfl⟩ : ∃ j : Nat, n = j := ⟨n.toNat, by omega⟩
      simp only [Int.toNat_natCast]
      refine (qlist_go k j (by omega) (by omega) hbl h _ _ _ rfl).mono ?_
      rintro e w' ⟨v', rfl, ho, hnil, h1, h2, hg⟩
      by_cases he : (lst (bs.drop a) k j).1 ≠ 0
      · rw [if_pos he]
        obtain rfl := hnil he
        exact ⟨_, rfl, WOwnS.nil _ _, h2 he, hg⟩
      · rw [if_neg he]
        exact ⟨_, rfl, ho, h1 (Decidable.not_not.1 he), hg⟩
end

end Go.Proofs.YtiibhccbbpgehaaGreat

/- The document's some. -/
namespace Go.Proofs.YtiibhccbbpgehaaGreat
open Go.RowKit Go.BigFrame

/-- the document's reader, where it stands so -/
def Qs (w : World) (base b : Nat) (v : Value) (bs : List UInt8) (s : St) : Prop := Qd w base b v bs s.1 s.2.1 s.2.2
section
variable {w w' : World} {base b : Nat} {v : Value} {bs : List UInt8} {s : St}
theorem Qs.below (h : Qs w base b v bs s) (hb : Below w.heap.size w w') : Qs w' base b v bs s := Qd.below h hb
theorem Qs.lt (h : Qs w base b v bs s) : b < w.heap.size := Qd.lt h
theorem Qs.own (h : Qs w base b v bs s) : ∀ k, v.ownBlock = some k → k < w.heap.size := fun k hk => ((Qd.own h).lt k hk).2
theorem Qs.far {n : Nat} (h : Qs w base b v bs s) (hg : w.grownBy w' (some n)) (h1 : b < n) (h3 : ∀ k, v.ownBlock = some k → k < n) : Qs w' base b v bs s :=
  Qd.grown h hg (fun e => by injection e with e; omega) (by
    cases hv : v.ownBlock with
    | none => exact Or.inl rfl
    | some k => exact Or.inr (fun e => by injection e with e; have := h3 k hv; omega))
theorem qs_uint (h : Qs w base b v bs s) : Calls Tryz.prog 70 #[.pointer (some ⟨b, 0, none⟩)] w fun e w' => e = .returned (.int .u64 (uS bs s).1) ∧ Qs w' base b v bs (uS bs s).2 ∧ w.grownBy w' (some b) := quint_R (h := h)
theorem qs_count (m : Int) (hm : m ≤ 9223372036854775807) (h : Qs w base b v bs s) : Calls Tryz.prog 75 #[.pointer (some ⟨b, 0, none⟩), .int .i64 m] w fun e w' => e = .returned (.int .i64 (cS bs m s).1) ∧ Qs w' base b v bs (cS bs m s).2 ∧ w.grownBy w' (some b) := qcount_R m hm (h := h)
theorem qs_text (m : Int) (hm : m ≤ 9223372036854775807) (hbl : bs.length ≤ 140737488355327) (h : Qs w base b v bs s) : Calls Tryz.prog 77 #[.pointer (some ⟨b, 0, none⟩), .int .i64 m] w fun e w' => e = .returned (.string (mk (tS bs m s).1)) ∧ Qs w' base b v bs (tS bs m s).2 ∧ w.grownBy w' (some b) := qtext_R m hm hbl (h := h)
theorem qs_list (m n : Int) (hm : m ≤ 9223372036854775807) (hn : n ≤ 9223372036854775807) (hbl : bs.length ≤ 1099511627776) (h : Qs w base b v bs s) : Calls Tryz.prog 76 #[.pointer (some ⟨b, 0, none⟩), .int .i64 m, .int .i64 n] w fun e w' => ∃ v', e = .returned v' ∧ WOwnS w' w.heap.size v' (lS bs m n s).1 ∧ Qs w' base b v bs (lS bs m n s).2 ∧ w.grownBy w' (some b) := qlist_R m n hm hn hbl (h := h)
theorem qs_raw (m : Int) (hbl : bs.length ≤ 140737488355327) (h : Qs w base b v bs s) : Calls Tryz.prog 74 #[.pointer (some ⟨b, 0, none⟩), .int .i64 m] w fun e w' => ∃ v', e = .returned v' ∧ OwnB w' w.heap.size v' (rS bs m s).1 ∧ Qs w' base b v bs (rS bs m s).2 ∧ w.grownBy w' (some b) := qraw_R m hbl (h := h)
end

set_option maxRecDepth 100000 in
set_option maxHeartbeats 2000000 in
theorem qs_some (base b : Nat) (v : Value) (bs : List UInt8) (s : St) (m : Int) (w : World) (hm : m ≤ 9223372036854775807) (h : Qs w base b v bs s) :
    Calls Tryz.prog 73 #[.pointer (some ⟨b, 0, none⟩), .int .i64 m] w fun e w' => e = .returned (.int .i64 (oS bs m s).1) ∧ Qs w' base b v bs (oS bs m s).2 ∧ w.grownBy w' (some b) := by
  have HCO := hid (qs_count m hm h)
  have c1 := Qd.c1 h
  have HLE := hid (Qd.le h)
  clear h
  go_enter Tryz.func73, Tryz.ntmps73
  go_wp2_with fail
  refine HCO.out.mono ?_
  rintro e w2 ⟨rfl, hf2, hg2⟩
  have HF2 := hid hf2
  have HG2 := hid hg2
  obtain ⟨N, HN⟩ : ∃ N : Nat, Hid ((cS bs m s).1 = N) := ⟨_, rfl⟩
  obtain ⟨Y, HY⟩ : ∃ N : Int, Hid ((cS bs m s).2.2.1 = N) := ⟨_, rfl⟩
  have d2 := Qd.c2 hf2
  rw [HY.out] at d2
  have d1 := Qd.c1 hf2
  have f1 := Qd.fz hf2 1
  rw [HN.out]
  clear hf2 hg2 HCO c1
  by_cases hY : Y = 0
  · subst hY
    by_cases h0 : N = 0
    · as_aux_lemma =>
        subst h0
        have HO := hid (show oS bs m s = (0, s.1, 70, (s.1 : Int)) by
          unfold oS
          rw [if_pos ⟨HN.out, HY.out⟩])
        go_upto_region 5 with fail
        have HQ := hid (Qd.setAt HF2.out s.1 HLE.out)
        have HG4 := hid (gb_set w2 ⟨b, 1, none⟩ (.int .i64 (s.1 : Nat)))
        generalize w2.setCell ⟨b, 1, none⟩ (.int .i64 (s.1 : Nat)) = w4 at HQ HG4 ⊢
        clear d1 d2 f1
        go_wp2_with fail
        refine (qfailm_R (n := 70) (h := HQ.out)).mono ?_
        rintro e w5 ⟨rfl, hr5, hg5⟩
        rw [HY.out] at hr5
        have HR5 := hid (show Qd w5 base b v bs s.1 70 s.1 by simpa using hr5)
        have HG5 := hid hg5
        clear hr5 hg5
        go_wp2
        go_ret
        rw [HO.out]
        exact ⟨rfl, HR5.out, gb_trans HG2.out (gb_trans HG4.out HG5.out)⟩
    · as_aux_lemma =>
        have q0 : ¬ (N : Int) = 0 := by omega
        have q1 : ((N : Int) == 0) = false := by simpa using q0
        have HO := hid (show oS bs m s = cS bs m s by
          unfold oS
          rw [if_neg (fun h9 => h0 (HN.out ▸ h9.1))])
        clear h0
        go_wp2
        go_ret
        rw [HO.out, HN.out]
        exact ⟨rfl, HF2.out, HG2.out⟩
  · as_aux_lemma =>
      have q1 : (Y == 0) = false := by simpa using hY
      have HO := hid (show oS bs m s = cS bs m s by
        unfold oS
        rw [if_neg (fun h9 => hY (HY.out ▸ h9.2))])
      clear hY
      go_wp2
      go_ret
      rw [HO.out, HN.out]
      exact ⟨rfl, HF2.out, HG2.out⟩
theorem bytesV_at (l : List UInt8) (i : Nat) (hi : i < l.length) : (bytesV l)[i]? = some (.int .u8 (l.getD i 0).toNat) := by
  rw [bytesV_get, List.getElem?_eq_getElem hi]
  simp [List.getD_eq_getElem?_getD, List.getElem?_eq_getElem hi]
theorem fset_tool (f : Fr) (va : Value) (i : Nat) (hi : i < f.tool.length) (x : UInt8) : (fcells f va).toArray.setIfInBounds (4 + i) (.int .u8 x.toNat) = (fcells { f with tool := f.tool.set i x } va).toArray := by
  unfold fcells
  rw [List.setIfInBounds_toArray, List.set_append_right _ _ (by simp), List.set_append_left _ _ (by rw [bytesV_length]; simp; exact hi)]
  simp [bytesV, List.map_set]
end Go.Proofs.YtiibhccbbpgehaaGreat

/- The document's fields, where the kind that is read is 0. -/
namespace Go.Proofs.YtiibhccbbpgehaaGreat
open Go.RowKit Go.BigFrame

set_option maxRecDepth 100000 in
set_option maxHeartbeats 4000000 in
theorem rfields_0 (base b : Nat) (v : Value) (bs : List UInt8) (s : St) (w : World) (hbl : bs.length ≤ 1099511627776) (h : Qs w base b v bs s) (hK : (oS bs 6 s).1 = 0) :
    Calls Tryz.prog 34 #[.pointer (some ⟨b, 0, none⟩)] w fun e w' => ∃ va, e = .returned (.agg (fcells ((kF 0, (oS bs 6 s).2)).1 va).toArray) ∧ WOwnS w' w.heap.size va ((kF 0, (oS bs 6 s).2)).1.args ∧ Qs w' base b v bs ((kF 0, (oS bs 6 s).2)).2 ∧ w.grownBy w' (some b) := by
  obtain ⟨n, HN⟩ : ∃ n, Hid (w.heap.size = n) := ⟨_, rfl⟩
  have HW := hid (below_walk w (.cells (fcells zF nS).toArray 30))
  have HM := hid (hp_new w (.cells (fcells zF nS).toArray 30))
  have HFD := hid (h.below HW.out)
  have HBn : Hid (b < n) := hid (HN.out ▸ h.lt)
  have HLEN := hid hbl
  have HVW := hid h.own
  have HK := hid hK
  clear h hK
  go_enter Tryz.func34, Tryz.ntmps34
  go_upto_region 1 with (refine al_row (by rfl) 30 (by rfl) _ zeroFrame ?_)
  have HG0 := hid (below_gb HW.out (some b))
  generalize w.alloc (.cells (fcells zF nS).toArray 30) = w0 at HW HM HFD HG0 ⊢
  rw [HN.out] at HM ⊢
  go_wp2_with fail
  refine (qs_some base b v bs s 6 w0 (by omega) HFD.out).mono ?_
  rintro e x ⟨rfl, hfx, hgx⟩
  rw [show ((oS bs 6 s).1 : Int) = 0 by rw [HK.out]; rfl]
  have HFx := hid hfx
  have HMx := hid (gb_keep hgx HM.out (by have := HBn.out; omega))
  have HGx := hid (gb_trans HG0.out hgx)
  clear hfx hgx HFD HM HG0 HW
  go_upto_region 2 with (first
    | (refine bd_row (by rfl) 30 #[(0, .tmp 7)] (by rfl) _ (by simp [Act.eval]) _ built_k0 ?_)
    | (refine al_row (by rfl) 30 (by rfl) _ zeroFrame ?_)
    | (refine st_new (by rfl) 30 _ _ (by rfl) (fcells (kF 0) nS) (by rfl) (by rfl) 30 _ (frame_size (kF 0) nS rfl) rfl (fcells_one (kF 0) nS rfl) ?_))
  have HWx := hid (below_walk x (.cells (fcells (kF 0) nS).toArray 30))
  have HFD := hid (HFx.out.below HWx.out)
  have HM0 := hid (bel_keep HWx.out HMx.out)
  have HG := hid (gb_trans HGx.out (below_gb HWx.out (some b)))
  have HA0 := hid (show (x.alloc (.cells (fcells (kF 0) nS).toArray 30)).heap[x.heap.size]? = some (.cells (fcells (⟨0, 0, 0, 0, z32f, 0, (0, 0, 0), [], []⟩ : Fr) nS).toArray 30 (0, 0)) from hp_new x _)
  have HVO := hid HFx.out.own
  have HVN : Hid (∀ k, v.ownBlock = some k → k < n) := hid (HN.out ▸ HVW.out)
  have HLn : Hid (n < x.heap.size) := hid (hp_lt HMx.out)
  have HBf : Hid (b < x.heap.size) := hid HFx.out.lt
  have HSW : Hid (w.heap.size ≤ x.heap.size) := hid HGx.out.size
  obtain ⟨fb, HFb⟩ : ∃ n, Hid (x.heap.size = n) := ⟨_, rfl⟩
  rw [HFb.out] at HA0 HVO HLn HBf HSW ⊢
  generalize x.alloc (.cells (fcells (kF 0) nS).toArray 30) = w1 at HWx HFD HM0 HG HA0 ⊢
  clear HFx HMx HGx HWx HFb
  have k0 : w1.cell? ⟨fb, 0, none⟩ = some (.int .i64 0) := (Fb.of HA0.out rfl).k
  obtain ⟨FF, HFF⟩ : ∃ L, Hid (fcells (⟨0, 0, 0, 0, z32f, 0, (0, 0, 0), [], []⟩ : Fr) nS = L) := ⟨_, rfl⟩
  have HSZ := hid (frame_size (⟨0, 0, 0, 0, z32f, 0, (0, 0, 0), [], []⟩ : Fr) nS rfl)
  have HON := hid (fcells_one (⟨0, 0, 0, 0, z32f, 0, (0, 0, 0), [], []⟩ : Fr) nS rfl)
  have HOS := hid (show (fcells zF nS).toArray.size = (fcells (⟨0, 0, 0, 0, z32f, 0, (0, 0, 0), [], []⟩ : Fr) nS).length by rw [fcells_length _ _ rfl]; rfl)
  rw [HFF.out] at HA0 HSZ HON HOS
  go_wp2_with (first
    | (refine ld_row (by rfl) 30 (.tmp 3) (by rfl) fb (by rfl) FF 30 HA0.out _ Tryz.underlying30 rfl HSZ.out ?_)
    | (refine st_row (by rfl) 30 _ _ (by rfl) n FF (by rfl) (by rfl) 30 _ HM0.out HSZ.out HOS.out HON.out ?_; intro wz hwz))
  refine ret_row 2 30 rfl n rfl FF 30 hwz.blk _ Tryz.underlying30 rfl HSZ.out rfl ⟨nS, ?_, ?_, ?_, gb_then HG.out hwz.grown (fun j e => by injection e with e; left; have := HN.out; omega)⟩
  · rw [← HFF.out]; rfl
  · exact World.ownsRow_nil _ _ _ _
  · exact HFD.out.far hwz.grown HBn.out (fun k hk => HVN.out k hk)
end Go.Proofs.YtiibhccbbpgehaaGreat

/- The document's fields, where the kind that is read is 1. -/
namespace Go.Proofs.YtiibhccbbpgehaaGreat
open Go.RowKit Go.BigFrame

set_option maxRecDepth 100000 in
set_option maxHeartbeats 4000000 in
theorem rfields_1 (base b : Nat) (v : Value) (bs : List UInt8) (s : St) (w : World) (hbl : bs.length ≤ 1099511627776) (h : Qs w base b v bs s) (hK : (oS bs 6 s).1 = 1) :
    Calls Tryz.prog 34 #[.pointer (some ⟨b, 0, none⟩)] w fun e w' => ∃ va, e = .returned (.agg (fcells (fieldsP bs 1 (oS bs 6 s).2).1 va).toArray) ∧ WOwnS w' w.heap.size va (fieldsP bs 1 (oS bs 6 s).2).1.args ∧ Qs w' base b v bs (fieldsP bs 1 (oS bs 6 s).2).2 ∧ w.grownBy w' (some b) := by
  obtain ⟨n, HN⟩ : ∃ n, Hid (w.heap.size = n) := ⟨_, rfl⟩
  have HW := hid (below_walk w (.cells (fcells zF nS).toArray 30))
  have HM := hid (hp_new w (.cells (fcells zF nS).toArray 30))
  have HFD := hid (h.below HW.out)
  have HBn : Hid (b < n) := hid (HN.out ▸ h.lt)
  have HLEN := hid hbl
  have HVW := hid h.own
  have HK := hid hK
  clear h hK
  go_enter Tryz.func34, Tryz.ntmps34
  go_upto_region 1 with (refine al_row (by rfl) 30 (by rfl) _ zeroFrame ?_)
  have HG0 := hid (below_gb HW.out (some b))
  generalize w.alloc (.cells (fcells zF nS).toArray 30) = w0 at HW HM HFD HG0 ⊢
  rw [HN.out] at HM ⊢
  go_wp2_with fail
  refine (qs_some base b v bs s 6 w0 (by omega) HFD.out).mono ?_
  rintro e x ⟨rfl, hfx, hgx⟩
  rw [show ((oS bs 6 s).1 : Int) = 1 by rw [HK.out]; rfl]
  have HFx := hid hfx
  have HMx := hid (gb_keep hgx HM.out (by have := HBn.out; omega))
  have HGx := hid (gb_trans HG0.out hgx)
  clear hfx hgx HFD HM HG0 HW
  go_upto_region 2 with (first
    | (refine bd_row (by rfl) 30 #[(0, .tmp 7)] (by rfl) _ (by simp [Act.eval]) _ built_k1 ?_)
    | (refine al_row (by rfl) 30 (by rfl) _ zeroFrame ?_)
    | (refine st_new (by rfl) 30 _ _ (by rfl) (fcells (kF 1) nS) (by rfl) (by rfl) 30 _ (frame_size (kF 1) nS rfl) rfl (fcells_one (kF 1) nS rfl) ?_))
  have HWx := hid (below_walk x (.cells (fcells (kF 1) nS).toArray 30))
  have HFD := hid (HFx.out.below HWx.out)
  have HM0 := hid (bel_keep HWx.out HMx.out)
  have HG := hid (gb_trans HGx.out (below_gb HWx.out (some b)))
  have HA0 := hid (show (x.alloc (.cells (fcells (kF 1) nS).toArray 30)).heap[x.heap.size]? = some (.cells (fcells (⟨1, 0, 0, 0, z32f, 0, (0, 0, 0), [], []⟩ : Fr) nS).toArray 30 (0, 0)) from hp_new x _)
  have HVO := hid HFx.out.own
  have HVN : Hid (∀ k, v.ownBlock = some k → k < n) := hid (HN.out ▸ HVW.out)
  have HLn : Hid (n < x.heap.size) := hid (hp_lt HMx.out)
  have HBf : Hid (b < x.heap.size) := hid HFx.out.lt
  have HSW : Hid (w.heap.size ≤ x.heap.size) := hid HGx.out.size
  obtain ⟨fb, HFb⟩ : ∃ n, Hid (x.heap.size = n) := ⟨_, rfl⟩
  rw [HFb.out] at HA0 HVO HLn HBf HSW ⊢
  generalize x.alloc (.cells (fcells (kF 1) nS).toArray 30) = w1 at HWx HFD HM0 HG HA0 ⊢
  clear HFx HMx HGx HWx HFb
  have k0 : w1.cell? ⟨fb, 0, none⟩ = some (.int .i64 1) := (Fb.of HA0.out rfl).k
  go_wp2_with fail
  refine (qs_some base b v bs _ 1 _ (by omega) HFD.out).mono ?_
  rintro e y0 ⟨rfl, hf0, hg0⟩
  have HA := hid (gb_keep hg0 HA0.out (by have := HBf.out; omega))
  have HMn := hid (gb_keep hg0 HM0.out (by have := HBn.out; omega))
  have HGn := hid (gb_trans HG.out hg0)
  have HFn := hid hf0
  clear HFD HA0 HM0 HG hf0 hg0 k0
  have x0 := (Fb.of HA.out rfl).v
  have z0 := row_fz HA.out 2
  have k1 : y0.cell? ⟨fb, 0, none⟩ = some (.int .i64 1) := (Fb.of HA.out rfl).k
  go_upto_region 5 with fail
  have HA0 := hid (show (y0.setCell ⟨fb, 2, none⟩ (.int .i64 ((oS bs 1 (oS bs 6 s).2).1 : Nat))).heap[fb]? = some (.cells (fcells (⟨1, 0, (((oS bs 1 (oS bs 6 s).2).1 : Nat) : Int), 0, z32f, 0, (0, 0, 0), [], []⟩ : Fr) nS).toArray 30 (0, 0)) from (blk_set HA.out _).trans (congrArg (fun a => some (Obj.cells a 30 (0, 0))) (fset_ver (⟨1, 0, 0, 0, z32f, 0, (0, 0, 0), [], []⟩ : Fr) nS rfl _)))
  have HM0 := hid (show (y0.setCell ⟨fb, 2, none⟩ (.int .i64 ((oS bs 1 (oS bs 6 s).2).1 : Nat))).heap[n]? = some (.cells (fcells zF nS).toArray 30 (0, 0)) from (Below.heap_setCell y0 _ _ n (by have := HLn.out; simp; omega)).trans HMn.out)
  have HG := hid (gb_then HGn.out (gb_set y0 ⟨fb, 2, none⟩ (.int .i64 ((oS bs 1 (oS bs 6 s).2).1 : Nat))) (fun j e => by have e2 : fb = j := Option.some.inj e; left; have := HSW.out; omega))
  have HFD := hid (HFn.out.far (gb_set y0 ⟨fb, 2, none⟩ (.int .i64 ((oS bs 1 (oS bs 6 s).2).1 : Nat))) HBf.out HVO.out)
  generalize y0.setCell ⟨fb, 2, none⟩ (.int .i64 ((oS bs 1 (oS bs 6 s).2).1 : Nat)) = w2 at HA0 HM0 HG HFD ⊢
  clear HA HMn HGn HFn x0 z0 k1
  go_wp2_with fail
  refine (qs_some base b v bs _ 64 _ (by omega) HFD.out).mono ?_
  rintro e y1 ⟨rfl, hf1, hg1⟩
  have HA := hid (gb_keep hg1 HA0.out (by have := HBf.out; omega))
  have HMn := hid (gb_keep hg1 HM0.out (by have := HBn.out; omega))
  have HGn := hid (gb_trans HG.out hg1)
  have HFn := hid hf1
  clear HFD HA0 HM0 HG hf1 hg1
  have x1 := (Fb.of HA.out rfl).s
  have z1 := row_fz HA.out 3
  go_upto_region 6 with fail
  have HA0 := hid (show (y1.setCell ⟨fb, 3, none⟩ (.int .i64 ((oS bs 64 (oS bs 1 (oS bs 6 s).2).2).1 : Nat))).heap[fb]? = some (.cells (fcells (⟨1, 0, (((oS bs 1 (oS bs 6 s).2).1 : Nat) : Int), (((oS bs 64 (oS bs 1 (oS bs 6 s).2).2).1 : Nat) : Int), z32f, 0, (0, 0, 0), [], []⟩ : Fr) nS).toArray 30 (0, 0)) from (blk_set HA.out _).trans (congrArg (fun a => some (Obj.cells a 30 (0, 0))) (fset_slots (⟨1, 0, (((oS bs 1 (oS bs 6 s).2).1 : Nat) : Int), 0, z32f, 0, (0, 0, 0), [], []⟩ : Fr) nS rfl _)))
  have HM0 := hid (show (y1.setCell ⟨fb, 3, none⟩ (.int .i64 ((oS bs 64 (oS bs 1 (oS bs 6 s).2).2).1 : Nat))).heap[n]? = some (.cells (fcells zF nS).toArray 30 (0, 0)) from (Below.heap_setCell y1 _ _ n (by have := HLn.out; simp; omega)).trans HMn.out)
  have HG := hid (gb_then HGn.out (gb_set y1 ⟨fb, 3, none⟩ (.int .i64 ((oS bs 64 (oS bs 1 (oS bs 6 s).2).2).1 : Nat))) (fun j e => by have e2 : fb = j := Option.some.inj e; left; have := HSW.out; omega))
  have HFD := hid (HFn.out.far (gb_set y1 ⟨fb, 3, none⟩ (.int .i64 ((oS bs 64 (oS bs 1 (oS bs 6 s).2).2).1 : Nat))) HBf.out HVO.out)
  generalize y1.setCell ⟨fb, 3, none⟩ (.int .i64 ((oS bs 64 (oS bs 1 (oS bs 6 s).2).2).1 : Nat)) = w3 at HA0 HM0 HG HFD ⊢
  clear HA HMn HGn HFn x1 z1
  go_wp2_with fail
  refine (qs_raw 32 (by omega) HFD.out).mono ?_
  rintro e y ⟨vr, rfl, hor, hfr, hgr⟩
  have HAr := hid (gb_keep hgr HA0.out (by have := HBf.out; omega))
  have HMr := hid (gb_keep hgr HM0.out (by have := HBn.out; omega))
  have HGr := hid (gb_trans HG.out hgr)
  have HFr := hid hfr
  have HLR := hid (rS_len bs (oS bs 64 (oS bs 1 (oS bs 6 s).2).2).2)
  have HOR := hid (hor.le (show fb + 1 ≤ w3.heap.size by have := hp_lt HA0.out; omega))
  have HSR := hid (hor.src (by have := HLR.out; omega))
  obtain ⟨ar, cr, er⟩ := src_shape HSR.out
  obtain ⟨RL, HRL⟩ : ∃ l, Hid ((rS bs 32 (oS bs 64 (oS bs 1 (oS bs 6 s).2).2).2).1 = l) := ⟨_, rfl⟩
  rw [HRL.out] at er HLR HSR HOR
  subst er
  clear hor hfr hgr HFD HA0 HM0 HG HSR
  go_wp2_with fail
  go_loopw [5] (fun vi wr => ∃ i : Nat, i ≤ RL.length ∧ vi = .int .i64 i ∧ wr.heap[fb]? = some (.cells (fcells { (⟨1, 0, (((oS bs 1 (oS bs 6 s).2).1 : Nat) : Int), (((oS bs 64 (oS bs 1 (oS bs 6 s).2).2).1 : Nat) : Int), z32f, 0, (0, 0, 0), [], []⟩ : Fr) with tool := RL.take i ++ z32f.drop i } nS).toArray 30 (0, 0)) ∧ wr.heap[n]? = some (.cells (fcells zF nS).toArray 30 (0, 0)) ∧ w.grownBy wr (some b) ∧ Qs wr base b v bs (rS bs 32 (oS bs 64 (oS bs 1 (oS bs 6 s).2).2).2).2 ∧ OwnB wr (fb + 1) (.slice ar RL.length cr) RL) (fun vi _ => RL.length - (intOf vi).toNat)
  case atStart => exact ⟨0, by omega, rfl, HAr.out, HMr.out, HGr.out, HFr.out, HOR.out⟩
  case round =>
    obtain ⟨i, hi, rfl, hA, hM, hG, hQ, hO⟩ := hrel
    have HA := hid hA
    have HM0 := hid hM
    have HG := hid hG
    have HFD := hid hQ
    have HO := hid hO
    have hl32 : RL.length ≤ 32 := by have := HLR.out; omega
    have HTL : Hid ((RL.take i ++ z32f.drop i).length = 32) := hid (by rw [List.length_append, List.length_take, List.length_drop, show z32f.length = 32 from rfl]; omega)
    clear hA hM hG hQ hO HAr HMr HGr HFr HOR
    by_cases hlt : i < RL.length
    · have hki : (i : Int) < (RL.length : Int) := by omega
      have hd : decide ((i : Int) < (RL.length : Int)) = true := decide_eq_true hki
      have hkw : IntKind.i64.wrap ((i : Int) + 1) = (i : Int) + 1 := by rw [IntKind.wrap_i64]; omega
      have h32 : (i : Int) < 32 := by omega
      obtain ⟨g1, cap1, hv1, _, _, _, _, _, hc1⟩ : ∃ g cap, Value.slice ar RL.length cr = .slice (some ⟨g, 0, none⟩) RL.length cap ∧ fb + 1 ≤ g ∧ g < wr.heap.size ∧ RL.length ≤ cap ∧ cap ≤ maxLen ∧ (∀ j, wr.frozen? ⟨g, j, none⟩ = false) ∧ ∀ j, j < RL.length → wr.cell? ⟨g, j, none⟩ = some (.int .u8 (RL.getD j 0).toNat) := by
        rcases HO.out.forms with ⟨_, h9⟩ | h9
        · rw [h9] at hlt; simp at hlt
        · exact h9
      simp only [Value.slice.injEq] at hv1
      obtain ⟨rfl, _, rfl⟩ := hv1
      have c1 := hc1 i hlt
      have cB : wr.cell? ⟨fb, 4 + i, none⟩ = some (.int .u8 ((RL.take i ++ z32f.drop i).getD i 0).toNat) := (Fb.of HA.out HTL.out).t i _ (bytesV_at _ i (by rw [HTL.out]; omega))
      have fB := row_fz HA.out (4 + i)
      clear hc1
      obtain ⟨X, HX⟩ : ∃ X, Hid (RL.getD i 0 = X) := ⟨_, rfl⟩
      rw [HX.out] at c1
      go_wp2
      refine ⟨⟨i + 1, by omega, by simp, ?_, ?_, ?_, ?_, ?_⟩, by simp [intOf]; omega⟩
      · refine (blk_set HA.out _).trans (congrArg (fun a => some (Obj.cells a 30 (0, 0))) ?_)
        rw [fset_tool _ _ i (by show i < (RL.take i ++ z32f.drop i).length; rw [HTL.out]; omega) X]
        congr 3
        show (RL.take i ++ z32f.drop i).set i X = RL.take (i + 1) ++ z32f.drop (i + 1)
        rw [List.take_succ_eq_append_getElem hlt, List.set_append_right _ _ (by rw [List.length_take]; omega), List.length_take, show i - min i RL.length = 0 by omega, List.append_assoc]
        congr 1
        have h9 : z32f.drop i = z32f.getD i 0 :: z32f.drop (i + 1) := drop_cons (by show i < 32; omega)
        rw [h9, List.set_cons_zero]
        have h8 : RL[i] = X := by rw [← HX.out, List.getD_eq_getElem?_getD, List.getElem?_eq_getElem hlt]; rfl
        rw [h8]
        rfl
      · exact (Below.heap_setCell wr _ _ n (by have := HLn.out; simp; omega)).trans HM0.out
      · exact gb_then HG.out (gb_set wr _ _) (fun j e => by have e2 : fb = j := Option.some.inj e; left; have := HSW.out; omega)
      · exact HFD.out.far (gb_set wr _ _) HBf.out HVO.out
      · exact HO.out.kept (gb_set wr _ _) (Or.inr (fun e => by have h9 := (HO.out.lt _ rfl).1; have e2 : g1 = fb := Option.some.inj e; omega))
    · obtain rfl : i = RL.length := by omega
      have HPD := hid (show RL.take RL.length ++ z32f.drop RL.length = pad32 RL by
        rw [List.take_length]
        unfold pad32
        rcases HLR.out with h9 | h9
        · obtain rfl : RL = [] := List.length_eq_zero_iff.1 h9
          rfl
        · rw [if_pos h9, h9, show z32f.drop 32 = [] from rfl, List.append_nil])
      have HA0 := hid (show wr.heap[fb]? = some (.cells (fcells (⟨1, 0, (((oS bs 1 (oS bs 6 s).2).1 : Nat) : Int), (((oS bs 64 (oS bs 1 (oS bs 6 s).2).2).1 : Nat) : Int), (pad32 RL), 0, (0, 0, 0), [], []⟩ : Fr) nS).toArray 30 (0, 0)) by have h9 := HA.out; rw [HPD.out] at h9; exact h9)
      rw [← HRL.out] at HA0
      clear HA HTL HPD HO
      obtain ⟨FF, HFF⟩ : ∃ L, Hid (fcells (⟨1, 0, (((oS bs 1 (oS bs 6 s).2).1 : Nat) : Int), (((oS bs 64 (oS bs 1 (oS bs 6 s).2).2).1 : Nat) : Int), (pad32 (rS bs 32 (oS bs 64 (oS bs 1 (oS bs 6 s).2).2).2).1), 0, (0, 0, 0), [], []⟩ : Fr) nS = L) := ⟨_, rfl⟩
      have HSZ := hid (frame_size (⟨1, 0, (((oS bs 1 (oS bs 6 s).2).1 : Nat) : Int), (((oS bs 64 (oS bs 1 (oS bs 6 s).2).2).1 : Nat) : Int), (pad32 (rS bs 32 (oS bs 64 (oS bs 1 (oS bs 6 s).2).2).2).1), 0, (0, 0, 0), [], []⟩ : Fr) nS (pad32_length _))
      have HON := hid (fcells_one (⟨1, 0, (((oS bs 1 (oS bs 6 s).2).1 : Nat) : Int), (((oS bs 64 (oS bs 1 (oS bs 6 s).2).2).1 : Nat) : Int), (pad32 (rS bs 32 (oS bs 64 (oS bs 1 (oS bs 6 s).2).2).2).1), 0, (0, 0, 0), [], []⟩ : Fr) nS rfl)
      have HOS := hid (show (fcells zF nS).toArray.size = (fcells (⟨1, 0, (((oS bs 1 (oS bs 6 s).2).1 : Nat) : Int), (((oS bs 64 (oS bs 1 (oS bs 6 s).2).2).1 : Nat) : Int), (pad32 (rS bs 32 (oS bs 64 (oS bs 1 (oS bs 6 s).2).2).2).1), 0, (0, 0, 0), [], []⟩ : Fr) nS).length by rw [fcells_length _ _ (pad32_length _)]; rfl)
      rw [HFF.out] at HA0 HSZ HON HOS
      go_wp2_with (first
        | (refine ld_row (by rfl) 30 (.tmp 3) (by rfl) fb (by rfl) FF 30 HA0.out _ Tryz.underlying30 rfl HSZ.out ?_)
        | (refine st_row (by rfl) 30 _ _ (by rfl) n FF (by rfl) (by rfl) 30 _ HM0.out HSZ.out HOS.out HON.out ?_; intro wz hwz))
      refine ret_row 2 30 rfl n rfl FF 30 hwz.blk _ Tryz.underlying30 rfl HSZ.out rfl ⟨nS, ?_, ?_, ?_, gb_then HG.out hwz.grown (fun j e => by injection e with e; left; have := HN.out; omega)⟩
      · rw [← HFF.out]; rfl
      · exact World.ownsRow_nil _ _ _ _
      · exact HFD.out.far hwz.grown HBn.out (fun k hk => HVN.out k hk)
end Go.Proofs.YtiibhccbbpgehaaGreat

/- The document's fields, where the kind that is read is 2. -/
namespace Go.Proofs.YtiibhccbbpgehaaGreat
open Go.RowKit Go.BigFrame

set_option maxRecDepth 100000 in
set_option maxHeartbeats 4000000 in
theorem rfields_2 (base b : Nat) (v : Value) (bs : List UInt8) (s : St) (w : World) (hbl : bs.length ≤ 1099511627776) (h : Qs w base b v bs s) (hK : (oS bs 6 s).1 = 2) :
    Calls Tryz.prog 34 #[.pointer (some ⟨b, 0, none⟩)] w fun e w' => ∃ va, e = .returned (.agg (fcells (fieldsP bs 2 (oS bs 6 s).2).1 va).toArray) ∧ WOwnS w' w.heap.size va (fieldsP bs 2 (oS bs 6 s).2).1.args ∧ Qs w' base b v bs (fieldsP bs 2 (oS bs 6 s).2).2 ∧ w.grownBy w' (some b) := by
  obtain ⟨n, HN⟩ : ∃ n, Hid (w.heap.size = n) := ⟨_, rfl⟩
  have HW := hid (below_walk w (.cells (fcells zF nS).toArray 30))
  have HM := hid (hp_new w (.cells (fcells zF nS).toArray 30))
  have HFD := hid (h.below HW.out)
  have HBn : Hid (b < n) := hid (HN.out ▸ h.lt)
  have HLEN := hid hbl
  have HVW := hid h.own
  have HK := hid hK
  clear h hK
  go_enter Tryz.func34, Tryz.ntmps34
  go_upto_region 1 with (refine al_row (by rfl) 30 (by rfl) _ zeroFrame ?_)
  have HG0 := hid (below_gb HW.out (some b))
  generalize w.alloc (.cells (fcells zF nS).toArray 30) = w0 at HW HM HFD HG0 ⊢
  rw [HN.out] at HM ⊢
  go_wp2_with fail
  refine (qs_some base b v bs s 6 w0 (by omega) HFD.out).mono ?_
  rintro e x ⟨rfl, hfx, hgx⟩
  rw [show ((oS bs 6 s).1 : Int) = 2 by rw [HK.out]; rfl]
  have HFx := hid hfx
  have HMx := hid (gb_keep hgx HM.out (by have := HBn.out; omega))
  have HGx := hid (gb_trans HG0.out hgx)
  clear hfx hgx HFD HM HG0 HW
  go_upto_region 2 with (first
    | (refine bd_row (by rfl) 30 #[(0, .tmp 7)] (by rfl) _ (by simp [Act.eval]) _ built_k2 ?_)
    | (refine al_row (by rfl) 30 (by rfl) _ zeroFrame ?_)
    | (refine st_new (by rfl) 30 _ _ (by rfl) (fcells (kF 2) nS) (by rfl) (by rfl) 30 _ (frame_size (kF 2) nS rfl) rfl (fcells_one (kF 2) nS rfl) ?_))
  have HWx := hid (below_walk x (.cells (fcells (kF 2) nS).toArray 30))
  have HFD := hid (HFx.out.below HWx.out)
  have HM0 := hid (bel_keep HWx.out HMx.out)
  have HG := hid (gb_trans HGx.out (below_gb HWx.out (some b)))
  have HA0 := hid (show (x.alloc (.cells (fcells (kF 2) nS).toArray 30)).heap[x.heap.size]? = some (.cells (fcells (⟨2, 0, 0, 0, z32f, 0, (0, 0, 0), [], []⟩ : Fr) nS).toArray 30 (0, 0)) from hp_new x _)
  have HVO := hid HFx.out.own
  have HVN : Hid (∀ k, v.ownBlock = some k → k < n) := hid (HN.out ▸ HVW.out)
  have HLn : Hid (n < x.heap.size) := hid (hp_lt HMx.out)
  have HBf : Hid (b < x.heap.size) := hid HFx.out.lt
  have HSW : Hid (w.heap.size ≤ x.heap.size) := hid HGx.out.size
  obtain ⟨fb, HFb⟩ : ∃ n, Hid (x.heap.size = n) := ⟨_, rfl⟩
  rw [HFb.out] at HA0 HVO HLn HBf HSW ⊢
  generalize x.alloc (.cells (fcells (kF 2) nS).toArray 30) = w1 at HWx HFD HM0 HG HA0 ⊢
  clear HFx HMx HGx HWx HFb
  have k0 : w1.cell? ⟨fb, 0, none⟩ = some (.int .i64 2) := (Fb.of HA0.out rfl).k
  go_wp2_with fail
  refine (qs_uint HFD.out).mono ?_
  rintro e y0 ⟨rfl, hf0, hg0⟩
  have HA := hid (gb_keep hg0 HA0.out (by have := HBf.out; omega))
  have HMn := hid (gb_keep hg0 HM0.out (by have := HBn.out; omega))
  have HGn := hid (gb_trans HG.out hg0)
  have HFn := hid hf0
  clear HFD HA0 HM0 HG hf0 hg0 k0
  have x0 := (Fb.of HA.out rfl).i
  have z0 := row_fz HA.out 1
  have k1 : y0.cell? ⟨fb, 0, none⟩ = some (.int .i64 2) := (Fb.of HA.out rfl).k
  go_upto_region 13 with fail
  have HA0 := hid (show (y0.setCell ⟨fb, 1, none⟩ (.int .u64 ((uS bs (oS bs 6 s).2).1 : Nat))).heap[fb]? = some (.cells (fcells (⟨2, (((uS bs (oS bs 6 s).2).1 : Nat) : Int), 0, 0, z32f, 0, (0, 0, 0), [], []⟩ : Fr) nS).toArray 30 (0, 0)) from (blk_set HA.out _).trans (congrArg (fun a => some (Obj.cells a 30 (0, 0))) (fset_id (⟨2, 0, 0, 0, z32f, 0, (0, 0, 0), [], []⟩ : Fr) nS rfl _)))
  have HM0 := hid (show (y0.setCell ⟨fb, 1, none⟩ (.int .u64 ((uS bs (oS bs 6 s).2).1 : Nat))).heap[n]? = some (.cells (fcells zF nS).toArray 30 (0, 0)) from (Below.heap_setCell y0 _ _ n (by have := HLn.out; simp; omega)).trans HMn.out)
  have HG := hid (gb_then HGn.out (gb_set y0 ⟨fb, 1, none⟩ (.int .u64 ((uS bs (oS bs 6 s).2).1 : Nat))) (fun j e => by have e2 : fb = j := Option.some.inj e; left; have := HSW.out; omega))
  have HFD := hid (HFn.out.far (gb_set y0 ⟨fb, 1, none⟩ (.int .u64 ((uS bs (oS bs 6 s).2).1 : Nat))) HBf.out HVO.out)
  generalize y0.setCell ⟨fb, 1, none⟩ (.int .u64 ((uS bs (oS bs 6 s).2).1 : Nat)) = w2 at HA0 HM0 HG HFD ⊢
  clear HA HMn HGn HFn x0 z0 k1
  go_wp2_with fail
  refine (qs_count 2147483648 (by omega) HFD.out).mono ?_
  rintro e y1 ⟨rfl, hf1, hg1⟩
  have HA := hid (gb_keep hg1 HA0.out (by have := HBf.out; omega))
  have HMn := hid (gb_keep hg1 HM0.out (by have := HBn.out; omega))
  have HGn := hid (gb_trans HG.out hg1)
  have HFn := hid hf1
  clear HFD HA0 HM0 HG hf1 hg1
  have x1 := (Fb.of HA.out rfl).l1
  have z1 := row_fz HA.out 37
  go_upto_region 14 with fail
  have HA0 := hid (show (y1.setCell ⟨fb, 37, none⟩ (.int .i64 ((cS bs 2147483648 (uS bs (oS bs 6 s).2).2).1 : Nat))).heap[fb]? = some (.cells (fcells (⟨2, (((uS bs (oS bs 6 s).2).1 : Nat) : Int), 0, 0, z32f, 0, ((((cS bs 2147483648 (uS bs (oS bs 6 s).2).2).1 : Nat) : Int), 0, 0), [], []⟩ : Fr) nS).toArray 30 (0, 0)) from (blk_set HA.out _).trans (congrArg (fun a => some (Obj.cells a 30 (0, 0))) (fset_l1 (⟨2, (((uS bs (oS bs 6 s).2).1 : Nat) : Int), 0, 0, z32f, 0, (0, 0, 0), [], []⟩ : Fr) nS rfl _)))
  have HM0 := hid (show (y1.setCell ⟨fb, 37, none⟩ (.int .i64 ((cS bs 2147483648 (uS bs (oS bs 6 s).2).2).1 : Nat))).heap[n]? = some (.cells (fcells zF nS).toArray 30 (0, 0)) from (Below.heap_setCell y1 _ _ n (by have := HLn.out; simp; omega)).trans HMn.out)
  have HG := hid (gb_then HGn.out (gb_set y1 ⟨fb, 37, none⟩ (.int .i64 ((cS bs 2147483648 (uS bs (oS bs 6 s).2).2).1 : Nat))) (fun j e => by have e2 : fb = j := Option.some.inj e; left; have := HSW.out; omega))
  have HFD := hid (HFn.out.far (gb_set y1 ⟨fb, 37, none⟩ (.int .i64 ((cS bs 2147483648 (uS bs (oS bs 6 s).2).2).1 : Nat))) HBf.out HVO.out)
  generalize y1.setCell ⟨fb, 37, none⟩ (.int .i64 ((cS bs 2147483648 (uS bs (oS bs 6 s).2).2).1 : Nat)) = w3 at HA0 HM0 HG HFD ⊢
  clear HA HMn HGn HFn x1 z1
  go_wp2_with fail
  refine (qs_count 2147483648 (by omega) HFD.out).mono ?_
  rintro e y2 ⟨rfl, hf2, hg2⟩
  have HA := hid (gb_keep hg2 HA0.out (by have := HBf.out; omega))
  have HMn := hid (gb_keep hg2 HM0.out (by have := HBn.out; omega))
  have HGn := hid (gb_trans HG.out hg2)
  have HFn := hid hf2
  clear HFD HA0 HM0 HG hf2 hg2
  have x2 := (Fb.of HA.out rfl).l2
  have z2 := row_fz HA.out 38
  go_upto_region 15 with fail
  have HA0 := hid (show (y2.setCell ⟨fb, 38, none⟩ (.int .i64 ((cS bs 2147483648 (cS bs 2147483648 (uS bs (oS bs 6 s).2).2).2).1 : Nat))).heap[fb]? = some (.cells (fcells (⟨2, (((uS bs (oS bs 6 s).2).1 : Nat) : Int), 0, 0, z32f, 0, ((((cS bs 2147483648 (uS bs (oS bs 6 s).2).2).1 : Nat) : Int), (((cS bs 2147483648 (cS bs 2147483648 (uS bs (oS bs 6 s).2).2).2).1 : Nat) : Int), 0), [], []⟩ : Fr) nS).toArray 30 (0, 0)) from (blk_set HA.out _).trans (congrArg (fun a => some (Obj.cells a 30 (0, 0))) (fset_l2 (⟨2, (((uS bs (oS bs 6 s).2).1 : Nat) : Int), 0, 0, z32f, 0, ((((cS bs 2147483648 (uS bs (oS bs 6 s).2).2).1 : Nat) : Int), 0, 0), [], []⟩ : Fr) nS rfl _)))
  have HM0 := hid (show (y2.setCell ⟨fb, 38, none⟩ (.int .i64 ((cS bs 2147483648 (cS bs 2147483648 (uS bs (oS bs 6 s).2).2).2).1 : Nat))).heap[n]? = some (.cells (fcells zF nS).toArray 30 (0, 0)) from (Below.heap_setCell y2 _ _ n (by have := HLn.out; simp; omega)).trans HMn.out)
  have HG := hid (gb_then HGn.out (gb_set y2 ⟨fb, 38, none⟩ (.int .i64 ((cS bs 2147483648 (cS bs 2147483648 (uS bs (oS bs 6 s).2).2).2).1 : Nat))) (fun j e => by have e2 : fb = j := Option.some.inj e; left; have := HSW.out; omega))
  have HFD := hid (HFn.out.far (gb_set y2 ⟨fb, 38, none⟩ (.int .i64 ((cS bs 2147483648 (cS bs 2147483648 (uS bs (oS bs 6 s).2).2).2).1 : Nat))) HBf.out HVO.out)
  generalize y2.setCell ⟨fb, 38, none⟩ (.int .i64 ((cS bs 2147483648 (cS bs 2147483648 (uS bs (oS bs 6 s).2).2).2).1 : Nat)) = w4 at HA0 HM0 HG HFD ⊢
  clear HA HMn HGn HFn x2 z2
  go_wp2_with fail
  refine (qs_count 2147483648 (by omega) HFD.out).mono ?_
  rintro e y3 ⟨rfl, hf3, hg3⟩
  have HA := hid (gb_keep hg3 HA0.out (by have := HBf.out; omega))
  have HMn := hid (gb_keep hg3 HM0.out (by have := HBn.out; omega))
  have HGn := hid (gb_trans HG.out hg3)
  have HFn := hid hf3
  clear HFD HA0 HM0 HG hf3 hg3
  have x3 := (Fb.of HA.out rfl).l3
  have z3 := row_fz HA.out 39
  go_upto_region 16 with fail
  have HA0 := hid (show (y3.setCell ⟨fb, 39, none⟩ (.int .i64 ((cS bs 2147483648 (cS bs 2147483648 (cS bs 2147483648 (uS bs (oS bs 6 s).2).2).2).2).1 : Nat))).heap[fb]? = some (.cells (fcells (⟨2, (((uS bs (oS bs 6 s).2).1 : Nat) : Int), 0, 0, z32f, 0, ((((cS bs 2147483648 (uS bs (oS bs 6 s).2).2).1 : Nat) : Int), (((cS bs 2147483648 (cS bs 2147483648 (uS bs (oS bs 6 s).2).2).2).1 : Nat) : Int), (((cS bs 2147483648 (cS bs 2147483648 (cS bs 2147483648 (uS bs (oS bs 6 s).2).2).2).2).1 : Nat) : Int)), [], []⟩ : Fr) nS).toArray 30 (0, 0)) from (blk_set HA.out _).trans (congrArg (fun a => some (Obj.cells a 30 (0, 0))) (fset_l3 (⟨2, (((uS bs (oS bs 6 s).2).1 : Nat) : Int), 0, 0, z32f, 0, ((((cS bs 2147483648 (uS bs (oS bs 6 s).2).2).1 : Nat) : Int), (((cS bs 2147483648 (cS bs 2147483648 (uS bs (oS bs 6 s).2).2).2).1 : Nat) : Int), 0), [], []⟩ : Fr) nS rfl _)))
  have HM0 := hid (show (y3.setCell ⟨fb, 39, none⟩ (.int .i64 ((cS bs 2147483648 (cS bs 2147483648 (cS bs 2147483648 (uS bs (oS bs 6 s).2).2).2).2).1 : Nat))).heap[n]? = some (.cells (fcells zF nS).toArray 30 (0, 0)) from (Below.heap_setCell y3 _ _ n (by have := HLn.out; simp; omega)).trans HMn.out)
  have HG := hid (gb_then HGn.out (gb_set y3 ⟨fb, 39, none⟩ (.int .i64 ((cS bs 2147483648 (cS bs 2147483648 (cS bs 2147483648 (uS bs (oS bs 6 s).2).2).2).2).1 : Nat))) (fun j e => by have e2 : fb = j := Option.some.inj e; left; have := HSW.out; omega))
  have HFD := hid (HFn.out.far (gb_set y3 ⟨fb, 39, none⟩ (.int .i64 ((cS bs 2147483648 (cS bs 2147483648 (cS bs 2147483648 (uS bs (oS bs 6 s).2).2).2).2).1 : Nat))) HBf.out HVO.out)
  generalize y3.setCell ⟨fb, 39, none⟩ (.int .i64 ((cS bs 2147483648 (cS bs 2147483648 (cS bs 2147483648 (uS bs (oS bs 6 s).2).2).2).2).1 : Nat)) = w5 at HA0 HM0 HG HFD ⊢
  clear HA HMn HGn HFn x3 z3
  go_wp2_with fail
  refine (qs_list 8 4096 (by omega) (by omega) (by omega) HFD.out).mono ?_
  rintro e y4 ⟨vl, rfl, hol, hf4, hg4⟩
  obtain ⟨al, cl, el⟩ := wowns_shape hol
  subst el
  have HOL := hid (hol.le (show fb + 1 ≤ w5.heap.size by have := hp_lt HA0.out; omega))
  have HA := hid (gb_keep hg4 HA0.out (by have := HBf.out; omega))
  have HMn := hid (gb_keep hg4 HM0.out (by have := HBn.out; omega))
  have HGn := hid (gb_trans HG.out hg4)
  have HFn := hid hf4
  clear HFD HA0 HM0 HG hf4 hg4 hol
  have x4 := (Fb.of HA.out rfl).a
  have z4 := row_fz HA.out 40
  go_upto_region 17 with fail
  have HA0 := hid (show (y4.setCell ⟨fb, 40, none⟩ (.slice al (lS bs 8 4096 (cS bs 2147483648 (cS bs 2147483648 (cS bs 2147483648 (uS bs (oS bs 6 s).2).2).2).2).2).1.length cl)).heap[fb]? = some (.cells (fcells (⟨2, (((uS bs (oS bs 6 s).2).1 : Nat) : Int), 0, 0, z32f, 0, ((((cS bs 2147483648 (uS bs (oS bs 6 s).2).2).1 : Nat) : Int), (((cS bs 2147483648 (cS bs 2147483648 (uS bs (oS bs 6 s).2).2).2).1 : Nat) : Int), (((cS bs 2147483648 (cS bs 2147483648 (cS bs 2147483648 (uS bs (oS bs 6 s).2).2).2).2).1 : Nat) : Int)), (lS bs 8 4096 (cS bs 2147483648 (cS bs 2147483648 (cS bs 2147483648 (uS bs (oS bs 6 s).2).2).2).2).2).1, []⟩ : Fr) (.slice al (lS bs 8 4096 (cS bs 2147483648 (cS bs 2147483648 (cS bs 2147483648 (uS bs (oS bs 6 s).2).2).2).2).2).1.length cl)).toArray 30 (0, 0)) from (blk_set HA.out _).trans (congrArg (fun a => some (Obj.cells a 30 (0, 0))) (fset_args (⟨2, (((uS bs (oS bs 6 s).2).1 : Nat) : Int), 0, 0, z32f, 0, ((((cS bs 2147483648 (uS bs (oS bs 6 s).2).2).1 : Nat) : Int), (((cS bs 2147483648 (cS bs 2147483648 (uS bs (oS bs 6 s).2).2).2).1 : Nat) : Int), (((cS bs 2147483648 (cS bs 2147483648 (cS bs 2147483648 (uS bs (oS bs 6 s).2).2).2).2).1 : Nat) : Int)), [], []⟩ : Fr) nS rfl _)))
  have HM0 := hid (show (y4.setCell ⟨fb, 40, none⟩ (.slice al (lS bs 8 4096 (cS bs 2147483648 (cS bs 2147483648 (cS bs 2147483648 (uS bs (oS bs 6 s).2).2).2).2).2).1.length cl)).heap[n]? = some (.cells (fcells zF nS).toArray 30 (0, 0)) from (Below.heap_setCell y4 _ _ n (by have := HLn.out; simp; omega)).trans HMn.out)
  have HG := hid (gb_then HGn.out (gb_set y4 ⟨fb, 40, none⟩ (.slice al (lS bs 8 4096 (cS bs 2147483648 (cS bs 2147483648 (cS bs 2147483648 (uS bs (oS bs 6 s).2).2).2).2).2).1.length cl)) (fun j e => by have e2 : fb = j := Option.some.inj e; left; have := HSW.out; omega))
  have HFD := hid (HFn.out.far (gb_set y4 ⟨fb, 40, none⟩ (.slice al (lS bs 8 4096 (cS bs 2147483648 (cS bs 2147483648 (cS bs 2147483648 (uS bs (oS bs 6 s).2).2).2).2).2).1.length cl)) HBf.out HVO.out)
  have HOLn := hid (WOwnS.far HOL.out (gb_set y4 ⟨fb, 40, none⟩ (.slice al (lS bs 8 4096 (cS bs 2147483648 (cS bs 2147483648 (cS bs 2147483648 (uS bs (oS bs 6 s).2).2).2).2).2).1.length cl)) (fun j e => by have e2 : fb = j := Option.some.inj e; omega))
  generalize y4.setCell ⟨fb, 40, none⟩ (.slice al (lS bs 8 4096 (cS bs 2147483648 (cS bs 2147483648 (cS bs 2147483648 (uS bs (oS bs 6 s).2).2).2).2).2).1.length cl) = w6 at HA0 HM0 HG HFD HOLn ⊢
  clear HA HMn HGn HFn x4 z4
  clear HOL
  have HOL := hid HOLn.out
  clear HOLn
  go_wp2_with fail
  refine (qs_text 2097152 (by omega) (by omega) HFD.out).mono ?_
  rintro e y5 ⟨rfl, hf5, hg5⟩
  have HA := hid (gb_keep hg5 HA0.out (by have := HBf.out; omega))
  have HMn := hid (gb_keep hg5 HM0.out (by have := HBn.out; omega))
  have HGn := hid (gb_trans HG.out hg5)
  have HOLn := hid (WOwnS.far HOL.out hg5 (fun j e => by injection e with e; have := HBf.out; omega))
  clear HOL
  have HOL := hid HOLn.out
  clear HOLn
  have HFn := hid hf5
  clear HFD HA0 HM0 HG hf5 hg5
  have x5 := (Fb.of HA.out rfl).bd
  have z5 := row_fz HA.out 41
  go_upto_region 26 with fail
  have HA0 := hid (show (y5.setCell ⟨fb, 41, none⟩ (.string (mk (tS bs 2097152 (lS bs 8 4096 (cS bs 2147483648 (cS bs 2147483648 (cS bs 2147483648 (uS bs (oS bs 6 s).2).2).2).2).2).2).1))).heap[fb]? = some (.cells (fcells (⟨2, (((uS bs (oS bs 6 s).2).1 : Nat) : Int), 0, 0, z32f, 0, ((((cS bs 2147483648 (uS bs (oS bs 6 s).2).2).1 : Nat) : Int), (((cS bs 2147483648 (cS bs 2147483648 (uS bs (oS bs 6 s).2).2).2).1 : Nat) : Int), (((cS bs 2147483648 (cS bs 2147483648 (cS bs 2147483648 (uS bs (oS bs 6 s).2).2).2).2).1 : Nat) : Int)), (lS bs 8 4096 (cS bs 2147483648 (cS bs 2147483648 (cS bs 2147483648 (uS bs (oS bs 6 s).2).2).2).2).2).1, (tS bs 2097152 (lS bs 8 4096 (cS bs 2147483648 (cS bs 2147483648 (cS bs 2147483648 (uS bs (oS bs 6 s).2).2).2).2).2).2).1⟩ : Fr) (.slice al (lS bs 8 4096 (cS bs 2147483648 (cS bs 2147483648 (cS bs 2147483648 (uS bs (oS bs 6 s).2).2).2).2).2).1.length cl)).toArray 30 (0, 0)) from (blk_set HA.out _).trans (congrArg (fun a => some (Obj.cells a 30 (0, 0))) (fset_body (⟨2, (((uS bs (oS bs 6 s).2).1 : Nat) : Int), 0, 0, z32f, 0, ((((cS bs 2147483648 (uS bs (oS bs 6 s).2).2).1 : Nat) : Int), (((cS bs 2147483648 (cS bs 2147483648 (uS bs (oS bs 6 s).2).2).2).1 : Nat) : Int), (((cS bs 2147483648 (cS bs 2147483648 (cS bs 2147483648 (uS bs (oS bs 6 s).2).2).2).2).1 : Nat) : Int)), (lS bs 8 4096 (cS bs 2147483648 (cS bs 2147483648 (cS bs 2147483648 (uS bs (oS bs 6 s).2).2).2).2).2).1, []⟩ : Fr) (.slice al (lS bs 8 4096 (cS bs 2147483648 (cS bs 2147483648 (cS bs 2147483648 (uS bs (oS bs 6 s).2).2).2).2).2).1.length cl) rfl _)))
  have HM0 := hid (show (y5.setCell ⟨fb, 41, none⟩ (.string (mk (tS bs 2097152 (lS bs 8 4096 (cS bs 2147483648 (cS bs 2147483648 (cS bs 2147483648 (uS bs (oS bs 6 s).2).2).2).2).2).2).1))).heap[n]? = some (.cells (fcells zF nS).toArray 30 (0, 0)) from (Below.heap_setCell y5 _ _ n (by have := HLn.out; simp; omega)).trans HMn.out)
  have HG := hid (gb_then HGn.out (gb_set y5 ⟨fb, 41, none⟩ (.string (mk (tS bs 2097152 (lS bs 8 4096 (cS bs 2147483648 (cS bs 2147483648 (cS bs 2147483648 (uS bs (oS bs 6 s).2).2).2).2).2).2).1))) (fun j e => by have e2 : fb = j := Option.some.inj e; left; have := HSW.out; omega))
  have HFD := hid (HFn.out.far (gb_set y5 ⟨fb, 41, none⟩ (.string (mk (tS bs 2097152 (lS bs 8 4096 (cS bs 2147483648 (cS bs 2147483648 (cS bs 2147483648 (uS bs (oS bs 6 s).2).2).2).2).2).2).1))) HBf.out HVO.out)
  have HOLn := hid (WOwnS.far HOL.out (gb_set y5 ⟨fb, 41, none⟩ (.string (mk (tS bs 2097152 (lS bs 8 4096 (cS bs 2147483648 (cS bs 2147483648 (cS bs 2147483648 (uS bs (oS bs 6 s).2).2).2).2).2).2).1))) (fun j e => by have e2 : fb = j := Option.some.inj e; omega))
  generalize y5.setCell ⟨fb, 41, none⟩ (.string (mk (tS bs 2097152 (lS bs 8 4096 (cS bs 2147483648 (cS bs 2147483648 (cS bs 2147483648 (uS bs (oS bs 6 s).2).2).2).2).2).2).1)) = w7 at HA0 HM0 HG HFD HOLn ⊢
  clear HA HMn HGn HFn x5 z5
  clear HOL
  have HOL := hid HOLn.out
  clear HOLn
  obtain ⟨FF, HFF⟩ : ∃ L, Hid (fcells (⟨2, (((uS bs (oS bs 6 s).2).1 : Nat) : Int), 0, 0, z32f, 0, ((((cS bs 2147483648 (uS bs (oS bs 6 s).2).2).1 : Nat) : Int), (((cS bs 2147483648 (cS bs 2147483648 (uS bs (oS bs 6 s).2).2).2).1 : Nat) : Int), (((cS bs 2147483648 (cS bs 2147483648 (cS bs 2147483648 (uS bs (oS bs 6 s).2).2).2).2).1 : Nat) : Int)), (lS bs 8 4096 (cS bs 2147483648 (cS bs 2147483648 (cS bs 2147483648 (uS bs (oS bs 6 s).2).2).2).2).2).1, (tS bs 2097152 (lS bs 8 4096 (cS bs 2147483648 (cS bs 2147483648 (cS bs 2147483648 (uS bs (oS bs 6 s).2).2).2).2).2).2).1⟩ : Fr) (.slice al (lS bs 8 4096 (cS bs 2147483648 (cS bs 2147483648 (cS bs 2147483648 (uS bs (oS bs 6 s).2).2).2).2).2).1.length cl) = L) := ⟨_, rfl⟩
  have HSZ := hid (frame_size (⟨2, (((uS bs (oS bs 6 s).2).1 : Nat) : Int), 0, 0, z32f, 0, ((((cS bs 2147483648 (uS bs (oS bs 6 s).2).2).1 : Nat) : Int), (((cS bs 2147483648 (cS bs 2147483648 (uS bs (oS bs 6 s).2).2).2).1 : Nat) : Int), (((cS bs 2147483648 (cS bs 2147483648 (cS bs 2147483648 (uS bs (oS bs 6 s).2).2).2).2).1 : Nat) : Int)), (lS bs 8 4096 (cS bs 2147483648 (cS bs 2147483648 (cS bs 2147483648 (uS bs (oS bs 6 s).2).2).2).2).2).1, (tS bs 2097152 (lS bs 8 4096 (cS bs 2147483648 (cS bs 2147483648 (cS bs 2147483648 (uS bs (oS bs 6 s).2).2).2).2).2).2).1⟩ : Fr) (.slice al (lS bs 8 4096 (cS bs 2147483648 (cS bs 2147483648 (cS bs 2147483648 (uS bs (oS bs 6 s).2).2).2).2).2).1.length cl) rfl)
  have HON := hid (fcells_one (⟨2, (((uS bs (oS bs 6 s).2).1 : Nat) : Int), 0, 0, z32f, 0, ((((cS bs 2147483648 (uS bs (oS bs 6 s).2).2).1 : Nat) : Int), (((cS bs 2147483648 (cS bs 2147483648 (uS bs (oS bs 6 s).2).2).2).1 : Nat) : Int), (((cS bs 2147483648 (cS bs 2147483648 (cS bs 2147483648 (uS bs (oS bs 6 s).2).2).2).2).1 : Nat) : Int)), (lS bs 8 4096 (cS bs 2147483648 (cS bs 2147483648 (cS bs 2147483648 (uS bs (oS bs 6 s).2).2).2).2).2).1, (tS bs 2097152 (lS bs 8 4096 (cS bs 2147483648 (cS bs 2147483648 (cS bs 2147483648 (uS bs (oS bs 6 s).2).2).2).2).2).2).1⟩ : Fr) (.slice al (lS bs 8 4096 (cS bs 2147483648 (cS bs 2147483648 (cS bs 2147483648 (uS bs (oS bs 6 s).2).2).2).2).2).1.length cl) rfl)
  have HOS := hid (show (fcells zF nS).toArray.size = (fcells (⟨2, (((uS bs (oS bs 6 s).2).1 : Nat) : Int), 0, 0, z32f, 0, ((((cS bs 2147483648 (uS bs (oS bs 6 s).2).2).1 : Nat) : Int), (((cS bs 2147483648 (cS bs 2147483648 (uS bs (oS bs 6 s).2).2).2).1 : Nat) : Int), (((cS bs 2147483648 (cS bs 2147483648 (cS bs 2147483648 (uS bs (oS bs 6 s).2).2).2).2).1 : Nat) : Int)), (lS bs 8 4096 (cS bs 2147483648 (cS bs 2147483648 (cS bs 2147483648 (uS bs (oS bs 6 s).2).2).2).2).2).1, (tS bs 2097152 (lS bs 8 4096 (cS bs 2147483648 (cS bs 2147483648 (cS bs 2147483648 (uS bs (oS bs 6 s).2).2).2).2).2).2).1⟩ : Fr) (.slice al (lS bs 8 4096 (cS bs 2147483648 (cS bs 2147483648 (cS bs 2147483648 (uS bs (oS bs 6 s).2).2).2).2).2).1.length cl)).length by rw [fcells_length _ _ rfl]; rfl)
  rw [HFF.out] at HA0 HSZ HON HOS
  go_wp2_with (first
    | (refine ld_row (by rfl) 30 (.tmp 3) (by rfl) fb (by rfl) FF 30 HA0.out _ Tryz.underlying30 rfl HSZ.out ?_)
    | (refine st_row (by rfl) 30 _ _ (by rfl) n FF (by rfl) (by rfl) 30 _ HM0.out HSZ.out HOS.out HON.out ?_; intro wz hwz))
  refine ret_row 2 30 rfl n rfl FF 30 hwz.blk _ Tryz.underlying30 rfl HSZ.out rfl ⟨(.slice al (lS bs 8 4096 (cS bs 2147483648 (cS bs 2147483648 (cS bs 2147483648 (uS bs (oS bs 6 s).2).2).2).2).2).1.length cl), ?_, ?_, ?_, gb_then HG.out hwz.grown (fun j e => by injection e with e; left; have := HN.out; omega)⟩
  · rw [← HFF.out]; rfl
  · exact (WOwnS.far HOL.out hwz.grown (fun j e => by have e2 : n = j := Option.some.inj e; have := HLn.out; omega)).le (by have := HSW.out; omega)
  · exact HFD.out.far hwz.grown HBn.out (fun k hk => HVN.out k hk)
end Go.Proofs.YtiibhccbbpgehaaGreat

/- The document's fields, where the kind that is read is 3. -/
namespace Go.Proofs.YtiibhccbbpgehaaGreat
open Go.RowKit Go.BigFrame

set_option maxRecDepth 100000 in
set_option maxHeartbeats 4000000 in
theorem rfields_3 (base b : Nat) (v : Value) (bs : List UInt8) (s : St) (w : World) (hbl : bs.length ≤ 1099511627776) (h : Qs w base b v bs s) (hK : (oS bs 6 s).1 = 3) :
    Calls Tryz.prog 34 #[.pointer (some ⟨b, 0, none⟩)] w fun e w' => ∃ va, e = .returned (.agg (fcells (fieldsP bs 3 (oS bs 6 s).2).1 va).toArray) ∧ WOwnS w' w.heap.size va (fieldsP bs 3 (oS bs 6 s).2).1.args ∧ Qs w' base b v bs (fieldsP bs 3 (oS bs 6 s).2).2 ∧ w.grownBy w' (some b) := by
  obtain ⟨n, HN⟩ : ∃ n, Hid (w.heap.size = n) := ⟨_, rfl⟩
  have HW := hid (below_walk w (.cells (fcells zF nS).toArray 30))
  have HM := hid (hp_new w (.cells (fcells zF nS).toArray 30))
  have HFD := hid (h.below HW.out)
  have HBn : Hid (b < n) := hid (HN.out ▸ h.lt)
  have HLEN := hid hbl
  have HVW := hid h.own
  have HK := hid hK
  clear h hK
  go_enter Tryz.func34, Tryz.ntmps34
  go_upto_region 1 with (refine al_row (by rfl) 30 (by rfl) _ zeroFrame ?_)
  have HG0 := hid (below_gb HW.out (some b))
  generalize w.alloc (.cells (fcells zF nS).toArray 30) = w0 at HW HM HFD HG0 ⊢
  rw [HN.out] at HM ⊢
  go_wp2_with fail
  refine (qs_some base b v bs s 6 w0 (by omega) HFD.out).mono ?_
  rintro e x ⟨rfl, hfx, hgx⟩
  rw [show ((oS bs 6 s).1 : Int) = 3 by rw [HK.out]; rfl]
  have HFx := hid hfx
  have HMx := hid (gb_keep hgx HM.out (by have := HBn.out; omega))
  have HGx := hid (gb_trans HG0.out hgx)
  clear hfx hgx HFD HM HG0 HW
  go_upto_region 2 with (first
    | (refine bd_row (by rfl) 30 #[(0, .tmp 7)] (by rfl) _ (by simp [Act.eval]) _ built_k3 ?_)
    | (refine al_row (by rfl) 30 (by rfl) _ zeroFrame ?_)
    | (refine st_new (by rfl) 30 _ _ (by rfl) (fcells (kF 3) nS) (by rfl) (by rfl) 30 _ (frame_size (kF 3) nS rfl) rfl (fcells_one (kF 3) nS rfl) ?_))
  have HWx := hid (below_walk x (.cells (fcells (kF 3) nS).toArray 30))
  have HFD := hid (HFx.out.below HWx.out)
  have HM0 := hid (bel_keep HWx.out HMx.out)
  have HG := hid (gb_trans HGx.out (below_gb HWx.out (some b)))
  have HA0 := hid (show (x.alloc (.cells (fcells (kF 3) nS).toArray 30)).heap[x.heap.size]? = some (.cells (fcells (⟨3, 0, 0, 0, z32f, 0, (0, 0, 0), [], []⟩ : Fr) nS).toArray 30 (0, 0)) from hp_new x _)
  have HVO := hid HFx.out.own
  have HVN : Hid (∀ k, v.ownBlock = some k → k < n) := hid (HN.out ▸ HVW.out)
  have HLn : Hid (n < x.heap.size) := hid (hp_lt HMx.out)
  have HBf : Hid (b < x.heap.size) := hid HFx.out.lt
  have HSW : Hid (w.heap.size ≤ x.heap.size) := hid HGx.out.size
  obtain ⟨fb, HFb⟩ : ∃ n, Hid (x.heap.size = n) := ⟨_, rfl⟩
  rw [HFb.out] at HA0 HVO HLn HBf HSW ⊢
  generalize x.alloc (.cells (fcells (kF 3) nS).toArray 30) = w1 at HWx HFD HM0 HG HA0 ⊢
  clear HFx HMx HGx HWx HFb
  have k0 : w1.cell? ⟨fb, 0, none⟩ = some (.int .i64 3) := (Fb.of HA0.out rfl).k
  go_wp2_with fail
  refine (qs_uint HFD.out).mono ?_
  rintro e y0 ⟨rfl, hf0, hg0⟩
  have HA := hid (gb_keep hg0 HA0.out (by have := HBf.out; omega))
  have HMn := hid (gb_keep hg0 HM0.out (by have := HBn.out; omega))
  have HGn := hid (gb_trans HG.out hg0)
  have HFn := hid hf0
  clear HFD HA0 HM0 HG hf0 hg0 k0
  have x0 := (Fb.of HA.out rfl).i
  have z0 := row_fz HA.out 1
  have k1 : y0.cell? ⟨fb, 0, none⟩ = some (.int .i64 3) := (Fb.of HA.out rfl).k
  go_upto_region 20 with fail
  have HA0 := hid (show (y0.setCell ⟨fb, 1, none⟩ (.int .u64 ((uS bs (oS bs 6 s).2).1 : Nat))).heap[fb]? = some (.cells (fcells (⟨3, (((uS bs (oS bs 6 s).2).1 : Nat) : Int), 0, 0, z32f, 0, (0, 0, 0), [], []⟩ : Fr) nS).toArray 30 (0, 0)) from (blk_set HA.out _).trans (congrArg (fun a => some (Obj.cells a 30 (0, 0))) (fset_id (⟨3, 0, 0, 0, z32f, 0, (0, 0, 0), [], []⟩ : Fr) nS rfl _)))
  have HM0 := hid (show (y0.setCell ⟨fb, 1, none⟩ (.int .u64 ((uS bs (oS bs 6 s).2).1 : Nat))).heap[n]? = some (.cells (fcells zF nS).toArray 30 (0, 0)) from (Below.heap_setCell y0 _ _ n (by have := HLn.out; simp; omega)).trans HMn.out)
  have HG := hid (gb_then HGn.out (gb_set y0 ⟨fb, 1, none⟩ (.int .u64 ((uS bs (oS bs 6 s).2).1 : Nat))) (fun j e => by have e2 : fb = j := Option.some.inj e; left; have := HSW.out; omega))
  have HFD := hid (HFn.out.far (gb_set y0 ⟨fb, 1, none⟩ (.int .u64 ((uS bs (oS bs 6 s).2).1 : Nat))) HBf.out HVO.out)
  generalize y0.setCell ⟨fb, 1, none⟩ (.int .u64 ((uS bs (oS bs 6 s).2).1 : Nat)) = w2 at HA0 HM0 HG HFD ⊢
  clear HA HMn HGn HFn x0 z0 k1
  go_wp2_with fail
  refine (qs_some base b v bs _ 3 _ (by omega) HFD.out).mono ?_
  rintro e y1 ⟨rfl, hf1, hg1⟩
  have HA := hid (gb_keep hg1 HA0.out (by have := HBf.out; omega))
  have HMn := hid (gb_keep hg1 HM0.out (by have := HBn.out; omega))
  have HGn := hid (gb_trans HG.out hg1)
  have HFn := hid hf1
  clear HFD HA0 HM0 HG hf1 hg1
  have x1 := (Fb.of HA.out rfl).st
  have z1 := row_fz HA.out 36
  go_upto_region 21 with fail
  have HA0 := hid (show (y1.setCell ⟨fb, 36, none⟩ (.int .i64 ((oS bs 3 (uS bs (oS bs 6 s).2).2).1 : Nat))).heap[fb]? = some (.cells (fcells (⟨3, (((uS bs (oS bs 6 s).2).1 : Nat) : Int), 0, 0, z32f, (((oS bs 3 (uS bs (oS bs 6 s).2).2).1 : Nat) : Int), (0, 0, 0), [], []⟩ : Fr) nS).toArray 30 (0, 0)) from (blk_set HA.out _).trans (congrArg (fun a => some (Obj.cells a 30 (0, 0))) (fset_status (⟨3, (((uS bs (oS bs 6 s).2).1 : Nat) : Int), 0, 0, z32f, 0, (0, 0, 0), [], []⟩ : Fr) nS rfl _)))
  have HM0 := hid (show (y1.setCell ⟨fb, 36, none⟩ (.int .i64 ((oS bs 3 (uS bs (oS bs 6 s).2).2).1 : Nat))).heap[n]? = some (.cells (fcells zF nS).toArray 30 (0, 0)) from (Below.heap_setCell y1 _ _ n (by have := HLn.out; simp; omega)).trans HMn.out)
  have HG := hid (gb_then HGn.out (gb_set y1 ⟨fb, 36, none⟩ (.int .i64 ((oS bs 3 (uS bs (oS bs 6 s).2).2).1 : Nat))) (fun j e => by have e2 : fb = j := Option.some.inj e; left; have := HSW.out; omega))
  have HFD := hid (HFn.out.far (gb_set y1 ⟨fb, 36, none⟩ (.int .i64 ((oS bs 3 (uS bs (oS bs 6 s).2).2).1 : Nat))) HBf.out HVO.out)
  generalize y1.setCell ⟨fb, 36, none⟩ (.int .i64 ((oS bs 3 (uS bs (oS bs 6 s).2).2).1 : Nat)) = w3 at HA0 HM0 HG HFD ⊢
  clear HA HMn HGn HFn x1 z1
  go_wp2_with fail
  refine (qs_text 2097152 (by omega) (by omega) HFD.out).mono ?_
  rintro e y2 ⟨rfl, hf2, hg2⟩
  have HA := hid (gb_keep hg2 HA0.out (by have := HBf.out; omega))
  have HMn := hid (gb_keep hg2 HM0.out (by have := HBn.out; omega))
  have HGn := hid (gb_trans HG.out hg2)
  have HFn := hid hf2
  clear HFD HA0 HM0 HG hf2 hg2
  have x2 := (Fb.of HA.out rfl).bd
  have z2 := row_fz HA.out 41
  go_upto_region 26 with fail
  have HA0 := hid (show (y2.setCell ⟨fb, 41, none⟩ (.string (mk (tS bs 2097152 (oS bs 3 (uS bs (oS bs 6 s).2).2).2).1))).heap[fb]? = some (.cells (fcells (⟨3, (((uS bs (oS bs 6 s).2).1 : Nat) : Int), 0, 0, z32f, (((oS bs 3 (uS bs (oS bs 6 s).2).2).1 : Nat) : Int), (0, 0, 0), [], (tS bs 2097152 (oS bs 3 (uS bs (oS bs 6 s).2).2).2).1⟩ : Fr) nS).toArray 30 (0, 0)) from (blk_set HA.out _).trans (congrArg (fun a => some (Obj.cells a 30 (0, 0))) (fset_body (⟨3, (((uS bs (oS bs 6 s).2).1 : Nat) : Int), 0, 0, z32f, (((oS bs 3 (uS bs (oS bs 6 s).2).2).1 : Nat) : Int), (0, 0, 0), [], []⟩ : Fr) nS rfl _)))
  have HM0 := hid (show (y2.setCell ⟨fb, 41, none⟩ (.string (mk (tS bs 2097152 (oS bs 3 (uS bs (oS bs 6 s).2).2).2).1))).heap[n]? = some (.cells (fcells zF nS).toArray 30 (0, 0)) from (Below.heap_setCell y2 _ _ n (by have := HLn.out; simp; omega)).trans HMn.out)
  have HG := hid (gb_then HGn.out (gb_set y2 ⟨fb, 41, none⟩ (.string (mk (tS bs 2097152 (oS bs 3 (uS bs (oS bs 6 s).2).2).2).1))) (fun j e => by have e2 : fb = j := Option.some.inj e; left; have := HSW.out; omega))
  have HFD := hid (HFn.out.far (gb_set y2 ⟨fb, 41, none⟩ (.string (mk (tS bs 2097152 (oS bs 3 (uS bs (oS bs 6 s).2).2).2).1))) HBf.out HVO.out)
  generalize y2.setCell ⟨fb, 41, none⟩ (.string (mk (tS bs 2097152 (oS bs 3 (uS bs (oS bs 6 s).2).2).2).1)) = w4 at HA0 HM0 HG HFD ⊢
  clear HA HMn HGn HFn x2 z2
  obtain ⟨FF, HFF⟩ : ∃ L, Hid (fcells (⟨3, (((uS bs (oS bs 6 s).2).1 : Nat) : Int), 0, 0, z32f, (((oS bs 3 (uS bs (oS bs 6 s).2).2).1 : Nat) : Int), (0, 0, 0), [], (tS bs 2097152 (oS bs 3 (uS bs (oS bs 6 s).2).2).2).1⟩ : Fr) nS = L) := ⟨_, rfl⟩
  have HSZ := hid (frame_size (⟨3, (((uS bs (oS bs 6 s).2).1 : Nat) : Int), 0, 0, z32f, (((oS bs 3 (uS bs (oS bs 6 s).2).2).1 : Nat) : Int), (0, 0, 0), [], (tS bs 2097152 (oS bs 3 (uS bs (oS bs 6 s).2).2).2).1⟩ : Fr) nS rfl)
  have HON := hid (fcells_one (⟨3, (((uS bs (oS bs 6 s).2).1 : Nat) : Int), 0, 0, z32f, (((oS bs 3 (uS bs (oS bs 6 s).2).2).1 : Nat) : Int), (0, 0, 0), [], (tS bs 2097152 (oS bs 3 (uS bs (oS bs 6 s).2).2).2).1⟩ : Fr) nS rfl)
  have HOS := hid (show (fcells zF nS).toArray.size = (fcells (⟨3, (((uS bs (oS bs 6 s).2).1 : Nat) : Int), 0, 0, z32f, (((oS bs 3 (uS bs (oS bs 6 s).2).2).1 : Nat) : Int), (0, 0, 0), [], (tS bs 2097152 (oS bs 3 (uS bs (oS bs 6 s).2).2).2).1⟩ : Fr) nS).length by rw [fcells_length _ _ rfl]; rfl)
  rw [HFF.out] at HA0 HSZ HON HOS
  go_wp2_with (first
    | (refine ld_row (by rfl) 30 (.tmp 3) (by rfl) fb (by rfl) FF 30 HA0.out _ Tryz.underlying30 rfl HSZ.out ?_)
    | (refine st_row (by rfl) 30 _ _ (by rfl) n FF (by rfl) (by rfl) 30 _ HM0.out HSZ.out HOS.out HON.out ?_; intro wz hwz))
  refine ret_row 2 30 rfl n rfl FF 30 hwz.blk _ Tryz.underlying30 rfl HSZ.out rfl ⟨nS, ?_, ?_, ?_, gb_then HG.out hwz.grown (fun j e => by injection e with e; left; have := HN.out; omega)⟩
  · rw [← HFF.out]; rfl
  · exact World.ownsRow_nil _ _ _ _
  · exact HFD.out.far hwz.grown HBn.out (fun k hk => HVN.out k hk)
end Go.Proofs.YtiibhccbbpgehaaGreat

/- The document's fields, where the kind that is read is 4. -/
namespace Go.Proofs.YtiibhccbbpgehaaGreat
open Go.RowKit Go.BigFrame

set_option maxRecDepth 100000 in
set_option maxHeartbeats 4000000 in
theorem rfields_4 (base b : Nat) (v : Value) (bs : List UInt8) (s : St) (w : World) (hbl : bs.length ≤ 1099511627776) (h : Qs w base b v bs s) (hK : (oS bs 6 s).1 = 4) :
    Calls Tryz.prog 34 #[.pointer (some ⟨b, 0, none⟩)] w fun e w' => ∃ va, e = .returned (.agg (fcells (fieldsP bs 4 (oS bs 6 s).2).1 va).toArray) ∧ WOwnS w' w.heap.size va (fieldsP bs 4 (oS bs 6 s).2).1.args ∧ Qs w' base b v bs (fieldsP bs 4 (oS bs 6 s).2).2 ∧ w.grownBy w' (some b) := by
  obtain ⟨n, HN⟩ : ∃ n, Hid (w.heap.size = n) := ⟨_, rfl⟩
  have HW := hid (below_walk w (.cells (fcells zF nS).toArray 30))
  have HM := hid (hp_new w (.cells (fcells zF nS).toArray 30))
  have HFD := hid (h.below HW.out)
  have HBn : Hid (b < n) := hid (HN.out ▸ h.lt)
  have HLEN := hid hbl
  have HVW := hid h.own
  have HK := hid hK
  clear h hK
  go_enter Tryz.func34, Tryz.ntmps34
  go_upto_region 1 with (refine al_row (by rfl) 30 (by rfl) _ zeroFrame ?_)
  have HG0 := hid (below_gb HW.out (some b))
  generalize w.alloc (.cells (fcells zF nS).toArray 30) = w0 at HW HM HFD HG0 ⊢
  rw [HN.out] at HM ⊢
  go_wp2_with fail
  refine (qs_some base b v bs s 6 w0 (by omega) HFD.out).mono ?_
  rintro e x ⟨rfl, hfx, hgx⟩
  rw [show ((oS bs 6 s).1 : Int) = 4 by rw [HK.out]; rfl]
  have HFx := hid hfx
  have HMx := hid (gb_keep hgx HM.out (by have := HBn.out; omega))
  have HGx := hid (gb_trans HG0.out hgx)
  clear hfx hgx HFD HM HG0 HW
  go_upto_region 2 with (first
    | (refine bd_row (by rfl) 30 #[(0, .tmp 7)] (by rfl) _ (by simp [Act.eval]) _ built_k4 ?_)
    | (refine al_row (by rfl) 30 (by rfl) _ zeroFrame ?_)
    | (refine st_new (by rfl) 30 _ _ (by rfl) (fcells (kF 4) nS) (by rfl) (by rfl) 30 _ (frame_size (kF 4) nS rfl) rfl (fcells_one (kF 4) nS rfl) ?_))
  have HWx := hid (below_walk x (.cells (fcells (kF 4) nS).toArray 30))
  have HFD := hid (HFx.out.below HWx.out)
  have HM0 := hid (bel_keep HWx.out HMx.out)
  have HG := hid (gb_trans HGx.out (below_gb HWx.out (some b)))
  have HA0 := hid (show (x.alloc (.cells (fcells (kF 4) nS).toArray 30)).heap[x.heap.size]? = some (.cells (fcells (⟨4, 0, 0, 0, z32f, 0, (0, 0, 0), [], []⟩ : Fr) nS).toArray 30 (0, 0)) from hp_new x _)
  have HVO := hid HFx.out.own
  have HVN : Hid (∀ k, v.ownBlock = some k → k < n) := hid (HN.out ▸ HVW.out)
  have HLn : Hid (n < x.heap.size) := hid (hp_lt HMx.out)
  have HBf : Hid (b < x.heap.size) := hid HFx.out.lt
  have HSW : Hid (w.heap.size ≤ x.heap.size) := hid HGx.out.size
  obtain ⟨fb, HFb⟩ : ∃ n, Hid (x.heap.size = n) := ⟨_, rfl⟩
  rw [HFb.out] at HA0 HVO HLn HBf HSW ⊢
  generalize x.alloc (.cells (fcells (kF 4) nS).toArray 30) = w1 at HWx HFD HM0 HG HA0 ⊢
  clear HFx HMx HGx HWx HFb
  have k0 : w1.cell? ⟨fb, 0, none⟩ = some (.int .i64 4) := (Fb.of HA0.out rfl).k
  go_wp2_with fail
  refine (qs_uint HFD.out).mono ?_
  rintro e y0 ⟨rfl, hf0, hg0⟩
  have HA := hid (gb_keep hg0 HA0.out (by have := HBf.out; omega))
  have HMn := hid (gb_keep hg0 HM0.out (by have := HBn.out; omega))
  have HGn := hid (gb_trans HG.out hg0)
  have HFn := hid hf0
  clear HFD HA0 HM0 HG hf0 hg0 k0
  have x0 := (Fb.of HA.out rfl).i
  have z0 := row_fz HA.out 1
  have k1 : y0.cell? ⟨fb, 0, none⟩ = some (.int .i64 4) := (Fb.of HA.out rfl).k
  go_upto_region 26 with fail
  have HA0 := hid (show (y0.setCell ⟨fb, 1, none⟩ (.int .u64 ((uS bs (oS bs 6 s).2).1 : Nat))).heap[fb]? = some (.cells (fcells (⟨4, (((uS bs (oS bs 6 s).2).1 : Nat) : Int), 0, 0, z32f, 0, (0, 0, 0), [], []⟩ : Fr) nS).toArray 30 (0, 0)) from (blk_set HA.out _).trans (congrArg (fun a => some (Obj.cells a 30 (0, 0))) (fset_id (⟨4, 0, 0, 0, z32f, 0, (0, 0, 0), [], []⟩ : Fr) nS rfl _)))
  have HM0 := hid (show (y0.setCell ⟨fb, 1, none⟩ (.int .u64 ((uS bs (oS bs 6 s).2).1 : Nat))).heap[n]? = some (.cells (fcells zF nS).toArray 30 (0, 0)) from (Below.heap_setCell y0 _ _ n (by have := HLn.out; simp; omega)).trans HMn.out)
  have HG := hid (gb_then HGn.out (gb_set y0 ⟨fb, 1, none⟩ (.int .u64 ((uS bs (oS bs 6 s).2).1 : Nat))) (fun j e => by have e2 : fb = j := Option.some.inj e; left; have := HSW.out; omega))
  have HFD := hid (HFn.out.far (gb_set y0 ⟨fb, 1, none⟩ (.int .u64 ((uS bs (oS bs 6 s).2).1 : Nat))) HBf.out HVO.out)
  generalize y0.setCell ⟨fb, 1, none⟩ (.int .u64 ((uS bs (oS bs 6 s).2).1 : Nat)) = w2 at HA0 HM0 HG HFD ⊢
  clear HA HMn HGn HFn x0 z0 k1
  obtain ⟨FF, HFF⟩ : ∃ L, Hid (fcells (⟨4, (((uS bs (oS bs 6 s).2).1 : Nat) : Int), 0, 0, z32f, 0, (0, 0, 0), [], []⟩ : Fr) nS = L) := ⟨_, rfl⟩
  have HSZ := hid (frame_size (⟨4, (((uS bs (oS bs 6 s).2).1 : Nat) : Int), 0, 0, z32f, 0, (0, 0, 0), [], []⟩ : Fr) nS rfl)
  have HON := hid (fcells_one (⟨4, (((uS bs (oS bs 6 s).2).1 : Nat) : Int), 0, 0, z32f, 0, (0, 0, 0), [], []⟩ : Fr) nS rfl)
  have HOS := hid (show (fcells zF nS).toArray.size = (fcells (⟨4, (((uS bs (oS bs 6 s).2).1 : Nat) : Int), 0, 0, z32f, 0, (0, 0, 0), [], []⟩ : Fr) nS).length by rw [fcells_length _ _ rfl]; rfl)
  rw [HFF.out] at HA0 HSZ HON HOS
  go_wp2_with (first
    | (refine ld_row (by rfl) 30 (.tmp 3) (by rfl) fb (by rfl) FF 30 HA0.out _ Tryz.underlying30 rfl HSZ.out ?_)
    | (refine st_row (by rfl) 30 _ _ (by rfl) n FF (by rfl) (by rfl) 30 _ HM0.out HSZ.out HOS.out HON.out ?_; intro wz hwz))
  refine ret_row 2 30 rfl n rfl FF 30 hwz.blk _ Tryz.underlying30 rfl HSZ.out rfl ⟨nS, ?_, ?_, ?_, gb_then HG.out hwz.grown (fun j e => by injection e with e; left; have := HN.out; omega)⟩
  · rw [← HFF.out]; rfl
  · exact World.ownsRow_nil _ _ _ _
  · exact HFD.out.far hwz.grown HBn.out (fun k hk => HVN.out k hk)
end Go.Proofs.YtiibhccbbpgehaaGreat

/- The document's fields, where the kind that is read is 5. -/
namespace Go.Proofs.YtiibhccbbpgehaaGreat
open Go.RowKit Go.BigFrame

set_option maxRecDepth 100000 in
set_option maxHeartbeats 4000000 in
theorem rfields_5 (base b : Nat) (v : Value) (bs : List UInt8) (s : St) (w : World) (hbl : bs.length ≤ 1099511627776) (h : Qs w base b v bs s) (hK : (oS bs 6 s).1 = 5) :
    Calls Tryz.prog 34 #[.pointer (some ⟨b, 0, none⟩)] w fun e w' => ∃ va, e = .returned (.agg (fcells (fieldsP bs 5 (oS bs 6 s).2).1 va).toArray) ∧ WOwnS w' w.heap.size va (fieldsP bs 5 (oS bs 6 s).2).1.args ∧ Qs w' base b v bs (fieldsP bs 5 (oS bs 6 s).2).2 ∧ w.grownBy w' (some b) := by
  obtain ⟨n, HN⟩ : ∃ n, Hid (w.heap.size = n) := ⟨_, rfl⟩
  have HW := hid (below_walk w (.cells (fcells zF nS).toArray 30))
  have HM := hid (hp_new w (.cells (fcells zF nS).toArray 30))
  have HFD := hid (h.below HW.out)
  have HBn : Hid (b < n) := hid (HN.out ▸ h.lt)
  have HLEN := hid hbl
  have HVW := hid h.own
  have HK := hid hK
  clear h hK
  go_enter Tryz.func34, Tryz.ntmps34
  go_upto_region 1 with (refine al_row (by rfl) 30 (by rfl) _ zeroFrame ?_)
  have HG0 := hid (below_gb HW.out (some b))
  generalize w.alloc (.cells (fcells zF nS).toArray 30) = w0 at HW HM HFD HG0 ⊢
  rw [HN.out] at HM ⊢
  go_wp2_with fail
  refine (qs_some base b v bs s 6 w0 (by omega) HFD.out).mono ?_
  rintro e x ⟨rfl, hfx, hgx⟩
  rw [show ((oS bs 6 s).1 : Int) = 5 by rw [HK.out]; rfl]
  have HFx := hid hfx
  have HMx := hid (gb_keep hgx HM.out (by have := HBn.out; omega))
  have HGx := hid (gb_trans HG0.out hgx)
  clear hfx hgx HFD HM HG0 HW
  go_upto_region 2 with (first
    | (refine bd_row (by rfl) 30 #[(0, .tmp 7)] (by rfl) _ (by simp [Act.eval]) _ built_k5 ?_)
    | (refine al_row (by rfl) 30 (by rfl) _ zeroFrame ?_)
    | (refine st_new (by rfl) 30 _ _ (by rfl) (fcells (kF 5) nS) (by rfl) (by rfl) 30 _ (frame_size (kF 5) nS rfl) rfl (fcells_one (kF 5) nS rfl) ?_))
  have HWx := hid (below_walk x (.cells (fcells (kF 5) nS).toArray 30))
  have HFD := hid (HFx.out.below HWx.out)
  have HM0 := hid (bel_keep HWx.out HMx.out)
  have HG := hid (gb_trans HGx.out (below_gb HWx.out (some b)))
  have HA0 := hid (show (x.alloc (.cells (fcells (kF 5) nS).toArray 30)).heap[x.heap.size]? = some (.cells (fcells (⟨5, 0, 0, 0, z32f, 0, (0, 0, 0), [], []⟩ : Fr) nS).toArray 30 (0, 0)) from hp_new x _)
  have HVO := hid HFx.out.own
  have HVN : Hid (∀ k, v.ownBlock = some k → k < n) := hid (HN.out ▸ HVW.out)
  have HLn : Hid (n < x.heap.size) := hid (hp_lt HMx.out)
  have HBf : Hid (b < x.heap.size) := hid HFx.out.lt
  have HSW : Hid (w.heap.size ≤ x.heap.size) := hid HGx.out.size
  obtain ⟨fb, HFb⟩ : ∃ n, Hid (x.heap.size = n) := ⟨_, rfl⟩
  rw [HFb.out] at HA0 HVO HLn HBf HSW ⊢
  generalize x.alloc (.cells (fcells (kF 5) nS).toArray 30) = w1 at HWx HFD HM0 HG HA0 ⊢
  clear HFx HMx HGx HWx HFb
  have k0 : w1.cell? ⟨fb, 0, none⟩ = some (.int .i64 5) := (Fb.of HA0.out rfl).k
  obtain ⟨FF, HFF⟩ : ∃ L, Hid (fcells (⟨5, 0, 0, 0, z32f, 0, (0, 0, 0), [], []⟩ : Fr) nS = L) := ⟨_, rfl⟩
  have HSZ := hid (frame_size (⟨5, 0, 0, 0, z32f, 0, (0, 0, 0), [], []⟩ : Fr) nS rfl)
  have HON := hid (fcells_one (⟨5, 0, 0, 0, z32f, 0, (0, 0, 0), [], []⟩ : Fr) nS rfl)
  have HOS := hid (show (fcells zF nS).toArray.size = (fcells (⟨5, 0, 0, 0, z32f, 0, (0, 0, 0), [], []⟩ : Fr) nS).length by rw [fcells_length _ _ rfl]; rfl)
  rw [HFF.out] at HA0 HSZ HON HOS
  go_wp2_with (first
    | (refine ld_row (by rfl) 30 (.tmp 3) (by rfl) fb (by rfl) FF 30 HA0.out _ Tryz.underlying30 rfl HSZ.out ?_)
    | (refine st_row (by rfl) 30 _ _ (by rfl) n FF (by rfl) (by rfl) 30 _ HM0.out HSZ.out HOS.out HON.out ?_; intro wz hwz))
  refine ret_row 2 30 rfl n rfl FF 30 hwz.blk _ Tryz.underlying30 rfl HSZ.out rfl ⟨nS, ?_, ?_, ?_, gb_then HG.out hwz.grown (fun j e => by injection e with e; left; have := HN.out; omega)⟩
  · rw [← HFF.out]; rfl
  · exact World.ownsRow_nil _ _ _ _
  · exact HFD.out.far hwz.grown HBn.out (fun k hk => HVN.out k hk)
end Go.Proofs.YtiibhccbbpgehaaGreat

/- The document's fields, where the kind that is read is 6. -/
namespace Go.Proofs.YtiibhccbbpgehaaGreat
open Go.RowKit Go.BigFrame

set_option maxRecDepth 100000 in
set_option maxHeartbeats 4000000 in
theorem rfields_6 (base b : Nat) (v : Value) (bs : List UInt8) (s : St) (w : World) (hbl : bs.length ≤ 1099511627776) (h : Qs w base b v bs s) (hK : (oS bs 6 s).1 = 6) :
    Calls Tryz.prog 34 #[.pointer (some ⟨b, 0, none⟩)] w fun e w' => ∃ va, e = .returned (.agg (fcells (fieldsP bs 6 (oS bs 6 s).2).1 va).toArray) ∧ WOwnS w' w.heap.size va (fieldsP bs 6 (oS bs 6 s).2).1.args ∧ Qs w' base b v bs (fieldsP bs 6 (oS bs 6 s).2).2 ∧ w.grownBy w' (some b) := by
  obtain ⟨n, HN⟩ : ∃ n, Hid (w.heap.size = n) := ⟨_, rfl⟩
  have HW := hid (below_walk w (.cells (fcells zF nS).toArray 30))
  have HM := hid (hp_new w (.cells (fcells zF nS).toArray 30))
  have HFD := hid (h.below HW.out)
  have HBn : Hid (b < n) := hid (HN.out ▸ h.lt)
  have HLEN := hid hbl
  have HVW := hid h.own
  have HK := hid hK
  clear h hK
  go_enter Tryz.func34, Tryz.ntmps34
  go_upto_region 1 with (refine al_row (by rfl) 30 (by rfl) _ zeroFrame ?_)
  have HG0 := hid (below_gb HW.out (some b))
  generalize w.alloc (.cells (fcells zF nS).toArray 30) = w0 at HW HM HFD HG0 ⊢
  rw [HN.out] at HM ⊢
  go_wp2_with fail
  refine (qs_some base b v bs s 6 w0 (by omega) HFD.out).mono ?_
  rintro e x ⟨rfl, hfx, hgx⟩
  rw [show ((oS bs 6 s).1 : Int) = 6 by rw [HK.out]; rfl]
  have HFx := hid hfx
  have HMx := hid (gb_keep hgx HM.out (by have := HBn.out; omega))
  have HGx := hid (gb_trans HG0.out hgx)
  clear hfx hgx HFD HM HG0 HW
  go_upto_region 2 with (first
    | (refine bd_row (by rfl) 30 #[(0, .tmp 7)] (by rfl) _ (by simp [Act.eval]) _ built_k6 ?_)
    | (refine al_row (by rfl) 30 (by rfl) _ zeroFrame ?_)
    | (refine st_new (by rfl) 30 _ _ (by rfl) (fcells (kF 6) nS) (by rfl) (by rfl) 30 _ (frame_size (kF 6) nS rfl) rfl (fcells_one (kF 6) nS rfl) ?_))
  have HWx := hid (below_walk x (.cells (fcells (kF 6) nS).toArray 30))
  have HFD := hid (HFx.out.below HWx.out)
  have HM0 := hid (bel_keep HWx.out HMx.out)
  have HG := hid (gb_trans HGx.out (below_gb HWx.out (some b)))
  have HA0 := hid (show (x.alloc (.cells (fcells (kF 6) nS).toArray 30)).heap[x.heap.size]? = some (.cells (fcells (⟨6, 0, 0, 0, z32f, 0, (0, 0, 0), [], []⟩ : Fr) nS).toArray 30 (0, 0)) from hp_new x _)
  have HVO := hid HFx.out.own
  have HVN : Hid (∀ k, v.ownBlock = some k → k < n) := hid (HN.out ▸ HVW.out)
  have HLn : Hid (n < x.heap.size) := hid (hp_lt HMx.out)
  have HBf : Hid (b < x.heap.size) := hid HFx.out.lt
  have HSW : Hid (w.heap.size ≤ x.heap.size) := hid HGx.out.size
  obtain ⟨fb, HFb⟩ : ∃ n, Hid (x.heap.size = n) := ⟨_, rfl⟩
  rw [HFb.out] at HA0 HVO HLn HBf HSW ⊢
  generalize x.alloc (.cells (fcells (kF 6) nS).toArray 30) = w1 at HWx HFD HM0 HG HA0 ⊢
  clear HFx HMx HGx HWx HFb
  have k0 : w1.cell? ⟨fb, 0, none⟩ = some (.int .i64 6) := (Fb.of HA0.out rfl).k
  go_wp2_with fail
  refine (qs_text 2097152 (by omega) (by omega) HFD.out).mono ?_
  rintro e y0 ⟨rfl, hf0, hg0⟩
  have HA := hid (gb_keep hg0 HA0.out (by have := HBf.out; omega))
  have HMn := hid (gb_keep hg0 HM0.out (by have := HBn.out; omega))
  have HGn := hid (gb_trans HG.out hg0)
  have HFn := hid hf0
  clear HFD HA0 HM0 HG hf0 hg0 k0
  have x0 := (Fb.of HA.out rfl).bd
  have z0 := row_fz HA.out 41
  have k1 : y0.cell? ⟨fb, 0, none⟩ = some (.int .i64 6) := (Fb.of HA.out rfl).k
  go_upto_region 26 with fail
  have HA0 := hid (show (y0.setCell ⟨fb, 41, none⟩ (.string (mk (tS bs 2097152 (oS bs 6 s).2).1))).heap[fb]? = some (.cells (fcells (⟨6, 0, 0, 0, z32f, 0, (0, 0, 0), [], (tS bs 2097152 (oS bs 6 s).2).1⟩ : Fr) nS).toArray 30 (0, 0)) from (blk_set HA.out _).trans (congrArg (fun a => some (Obj.cells a 30 (0, 0))) (fset_body (⟨6, 0, 0, 0, z32f, 0, (0, 0, 0), [], []⟩ : Fr) nS rfl _)))
  have HM0 := hid (show (y0.setCell ⟨fb, 41, none⟩ (.string (mk (tS bs 2097152 (oS bs 6 s).2).1))).heap[n]? = some (.cells (fcells zF nS).toArray 30 (0, 0)) from (Below.heap_setCell y0 _ _ n (by have := HLn.out; simp; omega)).trans HMn.out)
  have HG := hid (gb_then HGn.out (gb_set y0 ⟨fb, 41, none⟩ (.string (mk (tS bs 2097152 (oS bs 6 s).2).1))) (fun j e => by have e2 : fb = j := Option.some.inj e; left; have := HSW.out; omega))
  have HFD := hid (HFn.out.far (gb_set y0 ⟨fb, 41, none⟩ (.string (mk (tS bs 2097152 (oS bs 6 s).2).1))) HBf.out HVO.out)
  generalize y0.setCell ⟨fb, 41, none⟩ (.string (mk (tS bs 2097152 (oS bs 6 s).2).1)) = w2 at HA0 HM0 HG HFD ⊢
  clear HA HMn HGn HFn x0 z0 k1
  obtain ⟨FF, HFF⟩ : ∃ L, Hid (fcells (⟨6, 0, 0, 0, z32f, 0, (0, 0, 0), [], (tS bs 2097152 (oS bs 6 s).2).1⟩ : Fr) nS = L) := ⟨_, rfl⟩
  have HSZ := hid (frame_size (⟨6, 0, 0, 0, z32f, 0, (0, 0, 0), [], (tS bs 2097152 (oS bs 6 s).2).1⟩ : Fr) nS rfl)
  have HON := hid (fcells_one (⟨6, 0, 0, 0, z32f, 0, (0, 0, 0), [], (tS bs 2097152 (oS bs 6 s).2).1⟩ : Fr) nS rfl)
  have HOS := hid (show (fcells zF nS).toArray.size = (fcells (⟨6, 0, 0, 0, z32f, 0, (0, 0, 0), [], (tS bs 2097152 (oS bs 6 s).2).1⟩ : Fr) nS).length by rw [fcells_length _ _ rfl]; rfl)
  rw [HFF.out] at HA0 HSZ HON HOS
  go_wp2_with (first
    | (refine ld_row (by rfl) 30 (.tmp 3) (by rfl) fb (by rfl) FF 30 HA0.out _ Tryz.underlying30 rfl HSZ.out ?_)
    | (refine st_row (by rfl) 30 _ _ (by rfl) n FF (by rfl) (by rfl) 30 _ HM0.out HSZ.out HOS.out HON.out ?_; intro wz hwz))
  refine ret_row 2 30 rfl n rfl FF 30 hwz.blk _ Tryz.underlying30 rfl HSZ.out rfl ⟨nS, ?_, ?_, ?_, gb_then HG.out hwz.grown (fun j e => by injection e with e; left; have := HN.out; omega)⟩
  · rw [← HFF.out]; rfl
  · exact World.ownsRow_nil _ _ _ _
  · exact HFD.out.far hwz.grown HBn.out (fun k hk => HVN.out k hk)
end Go.Proofs.YtiibhccbbpgehaaGreat
