/- Contracts and pure facts that the proof needs, joined. -/
import Derived.Test.YtjinkahlfigdcaaG3
import Derived.Test.YtjinkahlfigdcaaG4

/- The plan of a frame of kind 1. -/
namespace Go.Proofs.Ytjinkahlfigdcaa
open Go.RowKit Go.BigFrame

theorem kindOf_1 (w : World) : Calls Try.prog 40 #[.int .i64 1] w fun e w' => e = .returned (.tuple #[.agg k1.toArray, .bool true]) ∧ Below w.heap.size w w' := kindOf_any 1 w

set_option maxRecDepth 100000 in
set_option maxHeartbeats 8000000 in
theorem plan1_any (f : Fr) (va : Value) (w : World) (M : Bool) (Z : Int) (hf : f.tool.length = 32) (ha : Strs w va f.args) (hn : f.args.length ≤ 9223372036854775807) (hk : f.kind = 1)
    (hmay : ∀ W, Strs W va f.args → Calls Try.prog 74 #[.agg (fcells f va).toArray] W fun e w' => e = .returned (.bool M) ∧ Below W.heap.size W w')
    (hsz : sameP f (ownF f) = true → M = true → ∀ W, Strs W va f.args → Calls Try.prog 41 #[.agg k1.toArray, .agg (fcells f va).toArray] W fun e w' => e = .returned (.int .i64 Z) ∧ Below W.heap.size W w') :
    Calls Try.prog 22 #[.agg (fcells f va).toArray] w fun e w' => e = .returned (planA k1 (sameP f (ownF f)) M Z) ∧ Below w.heap.size w w' := by
  obtain ⟨ao, c, rfl⟩ := ha.shape
  have HNB := hid (hp_two w (.cells (fcells f (.slice ao f.args.length c)).toArray 29) (.cells zRow.toArray 61))
  have HBL := hid (below_walk2 w (.cells (fcells f (.slice ao f.args.length c)).toArray 29) (.cells zRow.toArray 61))
  have HZ : Hid ((w.alloc (.cells (fcells f (.slice ao f.args.length c)).toArray 29)).heap.size = w.heap.size + 1) := hid (by simp)
  have HSZ := hid (frame_size f (.slice ao f.args.length c) hf)
  have HS0 := hid ha
  have HF := hid hf
  have HK := hid hk
  have HOWN := hid (fun W => ownHello_any f (.slice ao f.args.length c) W hk hf ⟨_, _, _, rfl⟩)
  have HSAME := hid (fun W (h : Strs W (.slice ao f.args.length c) f.args) => same_any f (ownF f) (.slice ao f.args.length c) (ownV f (.slice ao f.args.length c)) W hf (ownF_tool f hf) h (own_strs h) hn)
  have HMAY := hid hmay
  have HSIZE := hid hsz
  clear hf ha hn hk hmay hsz
  go_enter Try.func22, Try.ntmps22
  go_upto_region 1 with (refine al_row (by rfl) 61 (by rfl) _ zeroKind ?_)
  try rw [HZ.out]
  generalize (w.alloc (.cells (fcells f (.slice ao f.args.length c)).toArray 29)).alloc (.cells zRow.toArray 61) = w2 at HNB HBL ⊢
  have x0 := (Fb.of HNB.out.1 HF.out).k
  rw [HK.out] at x0
  have HL2 := hid (hp_lt HNB.out.2)
  go_wp2_with fail
  refine (kindOf_1 w2).mono ?_
  rintro e w3 ⟨rfl, hb3⟩
  have HN1 := hid ((hb3.block _ (by have := HL2.out; omega)).trans HNB.out.1)
  have HN2 := hid ((hb3.block _ HL2.out).trans HNB.out.2)
  have HB3 := hid (below_then HBL.out hb3)
  have HL3 := hid (hp_lt HN2.out)
  clear hb3 x0 HNB HBL HL2
  go_upto_region 2 with (first
    | (refine al_row (by rfl) 61 (by rfl) _ zeroKind ?_)
    | (refine st_new (by rfl) 61 _ _ (by rfl) k1 (by rfl) (by rfl) 61 _ kindSize rfl (kOne _ _ _ _ _) ?_))
  have HN4 := hid ((below_walk w3 (.cells k1.toArray 61)).block _ (by have := HL3.out; omega) |>.trans HN1.out)
  have HN5 := hid ((below_walk w3 (.cells k1.toArray 61)).block _ HL3.out |>.trans HN2.out)
  have HN6 := hid (hp_new w3 (.cells k1.toArray 61))
  have HB4 := hid (below_then HB3.out (below_walk w3 (.cells k1.toArray 61)))
  obtain ⟨B5, HB5⟩ : ∃ b : Nat, Hid (w3.heap.size = b) := ⟨_, rfl⟩
  rw [HB5.out] at HN6 ⊢
  generalize w3.alloc (.cells k1.toArray 61) = w4 at HN4 HN5 HN6 HB4 ⊢
  clear HN1 HN2 HB3 HL3
  have HS4 := hid (HS0.out.below HB4.out)
  have HL6 := hid (hp_lt HN6.out)
  have HL4 := hid (hp_lt HN4.out)
  have y1 : w4.cell? ⟨B5, 1, none⟩ = some (.func (.func 73) #[] #[]) := by rw [cell_of_row w4 B5 1 _ _ _ HN6.out]; rfl
  have y2 : w4.cell? ⟨B5, 2, none⟩ = some (.func (.func 74) #[] #[]) := by rw [cell_of_row w4 B5 2 _ _ _ HN6.out]; rfl
  have z1 := fun p : Bel w4 => p.cell y1 HL6.out
  have z2 := fun p : Bel w4 => p.cell y2 HL6.out
  have ib : Nonempty (Bel w4) := bel_some w4
  have HRA := hid (Bel.range (range_row HN4.out) HL4.out)
  have HSM := hid (fun p : Bel w4 => HSAME.out p.out (HS4.out.below p.bel))
  have HMY := hid (fun p : Bel w4 => HMAY.out p.out (HS4.out.below p.bel))
  clear y1 y2 HSAME HMAY
  obtain ⟨FF, HFF⟩ : ∃ x, Hid (fcells f (.slice ao f.args.length c) = x) := ⟨_, rfl⟩
  obtain ⟨FO, HFO⟩ : ∃ x, Hid (fcells (ownF f) (ownV f (.slice ao f.args.length c)) = x) := ⟨_, rfl⟩
  rw [HFF.out] at HOWN HSM HMY HSIZE HN4 HSZ HRA ⊢
  rw [HFO.out] at HOWN HSM
  cases hS : sameP f (ownF f) with
  | false =>
    as_aux_lemma =>
      have HPA := hid (show planA k1 (sameP f (ownF f)) M Z = .tuple #[.agg zRow.toArray, .int .i64 0, .int .i64 70] by unfold planA; rw [hS]; rfl)
      rw [hS] at HSM
      clear hS HSIZE
      refine wp_region_quiet_bel (by kernel_rfl) (by kernel_rfl) ?_
      go_big_quiet_step (fail)
      go_big_quiet_step (fail)
      go_big_quiet_step (fail)
      refine wpQuiet_want (by rfl) fun K hK => quiet_ld 29 (.tmp 1) (by rfl) w.heap.size 0 (by rfl) _ _ HRA.out Try.underlying29 rfl HSZ.out (hK _ ?_)
      simp only [Act.put, List.setIfInBounds_toArray, List.set_cons_succ, List.set_cons_zero]
      go_big_quiet_step (fail)
      go_big_quiet_step (fail)
      refine wpQuiet_want (by rfl) fun K hK => quiet_ld 29 (.tmp 1) (by rfl) w.heap.size 0 (by rfl) _ _ HRA.out Try.underlying29 rfl HSZ.out (hK _ ?_)
      simp only [Act.put, List.setIfInBounds_toArray, List.set_cons_succ, List.set_cons_zero]
      go_big_quiet_step (first | (go_at_call 73; exact bel_of (HOWN.out _)))
      go_big_quiet_step (first | (go_at_call 20; exact bel_of (HSM.out _)))
      go_big_quiet_step (fail)
      go_big_quiet_step (fail)
      go_big_quiet_step (fail)
      go_big_quiet_step (fail)
      go_big_quiet_step (fail)
      go_big_quiet_step (fail)
      go_big_quiet_step (fail)
      go_big_quiet_step (fail)
      go_big_quiet_step (fail)
      refine wpQuiet_nil ?_
      rintro w5 ⟨⟨w5', hb5⟩, hw5⟩
      obtain rfl : w5 = w5' := hw5
      have HN7 := hid ((hb5.block _ HL4.out).trans HN4.out)
      have HN8 := hid ((hb5.block _ (hp_lt HN5.out)).trans HN5.out)
      have HN9 := hid ((hb5.block _ HL6.out).trans HN6.out)
      have HB6 := hid (below_then HB4.out hb5)
      have HS5 := hid (HS4.out.below hb5)
      clear hb5 z1 z2 ib HRA HN4 HN5 HN6 HB4 HL4 HL6 HOWN HSM HMY
      go_wp2_with (first
        | (refine bd_row (by rfl) 61 #[] (by rfl) [] (by simp) zRow.toArray built_zRow ?_)
        | (refine st_row (by rfl) 61 _ _ (by rfl) (w.heap.size + 1) zRow (by rfl) (by rfl) 61 _ HN8.out kindSize rfl zOne ?_; intro w7 hw7))
      refine ret_row3 2 3 4 61 rfl (w.heap.size + 1) rfl zRow 61 hw7.blk _ Try.underlying61 rfl kindSize _ _ rfl rfl rfl ⟨by rw [HPA.out]; rfl, Below.of_gb HB6.out hw7.grown (by omega)⟩
  | true =>
    rw [hS] at HSM
    have HSI := hid (HSIZE.out hS)
    clear HSIZE
    cases M with
    | false =>
      as_aux_lemma =>
        have HPA := hid (show planA k1 (sameP f (ownF f)) false Z = .tuple #[.agg zRow.toArray, .int .i64 0, .int .i64 70] by unfold planA; rw [hS]; rfl)
        clear hS HSI
        refine wp_region_quiet_bel (by kernel_rfl) (by kernel_rfl) ?_
        go_big_quiet_step (fail)
        go_big_quiet_step (fail)
        go_big_quiet_step (fail)
        refine wpQuiet_want (by rfl) fun K hK => quiet_ld 29 (.tmp 1) (by rfl) w.heap.size 0 (by rfl) _ _ HRA.out Try.underlying29 rfl HSZ.out (hK _ ?_)
        simp only [Act.put, List.setIfInBounds_toArray, List.set_cons_succ, List.set_cons_zero]
        go_big_quiet_step (fail)
        go_big_quiet_step (fail)
        refine wpQuiet_want (by rfl) fun K hK => quiet_ld 29 (.tmp 1) (by rfl) w.heap.size 0 (by rfl) _ _ HRA.out Try.underlying29 rfl HSZ.out (hK _ ?_)
        simp only [Act.put, List.setIfInBounds_toArray, List.set_cons_succ, List.set_cons_zero]
        go_big_quiet_step (first | (go_at_call 73; exact bel_of (HOWN.out _)))
        go_big_quiet_step (first | (go_at_call 20; exact bel_of (HSM.out _)))
        go_big_quiet_step (fail)
        go_big_quiet_step (fail)
        go_big_quiet_step (fail)
        go_big_quiet_step (fail)
        go_big_quiet_step (fail)
        refine wpQuiet_want (by rfl) fun K hK => quiet_ld 29 (.tmp 1) (by rfl) w.heap.size 0 (by rfl) _ _ HRA.out Try.underlying29 rfl HSZ.out (hK _ ?_)
        simp only [Act.put, List.setIfInBounds_toArray, List.set_cons_succ, List.set_cons_zero]
        go_big_quiet_step (first | (go_at_call 74; exact bel_of (HMY.out _)))
        go_big_quiet_step (fail)
        go_big_quiet_step (fail)
        refine wpQuiet_nil ?_
        rintro w5 ⟨⟨w5', hb5⟩, hw5⟩
        obtain rfl : w5 = w5' := hw5
        have HN7 := hid ((hb5.block _ HL4.out).trans HN4.out)
        have HN8 := hid ((hb5.block _ (hp_lt HN5.out)).trans HN5.out)
        have HN9 := hid ((hb5.block _ HL6.out).trans HN6.out)
        have HB6 := hid (below_then HB4.out hb5)
        have HS5 := hid (HS4.out.below hb5)
        clear hb5 z1 z2 ib HRA HN4 HN5 HN6 HB4 HL4 HL6 HOWN HSM HMY
        go_wp2_with (first
          | (refine bd_row (by rfl) 61 #[] (by rfl) [] (by simp) zRow.toArray built_zRow ?_)
          | (refine st_row (by rfl) 61 _ _ (by rfl) (w.heap.size + 1) zRow (by rfl) (by rfl) 61 _ HN8.out kindSize rfl zOne ?_; intro w7 hw7))
        refine ret_row3 2 3 4 61 rfl (w.heap.size + 1) rfl zRow 61 hw7.blk _ Try.underlying61 rfl kindSize _ _ rfl rfl rfl ⟨by rw [HPA.out]; rfl, Below.of_gb HB6.out hw7.grown (by omega)⟩
    | true =>
      as_aux_lemma =>
        have HSJ := hid (HSI.out rfl)
        clear HSI
        refine wp_region_quiet_bel (by kernel_rfl) (by kernel_rfl) ?_
        go_big_quiet_step (fail)
        go_big_quiet_step (fail)
        go_big_quiet_step (fail)
        refine wpQuiet_want (by rfl) fun K hK => quiet_ld 29 (.tmp 1) (by rfl) w.heap.size 0 (by rfl) _ _ HRA.out Try.underlying29 rfl HSZ.out (hK _ ?_)
        simp only [Act.put, List.setIfInBounds_toArray, List.set_cons_succ, List.set_cons_zero]
        go_big_quiet_step (fail)
        go_big_quiet_step (fail)
        refine wpQuiet_want (by rfl) fun K hK => quiet_ld 29 (.tmp 1) (by rfl) w.heap.size 0 (by rfl) _ _ HRA.out Try.underlying29 rfl HSZ.out (hK _ ?_)
        simp only [Act.put, List.setIfInBounds_toArray, List.set_cons_succ, List.set_cons_zero]
        go_big_quiet_step (first | (go_at_call 73; exact bel_of (HOWN.out _)))
        go_big_quiet_step (first | (go_at_call 20; exact bel_of (HSM.out _)))
        go_big_quiet_step (fail)
        go_big_quiet_step (fail)
        go_big_quiet_step (fail)
        go_big_quiet_step (fail)
        go_big_quiet_step (fail)
        refine wpQuiet_want (by rfl) fun K hK => quiet_ld 29 (.tmp 1) (by rfl) w.heap.size 0 (by rfl) _ _ HRA.out Try.underlying29 rfl HSZ.out (hK _ ?_)
        simp only [Act.put, List.setIfInBounds_toArray, List.set_cons_succ, List.set_cons_zero]
        go_big_quiet_step (first | (go_at_call 74; exact bel_of (HMY.out _)))
        go_big_quiet_step (fail)
        go_big_quiet_step (fail)
        refine wpQuiet_nil ?_
        rintro w5 ⟨⟨w5', hb5⟩, hw5⟩
        obtain rfl : w5 = w5' := hw5
        have HN7 := hid ((hb5.block _ HL4.out).trans HN4.out)
        have HN8 := hid ((hb5.block _ (hp_lt HN5.out)).trans HN5.out)
        have HN9 := hid ((hb5.block _ HL6.out).trans HN6.out)
        have HB6 := hid (below_then HB4.out hb5)
        have HS5 := hid (HS4.out.below hb5)
        clear hb5 z1 z2 ib HRA HN4 HN5 HN6 HB4 HL4 HL6 HOWN HSM HMY
        go_wp2_with (first
          | (refine ld_row (by rfl) 61 (.tmp 5) (by rfl) B5 (by rfl) k1 61 HN9.out _ Try.underlying61 rfl kindSize ?_)
          | (refine ld_row (by rfl) 29 (.tmp 1) (by rfl) w.heap.size (by rfl) FF 29 HN7.out _ Try.underlying29 rfl HSZ.out ?_))
        refine (HSJ.out w5 HS5.out).mono ?_
        rintro e w6 ⟨rfl, hb6⟩
        have HNA := hid ((hb6.block _ (hp_lt HN8.out)).trans HN8.out)
        have HNB := hid ((hb6.block _ (hp_lt HN9.out)).trans HN9.out)
        have HB7 := hid (below_then HB6.out hb6)
        clear hb6 HN7 HN8 HN9 HB6 HSJ
        by_cases hZ : 2097152 < Z
        · have HPA := hid (show planA k1 (sameP f (ownF f)) true Z = .tuple #[.agg zRow.toArray, .int .i64 0, .int .i64 3] by unfold planA; rw [hS]; simp only [Bool.and_true, if_true, if_pos hZ])
          have q1 : decide ((2097152 : Int) < Z) = true := by simpa using hZ
          clear hS
          go_wp2_with (first
            | (refine bd_row (by rfl) 61 #[] (by rfl) [] (by simp) zRow.toArray built_zRow ?_)
            | (refine st_row (by rfl) 61 _ _ (by rfl) (w.heap.size + 1) zRow (by rfl) (by rfl) 61 _ HNA.out kindSize rfl zOne ?_; intro w7 hw7))
          refine ret_row3 2 3 4 61 rfl (w.heap.size + 1) rfl zRow 61 hw7.blk _ Try.underlying61 rfl kindSize _ _ rfl rfl rfl ⟨by rw [HPA.out]; rfl, Below.of_gb HB7.out hw7.grown (by omega)⟩
        · have HPA := hid (show planA k1 (sameP f (ownF f)) true Z = .tuple #[.agg k1.toArray, .int .i64 Z, .int .i64 0] by unfold planA; rw [hS]; simp only [Bool.and_true, if_true, if_neg hZ])
          have q1 : decide ((2097152 : Int) < Z) = false := by simpa using hZ
          clear hS
          go_wp2_with (first
            | (refine ld_row (by rfl) 61 (.tmp 5) (by rfl) B5 (by rfl) k1 61 HNB.out _ Try.underlying61 rfl kindSize ?_)
            | (refine st_row (by rfl) 61 _ _ (by rfl) (w.heap.size + 1) k1 (by rfl) (by rfl) 61 _ HNA.out kindSize rfl (kOne _ _ _ _ _) ?_; intro w7 hw7))
          refine ret_row3 2 3 4 61 rfl (w.heap.size + 1) rfl k1 61 hw7.blk _ Try.underlying61 rfl kindSize _ _ rfl rfl rfl ⟨by rw [HPA.out]; rfl, Below.of_gb HB7.out hw7.grown (by omega)⟩

end Go.Proofs.Ytjinkahlfigdcaa

/- The plan of a frame of kind 2. -/
namespace Go.Proofs.Ytjinkahlfigdcaa
open Go.RowKit Go.BigFrame

theorem kindOf_2 (w : World) : Calls Try.prog 40 #[.int .i64 2] w fun e w' => e = .returned (.tuple #[.agg k2.toArray, .bool true]) ∧ Below w.heap.size w w' := kindOf_any 2 w

set_option maxRecDepth 100000 in
set_option maxHeartbeats 8000000 in
theorem plan2_any (f : Fr) (va : Value) (w : World) (M : Bool) (Z : Int) (hf : f.tool.length = 32) (ha : Strs w va f.args) (hn : f.args.length ≤ 9223372036854775807) (hk : f.kind = 2)
    (hmay : ∀ W, Strs W va f.args → Calls Try.prog 78 #[.agg (fcells f va).toArray] W fun e w' => e = .returned (.bool M) ∧ Below W.heap.size W w')
    (hsz : sameP f (ownF f) = true → M = true → ∀ W, Strs W va f.args → Calls Try.prog 41 #[.agg k2.toArray, .agg (fcells f va).toArray] W fun e w' => e = .returned (.int .i64 Z) ∧ Below W.heap.size W w') :
    Calls Try.prog 22 #[.agg (fcells f va).toArray] w fun e w' => e = .returned (planA k2 (sameP f (ownF f)) M Z) ∧ Below w.heap.size w w' := by
  obtain ⟨ao, c, rfl⟩ := ha.shape
  have HNB := hid (hp_two w (.cells (fcells f (.slice ao f.args.length c)).toArray 29) (.cells zRow.toArray 61))
  have HBL := hid (below_walk2 w (.cells (fcells f (.slice ao f.args.length c)).toArray 29) (.cells zRow.toArray 61))
  have HZ : Hid ((w.alloc (.cells (fcells f (.slice ao f.args.length c)).toArray 29)).heap.size = w.heap.size + 1) := hid (by simp)
  have HSZ := hid (frame_size f (.slice ao f.args.length c) hf)
  have HS0 := hid ha
  have HF := hid hf
  have HK := hid hk
  have HOWN := hid (fun W => ownRequest_any f (.slice ao f.args.length c) W hk hf ⟨_, _, _, rfl⟩)
  have HSAME := hid (fun W (h : Strs W (.slice ao f.args.length c) f.args) => same_any f (ownF f) (.slice ao f.args.length c) (ownV f (.slice ao f.args.length c)) W hf (ownF_tool f hf) h (own_strs h) hn)
  have HMAY := hid hmay
  have HSIZE := hid hsz
  clear hf ha hn hk hmay hsz
  go_enter Try.func22, Try.ntmps22
  go_upto_region 1 with (refine al_row (by rfl) 61 (by rfl) _ zeroKind ?_)
  try rw [HZ.out]
  generalize (w.alloc (.cells (fcells f (.slice ao f.args.length c)).toArray 29)).alloc (.cells zRow.toArray 61) = w2 at HNB HBL ⊢
  have x0 := (Fb.of HNB.out.1 HF.out).k
  rw [HK.out] at x0
  have HL2 := hid (hp_lt HNB.out.2)
  go_wp2_with fail
  refine (kindOf_2 w2).mono ?_
  rintro e w3 ⟨rfl, hb3⟩
  have HN1 := hid ((hb3.block _ (by have := HL2.out; omega)).trans HNB.out.1)
  have HN2 := hid ((hb3.block _ HL2.out).trans HNB.out.2)
  have HB3 := hid (below_then HBL.out hb3)
  have HL3 := hid (hp_lt HN2.out)
  clear hb3 x0 HNB HBL HL2
  go_upto_region 2 with (first
    | (refine al_row (by rfl) 61 (by rfl) _ zeroKind ?_)
    | (refine st_new (by rfl) 61 _ _ (by rfl) k2 (by rfl) (by rfl) 61 _ kindSize rfl (kOne _ _ _ _ _) ?_))
  have HN4 := hid ((below_walk w3 (.cells k2.toArray 61)).block _ (by have := HL3.out; omega) |>.trans HN1.out)
  have HN5 := hid ((below_walk w3 (.cells k2.toArray 61)).block _ HL3.out |>.trans HN2.out)
  have HN6 := hid (hp_new w3 (.cells k2.toArray 61))
  have HB4 := hid (below_then HB3.out (below_walk w3 (.cells k2.toArray 61)))
  obtain ⟨B5, HB5⟩ : ∃ b : Nat, Hid (w3.heap.size = b) := ⟨_, rfl⟩
  rw [HB5.out] at HN6 ⊢
  generalize w3.alloc (.cells k2.toArray 61) = w4 at HN4 HN5 HN6 HB4 ⊢
  clear HN1 HN2 HB3 HL3
  have HS4 := hid (HS0.out.below HB4.out)
  have HL6 := hid (hp_lt HN6.out)
  have HL4 := hid (hp_lt HN4.out)
  have y1 : w4.cell? ⟨B5, 1, none⟩ = some (.func (.func 77) #[] #[]) := by rw [cell_of_row w4 B5 1 _ _ _ HN6.out]; rfl
  have y2 : w4.cell? ⟨B5, 2, none⟩ = some (.func (.func 78) #[] #[]) := by rw [cell_of_row w4 B5 2 _ _ _ HN6.out]; rfl
  have z1 := fun p : Bel w4 => p.cell y1 HL6.out
  have z2 := fun p : Bel w4 => p.cell y2 HL6.out
  have ib : Nonempty (Bel w4) := bel_some w4
  have HRA := hid (Bel.range (range_row HN4.out) HL4.out)
  have HSM := hid (fun p : Bel w4 => HSAME.out p.out (HS4.out.below p.bel))
  have HMY := hid (fun p : Bel w4 => HMAY.out p.out (HS4.out.below p.bel))
  clear y1 y2 HSAME HMAY
  obtain ⟨FF, HFF⟩ : ∃ x, Hid (fcells f (.slice ao f.args.length c) = x) := ⟨_, rfl⟩
  obtain ⟨FO, HFO⟩ : ∃ x, Hid (fcells (ownF f) (ownV f (.slice ao f.args.length c)) = x) := ⟨_, rfl⟩
  rw [HFF.out] at HOWN HSM HMY HSIZE HN4 HSZ HRA ⊢
  rw [HFO.out] at HOWN HSM
  cases hS : sameP f (ownF f) with
  | false =>
    as_aux_lemma =>
      have HPA := hid (show planA k2 (sameP f (ownF f)) M Z = .tuple #[.agg zRow.toArray, .int .i64 0, .int .i64 70] by unfold planA; rw [hS]; rfl)
      rw [hS] at HSM
      clear hS HSIZE
      refine wp_region_quiet_bel (by kernel_rfl) (by kernel_rfl) ?_
      go_big_quiet_step (fail)
      go_big_quiet_step (fail)
      go_big_quiet_step (fail)
      refine wpQuiet_want (by rfl) fun K hK => quiet_ld 29 (.tmp 1) (by rfl) w.heap.size 0 (by rfl) _ _ HRA.out Try.underlying29 rfl HSZ.out (hK _ ?_)
      simp only [Act.put, List.setIfInBounds_toArray, List.set_cons_succ, List.set_cons_zero]
      go_big_quiet_step (fail)
      go_big_quiet_step (fail)
      refine wpQuiet_want (by rfl) fun K hK => quiet_ld 29 (.tmp 1) (by rfl) w.heap.size 0 (by rfl) _ _ HRA.out Try.underlying29 rfl HSZ.out (hK _ ?_)
      simp only [Act.put, List.setIfInBounds_toArray, List.set_cons_succ, List.set_cons_zero]
      go_big_quiet_step (first | (go_at_call 77; exact bel_of (HOWN.out _)))
      go_big_quiet_step (first | (go_at_call 20; exact bel_of (HSM.out _)))
      go_big_quiet_step (fail)
      go_big_quiet_step (fail)
      go_big_quiet_step (fail)
      go_big_quiet_step (fail)
      go_big_quiet_step (fail)
      go_big_quiet_step (fail)
      go_big_quiet_step (fail)
      go_big_quiet_step (fail)
      go_big_quiet_step (fail)
      refine wpQuiet_nil ?_
      rintro w5 ⟨⟨w5', hb5⟩, hw5⟩
      obtain rfl : w5 = w5' := hw5
      have HN7 := hid ((hb5.block _ HL4.out).trans HN4.out)
      have HN8 := hid ((hb5.block _ (hp_lt HN5.out)).trans HN5.out)
      have HN9 := hid ((hb5.block _ HL6.out).trans HN6.out)
      have HB6 := hid (below_then HB4.out hb5)
      have HS5 := hid (HS4.out.below hb5)
      clear hb5 z1 z2 ib HRA HN4 HN5 HN6 HB4 HL4 HL6 HOWN HSM HMY
      go_wp2_with (first
        | (refine bd_row (by rfl) 61 #[] (by rfl) [] (by simp) zRow.toArray built_zRow ?_)
        | (refine st_row (by rfl) 61 _ _ (by rfl) (w.heap.size + 1) zRow (by rfl) (by rfl) 61 _ HN8.out kindSize rfl zOne ?_; intro w7 hw7))
      refine ret_row3 2 3 4 61 rfl (w.heap.size + 1) rfl zRow 61 hw7.blk _ Try.underlying61 rfl kindSize _ _ rfl rfl rfl ⟨by rw [HPA.out]; rfl, Below.of_gb HB6.out hw7.grown (by omega)⟩
  | true =>
    rw [hS] at HSM
    have HSI := hid (HSIZE.out hS)
    clear HSIZE
    cases M with
    | false =>
      as_aux_lemma =>
        have HPA := hid (show planA k2 (sameP f (ownF f)) false Z = .tuple #[.agg zRow.toArray, .int .i64 0, .int .i64 70] by unfold planA; rw [hS]; rfl)
        clear hS HSI
        refine wp_region_quiet_bel (by kernel_rfl) (by kernel_rfl) ?_
        go_big_quiet_step (fail)
        go_big_quiet_step (fail)
        go_big_quiet_step (fail)
        refine wpQuiet_want (by rfl) fun K hK => quiet_ld 29 (.tmp 1) (by rfl) w.heap.size 0 (by rfl) _ _ HRA.out Try.underlying29 rfl HSZ.out (hK _ ?_)
        simp only [Act.put, List.setIfInBounds_toArray, List.set_cons_succ, List.set_cons_zero]
        go_big_quiet_step (fail)
        go_big_quiet_step (fail)
        refine wpQuiet_want (by rfl) fun K hK => quiet_ld 29 (.tmp 1) (by rfl) w.heap.size 0 (by rfl) _ _ HRA.out Try.underlying29 rfl HSZ.out (hK _ ?_)
        simp only [Act.put, List.setIfInBounds_toArray, List.set_cons_succ, List.set_cons_zero]
        go_big_quiet_step (first | (go_at_call 77; exact bel_of (HOWN.out _)))
        go_big_quiet_step (first | (go_at_call 20; exact bel_of (HSM.out _)))
        go_big_quiet_step (fail)
        go_big_quiet_step (fail)
        go_big_quiet_step (fail)
        go_big_quiet_step (fail)
        go_big_quiet_step (fail)
        refine wpQuiet_want (by rfl) fun K hK => quiet_ld 29 (.tmp 1) (by rfl) w.heap.size 0 (by rfl) _ _ HRA.out Try.underlying29 rfl HSZ.out (hK _ ?_)
        simp only [Act.put, List.setIfInBounds_toArray, List.set_cons_succ, List.set_cons_zero]
        go_big_quiet_step (first | (go_at_call 78; exact bel_of (HMY.out _)))
        go_big_quiet_step (fail)
        go_big_quiet_step (fail)
        refine wpQuiet_nil ?_
        rintro w5 ⟨⟨w5', hb5⟩, hw5⟩
        obtain rfl : w5 = w5' := hw5
        have HN7 := hid ((hb5.block _ HL4.out).trans HN4.out)
        have HN8 := hid ((hb5.block _ (hp_lt HN5.out)).trans HN5.out)
        have HN9 := hid ((hb5.block _ HL6.out).trans HN6.out)
        have HB6 := hid (below_then HB4.out hb5)
        have HS5 := hid (HS4.out.below hb5)
        clear hb5 z1 z2 ib HRA HN4 HN5 HN6 HB4 HL4 HL6 HOWN HSM HMY
        go_wp2_with (first
          | (refine bd_row (by rfl) 61 #[] (by rfl) [] (by simp) zRow.toArray built_zRow ?_)
          | (refine st_row (by rfl) 61 _ _ (by rfl) (w.heap.size + 1) zRow (by rfl) (by rfl) 61 _ HN8.out kindSize rfl zOne ?_; intro w7 hw7))
        refine ret_row3 2 3 4 61 rfl (w.heap.size + 1) rfl zRow 61 hw7.blk _ Try.underlying61 rfl kindSize _ _ rfl rfl rfl ⟨by rw [HPA.out]; rfl, Below.of_gb HB6.out hw7.grown (by omega)⟩
    | true =>
      as_aux_lemma =>
        have HSJ := hid (HSI.out rfl)
        clear HSI
        refine wp_region_quiet_bel (by kernel_rfl) (by kernel_rfl) ?_
        go_big_quiet_step (fail)
        go_big_quiet_step (fail)
        go_big_quiet_step (fail)
        refine wpQuiet_want (by rfl) fun K hK => quiet_ld 29 (.tmp 1) (by rfl) w.heap.size 0 (by rfl) _ _ HRA.out Try.underlying29 rfl HSZ.out (hK _ ?_)
        simp only [Act.put, List.setIfInBounds_toArray, List.set_cons_succ, List.set_cons_zero]
        go_big_quiet_step (fail)
        go_big_quiet_step (fail)
        refine wpQuiet_want (by rfl) fun K hK => quiet_ld 29 (.tmp 1) (by rfl) w.heap.size 0 (by rfl) _ _ HRA.out Try.underlying29 rfl HSZ.out (hK _ ?_)
        simp only [Act.put, List.setIfInBounds_toArray, List.set_cons_succ, List.set_cons_zero]
        go_big_quiet_step (first | (go_at_call 77; exact bel_of (HOWN.out _)))
        go_big_quiet_step (first | (go_at_call 20; exact bel_of (HSM.out _)))
        go_big_quiet_step (fail)
        go_big_quiet_step (fail)
        go_big_quiet_step (fail)
        go_big_quiet_step (fail)
        go_big_quiet_step (fail)
        refine wpQuiet_want (by rfl) fun K hK => quiet_ld 29 (.tmp 1) (by rfl) w.heap.size 0 (by rfl) _ _ HRA.out Try.underlying29 rfl HSZ.out (hK _ ?_)
        simp only [Act.put, List.setIfInBounds_toArray, List.set_cons_succ, List.set_cons_zero]
        go_big_quiet_step (first | (go_at_call 78; exact bel_of (HMY.out _)))
        go_big_quiet_step (fail)
        go_big_quiet_step (fail)
        refine wpQuiet_nil ?_
        rintro w5 ⟨⟨w5', hb5⟩, hw5⟩
        obtain rfl : w5 = w5' := hw5
        have HN7 := hid ((hb5.block _ HL4.out).trans HN4.out)
        have HN8 := hid ((hb5.block _ (hp_lt HN5.out)).trans HN5.out)
        have HN9 := hid ((hb5.block _ HL6.out).trans HN6.out)
        have HB6 := hid (below_then HB4.out hb5)
        have HS5 := hid (HS4.out.below hb5)
        clear hb5 z1 z2 ib HRA HN4 HN5 HN6 HB4 HL4 HL6 HOWN HSM HMY
        go_wp2_with (first
          | (refine ld_row (by rfl) 61 (.tmp 5) (by rfl) B5 (by rfl) k2 61 HN9.out _ Try.underlying61 rfl kindSize ?_)
          | (refine ld_row (by rfl) 29 (.tmp 1) (by rfl) w.heap.size (by rfl) FF 29 HN7.out _ Try.underlying29 rfl HSZ.out ?_))
        refine (HSJ.out w5 HS5.out).mono ?_
        rintro e w6 ⟨rfl, hb6⟩
        have HNA := hid ((hb6.block _ (hp_lt HN8.out)).trans HN8.out)
        have HNB := hid ((hb6.block _ (hp_lt HN9.out)).trans HN9.out)
        have HB7 := hid (below_then HB6.out hb6)
        clear hb6 HN7 HN8 HN9 HB6 HSJ
        by_cases hZ : 2097152 < Z
        · have HPA := hid (show planA k2 (sameP f (ownF f)) true Z = .tuple #[.agg zRow.toArray, .int .i64 0, .int .i64 3] by unfold planA; rw [hS]; simp only [Bool.and_true, if_true, if_pos hZ])
          have q1 : decide ((2097152 : Int) < Z) = true := by simpa using hZ
          clear hS
          go_wp2_with (first
            | (refine bd_row (by rfl) 61 #[] (by rfl) [] (by simp) zRow.toArray built_zRow ?_)
            | (refine st_row (by rfl) 61 _ _ (by rfl) (w.heap.size + 1) zRow (by rfl) (by rfl) 61 _ HNA.out kindSize rfl zOne ?_; intro w7 hw7))
          refine ret_row3 2 3 4 61 rfl (w.heap.size + 1) rfl zRow 61 hw7.blk _ Try.underlying61 rfl kindSize _ _ rfl rfl rfl ⟨by rw [HPA.out]; rfl, Below.of_gb HB7.out hw7.grown (by omega)⟩
        · have HPA := hid (show planA k2 (sameP f (ownF f)) true Z = .tuple #[.agg k2.toArray, .int .i64 Z, .int .i64 0] by unfold planA; rw [hS]; simp only [Bool.and_true, if_true, if_neg hZ])
          have q1 : decide ((2097152 : Int) < Z) = false := by simpa using hZ
          clear hS
          go_wp2_with (first
            | (refine ld_row (by rfl) 61 (.tmp 5) (by rfl) B5 (by rfl) k2 61 HNB.out _ Try.underlying61 rfl kindSize ?_)
            | (refine st_row (by rfl) 61 _ _ (by rfl) (w.heap.size + 1) k2 (by rfl) (by rfl) 61 _ HNA.out kindSize rfl (kOne _ _ _ _ _) ?_; intro w7 hw7))
          refine ret_row3 2 3 4 61 rfl (w.heap.size + 1) rfl k2 61 hw7.blk _ Try.underlying61 rfl kindSize _ _ rfl rfl rfl ⟨by rw [HPA.out]; rfl, Below.of_gb HB7.out hw7.grown (by omega)⟩

end Go.Proofs.Ytjinkahlfigdcaa

/- The plan of a frame of kind 3. -/
namespace Go.Proofs.Ytjinkahlfigdcaa
open Go.RowKit Go.BigFrame

theorem kindOf_3 (w : World) : Calls Try.prog 40 #[.int .i64 3] w fun e w' => e = .returned (.tuple #[.agg k3.toArray, .bool true]) ∧ Below w.heap.size w w' := kindOf_any 3 w

set_option maxRecDepth 100000 in
set_option maxHeartbeats 8000000 in
theorem plan3_any (f : Fr) (va : Value) (w : World) (M : Bool) (Z : Int) (hf : f.tool.length = 32) (ha : Strs w va f.args) (hn : f.args.length ≤ 9223372036854775807) (hk : f.kind = 3)
    (hmay : ∀ W, Strs W va f.args → Calls Try.prog 82 #[.agg (fcells f va).toArray] W fun e w' => e = .returned (.bool M) ∧ Below W.heap.size W w')
    (hsz : sameP f (ownF f) = true → M = true → ∀ W, Strs W va f.args → Calls Try.prog 41 #[.agg k3.toArray, .agg (fcells f va).toArray] W fun e w' => e = .returned (.int .i64 Z) ∧ Below W.heap.size W w') :
    Calls Try.prog 22 #[.agg (fcells f va).toArray] w fun e w' => e = .returned (planA k3 (sameP f (ownF f)) M Z) ∧ Below w.heap.size w w' := by
  obtain ⟨ao, c, rfl⟩ := ha.shape
  have HNB := hid (hp_two w (.cells (fcells f (.slice ao f.args.length c)).toArray 29) (.cells zRow.toArray 61))
  have HBL := hid (below_walk2 w (.cells (fcells f (.slice ao f.args.length c)).toArray 29) (.cells zRow.toArray 61))
  have HZ : Hid ((w.alloc (.cells (fcells f (.slice ao f.args.length c)).toArray 29)).heap.size = w.heap.size + 1) := hid (by simp)
  have HSZ := hid (frame_size f (.slice ao f.args.length c) hf)
  have HS0 := hid ha
  have HF := hid hf
  have HK := hid hk
  have HOWN := hid (fun W => ownResponse_any f (.slice ao f.args.length c) W hk hf ⟨_, _, _, rfl⟩)
  have HSAME := hid (fun W (h : Strs W (.slice ao f.args.length c) f.args) => same_any f (ownF f) (.slice ao f.args.length c) (ownV f (.slice ao f.args.length c)) W hf (ownF_tool f hf) h (own_strs h) hn)
  have HMAY := hid hmay
  have HSIZE := hid hsz
  clear hf ha hn hk hmay hsz
  go_enter Try.func22, Try.ntmps22
  go_upto_region 1 with (refine al_row (by rfl) 61 (by rfl) _ zeroKind ?_)
  try rw [HZ.out]
  generalize (w.alloc (.cells (fcells f (.slice ao f.args.length c)).toArray 29)).alloc (.cells zRow.toArray 61) = w2 at HNB HBL ⊢
  have x0 := (Fb.of HNB.out.1 HF.out).k
  rw [HK.out] at x0
  have HL2 := hid (hp_lt HNB.out.2)
  go_wp2_with fail
  refine (kindOf_3 w2).mono ?_
  rintro e w3 ⟨rfl, hb3⟩
  have HN1 := hid ((hb3.block _ (by have := HL2.out; omega)).trans HNB.out.1)
  have HN2 := hid ((hb3.block _ HL2.out).trans HNB.out.2)
  have HB3 := hid (below_then HBL.out hb3)
  have HL3 := hid (hp_lt HN2.out)
  clear hb3 x0 HNB HBL HL2
  go_upto_region 2 with (first
    | (refine al_row (by rfl) 61 (by rfl) _ zeroKind ?_)
    | (refine st_new (by rfl) 61 _ _ (by rfl) k3 (by rfl) (by rfl) 61 _ kindSize rfl (kOne _ _ _ _ _) ?_))
  have HN4 := hid ((below_walk w3 (.cells k3.toArray 61)).block _ (by have := HL3.out; omega) |>.trans HN1.out)
  have HN5 := hid ((below_walk w3 (.cells k3.toArray 61)).block _ HL3.out |>.trans HN2.out)
  have HN6 := hid (hp_new w3 (.cells k3.toArray 61))
  have HB4 := hid (below_then HB3.out (below_walk w3 (.cells k3.toArray 61)))
  obtain ⟨B5, HB5⟩ : ∃ b : Nat, Hid (w3.heap.size = b) := ⟨_, rfl⟩
  rw [HB5.out] at HN6 ⊢
  generalize w3.alloc (.cells k3.toArray 61) = w4 at HN4 HN5 HN6 HB4 ⊢
  clear HN1 HN2 HB3 HL3
  have HS4 := hid (HS0.out.below HB4.out)
  have HL6 := hid (hp_lt HN6.out)
  have HL4 := hid (hp_lt HN4.out)
  have y1 : w4.cell? ⟨B5, 1, none⟩ = some (.func (.func 81) #[] #[]) := by rw [cell_of_row w4 B5 1 _ _ _ HN6.out]; rfl
  have y2 : w4.cell? ⟨B5, 2, none⟩ = some (.func (.func 82) #[] #[]) := by rw [cell_of_row w4 B5 2 _ _ _ HN6.out]; rfl
  have z1 := fun p : Bel w4 => p.cell y1 HL6.out
  have z2 := fun p : Bel w4 => p.cell y2 HL6.out
  have ib : Nonempty (Bel w4) := bel_some w4
  have HRA := hid (Bel.range (range_row HN4.out) HL4.out)
  have HSM := hid (fun p : Bel w4 => HSAME.out p.out (HS4.out.below p.bel))
  have HMY := hid (fun p : Bel w4 => HMAY.out p.out (HS4.out.below p.bel))
  clear y1 y2 HSAME HMAY
  obtain ⟨FF, HFF⟩ : ∃ x, Hid (fcells f (.slice ao f.args.length c) = x) := ⟨_, rfl⟩
  obtain ⟨FO, HFO⟩ : ∃ x, Hid (fcells (ownF f) (ownV f (.slice ao f.args.length c)) = x) := ⟨_, rfl⟩
  rw [HFF.out] at HOWN HSM HMY HSIZE HN4 HSZ HRA ⊢
  rw [HFO.out] at HOWN HSM
  cases hS : sameP f (ownF f) with
  | false =>
    as_aux_lemma =>
      have HPA := hid (show planA k3 (sameP f (ownF f)) M Z = .tuple #[.agg zRow.toArray, .int .i64 0, .int .i64 70] by unfold planA; rw [hS]; rfl)
      rw [hS] at HSM
      clear hS HSIZE
      refine wp_region_quiet_bel (by kernel_rfl) (by kernel_rfl) ?_
      go_big_quiet_step (fail)
      go_big_quiet_step (fail)
      go_big_quiet_step (fail)
      refine wpQuiet_want (by rfl) fun K hK => quiet_ld 29 (.tmp 1) (by rfl) w.heap.size 0 (by rfl) _ _ HRA.out Try.underlying29 rfl HSZ.out (hK _ ?_)
      simp only [Act.put, List.setIfInBounds_toArray, List.set_cons_succ, List.set_cons_zero]
      go_big_quiet_step (fail)
      go_big_quiet_step (fail)
      refine wpQuiet_want (by rfl) fun K hK => quiet_ld 29 (.tmp 1) (by rfl) w.heap.size 0 (by rfl) _ _ HRA.out Try.underlying29 rfl HSZ.out (hK _ ?_)
      simp only [Act.put, List.setIfInBounds_toArray, List.set_cons_succ, List.set_cons_zero]
      go_big_quiet_step (first | (go_at_call 81; exact bel_of (HOWN.out _)))
      go_big_quiet_step (first | (go_at_call 20; exact bel_of (HSM.out _)))
      go_big_quiet_step (fail)
      go_big_quiet_step (fail)
      go_big_quiet_step (fail)
      go_big_quiet_step (fail)
      go_big_quiet_step (fail)
      go_big_quiet_step (fail)
      go_big_quiet_step (fail)
      go_big_quiet_step (fail)
      go_big_quiet_step (fail)
      refine wpQuiet_nil ?_
      rintro w5 ⟨⟨w5', hb5⟩, hw5⟩
      obtain rfl : w5 = w5' := hw5
      have HN7 := hid ((hb5.block _ HL4.out).trans HN4.out)
      have HN8 := hid ((hb5.block _ (hp_lt HN5.out)).trans HN5.out)
      have HN9 := hid ((hb5.block _ HL6.out).trans HN6.out)
      have HB6 := hid (below_then HB4.out hb5)
      have HS5 := hid (HS4.out.below hb5)
      clear hb5 z1 z2 ib HRA HN4 HN5 HN6 HB4 HL4 HL6 HOWN HSM HMY
      go_wp2_with (first
        | (refine bd_row (by rfl) 61 #[] (by rfl) [] (by simp) zRow.toArray built_zRow ?_)
        | (refine st_row (by rfl) 61 _ _ (by rfl) (w.heap.size + 1) zRow (by rfl) (by rfl) 61 _ HN8.out kindSize rfl zOne ?_; intro w7 hw7))
      refine ret_row3 2 3 4 61 rfl (w.heap.size + 1) rfl zRow 61 hw7.blk _ Try.underlying61 rfl kindSize _ _ rfl rfl rfl ⟨by rw [HPA.out]; rfl, Below.of_gb HB6.out hw7.grown (by omega)⟩
  | true =>
    rw [hS] at HSM
    have HSI := hid (HSIZE.out hS)
    clear HSIZE
    cases M with
    | false =>
      as_aux_lemma =>
        have HPA := hid (show planA k3 (sameP f (ownF f)) false Z = .tuple #[.agg zRow.toArray, .int .i64 0, .int .i64 70] by unfold planA; rw [hS]; rfl)
        clear hS HSI
        refine wp_region_quiet_bel (by kernel_rfl) (by kernel_rfl) ?_
        go_big_quiet_step (fail)
        go_big_quiet_step (fail)
        go_big_quiet_step (fail)
        refine wpQuiet_want (by rfl) fun K hK => quiet_ld 29 (.tmp 1) (by rfl) w.heap.size 0 (by rfl) _ _ HRA.out Try.underlying29 rfl HSZ.out (hK _ ?_)
        simp only [Act.put, List.setIfInBounds_toArray, List.set_cons_succ, List.set_cons_zero]
        go_big_quiet_step (fail)
        go_big_quiet_step (fail)
        refine wpQuiet_want (by rfl) fun K hK => quiet_ld 29 (.tmp 1) (by rfl) w.heap.size 0 (by rfl) _ _ HRA.out Try.underlying29 rfl HSZ.out (hK _ ?_)
        simp only [Act.put, List.setIfInBounds_toArray, List.set_cons_succ, List.set_cons_zero]
        go_big_quiet_step (first | (go_at_call 81; exact bel_of (HOWN.out _)))
        go_big_quiet_step (first | (go_at_call 20; exact bel_of (HSM.out _)))
        go_big_quiet_step (fail)
        go_big_quiet_step (fail)
        go_big_quiet_step (fail)
        go_big_quiet_step (fail)
        go_big_quiet_step (fail)
        refine wpQuiet_want (by rfl) fun K hK => quiet_ld 29 (.tmp 1) (by rfl) w.heap.size 0 (by rfl) _ _ HRA.out Try.underlying29 rfl HSZ.out (hK _ ?_)
        simp only [Act.put, List.setIfInBounds_toArray, List.set_cons_succ, List.set_cons_zero]
        go_big_quiet_step (first | (go_at_call 82; exact bel_of (HMY.out _)))
        go_big_quiet_step (fail)
        go_big_quiet_step (fail)
        refine wpQuiet_nil ?_
        rintro w5 ⟨⟨w5', hb5⟩, hw5⟩
        obtain rfl : w5 = w5' := hw5
        have HN7 := hid ((hb5.block _ HL4.out).trans HN4.out)
        have HN8 := hid ((hb5.block _ (hp_lt HN5.out)).trans HN5.out)
        have HN9 := hid ((hb5.block _ HL6.out).trans HN6.out)
        have HB6 := hid (below_then HB4.out hb5)
        have HS5 := hid (HS4.out.below hb5)
        clear hb5 z1 z2 ib HRA HN4 HN5 HN6 HB4 HL4 HL6 HOWN HSM HMY
        go_wp2_with (first
          | (refine bd_row (by rfl) 61 #[] (by rfl) [] (by simp) zRow.toArray built_zRow ?_)
          | (refine st_row (by rfl) 61 _ _ (by rfl) (w.heap.size + 1) zRow (by rfl) (by rfl) 61 _ HN8.out kindSize rfl zOne ?_; intro w7 hw7))
        refine ret_row3 2 3 4 61 rfl (w.heap.size + 1) rfl zRow 61 hw7.blk _ Try.underlying61 rfl kindSize _ _ rfl rfl rfl ⟨by rw [HPA.out]; rfl, Below.of_gb HB6.out hw7.grown (by omega)⟩
    | true =>
      as_aux_lemma =>
        have HSJ := hid (HSI.out rfl)
        clear HSI
        refine wp_region_quiet_bel (by kernel_rfl) (by kernel_rfl) ?_
        go_big_quiet_step (fail)
        go_big_quiet_step (fail)
        go_big_quiet_step (fail)
        refine wpQuiet_want (by rfl) fun K hK => quiet_ld 29 (.tmp 1) (by rfl) w.heap.size 0 (by rfl) _ _ HRA.out Try.underlying29 rfl HSZ.out (hK _ ?_)
        simp only [Act.put, List.setIfInBounds_toArray, List.set_cons_succ, List.set_cons_zero]
        go_big_quiet_step (fail)
        go_big_quiet_step (fail)
        refine wpQuiet_want (by rfl) fun K hK => quiet_ld 29 (.tmp 1) (by rfl) w.heap.size 0 (by rfl) _ _ HRA.out Try.underlying29 rfl HSZ.out (hK _ ?_)
        simp only [Act.put, List.setIfInBounds_toArray, List.set_cons_succ, List.set_cons_zero]
        go_big_quiet_step (first | (go_at_call 81; exact bel_of (HOWN.out _)))
        go_big_quiet_step (first | (go_at_call 20; exact bel_of (HSM.out _)))
        go_big_quiet_step (fail)
        go_big_quiet_step (fail)
        go_big_quiet_step (fail)
        go_big_quiet_step (fail)
        go_big_quiet_step (fail)
        refine wpQuiet_want (by rfl) fun K hK => quiet_ld 29 (.tmp 1) (by rfl) w.heap.size 0 (by rfl) _ _ HRA.out Try.underlying29 rfl HSZ.out (hK _ ?_)
        simp only [Act.put, List.setIfInBounds_toArray, List.set_cons_succ, List.set_cons_zero]
        go_big_quiet_step (first | (go_at_call 82; exact bel_of (HMY.out _)))
        go_big_quiet_step (fail)
        go_big_quiet_step (fail)
        refine wpQuiet_nil ?_
        rintro w5 ⟨⟨w5', hb5⟩, hw5⟩
        obtain rfl : w5 = w5' := hw5
        have HN7 := hid ((hb5.block _ HL4.out).trans HN4.out)
        have HN8 := hid ((hb5.block _ (hp_lt HN5.out)).trans HN5.out)
        have HN9 := hid ((hb5.block _ HL6.out).trans HN6.out)
        have HB6 := hid (below_then HB4.out hb5)
        have HS5 := hid (HS4.out.below hb5)
        clear hb5 z1 z2 ib HRA HN4 HN5 HN6 HB4 HL4 HL6 HOWN HSM HMY
        go_wp2_with (first
          | (refine ld_row (by rfl) 61 (.tmp 5) (by rfl) B5 (by rfl) k3 61 HN9.out _ Try.underlying61 rfl kindSize ?_)
          | (refine ld_row (by rfl) 29 (.tmp 1) (by rfl) w.heap.size (by rfl) FF 29 HN7.out _ Try.underlying29 rfl HSZ.out ?_))
        refine (HSJ.out w5 HS5.out).mono ?_
        rintro e w6 ⟨rfl, hb6⟩
        have HNA := hid ((hb6.block _ (hp_lt HN8.out)).trans HN8.out)
        have HNB := hid ((hb6.block _ (hp_lt HN9.out)).trans HN9.out)
        have HB7 := hid (below_then HB6.out hb6)
        clear hb6 HN7 HN8 HN9 HB6 HSJ
        by_cases hZ : 2097152 < Z
        · have HPA := hid (show planA k3 (sameP f (ownF f)) true Z = .tuple #[.agg zRow.toArray, .int .i64 0, .int .i64 3] by unfold planA; rw [hS]; simp only [Bool.and_true, if_true, if_pos hZ])
          have q1 : decide ((2097152 : Int) < Z) = true := by simpa using hZ
          clear hS
          go_wp2_with (first
            | (refine bd_row (by rfl) 61 #[] (by rfl) [] (by simp) zRow.toArray built_zRow ?_)
            | (refine st_row (by rfl) 61 _ _ (by rfl) (w.heap.size + 1) zRow (by rfl) (by rfl) 61 _ HNA.out kindSize rfl zOne ?_; intro w7 hw7))
          refine ret_row3 2 3 4 61 rfl (w.heap.size + 1) rfl zRow 61 hw7.blk _ Try.underlying61 rfl kindSize _ _ rfl rfl rfl ⟨by rw [HPA.out]; rfl, Below.of_gb HB7.out hw7.grown (by omega)⟩
        · have HPA := hid (show planA k3 (sameP f (ownF f)) true Z = .tuple #[.agg k3.toArray, .int .i64 Z, .int .i64 0] by unfold planA; rw [hS]; simp only [Bool.and_true, if_true, if_neg hZ])
          have q1 : decide ((2097152 : Int) < Z) = false := by simpa using hZ
          clear hS
          go_wp2_with (first
            | (refine ld_row (by rfl) 61 (.tmp 5) (by rfl) B5 (by rfl) k3 61 HNB.out _ Try.underlying61 rfl kindSize ?_)
            | (refine st_row (by rfl) 61 _ _ (by rfl) (w.heap.size + 1) k3 (by rfl) (by rfl) 61 _ HNA.out kindSize rfl (kOne _ _ _ _ _) ?_; intro w7 hw7))
          refine ret_row3 2 3 4 61 rfl (w.heap.size + 1) rfl k3 61 hw7.blk _ Try.underlying61 rfl kindSize _ _ rfl rfl rfl ⟨by rw [HPA.out]; rfl, Below.of_gb HB7.out hw7.grown (by omega)⟩

end Go.Proofs.Ytjinkahlfigdcaa

/- The plan of a frame of kind 4. -/
namespace Go.Proofs.Ytjinkahlfigdcaa
open Go.RowKit Go.BigFrame

theorem kindOf_4 (w : World) : Calls Try.prog 40 #[.int .i64 4] w fun e w' => e = .returned (.tuple #[.agg k4.toArray, .bool true]) ∧ Below w.heap.size w w' := kindOf_any 4 w

set_option maxRecDepth 100000 in
set_option maxHeartbeats 8000000 in
theorem plan4_any (f : Fr) (va : Value) (w : World) (M : Bool) (Z : Int) (hf : f.tool.length = 32) (ha : Strs w va f.args) (hn : f.args.length ≤ 9223372036854775807) (hk : f.kind = 4)
    (hmay : ∀ W, Strs W va f.args → Calls Try.prog 86 #[.agg (fcells f va).toArray] W fun e w' => e = .returned (.bool M) ∧ Below W.heap.size W w')
    (hsz : sameP f (ownF f) = true → M = true → ∀ W, Strs W va f.args → Calls Try.prog 41 #[.agg k4.toArray, .agg (fcells f va).toArray] W fun e w' => e = .returned (.int .i64 Z) ∧ Below W.heap.size W w') :
    Calls Try.prog 22 #[.agg (fcells f va).toArray] w fun e w' => e = .returned (planA k4 (sameP f (ownF f)) M Z) ∧ Below w.heap.size w w' := by
  obtain ⟨ao, c, rfl⟩ := ha.shape
  have HNB := hid (hp_two w (.cells (fcells f (.slice ao f.args.length c)).toArray 29) (.cells zRow.toArray 61))
  have HBL := hid (below_walk2 w (.cells (fcells f (.slice ao f.args.length c)).toArray 29) (.cells zRow.toArray 61))
  have HZ : Hid ((w.alloc (.cells (fcells f (.slice ao f.args.length c)).toArray 29)).heap.size = w.heap.size + 1) := hid (by simp)
  have HSZ := hid (frame_size f (.slice ao f.args.length c) hf)
  have HS0 := hid ha
  have HF := hid hf
  have HK := hid hk
  have HOWN := hid (fun W => ownCancel_any f (.slice ao f.args.length c) W hk hf ⟨_, _, _, rfl⟩)
  have HSAME := hid (fun W (h : Strs W (.slice ao f.args.length c) f.args) => same_any f (ownF f) (.slice ao f.args.length c) (ownV f (.slice ao f.args.length c)) W hf (ownF_tool f hf) h (own_strs h) hn)
  have HMAY := hid hmay
  have HSIZE := hid hsz
  clear hf ha hn hk hmay hsz
  go_enter Try.func22, Try.ntmps22
  go_upto_region 1 with (refine al_row (by rfl) 61 (by rfl) _ zeroKind ?_)
  try rw [HZ.out]
  generalize (w.alloc (.cells (fcells f (.slice ao f.args.length c)).toArray 29)).alloc (.cells zRow.toArray 61) = w2 at HNB HBL ⊢
  have x0 := (Fb.of HNB.out.1 HF.out).k
  rw [HK.out] at x0
  have HL2 := hid (hp_lt HNB.out.2)
  go_wp2_with fail
  refine (kindOf_4 w2).mono ?_
  rintro e w3 ⟨rfl, hb3⟩
  have HN1 := hid ((hb3.block _ (by have := HL2.out; omega)).trans HNB.out.1)
  have HN2 := hid ((hb3.block _ HL2.out).trans HNB.out.2)
  have HB3 := hid (below_then HBL.out hb3)
  have HL3 := hid (hp_lt HN2.out)
  clear hb3 x0 HNB HBL HL2
  go_upto_region 2 with (first
    | (refine al_row (by rfl) 61 (by rfl) _ zeroKind ?_)
    | (refine st_new (by rfl) 61 _ _ (by rfl) k4 (by rfl) (by rfl) 61 _ kindSize rfl (kOne _ _ _ _ _) ?_))
  have HN4 := hid ((below_walk w3 (.cells k4.toArray 61)).block _ (by have := HL3.out; omega) |>.trans HN1.out)
  have HN5 := hid ((below_walk w3 (.cells k4.toArray 61)).block _ HL3.out |>.trans HN2.out)
  have HN6 := hid (hp_new w3 (.cells k4.toArray 61))
  have HB4 := hid (below_then HB3.out (below_walk w3 (.cells k4.toArray 61)))
  obtain ⟨B5, HB5⟩ : ∃ b : Nat, Hid (w3.heap.size = b) := ⟨_, rfl⟩
  rw [HB5.out] at HN6 ⊢
  generalize w3.alloc (.cells k4.toArray 61) = w4 at HN4 HN5 HN6 HB4 ⊢
  clear HN1 HN2 HB3 HL3
  have HS4 := hid (HS0.out.below HB4.out)
  have HL6 := hid (hp_lt HN6.out)
  have HL4 := hid (hp_lt HN4.out)
  have y1 : w4.cell? ⟨B5, 1, none⟩ = some (.func (.func 85) #[] #[]) := by rw [cell_of_row w4 B5 1 _ _ _ HN6.out]; rfl
  have y2 : w4.cell? ⟨B5, 2, none⟩ = some (.func (.func 86) #[] #[]) := by rw [cell_of_row w4 B5 2 _ _ _ HN6.out]; rfl
  have z1 := fun p : Bel w4 => p.cell y1 HL6.out
  have z2 := fun p : Bel w4 => p.cell y2 HL6.out
  have ib : Nonempty (Bel w4) := bel_some w4
  have HRA := hid (Bel.range (range_row HN4.out) HL4.out)
  have HSM := hid (fun p : Bel w4 => HSAME.out p.out (HS4.out.below p.bel))
  have HMY := hid (fun p : Bel w4 => HMAY.out p.out (HS4.out.below p.bel))
  clear y1 y2 HSAME HMAY
  obtain ⟨FF, HFF⟩ : ∃ x, Hid (fcells f (.slice ao f.args.length c) = x) := ⟨_, rfl⟩
  obtain ⟨FO, HFO⟩ : ∃ x, Hid (fcells (ownF f) (ownV f (.slice ao f.args.length c)) = x) := ⟨_, rfl⟩
  rw [HFF.out] at HOWN HSM HMY HSIZE HN4 HSZ HRA ⊢
  rw [HFO.out] at HOWN HSM
  cases hS : sameP f (ownF f) with
  | false =>
    as_aux_lemma =>
      have HPA := hid (show planA k4 (sameP f (ownF f)) M Z = .tuple #[.agg zRow.toArray, .int .i64 0, .int .i64 70] by unfold planA; rw [hS]; rfl)
      rw [hS] at HSM
      clear hS HSIZE
      refine wp_region_quiet_bel (by kernel_rfl) (by kernel_rfl) ?_
      go_big_quiet_step (fail)
      go_big_quiet_step (fail)
      go_big_quiet_step (fail)
      refine wpQuiet_want (by rfl) fun K hK => quiet_ld 29 (.tmp 1) (by rfl) w.heap.size 0 (by rfl) _ _ HRA.out Try.underlying29 rfl HSZ.out (hK _ ?_)
      simp only [Act.put, List.setIfInBounds_toArray, List.set_cons_succ, List.set_cons_zero]
      go_big_quiet_step (fail)
      go_big_quiet_step (fail)
      refine wpQuiet_want (by rfl) fun K hK => quiet_ld 29 (.tmp 1) (by rfl) w.heap.size 0 (by rfl) _ _ HRA.out Try.underlying29 rfl HSZ.out (hK _ ?_)
      simp only [Act.put, List.setIfInBounds_toArray, List.set_cons_succ, List.set_cons_zero]
      go_big_quiet_step (first | (go_at_call 85; exact bel_of (HOWN.out _)))
      go_big_quiet_step (first | (go_at_call 20; exact bel_of (HSM.out _)))
      go_big_quiet_step (fail)
      go_big_quiet_step (fail)
      go_big_quiet_step (fail)
      go_big_quiet_step (fail)
      go_big_quiet_step (fail)
      go_big_quiet_step (fail)
      go_big_quiet_step (fail)
      go_big_quiet_step (fail)
      go_big_quiet_step (fail)
      refine wpQuiet_nil ?_
      rintro w5 ⟨⟨w5', hb5⟩, hw5⟩
      obtain rfl : w5 = w5' := hw5
      have HN7 := hid ((hb5.block _ HL4.out).trans HN4.out)
      have HN8 := hid ((hb5.block _ (hp_lt HN5.out)).trans HN5.out)
      have HN9 := hid ((hb5.block _ HL6.out).trans HN6.out)
      have HB6 := hid (below_then HB4.out hb5)
      have HS5 := hid (HS4.out.below hb5)
      clear hb5 z1 z2 ib HRA HN4 HN5 HN6 HB4 HL4 HL6 HOWN HSM HMY
      go_wp2_with (first
        | (refine bd_row (by rfl) 61 #[] (by rfl) [] (by simp) zRow.toArray built_zRow ?_)
        | (refine st_row (by rfl) 61 _ _ (by rfl) (w.heap.size + 1) zRow (by rfl) (by rfl) 61 _ HN8.out kindSize rfl zOne ?_; intro w7 hw7))
      refine ret_row3 2 3 4 61 rfl (w.heap.size + 1) rfl zRow 61 hw7.blk _ Try.underlying61 rfl kindSize _ _ rfl rfl rfl ⟨by rw [HPA.out]; rfl, Below.of_gb HB6.out hw7.grown (by omega)⟩
  | true =>
    rw [hS] at HSM
    have HSI := hid (HSIZE.out hS)
    clear HSIZE
    cases M with
    | false =>
      as_aux_lemma =>
        have HPA := hid (show planA k4 (sameP f (ownF f)) false Z = .tuple #[.agg zRow.toArray, .int .i64 0, .int .i64 70] by unfold planA; rw [hS]; rfl)
        clear hS HSI
        refine wp_region_quiet_bel (by kernel_rfl) (by kernel_rfl) ?_
        go_big_quiet_step (fail)
        go_big_quiet_step (fail)
        go_big_quiet_step (fail)
        refine wpQuiet_want (by rfl) fun K hK => quiet_ld 29 (.tmp 1) (by rfl) w.heap.size 0 (by rfl) _ _ HRA.out Try.underlying29 rfl HSZ.out (hK _ ?_)
        simp only [Act.put, List.setIfInBounds_toArray, List.set_cons_succ, List.set_cons_zero]
        go_big_quiet_step (fail)
        go_big_quiet_step (fail)
        refine wpQuiet_want (by rfl) fun K hK => quiet_ld 29 (.tmp 1) (by rfl) w.heap.size 0 (by rfl) _ _ HRA.out Try.underlying29 rfl HSZ.out (hK _ ?_)
        simp only [Act.put, List.setIfInBounds_toArray, List.set_cons_succ, List.set_cons_zero]
        go_big_quiet_step (first | (go_at_call 85; exact bel_of (HOWN.out _)))
        go_big_quiet_step (first | (go_at_call 20; exact bel_of (HSM.out _)))
        go_big_quiet_step (fail)
        go_big_quiet_step (fail)
        go_big_quiet_step (fail)
        go_big_quiet_step (fail)
        go_big_quiet_step (fail)
        refine wpQuiet_want (by rfl) fun K hK => quiet_ld 29 (.tmp 1) (by rfl) w.heap.size 0 (by rfl) _ _ HRA.out Try.underlying29 rfl HSZ.out (hK _ ?_)
        simp only [Act.put, List.setIfInBounds_toArray, List.set_cons_succ, List.set_cons_zero]
        go_big_quiet_step (first | (go_at_call 86; exact bel_of (HMY.out _)))
        go_big_quiet_step (fail)
        go_big_quiet_step (fail)
        refine wpQuiet_nil ?_
        rintro w5 ⟨⟨w5', hb5⟩, hw5⟩
        obtain rfl : w5 = w5' := hw5
        have HN7 := hid ((hb5.block _ HL4.out).trans HN4.out)
        have HN8 := hid ((hb5.block _ (hp_lt HN5.out)).trans HN5.out)
        have HN9 := hid ((hb5.block _ HL6.out).trans HN6.out)
        have HB6 := hid (below_then HB4.out hb5)
        have HS5 := hid (HS4.out.below hb5)
        clear hb5 z1 z2 ib HRA HN4 HN5 HN6 HB4 HL4 HL6 HOWN HSM HMY
        go_wp2_with (first
          | (refine bd_row (by rfl) 61 #[] (by rfl) [] (by simp) zRow.toArray built_zRow ?_)
          | (refine st_row (by rfl) 61 _ _ (by rfl) (w.heap.size + 1) zRow (by rfl) (by rfl) 61 _ HN8.out kindSize rfl zOne ?_; intro w7 hw7))
        refine ret_row3 2 3 4 61 rfl (w.heap.size + 1) rfl zRow 61 hw7.blk _ Try.underlying61 rfl kindSize _ _ rfl rfl rfl ⟨by rw [HPA.out]; rfl, Below.of_gb HB6.out hw7.grown (by omega)⟩
    | true =>
      as_aux_lemma =>
        have HSJ := hid (HSI.out rfl)
        clear HSI
        refine wp_region_quiet_bel (by kernel_rfl) (by kernel_rfl) ?_
        go_big_quiet_step (fail)
        go_big_quiet_step (fail)
        go_big_quiet_step (fail)
        refine wpQuiet_want (by rfl) fun K hK => quiet_ld 29 (.tmp 1) (by rfl) w.heap.size 0 (by rfl) _ _ HRA.out Try.underlying29 rfl HSZ.out (hK _ ?_)
        simp only [Act.put, List.setIfInBounds_toArray, List.set_cons_succ, List.set_cons_zero]
        go_big_quiet_step (fail)
        go_big_quiet_step (fail)
        refine wpQuiet_want (by rfl) fun K hK => quiet_ld 29 (.tmp 1) (by rfl) w.heap.size 0 (by rfl) _ _ HRA.out Try.underlying29 rfl HSZ.out (hK _ ?_)
        simp only [Act.put, List.setIfInBounds_toArray, List.set_cons_succ, List.set_cons_zero]
        go_big_quiet_step (first | (go_at_call 85; exact bel_of (HOWN.out _)))
        go_big_quiet_step (first | (go_at_call 20; exact bel_of (HSM.out _)))
        go_big_quiet_step (fail)
        go_big_quiet_step (fail)
        go_big_quiet_step (fail)
        go_big_quiet_step (fail)
        go_big_quiet_step (fail)
        refine wpQuiet_want (by rfl) fun K hK => quiet_ld 29 (.tmp 1) (by rfl) w.heap.size 0 (by rfl) _ _ HRA.out Try.underlying29 rfl HSZ.out (hK _ ?_)
        simp only [Act.put, List.setIfInBounds_toArray, List.set_cons_succ, List.set_cons_zero]
        go_big_quiet_step (first | (go_at_call 86; exact bel_of (HMY.out _)))
        go_big_quiet_step (fail)
        go_big_quiet_step (fail)
        refine wpQuiet_nil ?_
        rintro w5 ⟨⟨w5', hb5⟩, hw5⟩
        obtain rfl : w5 = w5' := hw5
        have HN7 := hid ((hb5.block _ HL4.out).trans HN4.out)
        have HN8 := hid ((hb5.block _ (hp_lt HN5.out)).trans HN5.out)
        have HN9 := hid ((hb5.block _ HL6.out).trans HN6.out)
        have HB6 := hid (below_then HB4.out hb5)
        have HS5 := hid (HS4.out.below hb5)
        clear hb5 z1 z2 ib HRA HN4 HN5 HN6 HB4 HL4 HL6 HOWN HSM HMY
        go_wp2_with (first
          | (refine ld_row (by rfl) 61 (.tmp 5) (by rfl) B5 (by rfl) k4 61 HN9.out _ Try.underlying61 rfl kindSize ?_)
          | (refine ld_row (by rfl) 29 (.tmp 1) (by rfl) w.heap.size (by rfl) FF 29 HN7.out _ Try.underlying29 rfl HSZ.out ?_))
        refine (HSJ.out w5 HS5.out).mono ?_
        rintro e w6 ⟨rfl, hb6⟩
        have HNA := hid ((hb6.block _ (hp_lt HN8.out)).trans HN8.out)
        have HNB := hid ((hb6.block _ (hp_lt HN9.out)).trans HN9.out)
        have HB7 := hid (below_then HB6.out hb6)
        clear hb6 HN7 HN8 HN9 HB6 HSJ
        by_cases hZ : 2097152 < Z
        · have HPA := hid (show planA k4 (sameP f (ownF f)) true Z = .tuple #[.agg zRow.toArray, .int .i64 0, .int .i64 3] by unfold planA; rw [hS]; simp only [Bool.and_true, if_true, if_pos hZ])
          have q1 : decide ((2097152 : Int) < Z) = true := by simpa using hZ
          clear hS
          go_wp2_with (first
            | (refine bd_row (by rfl) 61 #[] (by rfl) [] (by simp) zRow.toArray built_zRow ?_)
            | (refine st_row (by rfl) 61 _ _ (by rfl) (w.heap.size + 1) zRow (by rfl) (by rfl) 61 _ HNA.out kindSize rfl zOne ?_; intro w7 hw7))
          refine ret_row3 2 3 4 61 rfl (w.heap.size + 1) rfl zRow 61 hw7.blk _ Try.underlying61 rfl kindSize _ _ rfl rfl rfl ⟨by rw [HPA.out]; rfl, Below.of_gb HB7.out hw7.grown (by omega)⟩
        · have HPA := hid (show planA k4 (sameP f (ownF f)) true Z = .tuple #[.agg k4.toArray, .int .i64 Z, .int .i64 0] by unfold planA; rw [hS]; simp only [Bool.and_true, if_true, if_neg hZ])
          have q1 : decide ((2097152 : Int) < Z) = false := by simpa using hZ
          clear hS
          go_wp2_with (first
            | (refine ld_row (by rfl) 61 (.tmp 5) (by rfl) B5 (by rfl) k4 61 HNB.out _ Try.underlying61 rfl kindSize ?_)
            | (refine st_row (by rfl) 61 _ _ (by rfl) (w.heap.size + 1) k4 (by rfl) (by rfl) 61 _ HNA.out kindSize rfl (kOne _ _ _ _ _) ?_; intro w7 hw7))
          refine ret_row3 2 3 4 61 rfl (w.heap.size + 1) rfl k4 61 hw7.blk _ Try.underlying61 rfl kindSize _ _ rfl rfl rfl ⟨by rw [HPA.out]; rfl, Below.of_gb HB7.out hw7.grown (by omega)⟩

end Go.Proofs.Ytjinkahlfigdcaa

/- The plan of a frame of kind 5. -/
namespace Go.Proofs.Ytjinkahlfigdcaa
open Go.RowKit Go.BigFrame

theorem kindOf_5 (w : World) : Calls Try.prog 40 #[.int .i64 5] w fun e w' => e = .returned (.tuple #[.agg k5.toArray, .bool true]) ∧ Below w.heap.size w w' := kindOf_any 5 w

set_option maxRecDepth 100000 in
set_option maxHeartbeats 8000000 in
theorem plan5_any (f : Fr) (va : Value) (w : World) (M : Bool) (Z : Int) (hf : f.tool.length = 32) (ha : Strs w va f.args) (hn : f.args.length ≤ 9223372036854775807) (hk : f.kind = 5)
    (hmay : ∀ W, Strs W va f.args → Calls Try.prog 86 #[.agg (fcells f va).toArray] W fun e w' => e = .returned (.bool M) ∧ Below W.heap.size W w')
    (hsz : sameP f (ownF f) = true → M = true → ∀ W, Strs W va f.args → Calls Try.prog 41 #[.agg k5.toArray, .agg (fcells f va).toArray] W fun e w' => e = .returned (.int .i64 Z) ∧ Below W.heap.size W w') :
    Calls Try.prog 22 #[.agg (fcells f va).toArray] w fun e w' => e = .returned (planA k5 (sameP f (ownF f)) M Z) ∧ Below w.heap.size w w' := by
  obtain ⟨ao, c, rfl⟩ := ha.shape
  have HNB := hid (hp_two w (.cells (fcells f (.slice ao f.args.length c)).toArray 29) (.cells zRow.toArray 61))
  have HBL := hid (below_walk2 w (.cells (fcells f (.slice ao f.args.length c)).toArray 29) (.cells zRow.toArray 61))
  have HZ : Hid ((w.alloc (.cells (fcells f (.slice ao f.args.length c)).toArray 29)).heap.size = w.heap.size + 1) := hid (by simp)
  have HSZ := hid (frame_size f (.slice ao f.args.length c) hf)
  have HS0 := hid ha
  have HF := hid hf
  have HK := hid hk
  have HOWN := hid (fun W => ownBye2_any f (.slice ao f.args.length c) W hk hf ⟨_, _, _, rfl⟩)
  have HSAME := hid (fun W (h : Strs W (.slice ao f.args.length c) f.args) => same_any f (ownF f) (.slice ao f.args.length c) (ownV f (.slice ao f.args.length c)) W hf (ownF_tool f hf) h (own_strs h) hn)
  have HMAY := hid hmay
  have HSIZE := hid hsz
  clear hf ha hn hk hmay hsz
  go_enter Try.func22, Try.ntmps22
  go_upto_region 1 with (refine al_row (by rfl) 61 (by rfl) _ zeroKind ?_)
  try rw [HZ.out]
  generalize (w.alloc (.cells (fcells f (.slice ao f.args.length c)).toArray 29)).alloc (.cells zRow.toArray 61) = w2 at HNB HBL ⊢
  have x0 := (Fb.of HNB.out.1 HF.out).k
  rw [HK.out] at x0
  have HL2 := hid (hp_lt HNB.out.2)
  go_wp2_with fail
  refine (kindOf_5 w2).mono ?_
  rintro e w3 ⟨rfl, hb3⟩
  have HN1 := hid ((hb3.block _ (by have := HL2.out; omega)).trans HNB.out.1)
  have HN2 := hid ((hb3.block _ HL2.out).trans HNB.out.2)
  have HB3 := hid (below_then HBL.out hb3)
  have HL3 := hid (hp_lt HN2.out)
  clear hb3 x0 HNB HBL HL2
  go_upto_region 2 with (first
    | (refine al_row (by rfl) 61 (by rfl) _ zeroKind ?_)
    | (refine st_new (by rfl) 61 _ _ (by rfl) k5 (by rfl) (by rfl) 61 _ kindSize rfl (kOne _ _ _ _ _) ?_))
  have HN4 := hid ((below_walk w3 (.cells k5.toArray 61)).block _ (by have := HL3.out; omega) |>.trans HN1.out)
  have HN5 := hid ((below_walk w3 (.cells k5.toArray 61)).block _ HL3.out |>.trans HN2.out)
  have HN6 := hid (hp_new w3 (.cells k5.toArray 61))
  have HB4 := hid (below_then HB3.out (below_walk w3 (.cells k5.toArray 61)))
  obtain ⟨B5, HB5⟩ : ∃ b : Nat, Hid (w3.heap.size = b) := ⟨_, rfl⟩
  rw [HB5.out] at HN6 ⊢
  generalize w3.alloc (.cells k5.toArray 61) = w4 at HN4 HN5 HN6 HB4 ⊢
  clear HN1 HN2 HB3 HL3
  have HS4 := hid (HS0.out.below HB4.out)
  have HL6 := hid (hp_lt HN6.out)
  have HL4 := hid (hp_lt HN4.out)
  have y1 : w4.cell? ⟨B5, 1, none⟩ = some (.func (.func 89) #[] #[]) := by rw [cell_of_row w4 B5 1 _ _ _ HN6.out]; rfl
  have y2 : w4.cell? ⟨B5, 2, none⟩ = some (.func (.func 86) #[] #[]) := by rw [cell_of_row w4 B5 2 _ _ _ HN6.out]; rfl
  have z1 := fun p : Bel w4 => p.cell y1 HL6.out
  have z2 := fun p : Bel w4 => p.cell y2 HL6.out
  have ib : Nonempty (Bel w4) := bel_some w4
  have HRA := hid (Bel.range (range_row HN4.out) HL4.out)
  have HSM := hid (fun p : Bel w4 => HSAME.out p.out (HS4.out.below p.bel))
  have HMY := hid (fun p : Bel w4 => HMAY.out p.out (HS4.out.below p.bel))
  clear y1 y2 HSAME HMAY
  obtain ⟨FF, HFF⟩ : ∃ x, Hid (fcells f (.slice ao f.args.length c) = x) := ⟨_, rfl⟩
  obtain ⟨FO, HFO⟩ : ∃ x, Hid (fcells (ownF f) (ownV f (.slice ao f.args.length c)) = x) := ⟨_, rfl⟩
  rw [HFF.out] at HOWN HSM HMY HSIZE HN4 HSZ HRA ⊢
  rw [HFO.out] at HOWN HSM
  cases hS : sameP f (ownF f) with
  | false =>
    as_aux_lemma =>
      have HPA := hid (show planA k5 (sameP f (ownF f)) M Z = .tuple #[.agg zRow.toArray, .int .i64 0, .int .i64 70] by unfold planA; rw [hS]; rfl)
      rw [hS] at HSM
      clear hS HSIZE
      refine wp_region_quiet_bel (by kernel_rfl) (by kernel_rfl) ?_
      go_big_quiet_step (fail)
      go_big_quiet_step (fail)
      go_big_quiet_step (fail)
      refine wpQuiet_want (by rfl) fun K hK => quiet_ld 29 (.tmp 1) (by rfl) w.heap.size 0 (by rfl) _ _ HRA.out Try.underlying29 rfl HSZ.out (hK _ ?_)
      simp only [Act.put, List.setIfInBounds_toArray, List.set_cons_succ, List.set_cons_zero]
      go_big_quiet_step (fail)
      go_big_quiet_step (fail)
      refine wpQuiet_want (by rfl) fun K hK => quiet_ld 29 (.tmp 1) (by rfl) w.heap.size 0 (by rfl) _ _ HRA.out Try.underlying29 rfl HSZ.out (hK _ ?_)
      simp only [Act.put, List.setIfInBounds_toArray, List.set_cons_succ, List.set_cons_zero]
      go_big_quiet_step (first | (go_at_call 89; exact bel_of (HOWN.out _)))
      go_big_quiet_step (first | (go_at_call 20; exact bel_of (HSM.out _)))
      go_big_quiet_step (fail)
      go_big_quiet_step (fail)
      go_big_quiet_step (fail)
      go_big_quiet_step (fail)
      go_big_quiet_step (fail)
      go_big_quiet_step (fail)
      go_big_quiet_step (fail)
      go_big_quiet_step (fail)
      go_big_quiet_step (fail)
      refine wpQuiet_nil ?_
      rintro w5 ⟨⟨w5', hb5⟩, hw5⟩
      obtain rfl : w5 = w5' := hw5
      have HN7 := hid ((hb5.block _ HL4.out).trans HN4.out)
      have HN8 := hid ((hb5.block _ (hp_lt HN5.out)).trans HN5.out)
      have HN9 := hid ((hb5.block _ HL6.out).trans HN6.out)
      have HB6 := hid (below_then HB4.out hb5)
      have HS5 := hid (HS4.out.below hb5)
      clear hb5 z1 z2 ib HRA HN4 HN5 HN6 HB4 HL4 HL6 HOWN HSM HMY
      go_wp2_with (first
        | (refine bd_row (by rfl) 61 #[] (by rfl) [] (by simp) zRow.toArray built_zRow ?_)
        | (refine st_row (by rfl) 61 _ _ (by rfl) (w.heap.size + 1) zRow (by rfl) (by rfl) 61 _ HN8.out kindSize rfl zOne ?_; intro w7 hw7))
      refine ret_row3 2 3 4 61 rfl (w.heap.size + 1) rfl zRow 61 hw7.blk _ Try.underlying61 rfl kindSize _ _ rfl rfl rfl ⟨by rw [HPA.out]; rfl, Below.of_gb HB6.out hw7.grown (by omega)⟩
  | true =>
    rw [hS] at HSM
    have HSI := hid (HSIZE.out hS)
    clear HSIZE
    cases M with
    | false =>
      as_aux_lemma =>
        have HPA := hid (show planA k5 (sameP f (ownF f)) false Z = .tuple #[.agg zRow.toArray, .int .i64 0, .int .i64 70] by unfold planA; rw [hS]; rfl)
        clear hS HSI
        refine wp_region_quiet_bel (by kernel_rfl) (by kernel_rfl) ?_
        go_big_quiet_step (fail)
        go_big_quiet_step (fail)
        go_big_quiet_step (fail)
        refine wpQuiet_want (by rfl) fun K hK => quiet_ld 29 (.tmp 1) (by rfl) w.heap.size 0 (by rfl) _ _ HRA.out Try.underlying29 rfl HSZ.out (hK _ ?_)
        simp only [Act.put, List.setIfInBounds_toArray, List.set_cons_succ, List.set_cons_zero]
        go_big_quiet_step (fail)
        go_big_quiet_step (fail)
        refine wpQuiet_want (by rfl) fun K hK => quiet_ld 29 (.tmp 1) (by rfl) w.heap.size 0 (by rfl) _ _ HRA.out Try.underlying29 rfl HSZ.out (hK _ ?_)
        simp only [Act.put, List.setIfInBounds_toArray, List.set_cons_succ, List.set_cons_zero]
        go_big_quiet_step (first | (go_at_call 89; exact bel_of (HOWN.out _)))
        go_big_quiet_step (first | (go_at_call 20; exact bel_of (HSM.out _)))
        go_big_quiet_step (fail)
        go_big_quiet_step (fail)
        go_big_quiet_step (fail)
        go_big_quiet_step (fail)
        go_big_quiet_step (fail)
        refine wpQuiet_want (by rfl) fun K hK => quiet_ld 29 (.tmp 1) (by rfl) w.heap.size 0 (by rfl) _ _ HRA.out Try.underlying29 rfl HSZ.out (hK _ ?_)
        simp only [Act.put, List.setIfInBounds_toArray, List.set_cons_succ, List.set_cons_zero]
        go_big_quiet_step (first | (go_at_call 86; exact bel_of (HMY.out _)))
        go_big_quiet_step (fail)
        go_big_quiet_step (fail)
        refine wpQuiet_nil ?_
        rintro w5 ⟨⟨w5', hb5⟩, hw5⟩
        obtain rfl : w5 = w5' := hw5
        have HN7 := hid ((hb5.block _ HL4.out).trans HN4.out)
        have HN8 := hid ((hb5.block _ (hp_lt HN5.out)).trans HN5.out)
        have HN9 := hid ((hb5.block _ HL6.out).trans HN6.out)
        have HB6 := hid (below_then HB4.out hb5)
        have HS5 := hid (HS4.out.below hb5)
        clear hb5 z1 z2 ib HRA HN4 HN5 HN6 HB4 HL4 HL6 HOWN HSM HMY
        go_wp2_with (first
          | (refine bd_row (by rfl) 61 #[] (by rfl) [] (by simp) zRow.toArray built_zRow ?_)
          | (refine st_row (by rfl) 61 _ _ (by rfl) (w.heap.size + 1) zRow (by rfl) (by rfl) 61 _ HN8.out kindSize rfl zOne ?_; intro w7 hw7))
        refine ret_row3 2 3 4 61 rfl (w.heap.size + 1) rfl zRow 61 hw7.blk _ Try.underlying61 rfl kindSize _ _ rfl rfl rfl ⟨by rw [HPA.out]; rfl, Below.of_gb HB6.out hw7.grown (by omega)⟩
    | true =>
      as_aux_lemma =>
        have HSJ := hid (HSI.out rfl)
        clear HSI
        refine wp_region_quiet_bel (by kernel_rfl) (by kernel_rfl) ?_
        go_big_quiet_step (fail)
        go_big_quiet_step (fail)
        go_big_quiet_step (fail)
        refine wpQuiet_want (by rfl) fun K hK => quiet_ld 29 (.tmp 1) (by rfl) w.heap.size 0 (by rfl) _ _ HRA.out Try.underlying29 rfl HSZ.out (hK _ ?_)
        simp only [Act.put, List.setIfInBounds_toArray, List.set_cons_succ, List.set_cons_zero]
        go_big_quiet_step (fail)
        go_big_quiet_step (fail)
        refine wpQuiet_want (by rfl) fun K hK => quiet_ld 29 (.tmp 1) (by rfl) w.heap.size 0 (by rfl) _ _ HRA.out Try.underlying29 rfl HSZ.out (hK _ ?_)
        simp only [Act.put, List.setIfInBounds_toArray, List.set_cons_succ, List.set_cons_zero]
        go_big_quiet_step (first | (go_at_call 89; exact bel_of (HOWN.out _)))
        go_big_quiet_step (first | (go_at_call 20; exact bel_of (HSM.out _)))
        go_big_quiet_step (fail)
        go_big_quiet_step (fail)
        go_big_quiet_step (fail)
        go_big_quiet_step (fail)
        go_big_quiet_step (fail)
        refine wpQuiet_want (by rfl) fun K hK => quiet_ld 29 (.tmp 1) (by rfl) w.heap.size 0 (by rfl) _ _ HRA.out Try.underlying29 rfl HSZ.out (hK _ ?_)
        simp only [Act.put, List.setIfInBounds_toArray, List.set_cons_succ, List.set_cons_zero]
        go_big_quiet_step (first | (go_at_call 86; exact bel_of (HMY.out _)))
        go_big_quiet_step (fail)
        go_big_quiet_step (fail)
        refine wpQuiet_nil ?_
        rintro w5 ⟨⟨w5', hb5⟩, hw5⟩
        obtain rfl : w5 = w5' := hw5
        have HN7 := hid ((hb5.block _ HL4.out).trans HN4.out)
        have HN8 := hid ((hb5.block _ (hp_lt HN5.out)).trans HN5.out)
        have HN9 := hid ((hb5.block _ HL6.out).trans HN6.out)
        have HB6 := hid (below_then HB4.out hb5)
        have HS5 := hid (HS4.out.below hb5)
        clear hb5 z1 z2 ib HRA HN4 HN5 HN6 HB4 HL4 HL6 HOWN HSM HMY
        go_wp2_with (first
          | (refine ld_row (by rfl) 61 (.tmp 5) (by rfl) B5 (by rfl) k5 61 HN9.out _ Try.underlying61 rfl kindSize ?_)
          | (refine ld_row (by rfl) 29 (.tmp 1) (by rfl) w.heap.size (by rfl) FF 29 HN7.out _ Try.underlying29 rfl HSZ.out ?_))
        refine (HSJ.out w5 HS5.out).mono ?_
        rintro e w6 ⟨rfl, hb6⟩
        have HNA := hid ((hb6.block _ (hp_lt HN8.out)).trans HN8.out)
        have HNB := hid ((hb6.block _ (hp_lt HN9.out)).trans HN9.out)
        have HB7 := hid (below_then HB6.out hb6)
        clear hb6 HN7 HN8 HN9 HB6 HSJ
        by_cases hZ : 2097152 < Z
        · have HPA := hid (show planA k5 (sameP f (ownF f)) true Z = .tuple #[.agg zRow.toArray, .int .i64 0, .int .i64 3] by unfold planA; rw [hS]; simp only [Bool.and_true, if_true, if_pos hZ])
          have q1 : decide ((2097152 : Int) < Z) = true := by simpa using hZ
          clear hS
          go_wp2_with (first
            | (refine bd_row (by rfl) 61 #[] (by rfl) [] (by simp) zRow.toArray built_zRow ?_)
            | (refine st_row (by rfl) 61 _ _ (by rfl) (w.heap.size + 1) zRow (by rfl) (by rfl) 61 _ HNA.out kindSize rfl zOne ?_; intro w7 hw7))
          refine ret_row3 2 3 4 61 rfl (w.heap.size + 1) rfl zRow 61 hw7.blk _ Try.underlying61 rfl kindSize _ _ rfl rfl rfl ⟨by rw [HPA.out]; rfl, Below.of_gb HB7.out hw7.grown (by omega)⟩
        · have HPA := hid (show planA k5 (sameP f (ownF f)) true Z = .tuple #[.agg k5.toArray, .int .i64 Z, .int .i64 0] by unfold planA; rw [hS]; simp only [Bool.and_true, if_true, if_neg hZ])
          have q1 : decide ((2097152 : Int) < Z) = false := by simpa using hZ
          clear hS
          go_wp2_with (first
            | (refine ld_row (by rfl) 61 (.tmp 5) (by rfl) B5 (by rfl) k5 61 HNB.out _ Try.underlying61 rfl kindSize ?_)
            | (refine st_row (by rfl) 61 _ _ (by rfl) (w.heap.size + 1) k5 (by rfl) (by rfl) 61 _ HNA.out kindSize rfl (kOne _ _ _ _ _) ?_; intro w7 hw7))
          refine ret_row3 2 3 4 61 rfl (w.heap.size + 1) rfl k5 61 hw7.blk _ Try.underlying61 rfl kindSize _ _ rfl rfl rfl ⟨by rw [HPA.out]; rfl, Below.of_gb HB7.out hw7.grown (by omega)⟩

end Go.Proofs.Ytjinkahlfigdcaa

/- The plan of a frame of kind 6. -/
namespace Go.Proofs.Ytjinkahlfigdcaa
open Go.RowKit Go.BigFrame

theorem kindOf_6 (w : World) : Calls Try.prog 40 #[.int .i64 6] w fun e w' => e = .returned (.tuple #[.agg k6.toArray, .bool true]) ∧ Below w.heap.size w w' := kindOf_any 6 w

set_option maxRecDepth 100000 in
set_option maxHeartbeats 8000000 in
theorem plan6_any (f : Fr) (va : Value) (w : World) (M : Bool) (Z : Int) (hf : f.tool.length = 32) (ha : Strs w va f.args) (hn : f.args.length ≤ 9223372036854775807) (hk : f.kind = 6)
    (hmay : ∀ W, Strs W va f.args → Calls Try.prog 86 #[.agg (fcells f va).toArray] W fun e w' => e = .returned (.bool M) ∧ Below W.heap.size W w')
    (hsz : sameP f (ownF f) = true → M = true → ∀ W, Strs W va f.args → Calls Try.prog 41 #[.agg k6.toArray, .agg (fcells f va).toArray] W fun e w' => e = .returned (.int .i64 Z) ∧ Below W.heap.size W w') :
    Calls Try.prog 22 #[.agg (fcells f va).toArray] w fun e w' => e = .returned (planA k6 (sameP f (ownF f)) M Z) ∧ Below w.heap.size w w' := by
  obtain ⟨ao, c, rfl⟩ := ha.shape
  have HNB := hid (hp_two w (.cells (fcells f (.slice ao f.args.length c)).toArray 29) (.cells zRow.toArray 61))
  have HBL := hid (below_walk2 w (.cells (fcells f (.slice ao f.args.length c)).toArray 29) (.cells zRow.toArray 61))
  have HZ : Hid ((w.alloc (.cells (fcells f (.slice ao f.args.length c)).toArray 29)).heap.size = w.heap.size + 1) := hid (by simp)
  have HSZ := hid (frame_size f (.slice ao f.args.length c) hf)
  have HS0 := hid ha
  have HF := hid hf
  have HK := hid hk
  have HOWN := hid (fun W => ownNote_any f (.slice ao f.args.length c) W hk hf ⟨_, _, _, rfl⟩)
  have HSAME := hid (fun W (h : Strs W (.slice ao f.args.length c) f.args) => same_any f (ownF f) (.slice ao f.args.length c) (ownV f (.slice ao f.args.length c)) W hf (ownF_tool f hf) h (own_strs h) hn)
  have HMAY := hid hmay
  have HSIZE := hid hsz
  clear hf ha hn hk hmay hsz
  go_enter Try.func22, Try.ntmps22
  go_upto_region 1 with (refine al_row (by rfl) 61 (by rfl) _ zeroKind ?_)
  try rw [HZ.out]
  generalize (w.alloc (.cells (fcells f (.slice ao f.args.length c)).toArray 29)).alloc (.cells zRow.toArray 61) = w2 at HNB HBL ⊢
  have x0 := (Fb.of HNB.out.1 HF.out).k
  rw [HK.out] at x0
  have HL2 := hid (hp_lt HNB.out.2)
  go_wp2_with fail
  refine (kindOf_6 w2).mono ?_
  rintro e w3 ⟨rfl, hb3⟩
  have HN1 := hid ((hb3.block _ (by have := HL2.out; omega)).trans HNB.out.1)
  have HN2 := hid ((hb3.block _ HL2.out).trans HNB.out.2)
  have HB3 := hid (below_then HBL.out hb3)
  have HL3 := hid (hp_lt HN2.out)
  clear hb3 x0 HNB HBL HL2
  go_upto_region 2 with (first
    | (refine al_row (by rfl) 61 (by rfl) _ zeroKind ?_)
    | (refine st_new (by rfl) 61 _ _ (by rfl) k6 (by rfl) (by rfl) 61 _ kindSize rfl (kOne _ _ _ _ _) ?_))
  have HN4 := hid ((below_walk w3 (.cells k6.toArray 61)).block _ (by have := HL3.out; omega) |>.trans HN1.out)
  have HN5 := hid ((below_walk w3 (.cells k6.toArray 61)).block _ HL3.out |>.trans HN2.out)
  have HN6 := hid (hp_new w3 (.cells k6.toArray 61))
  have HB4 := hid (below_then HB3.out (below_walk w3 (.cells k6.toArray 61)))
  obtain ⟨B5, HB5⟩ : ∃ b : Nat, Hid (w3.heap.size = b) := ⟨_, rfl⟩
  rw [HB5.out] at HN6 ⊢
  generalize w3.alloc (.cells k6.toArray 61) = w4 at HN4 HN5 HN6 HB4 ⊢
  clear HN1 HN2 HB3 HL3
  have HS4 := hid (HS0.out.below HB4.out)
  have HL6 := hid (hp_lt HN6.out)
  have HL4 := hid (hp_lt HN4.out)
  have y1 : w4.cell? ⟨B5, 1, none⟩ = some (.func (.func 92) #[] #[]) := by rw [cell_of_row w4 B5 1 _ _ _ HN6.out]; rfl
  have y2 : w4.cell? ⟨B5, 2, none⟩ = some (.func (.func 86) #[] #[]) := by rw [cell_of_row w4 B5 2 _ _ _ HN6.out]; rfl
  have z1 := fun p : Bel w4 => p.cell y1 HL6.out
  have z2 := fun p : Bel w4 => p.cell y2 HL6.out
  have ib : Nonempty (Bel w4) := bel_some w4
  have HRA := hid (Bel.range (range_row HN4.out) HL4.out)
  have HSM := hid (fun p : Bel w4 => HSAME.out p.out (HS4.out.below p.bel))
  have HMY := hid (fun p : Bel w4 => HMAY.out p.out (HS4.out.below p.bel))
  clear y1 y2 HSAME HMAY
  obtain ⟨FF, HFF⟩ : ∃ x, Hid (fcells f (.slice ao f.args.length c) = x) := ⟨_, rfl⟩
  obtain ⟨FO, HFO⟩ : ∃ x, Hid (fcells (ownF f) (ownV f (.slice ao f.args.length c)) = x) := ⟨_, rfl⟩
  rw [HFF.out] at HOWN HSM HMY HSIZE HN4 HSZ HRA ⊢
  rw [HFO.out] at HOWN HSM
  cases hS : sameP f (ownF f) with
  | false =>
    as_aux_lemma =>
      have HPA := hid (show planA k6 (sameP f (ownF f)) M Z = .tuple #[.agg zRow.toArray, .int .i64 0, .int .i64 70] by unfold planA; rw [hS]; rfl)
      rw [hS] at HSM
      clear hS HSIZE
      refine wp_region_quiet_bel (by kernel_rfl) (by kernel_rfl) ?_
      go_big_quiet_step (fail)
      go_big_quiet_step (fail)
      go_big_quiet_step (fail)
      refine wpQuiet_want (by rfl) fun K hK => quiet_ld 29 (.tmp 1) (by rfl) w.heap.size 0 (by rfl) _ _ HRA.out Try.underlying29 rfl HSZ.out (hK _ ?_)
      simp only [Act.put, List.setIfInBounds_toArray, List.set_cons_succ, List.set_cons_zero]
      go_big_quiet_step (fail)
      go_big_quiet_step (fail)
      refine wpQuiet_want (by rfl) fun K hK => quiet_ld 29 (.tmp 1) (by rfl) w.heap.size 0 (by rfl) _ _ HRA.out Try.underlying29 rfl HSZ.out (hK _ ?_)
      simp only [Act.put, List.setIfInBounds_toArray, List.set_cons_succ, List.set_cons_zero]
      go_big_quiet_step (first | (go_at_call 92; exact bel_of (HOWN.out _)))
      go_big_quiet_step (first | (go_at_call 20; exact bel_of (HSM.out _)))
      go_big_quiet_step (fail)
      go_big_quiet_step (fail)
      go_big_quiet_step (fail)
      go_big_quiet_step (fail)
      go_big_quiet_step (fail)
      go_big_quiet_step (fail)
      go_big_quiet_step (fail)
      go_big_quiet_step (fail)
      go_big_quiet_step (fail)
      refine wpQuiet_nil ?_
      rintro w5 ⟨⟨w5', hb5⟩, hw5⟩
      obtain rfl : w5 = w5' := hw5
      have HN7 := hid ((hb5.block _ HL4.out).trans HN4.out)
      have HN8 := hid ((hb5.block _ (hp_lt HN5.out)).trans HN5.out)
      have HN9 := hid ((hb5.block _ HL6.out).trans HN6.out)
      have HB6 := hid (below_then HB4.out hb5)
      have HS5 := hid (HS4.out.below hb5)
      clear hb5 z1 z2 ib HRA HN4 HN5 HN6 HB4 HL4 HL6 HOWN HSM HMY
      go_wp2_with (first
        | (refine bd_row (by rfl) 61 #[] (by rfl) [] (by simp) zRow.toArray built_zRow ?_)
        | (refine st_row (by rfl) 61 _ _ (by rfl) (w.heap.size + 1) zRow (by rfl) (by rfl) 61 _ HN8.out kindSize rfl zOne ?_; intro w7 hw7))
      refine ret_row3 2 3 4 61 rfl (w.heap.size + 1) rfl zRow 61 hw7.blk _ Try.underlying61 rfl kindSize _ _ rfl rfl rfl ⟨by rw [HPA.out]; rfl, Below.of_gb HB6.out hw7.grown (by omega)⟩
  | true =>
    rw [hS] at HSM
    have HSI := hid (HSIZE.out hS)
    clear HSIZE
    cases M with
    | false =>
      as_aux_lemma =>
        have HPA := hid (show planA k6 (sameP f (ownF f)) false Z = .tuple #[.agg zRow.toArray, .int .i64 0, .int .i64 70] by unfold planA; rw [hS]; rfl)
        clear hS HSI
        refine wp_region_quiet_bel (by kernel_rfl) (by kernel_rfl) ?_
        go_big_quiet_step (fail)
        go_big_quiet_step (fail)
        go_big_quiet_step (fail)
        refine wpQuiet_want (by rfl) fun K hK => quiet_ld 29 (.tmp 1) (by rfl) w.heap.size 0 (by rfl) _ _ HRA.out Try.underlying29 rfl HSZ.out (hK _ ?_)
        simp only [Act.put, List.setIfInBounds_toArray, List.set_cons_succ, List.set_cons_zero]
        go_big_quiet_step (fail)
        go_big_quiet_step (fail)
        refine wpQuiet_want (by rfl) fun K hK => quiet_ld 29 (.tmp 1) (by rfl) w.heap.size 0 (by rfl) _ _ HRA.out Try.underlying29 rfl HSZ.out (hK _ ?_)
        simp only [Act.put, List.setIfInBounds_toArray, List.set_cons_succ, List.set_cons_zero]
        go_big_quiet_step (first | (go_at_call 92; exact bel_of (HOWN.out _)))
        go_big_quiet_step (first | (go_at_call 20; exact bel_of (HSM.out _)))
        go_big_quiet_step (fail)
        go_big_quiet_step (fail)
        go_big_quiet_step (fail)
        go_big_quiet_step (fail)
        go_big_quiet_step (fail)
        refine wpQuiet_want (by rfl) fun K hK => quiet_ld 29 (.tmp 1) (by rfl) w.heap.size 0 (by rfl) _ _ HRA.out Try.underlying29 rfl HSZ.out (hK _ ?_)
        simp only [Act.put, List.setIfInBounds_toArray, List.set_cons_succ, List.set_cons_zero]
        go_big_quiet_step (first | (go_at_call 86; exact bel_of (HMY.out _)))
        go_big_quiet_step (fail)
        go_big_quiet_step (fail)
        refine wpQuiet_nil ?_
        rintro w5 ⟨⟨w5', hb5⟩, hw5⟩
        obtain rfl : w5 = w5' := hw5
        have HN7 := hid ((hb5.block _ HL4.out).trans HN4.out)
        have HN8 := hid ((hb5.block _ (hp_lt HN5.out)).trans HN5.out)
        have HN9 := hid ((hb5.block _ HL6.out).trans HN6.out)
        have HB6 := hid (below_then HB4.out hb5)
        have HS5 := hid (HS4.out.below hb5)
        clear hb5 z1 z2 ib HRA HN4 HN5 HN6 HB4 HL4 HL6 HOWN HSM HMY
        go_wp2_with (first
          | (refine bd_row (by rfl) 61 #[] (by rfl) [] (by simp) zRow.toArray built_zRow ?_)
          | (refine st_row (by rfl) 61 _ _ (by rfl) (w.heap.size + 1) zRow (by rfl) (by rfl) 61 _ HN8.out kindSize rfl zOne ?_; intro w7 hw7))
        refine ret_row3 2 3 4 61 rfl (w.heap.size + 1) rfl zRow 61 hw7.blk _ Try.underlying61 rfl kindSize _ _ rfl rfl rfl ⟨by rw [HPA.out]; rfl, Below.of_gb HB6.out hw7.grown (by omega)⟩
    | true =>
      as_aux_lemma =>
        have HSJ := hid (HSI.out rfl)
        clear HSI
        refine wp_region_quiet_bel (by kernel_rfl) (by kernel_rfl) ?_
        go_big_quiet_step (fail)
        go_big_quiet_step (fail)
        go_big_quiet_step (fail)
        refine wpQuiet_want (by rfl) fun K hK => quiet_ld 29 (.tmp 1) (by rfl) w.heap.size 0 (by rfl) _ _ HRA.out Try.underlying29 rfl HSZ.out (hK _ ?_)
        simp only [Act.put, List.setIfInBounds_toArray, List.set_cons_succ, List.set_cons_zero]
        go_big_quiet_step (fail)
        go_big_quiet_step (fail)
        refine wpQuiet_want (by rfl) fun K hK => quiet_ld 29 (.tmp 1) (by rfl) w.heap.size 0 (by rfl) _ _ HRA.out Try.underlying29 rfl HSZ.out (hK _ ?_)
        simp only [Act.put, List.setIfInBounds_toArray, List.set_cons_succ, List.set_cons_zero]
        go_big_quiet_step (first | (go_at_call 92; exact bel_of (HOWN.out _)))
        go_big_quiet_step (first | (go_at_call 20; exact bel_of (HSM.out _)))
        go_big_quiet_step (fail)
        go_big_quiet_step (fail)
        go_big_quiet_step (fail)
        go_big_quiet_step (fail)
        go_big_quiet_step (fail)
        refine wpQuiet_want (by rfl) fun K hK => quiet_ld 29 (.tmp 1) (by rfl) w.heap.size 0 (by rfl) _ _ HRA.out Try.underlying29 rfl HSZ.out (hK _ ?_)
        simp only [Act.put, List.setIfInBounds_toArray, List.set_cons_succ, List.set_cons_zero]
        go_big_quiet_step (first | (go_at_call 86; exact bel_of (HMY.out _)))
        go_big_quiet_step (fail)
        go_big_quiet_step (fail)
        refine wpQuiet_nil ?_
        rintro w5 ⟨⟨w5', hb5⟩, hw5⟩
        obtain rfl : w5 = w5' := hw5
        have HN7 := hid ((hb5.block _ HL4.out).trans HN4.out)
        have HN8 := hid ((hb5.block _ (hp_lt HN5.out)).trans HN5.out)
        have HN9 := hid ((hb5.block _ HL6.out).trans HN6.out)
        have HB6 := hid (below_then HB4.out hb5)
        have HS5 := hid (HS4.out.below hb5)
        clear hb5 z1 z2 ib HRA HN4 HN5 HN6 HB4 HL4 HL6 HOWN HSM HMY
        go_wp2_with (first
          | (refine ld_row (by rfl) 61 (.tmp 5) (by rfl) B5 (by rfl) k6 61 HN9.out _ Try.underlying61 rfl kindSize ?_)
          | (refine ld_row (by rfl) 29 (.tmp 1) (by rfl) w.heap.size (by rfl) FF 29 HN7.out _ Try.underlying29 rfl HSZ.out ?_))
        refine (HSJ.out w5 HS5.out).mono ?_
        rintro e w6 ⟨rfl, hb6⟩
        have HNA := hid ((hb6.block _ (hp_lt HN8.out)).trans HN8.out)
        have HNB := hid ((hb6.block _ (hp_lt HN9.out)).trans HN9.out)
        have HB7 := hid (below_then HB6.out hb6)
        clear hb6 HN7 HN8 HN9 HB6 HSJ
        by_cases hZ : 2097152 < Z
        · have HPA := hid (show planA k6 (sameP f (ownF f)) true Z = .tuple #[.agg zRow.toArray, .int .i64 0, .int .i64 3] by unfold planA; rw [hS]; simp only [Bool.and_true, if_true, if_pos hZ])
          have q1 : decide ((2097152 : Int) < Z) = true := by simpa using hZ
          clear hS
          go_wp2_with (first
            | (refine bd_row (by rfl) 61 #[] (by rfl) [] (by simp) zRow.toArray built_zRow ?_)
            | (refine st_row (by rfl) 61 _ _ (by rfl) (w.heap.size + 1) zRow (by rfl) (by rfl) 61 _ HNA.out kindSize rfl zOne ?_; intro w7 hw7))
          refine ret_row3 2 3 4 61 rfl (w.heap.size + 1) rfl zRow 61 hw7.blk _ Try.underlying61 rfl kindSize _ _ rfl rfl rfl ⟨by rw [HPA.out]; rfl, Below.of_gb HB7.out hw7.grown (by omega)⟩
        · have HPA := hid (show planA k6 (sameP f (ownF f)) true Z = .tuple #[.agg k6.toArray, .int .i64 Z, .int .i64 0] by unfold planA; rw [hS]; simp only [Bool.and_true, if_true, if_neg hZ])
          have q1 : decide ((2097152 : Int) < Z) = false := by simpa using hZ
          clear hS
          go_wp2_with (first
            | (refine ld_row (by rfl) 61 (.tmp 5) (by rfl) B5 (by rfl) k6 61 HNB.out _ Try.underlying61 rfl kindSize ?_)
            | (refine st_row (by rfl) 61 _ _ (by rfl) (w.heap.size + 1) k6 (by rfl) (by rfl) 61 _ HNA.out kindSize rfl (kOne _ _ _ _ _) ?_; intro w7 hw7))
          refine ret_row3 2 3 4 61 rfl (w.heap.size + 1) rfl k6 61 hw7.blk _ Try.underlying61 rfl kindSize _ _ rfl rfl rfl ⟨by rw [HPA.out]; rfl, Below.of_gb HB7.out hw7.grown (by omega)⟩

end Go.Proofs.Ytjinkahlfigdcaa

/- The plan of a frame of no kind; Check. -/
namespace Go.Proofs.Ytjinkahlfigdcaa
open Go.RowKit Go.BigFrame

set_option maxRecDepth 100000 in
set_option maxHeartbeats 8000000 in
theorem planN_any (f : Fr) (va : Value) (w : World) (hf : f.tool.length = 32) (ha : Strs w va f.args) (hk : ¬ (1 ≤ f.kind ∧ f.kind ≤ 6)) :
    Calls Try.prog 22 #[.agg (fcells f va).toArray] w fun e w' => e = .returned (.tuple #[.agg zRow.toArray, .int .i64 0, .int .i64 70]) ∧ Below w.heap.size w w' := by
  obtain ⟨ao, c, rfl⟩ := ha.shape
  have HNB := hid (hp_two w (.cells (fcells f (.slice ao f.args.length c)).toArray 29) (.cells zRow.toArray 61))
  have HBL := hid (below_walk2 w (.cells (fcells f (.slice ao f.args.length c)).toArray 29) (.cells zRow.toArray 61))
  have HZ : Hid ((w.alloc (.cells (fcells f (.slice ao f.args.length c)).toArray 29)).heap.size = w.heap.size + 1) := hid (by simp)
  have HSZ := hid (frame_size f (.slice ao f.args.length c) hf)
  have HS0 := hid ha
  have HF := hid hf
  have HKO : Hid (kOf f.kind = zRow) := hid (by
    unfold kOf
    rw [if_neg (by omega), if_neg (by omega), if_neg (by omega), if_neg (by omega), if_neg (by omega), if_neg (by omega)])
  have HKD := hid (decide_eq_false hk)
  clear hf ha hk
  go_enter Try.func22, Try.ntmps22
  go_upto_region 1 with (refine al_row (by rfl) 61 (by rfl) _ zeroKind ?_)
  try rw [HZ.out]
  generalize (w.alloc (.cells (fcells f (.slice ao f.args.length c)).toArray 29)).alloc (.cells zRow.toArray 61) = w2 at HNB HBL ⊢
  have x0 := (Fb.of HNB.out.1 HF.out).k
  have HL2 := hid (hp_lt HNB.out.2)
  go_wp2_with fail
  have HKI := hid (kindOf_any f.kind w2)
  rw [HKO.out, HKD.out] at HKI
  refine HKI.out.mono ?_
  rintro e w3 ⟨rfl, hb3⟩
  have HN1 := hid ((hb3.block _ (by have := HL2.out; omega)).trans HNB.out.1)
  have HN2 := hid ((hb3.block _ HL2.out).trans HNB.out.2)
  have HB3 := hid (below_then HBL.out hb3)
  have HL3 := hid (hp_lt HN2.out)
  clear hb3 x0 HNB HBL HL2
  go_upto_region 2 with (first
    | (refine al_row (by rfl) 61 (by rfl) _ zeroKind ?_)
    | (refine st_new (by rfl) 61 _ _ (by rfl) zRow (by rfl) (by rfl) 61 _ kindSize rfl zOne ?_))
  have HN4 := hid ((below_walk w3 (.cells zRow.toArray 61)).block _ (by have := HL3.out; omega) |>.trans HN1.out)
  have HN5 := hid ((below_walk w3 (.cells zRow.toArray 61)).block _ HL3.out |>.trans HN2.out)
  have HN6 := hid (hp_new w3 (.cells zRow.toArray 61))
  have HB4 := hid (below_then HB3.out (below_walk w3 (.cells zRow.toArray 61)))
  obtain ⟨B5, HB5⟩ : ∃ b : Nat, Hid (w3.heap.size = b) := ⟨_, rfl⟩
  rw [HB5.out] at HN6 ⊢
  generalize w3.alloc (.cells zRow.toArray 61) = w4 at HN4 HN5 HN6 HB4 ⊢
  clear HN1 HN2 HB3 HL3
  obtain ⟨FF, HFF⟩ : ∃ x, Hid (fcells f (.slice ao f.args.length c) = x) := ⟨_, rfl⟩
  rw [HFF.out] at HN4 ⊢
  have ib : Nonempty (Bel w4) := bel_some w4
  refine wp_region_quiet_bel (by kernel_rfl) (by kernel_rfl) ?_
  go_big_quiet_step (fail)
  go_big_quiet_step (fail)
  go_big_quiet_step (fail)
  go_big_quiet_step (fail)
  go_big_quiet_step (fail)
  go_big_quiet_step (fail)
  go_big_quiet_step (fail)
  go_big_quiet_step (fail)
  go_big_quiet_step (fail)
  go_big_quiet_step (fail)
  go_big_quiet_step (fail)
  go_big_quiet_step (fail)
  go_big_quiet_step (fail)
  go_big_quiet_step (fail)
  go_big_quiet_step (fail)
  go_big_quiet_step (fail)
  go_big_quiet_step (fail)
  go_big_quiet_step (fail)
  refine wpQuiet_nil ?_
  rintro w5 ⟨⟨w5', hb5⟩, hw5⟩
  obtain rfl : w5 = w5' := hw5
  have HN8 := hid ((hb5.block _ (hp_lt HN5.out)).trans HN5.out)
  have HB6 := hid (below_then HB4.out hb5)
  clear hb5 ib HN4 HN5 HN6 HB4
  go_wp2_with (first
    | (refine bd_row (by rfl) 61 #[] (by rfl) [] (by simp) zRow.toArray built_zRow ?_)
    | (refine st_row (by rfl) 61 _ _ (by rfl) (w.heap.size + 1) zRow (by rfl) (by rfl) 61 _ HN8.out kindSize rfl zOne ?_; intro w7 hw7))
  refine ret_row3 2 3 4 61 rfl (w.heap.size + 1) rfl zRow 61 hw7.blk _ Try.underlying61 rfl kindSize _ _ rfl rfl rfl ⟨rfl, Below.of_gb HB6.out hw7.grown (by omega)⟩

set_option maxRecDepth 100000 in
set_option maxHeartbeats 4000000 in
theorem fcheck_any (f : Fr) (va : Value) (w : World) (k : List Value) (Z E : Int) (hl : k.length = 5) (hone : ∀ v ∈ k, v.oneCell' = true) (hf : f.tool.length = 32) (ha : Strs w va f.args)
    (hplan : ∀ W, Strs W va f.args → Calls Try.prog 22 #[.agg (fcells f va).toArray] W fun e w' => e = .returned (.tuple #[.agg k.toArray, .int .i64 Z, .int .i64 E]) ∧ Below W.heap.size W w') :
    Calls Try.prog 13 #[.agg (fcells f va).toArray] w fun e w' => e = .returned (.int .i64 E) ∧ Below w.heap.size w w' := by
  have HNB := hid (hp_new w (.cells (fcells f va).toArray 29))
  have HBL := hid (below_walk w (.cells (fcells f va).toArray 29))
  have HSZ := hid (frame_size f va hf)
  have HPL := hid (hplan _ (ha.below HBL.out))
  have HKS := hid (show (Try.prog.info? 61).map (·.size) = some k.length by rw [hl]; exact kindSize)
  have HKO := hid (show zRow.toArray.size = k.length by rw [hl]; rfl)
  have HON := hid hone
  clear hplan ha hf hone hl
  go_enter Try.func13, Try.ntmps13
  go_upto_region 1 with fail
  generalize w.alloc (.cells (fcells f va).toArray 29) = w1 at HNB HBL HPL ⊢
  generalize fcells f va = FF at *
  go_wp2_with (refine ld_row (by rfl) 29 (.tmp 1) (by rfl) w.heap.size (by rfl) FF 29 HNB.out _ Try.underlying29 rfl HSZ.out ?_)
  refine HPL.out.mono ?_
  rintro e w2 ⟨rfl, hb2⟩
  have HB2 := hid (below_then (below_then HBL.out hb2) (below_walk w2 (.cells k.toArray 61)))
  clear hb2 HNB HBL HPL
  go_wp2_with (first
    | (refine al_row (by rfl) 61 (by rfl) _ zeroKind ?_)
    | (refine st_new (by rfl) 61 _ _ (by rfl) k (by rfl) (by rfl) 61 _ HKS.out HKO.out HON.out ?_))
  go_ret
  exact ⟨rfl, HB2.out⟩

set_option maxRecDepth 100000 in
set_option maxHeartbeats 4000000 in
theorem fsize_err (f : Fr) (va : Value) (w : World) (k : List Value) (Z E : Int) (hE : E ≠ 0) (hl : k.length = 5) (hone : ∀ v ∈ k, v.oneCell' = true) (hf : f.tool.length = 32) (ha : Strs w va f.args)
    (hplan : ∀ W, Strs W va f.args → Calls Try.prog 22 #[.agg (fcells f va).toArray] W fun e w' => e = .returned (.tuple #[.agg k.toArray, .int .i64 Z, .int .i64 E]) ∧ Below W.heap.size W w') :
    Calls Try.prog 11 #[.agg (fcells f va).toArray] w fun e w' => e = .returned (.tuple #[.int .i64 0, .int .i64 E]) ∧ Below w.heap.size w w' := by
  have HNB := hid (hp_new w (.cells (fcells f va).toArray 29))
  have HBL := hid (below_walk w (.cells (fcells f va).toArray 29))
  have HSZ := hid (frame_size f va hf)
  have HPL := hid (hplan _ (ha.below HBL.out))
  have HKS := hid (show (Try.prog.info? 61).map (·.size) = some k.length by rw [hl]; exact kindSize)
  have HKO := hid (show zRow.toArray.size = k.length by rw [hl]; rfl)
  have HON := hid hone
  clear hplan ha hf hone hl
  go_enter Try.func11, Try.ntmps11
  go_upto_region 1 with fail
  generalize w.alloc (.cells (fcells f va).toArray 29) = w1 at HNB HBL HPL ⊢
  generalize fcells f va = FF at *
  go_wp2_with (refine ld_row (by rfl) 29 (.tmp 1) (by rfl) w.heap.size (by rfl) FF 29 HNB.out _ Try.underlying29 rfl HSZ.out ?_)
  refine HPL.out.mono ?_
  rintro e w2 ⟨rfl, hb2⟩
  have HB2 := hid (below_then (below_then HBL.out hb2) (below_walk w2 (.cells k.toArray 61)))
  clear hb2 HNB HBL HPL
  have q1 : (E != 0) = true := by simpa using hE
  have q2 : (E == 0) = false := by simpa using hE
  go_wp2_with (first
    | (refine al_row (by rfl) 61 (by rfl) _ zeroKind ?_)
    | (refine st_new (by rfl) 61 _ _ (by rfl) k (by rfl) (by rfl) 61 _ HKS.out HKO.out HON.out ?_))
  go_ret2
  exact ⟨rfl, HB2.out⟩

set_option maxRecDepth 100000 in
set_option maxHeartbeats 4000000 in
theorem fsize_ok (f : Fr) (va : Value) (w : World) (k : List Value) (Z : Nat) (hZ : Z ≤ 2097152) (hl : k.length = 5) (hone : ∀ v ∈ k, v.oneCell' = true) (hf : f.tool.length = 32) (ha : Strs w va f.args)
    (hplan : ∀ W, Strs W va f.args → Calls Try.prog 22 #[.agg (fcells f va).toArray] W fun e w' => e = .returned (.tuple #[.agg k.toArray, .int .i64 (Z : Int), .int .i64 0]) ∧ Below W.heap.size W w') :
    Calls Try.prog 11 #[.agg (fcells f va).toArray] w fun e w' => e = .returned (.tuple #[.int .i64 (((sn Z).length : Int) + (Z : Int) + 4), .int .i64 0]) ∧ Below w.heap.size w w' := by
  have HNB := hid (hp_new w (.cells (fcells f va).toArray 29))
  have HBL := hid (below_walk w (.cells (fcells f va).toArray 29))
  have HSZ := hid (frame_size f va hf)
  have HPL := hid (hplan _ (ha.below HBL.out))
  have HKS := hid (show (Try.prog.info? 61).map (·.size) = some k.length by rw [hl]; exact kindSize)
  have HKO := hid (show zRow.toArray.size = k.length by rw [hl]; rfl)
  have HON := hid hone
  clear hplan ha hf hone hl
  go_enter Try.func11, Try.ntmps11
  go_upto_region 1 with fail
  generalize w.alloc (.cells (fcells f va).toArray 29) = w1 at HNB HBL HPL ⊢
  generalize fcells f va = FF at *
  go_wp2_with (refine ld_row (by rfl) 29 (.tmp 1) (by rfl) w.heap.size (by rfl) FF 29 HNB.out _ Try.underlying29 rfl HSZ.out ?_)
  refine HPL.out.mono ?_
  rintro e w2 ⟨rfl, hb2⟩
  have HB2 := hid (below_then (below_then HBL.out hb2) (below_walk w2 (.cells k.toArray 61)))
  clear hb2 HNB HBL HPL
  have wz : IntKind.u64.wrap (Z : Int) = (Z : Int) := by rw [IntKind.wrap_u64]; omega
  have hsl := sn_length_le Z
  obtain ⟨SL, HSL⟩ : ∃ n, Hid ((sn Z).length = n) := ⟨_, rfl⟩
  rw [HSL.out] at hsl
  have w1' : IntKind.i64.wrap ((SL : Int) + (Z : Int)) = (SL : Int) + (Z : Int) := by rw [IntKind.wrap_i64]; omega
  have w2' : IntKind.i64.wrap ((SL : Int) + (Z : Int) + 4) = (SL : Int) + (Z : Int) + 4 := by rw [IntKind.wrap_i64]; omega
  have HSZE := hid (fun W => size_any Z W (by omega))
  rw [HSL.out] at HSZE
  go_wp2_with (first
    | (refine al_row (by rfl) 61 (by rfl) _ zeroKind ?_)
    | (refine st_new (by rfl) 61 _ _ (by rfl) k (by rfl) (by rfl) 61 _ HKS.out HKO.out HON.out ?_))
  refine (HSZE.out _).mono ?_
  rintro e w4 ⟨rfl, hw4⟩
  subst hw4
  go_wp2
  go_ret2
  exact ⟨by rw [HSL.out]; rfl, HB2.out⟩

end Go.Proofs.Ytjinkahlfigdcaa

/- What the program's plan, Check, Size and Encode answer, of every frame. -/
namespace Go.Proofs.Ytjinkahlfigdcaa
open Go.RowKit

theorem toNat_eq {x : Int} (h : 0 ≤ x) : x = (x.toNat : Int) := by omega

theorem layF_1 (f : Fr) (va : Value) (hr : Rng f) (hk : f.kind = 1) (h1 : 0 ≤ f.ver) (h2 : 0 ≤ f.slots) : ∀ W vb bs, Src W vb bs → bs.length ≤ 1000 → Strs W va f.args → Calls Try.prog 75 #[vb, .agg (fcells f va).toArray] W fun e w' => ∃ v, e = .returned v ∧ Src w' v (bs ++ layP f) ∧ Below W.heap.size W w' := by
  intro W vb bs hs hb ha
  rw [lay_1 f hk]
  exact layHello_any vb bs f va f.ver.toNat f.slots.toNat W hs hb hr.tool (toNat_eq h1) (toNat_eq h2) (by have := hr.ver; omega) (by have := hr.slots; omega)

theorem layF_2 (f : Fr) (va : Value) (hr : Rng f) (hk : f.kind = 2) (h1 : 0 ≤ f.lim.1) (h2 : 0 ≤ f.lim.2.1) (h3 : 0 ≤ f.lim.2.2) (hA : (txs (f.args.map mk)).length ≤ 100000) (hB : f.body.length ≤ 2097152) : ∀ W vb bs, Src W vb bs → bs.length ≤ 1000 → Strs W va f.args → Calls Try.prog 79 #[vb, .agg (fcells f va).toArray] W fun e w' => ∃ v, e = .returned v ∧ Src w' v (bs ++ layP f) ∧ Below W.heap.size W w' := by
  intro W vb bs hs hb ha
  rw [lay_2 f hk]
  exact layRequest_any vb bs f va f.id.toNat f.lim.1.toNat f.lim.2.1.toNat f.lim.2.2.toNat W hs hb hr.tool ha (toNat_eq hr.idl) (by have := hr.idh; omega) (toNat_eq h1) (toNat_eq h2) (toNat_eq h3) (by have := hr.l1; omega) (by have := hr.l2; omega) (by have := hr.l3; omega) hA hB

theorem layF_3 (f : Fr) (va : Value) (hr : Rng f) (hk : f.kind = 3) (h1 : 0 ≤ f.status) (hB : f.body.length ≤ 2097152) : ∀ W vb bs, Src W vb bs → bs.length ≤ 1000 → Strs W va f.args → Calls Try.prog 83 #[vb, .agg (fcells f va).toArray] W fun e w' => ∃ v, e = .returned v ∧ Src w' v (bs ++ layP f) ∧ Below W.heap.size W w' := by
  intro W vb bs hs hb ha
  rw [lay_3 f hk]
  exact layResponse_any vb bs f va f.id.toNat f.status.toNat W hs hb hr.tool (toNat_eq hr.idl) (by have := hr.idh; omega) (toNat_eq h1) (by have := hr.status; omega) hB

theorem layF_4 (f : Fr) (va : Value) (hr : Rng f) (hk : f.kind = 4)  : ∀ W vb bs, Src W vb bs → bs.length ≤ 1000 → Strs W va f.args → Calls Try.prog 87 #[vb, .agg (fcells f va).toArray] W fun e w' => ∃ v, e = .returned v ∧ Src w' v (bs ++ layP f) ∧ Below W.heap.size W w' := by
  intro W vb bs hs hb ha
  rw [lay_4 f hk]
  exact layCancel_any vb bs f va f.id.toNat W hs hb hr.tool (toNat_eq hr.idl) (by have := hr.idh; omega)

theorem layF_5 (f : Fr) (va : Value) (_ : Rng f) (hk : f.kind = 5) : ∀ W vb bs, Src W vb bs → bs.length ≤ 1000 → Strs W va f.args → Calls Try.prog 90 #[vb, .agg (fcells f va).toArray] W fun e w' => ∃ v, e = .returned v ∧ Src w' v (bs ++ layP f) ∧ Below W.heap.size W w' := by
  intro W vb bs hs hb ha
  rw [lay_5 f hk, List.append_nil]
  obtain ⟨ao, n, c, rfl⟩ := src_named hs
  refine (layBye_any ao n c _ W).mono ?_
  rintro e w' ⟨rfl, hbl⟩
  exact ⟨_, rfl, hs.below hbl, hbl⟩

theorem layF_6 (f : Fr) (va : Value) (hr : Rng f) (hk : f.kind = 6) (hB : f.body.length ≤ 2097152) : ∀ W vb bs, Src W vb bs → bs.length ≤ 1000 → Strs W va f.args → Calls Try.prog 93 #[vb, .agg (fcells f va).toArray] W fun e w' => ∃ v, e = .returned v ∧ Src w' v (bs ++ layP f) ∧ Below W.heap.size W w' := by
  intro W vb bs hs hb ha
  rw [lay_6 f hk]
  exact layNote_any vb bs f va W hs hb hr.tool hB

theorem mayF_1 (f : Fr) (hk : f.kind = 1) : mayF f = mayHelloP f := by
  unfold mayF
  rw [if_pos hk]

set_option maxRecDepth 100000 in
theorem planF_1 (f : Fr) (va : Value) (w : World) (hr : Rng f) (ha : Strs w va f.args) (hk : f.kind = 1) :
    Calls Try.prog 22 #[.agg (fcells f va).toArray] w fun e w' => e = .returned (planA k1 (sameP f (ownF f)) (mayF f) ((bodyP f).length : Int)) ∧ Below w.heap.size w w' := by
  refine plan1_any f va w (mayF f) _ hr.tool ha hr.many hk (fun W hW => by rw [mayF_1 f hk]; exact mayHello_any f va W hr.tool) ?_
  intro hsm hmf W hW
  have hls := lay_short f hmf hr.tool
  have hm := hmf
  rw [mayF_1 f hk] at hm
  refine (ksize1_any f va 1 (layP (noBody f)) W hr.tool hW hk (by omega) hr.body hls (fun W' vb bs hs hb hS => layF_1 (noBody f) va hr.noBody hk (by have := mayHello_of hm; show 0 ≤ f.ver; omega) (by have := mayHello_of hm; show 0 ≤ f.slots; omega) W' vb bs hs hb hS)).mono ?_
  rintro e w' ⟨rfl, hb⟩
  exact ⟨by rw [reck_any f hsm (by omega) 1 hk], hb⟩

theorem mayF_2 (f : Fr) (hk : f.kind = 2) : mayF f = mayReqP f := by
  unfold mayF
  rw [if_neg (by omega), if_pos hk]

set_option maxRecDepth 100000 in
theorem planF_2 (f : Fr) (va : Value) (w : World) (hr : Rng f) (ha : Strs w va f.args) (hk : f.kind = 2) :
    Calls Try.prog 22 #[.agg (fcells f va).toArray] w fun e w' => e = .returned (planA k2 (sameP f (ownF f)) (mayF f) ((bodyP f).length : Int)) ∧ Below w.heap.size w w' := by
  refine plan2_any f va w (mayF f) _ hr.tool ha hr.many hk (fun W hW => by rw [mayF_2 f hk]; exact mayRequest_any f va W hr.tool hW hr.many) ?_
  intro hsm hmf W hW
  have hls := lay_short f hmf hr.tool
  have hm := hmf
  rw [mayF_2 f hk] at hm
  refine (ksize2_any f va 2 (layP (noBody f)) W hr.tool hW hk (by omega) hr.body hls (fun W' vb bs hs hb hS => layF_2 (noBody f) va hr.noBody hk (mayReq_of hm).1 (mayReq_of hm).2.1 (mayReq_of hm).2.2.1 (args_len (mayReq_of hm).2.2.2.2 (mayReq_of hm).2.2.2.1) (by simp [noBody]) W' vb bs hs hb hS)).mono ?_
  rintro e w' ⟨rfl, hb⟩
  exact ⟨by rw [reck_any f hsm (by omega) 2 hk], hb⟩

theorem mayF_3 (f : Fr) (hk : f.kind = 3) : mayF f = mayResP f := by
  unfold mayF
  rw [if_neg (by omega), if_neg (by omega), if_pos hk]

set_option maxRecDepth 100000 in
theorem planF_3 (f : Fr) (va : Value) (w : World) (hr : Rng f) (ha : Strs w va f.args) (hk : f.kind = 3) :
    Calls Try.prog 22 #[.agg (fcells f va).toArray] w fun e w' => e = .returned (planA k3 (sameP f (ownF f)) (mayF f) ((bodyP f).length : Int)) ∧ Below w.heap.size w w' := by
  refine plan3_any f va w (mayF f) _ hr.tool ha hr.many hk (fun W hW => by rw [mayF_3 f hk]; exact mayResponse_any f va W hr.tool) ?_
  intro hsm hmf W hW
  have hls := lay_short f hmf hr.tool
  have hm := hmf
  rw [mayF_3 f hk] at hm
  refine (ksize3_any f va 3 (layP (noBody f)) W hr.tool hW hk (by omega) hr.body hls (fun W' vb bs hs hb hS => layF_3 (noBody f) va hr.noBody hk (by have := mayRes_of hm; show 0 ≤ f.status; omega) (by simp [noBody]) W' vb bs hs hb hS)).mono ?_
  rintro e w' ⟨rfl, hb⟩
  exact ⟨by rw [reck_any f hsm (by omega) 3 hk], hb⟩

theorem mayF_4 (f : Fr) (hk : f.kind = 4) : mayF f = true := by
  unfold mayF
  rw [if_neg (by omega), if_neg (by omega), if_neg (by omega)]

set_option maxRecDepth 100000 in
theorem planF_4 (f : Fr) (va : Value) (w : World) (hr : Rng f) (ha : Strs w va f.args) (hk : f.kind = 4) :
    Calls Try.prog 22 #[.agg (fcells f va).toArray] w fun e w' => e = .returned (planA k4 (sameP f (ownF f)) (mayF f) ((bodyP f).length : Int)) ∧ Below w.heap.size w w' := by
  refine plan4_any f va w (mayF f) _ hr.tool ha hr.many hk (fun W hW => by rw [mayF_4 f hk]; exact mayAlways_any _ W) ?_
  intro hsm hmf W hW
  have hls := lay_short f hmf hr.tool
  have hm := hmf
  rw [mayF_4 f hk] at hm
  refine (ksize4_any f va 4 (layP (noBody f)) W hr.tool hW hk (by omega) hr.body hls (fun W' vb bs hs hb hS => layF_4 (noBody f) va hr.noBody hk  W' vb bs hs hb hS)).mono ?_
  rintro e w' ⟨rfl, hb⟩
  exact ⟨by rw [reck_any f hsm (by omega) 4 hk], hb⟩

theorem mayF_5 (f : Fr) (hk : f.kind = 5) : mayF f = true := by
  unfold mayF
  rw [if_neg (by omega), if_neg (by omega), if_neg (by omega)]

set_option maxRecDepth 100000 in
theorem planF_5 (f : Fr) (va : Value) (w : World) (hr : Rng f) (ha : Strs w va f.args) (hk : f.kind = 5) :
    Calls Try.prog 22 #[.agg (fcells f va).toArray] w fun e w' => e = .returned (planA k5 (sameP f (ownF f)) (mayF f) ((bodyP f).length : Int)) ∧ Below w.heap.size w w' := by
  refine plan5_any f va w (mayF f) _ hr.tool ha hr.many hk (fun W hW => by rw [mayF_5 f hk]; exact mayAlways_any _ W) ?_
  intro hsm hmf W hW
  have hls := lay_short f hmf hr.tool
  have hm := hmf
  rw [mayF_5 f hk] at hm
  refine (ksize5_any f va 5 (layP (noBody f)) W hr.tool hW hk (by omega) hr.body hls (fun W' vb bs hs hb hS => layF_5 (noBody f) va hr.noBody hk  W' vb bs hs hb hS)).mono ?_
  rintro e w' ⟨rfl, hb⟩
  exact ⟨by rw [reck_any f hsm (by omega) 5 hk], hb⟩

theorem mayF_6 (f : Fr) (hk : f.kind = 6) : mayF f = true := by
  unfold mayF
  rw [if_neg (by omega), if_neg (by omega), if_neg (by omega)]

set_option maxRecDepth 100000 in
theorem planF_6 (f : Fr) (va : Value) (w : World) (hr : Rng f) (ha : Strs w va f.args) (hk : f.kind = 6) :
    Calls Try.prog 22 #[.agg (fcells f va).toArray] w fun e w' => e = .returned (planA k6 (sameP f (ownF f)) (mayF f) ((bodyP f).length : Int)) ∧ Below w.heap.size w w' := by
  refine plan6_any f va w (mayF f) _ hr.tool ha hr.many hk (fun W hW => by rw [mayF_6 f hk]; exact mayAlways_any _ W) ?_
  intro hsm hmf W hW
  have hls := lay_short f hmf hr.tool
  have hm := hmf
  rw [mayF_6 f hk] at hm
  refine (ksize6_any f va 6 (layP (noBody f)) W hr.tool hW hk (by omega) hr.body hls (fun W' vb bs hs hb hS => layF_6 (noBody f) va hr.noBody hk (by simp [noBody]) W' vb bs hs hb hS)).mono ?_
  rintro e w' ⟨rfl, hb⟩
  exact ⟨by rw [reck_any f hsm (by omega) 6 hk], hb⟩

/-- what the plan answers -/
def planR (f : Fr) : Value := if chkE f = 0 then .tuple #[.agg (kOf f.kind).toArray, .int .i64 ((bodyP f).length : Int), .int .i64 0] else .tuple #[.agg zRow.toArray, .int .i64 0, .int .i64 (chkE f)]

theorem planA_R (f : Fr) (k : List Value) (hk : 1 ≤ f.kind ∧ f.kind ≤ 6) (e : kOf f.kind = k) : planA k (sameP f (ownF f)) (mayF f) ((bodyP f).length : Int) = planR f := by
  unfold planR planA chkE okFr
  rw [e, decide_eq_true hk, Bool.true_and]
  by_cases h : (sameP f (ownF f) && mayF f) = true
  · rw [if_pos h, if_pos h]
    by_cases hl : 2097152 < (bodyP f).length
    · rw [if_pos hl, if_pos (show (2097152 : Int) < ((bodyP f).length : Int) by omega)]
      rfl
    · rw [if_neg hl, if_neg (show ¬ (2097152 : Int) < ((bodyP f).length : Int) by omega)]
      rfl
  · rw [if_neg h, if_neg h]
    rfl

theorem planF_any (f : Fr) (va : Value) (w : World) (hr : Rng f) (ha : Strs w va f.args) :
    Calls Try.prog 22 #[.agg (fcells f va).toArray] w fun e w' => e = .returned (planR f) ∧ Below w.heap.size w w' := by
  by_cases hk : 1 ≤ f.kind ∧ f.kind ≤ 6
  · have hc : f.kind = 1 ∨ f.kind = 2 ∨ f.kind = 3 ∨ f.kind = 4 ∨ f.kind = 5 ∨ f.kind = 6 := by omega
    rcases hc with k | k | k | k | k | k
    · rw [← planA_R f k1 hk (by rw [k]; rfl)]
      exact planF_1 f va w hr ha k
    · rw [← planA_R f k2 hk (by rw [k]; rfl)]
      exact planF_2 f va w hr ha k
    · rw [← planA_R f k3 hk (by rw [k]; rfl)]
      exact planF_3 f va w hr ha k
    · rw [← planA_R f k4 hk (by rw [k]; rfl)]
      exact planF_4 f va w hr ha k
    · rw [← planA_R f k5 hk (by rw [k]; rfl)]
      exact planF_5 f va w hr ha k
    · rw [← planA_R f k6 hk (by rw [k]; rfl)]
      exact planF_6 f va w hr ha k
  · have e : planR f = .tuple #[.agg zRow.toArray, .int .i64 0, .int .i64 70] := by
      unfold planR chkE okFr
      rw [decide_eq_false hk]
      rfl
    rw [e]
    exact planN_any f va w hr.tool ha hk

theorem kOf_one (n : Int) : ∀ v ∈ kOf n, v.oneCell' = true := by
  unfold kOf
  repeat' split
  all_goals (intro v hv; revert v; decide)

theorem checkF_any (f : Fr) (va : Value) (w : World) (hr : Rng f) (ha : Strs w va f.args) :
    Calls Try.prog 13 #[.agg (fcells f va).toArray] w fun e w' => e = .returned (.int .i64 (chkE f)) ∧ Below w.heap.size w w' := by
  by_cases h : chkE f = 0
  · refine fcheck_any f va w (kOf f.kind) ((bodyP f).length : Int) (chkE f) (kOf_length _) (kOf_one _) hr.tool ha fun W hW => ?_
    have := planF_any f va W hr hW
    unfold planR at this
    rw [if_pos h] at this
    rw [h]
    exact this
  · refine fcheck_any f va w zRow 0 (chkE f) (kOf_length 0) (kOf_one 0) hr.tool ha fun W hW => ?_
    have := planF_any f va W hr hW
    unfold planR at this
    rw [if_neg h] at this
    exact this

/-- what Size answers -/
def sizeN (f : Fr) : Int := if chkE f = 0 then ((encP f).length : Int) else 0

theorem chk_ok {f : Fr} (h : chkE f = 0) : okFr f = true ∧ (bodyP f).length ≤ 2097152 := by
  unfold chkE at h
  by_cases ho : okFr f = true
  · rw [if_pos ho] at h
    by_cases hl : 2097152 < (bodyP f).length
    · rw [if_pos hl] at h; cases h
    · exact ⟨ho, by omega⟩
  · rw [if_neg ho] at h; cases h

theorem sizeF_any (f : Fr) (va : Value) (w : World) (hr : Rng f) (ha : Strs w va f.args) :
    Calls Try.prog 11 #[.agg (fcells f va).toArray] w fun e w' => e = .returned (.tuple #[.int .i64 (sizeN f), .int .i64 (chkE f)]) ∧ Below w.heap.size w w' := by
  unfold sizeN
  by_cases h : chkE f = 0
  · rw [if_pos h, h]
    have e : ((encP f).length : Int) = ((sn (bodyP f).length).length : Int) + ((bodyP f).length : Int) + 4 := by
      unfold encP
      rw [sealP_length, List.length_append]
      omega
    rw [e]
    refine fsize_ok f va w (kOf f.kind) (bodyP f).length (chk_ok h).2 (kOf_length _) (kOf_one _) hr.tool ha fun W hW => ?_
    have := planF_any f va W hr hW
    unfold planR at this
    rw [if_pos h] at this
    exact this
  · rw [if_neg h]
    refine fsize_err f va w zRow 0 (chkE f) h (kOf_length 0) (kOf_one 0) hr.tool ha fun W hW => ?_
    have := planF_any f va W hr hW
    unfold planR at this
    rw [if_neg h] at this
    exact this

theorem encF_err (f : Fr) (va : Value) (w : World) (hr : Rng f) (ha : Strs w va f.args) (h : chkE f ≠ 0) :
    Calls Try.prog 9 #[.agg (fcells f va).toArray] w fun e w' => e = .returned (.tuple #[.slice none 0 0, .int .i64 (chkE f)]) ∧ Below w.heap.size w w' := by
  refine encode_err f va w (chkE f) hr.tool ha h fun W hW => ?_
  have := planF_any f va W hr hW
  unfold planR at this
  rw [if_neg h] at this
  exact this

theorem okFr_of {f : Fr} (h : okFr f = true) : (1 ≤ f.kind ∧ f.kind ≤ 6) ∧ sameP f (ownF f) = true ∧ mayF f = true := by
  unfold okFr at h
  simp only [Bool.and_eq_true, decide_eq_true_eq] at h
  exact h

theorem body_cons (f : Fr) (Z K : Nat) (hK : f.kind = (K : Int)) : sns [Z, K] ++ layP f = sn Z ++ bodyP f := by
  unfold bodyP
  rw [sns_two, List.append_assoc, show f.kind.toNat = K by omega]

theorem lay_le (f : Fr) (h : (bodyP f).length ≤ 2097152) : (layP f).length ≤ 4000000 := by
  unfold bodyP at h
  rw [List.length_append] at h
  omega

theorem encF_ok (f : Fr) (va : Value) (w : World) (hr : Rng f) (ha : Strs w va f.args) (h : chkE f = 0) :
    Calls Try.prog 9 #[.agg (fcells f va).toArray] w fun e w' => ∃ v, e = .returned (.tuple #[v, .int .i64 0]) ∧ OwnB w' w.heap.size v (encP f) ∧ Below w.heap.size w w' := by
  obtain ⟨ho, hl⟩ := chk_ok h
  obtain ⟨hk, hsm, hm⟩ := okFr_of ho
  have hll := lay_le f hl
  have hplan : ∀ W, Strs W va f.args → Calls Try.prog 22 #[.agg (fcells f va).toArray] W fun e w' => e = .returned (.tuple #[.agg (kOf f.kind).toArray, .int .i64 ((bodyP f).length : Int), .int .i64 0]) ∧ Below W.heap.size W w' := fun W hW => by
    have := planF_any f va W hr hW
    unfold planR at this
    rw [if_pos h] at this
    exact this
  unfold encP
  have hc : f.kind = 1 ∨ f.kind = 2 ∨ f.kind = 3 ∨ f.kind = 4 ∨ f.kind = 5 ∨ f.kind = 6 := by omega
  rcases hc with k | k | k | k | k | k
  · rw [mayF_1 f k] at hm
    rw [← body_cons f _ 1 k]
    rw [show kOf f.kind = k1 by rw [k]; rfl] at hplan
    exact encode1_ok f va w (bodyP f).length (layP f) hr.tool ha k hl hll hplan (layF_1 f va hr k (by have := mayHello_of hm; show 0 ≤ f.ver; omega) (by have := mayHello_of hm; show 0 ≤ f.slots; omega))
  · rw [mayF_2 f k] at hm
    rw [← body_cons f _ 2 k]
    rw [show kOf f.kind = k2 by rw [k]; rfl] at hplan
    exact encode2_ok f va w (bodyP f).length (layP f) hr.tool ha k hl hll hplan (layF_2 f va hr k (mayReq_of hm).1 (mayReq_of hm).2.1 (mayReq_of hm).2.2.1 (args_len (mayReq_of hm).2.2.2.2 (mayReq_of hm).2.2.2.1) (body_le f (Or.inl k) hl))
  · rw [mayF_3 f k] at hm
    rw [← body_cons f _ 3 k]
    rw [show kOf f.kind = k3 by rw [k]; rfl] at hplan
    exact encode3_ok f va w (bodyP f).length (layP f) hr.tool ha k hl hll hplan (layF_3 f va hr k (by have := mayRes_of hm; show 0 ≤ f.status; omega) (body_le f (Or.inr (Or.inl k)) hl))
  · rw [mayF_4 f k] at hm
    rw [← body_cons f _ 4 k]
    rw [show kOf f.kind = k4 by rw [k]; rfl] at hplan
    exact encode4_ok f va w (bodyP f).length (layP f) hr.tool ha k hl hll hplan (layF_4 f va hr k )
  · rw [mayF_5 f k] at hm
    rw [← body_cons f _ 5 k]
    rw [show kOf f.kind = k5 by rw [k]; rfl] at hplan
    exact encode5_ok f va w (bodyP f).length (layP f) hr.tool ha k hl hll hplan (layF_5 f va hr k )
  · rw [mayF_6 f k] at hm
    rw [← body_cons f _ 6 k]
    rw [show kOf f.kind = k6 by rw [k]; rfl] at hplan
    exact encode6_ok f va w (bodyP f).length (layP f) hr.tool ha k hl hll hplan (layF_6 f va hr k (body_le f (Or.inr (Or.inr k)) hl))

end Go.Proofs.Ytjinkahlfigdcaa

/- Toward a frame that is read: two answers that lie in variables; stores in regions that draw; what a frame of bytes is. -/
namespace Go.Proofs.Ytjinkahlfigdcaa
open Go.RowKit

theorem G2.keep {w w' : World} {b c k : Nat} {o : Obj} (h : G2 w w' b c) (hk : w.heap[k]? = some o) (h1 : k ≠ b) (h2 : k ≠ c) : w'.heap[k]? = some o := (h.block k (hp_lt hk) h1 h2).trans hk
theorem gb_keep {w w' : World} {b k : Nat} {o : Obj} (h : w.grownBy w' (some b)) (hk : w.heap[k]? = some o) (h1 : k ≠ b) : w'.heap[k]? = some o := (h.block k (hp_lt hk) (fun e => h1 (by injection e))).trans hk
theorem bel_keep {w w' : World} {k : Nat} {o : Obj} (h : Below w.heap.size w w') (hk : w.heap[k]? = some o) : w'.heap[k]? = some o := (h.block k (hp_lt hk)).trans hk
theorem results_cc {fn : Func} {p q : Tmp} {ty ty2 : TypeId} (h : fn.results = #[.cell p ty, .cell q ty2]) (tmps : Array Value) (P : Program) (w : World) :
    (results fn tmps).run P w = ((asAddr (tmps.getD p undef)).run P w).andThen fun a w₁ => ((loadVar ty a).run P w₁).andThen fun v w₂ => ((asAddr (tmps.getD q undef)).run P w₂).andThen fun a2 w₃ => ((loadVar ty2 a2).run P w₃).andThen fun v2 w₄ => .ok (.tuple #[v, v2]) w₄ := by
  simp only [results, h]
  simp [Sem.run_bind, Result.andThen]
/-- the answers are two rows that lie in variables -/
theorem ret_cc {P : Program} {fn : Func} {R : Ending → World → Prop} {a : Act} {w : World} (p q : Tmp) (ty ty2 : TypeId) (h : fn.results = #[.cell p ty, .cell q ty2]) (g : Nat) (hp : a.tmps.getD p undef = .pointer (some ⟨g, 0, none⟩)) (g2 : Nat) (hq : a.tmps.getD q undef = .pointer (some ⟨g2, 0, none⟩))
    (cs : List Value) (t : TypeId) (hb : w.heap[g]? = some (.cells cs.toArray t (0, 0))) (d : TypeDesc) (hu : P.underlying ty = some d) (hd : d.isRow = true) (hi : (P.info? ty).map (·.size) = some cs.length)
    (cs2 : List Value) (t2 : TypeId) (hb2 : w.heap[g2]? = some (.cells cs2.toArray t2 (0, 0))) (d2 : TypeDesc) (hu2 : P.underlying ty2 = some d2) (hd2 : d2.isRow = true) (hi2 : (P.info? ty2).map (·.size) = some cs2.length)
    (hdf : a.defers = []) (hR : R (.returned (.tuple #[.agg cs.toArray, .agg cs2.toArray])) w) : bodyPost P fn R .ret a w := by
  refine bodyPost_ret (v := .tuple #[.agg cs.toArray, .agg cs2.toArray]) ?_ hdf hR
  rw [results_cc h, hp, hq]
  have h1 := run_loadVar_mid (P := P) w g 0 ty cs d (fun j v hv => by rw [Nat.zero_add, cell_of_row w g j cs.toArray t (0, 0) hb]; simpa using hv) hu hd hi
  have h2 := run_loadVar_mid (P := P) w g2 0 ty2 cs2 d2 (fun j v hv => by rw [Nat.zero_add, cell_of_row w g2 j cs2.toArray t2 (0, 0) hb2]; simpa using hv) hu2 hd2 hi2
  simp [asAddr, h1, h2]
theorem yields_build {P : Program} {ops : Array Oper} {S : World → Prop} {o : Oper} {a : Act} (hw : Region.wanted o (yielded ops a.tmps) = true) (t : TypeId) (parts : Array (Nat × Operand)) (ho : o.op = .build t parts)
    (vs : List (Nat × Value)) (hvs : (parts.map fun (i, x) => (i, a.eval x)).toList = vs) (cs : Array Value) (hb : P.built t vs = some cs) : YieldsIf P ops S o (.agg cs) a :=
  .inl ⟨hw, fun w _ => by
    unfold execOp
    simp only [ho, Sem.run_bind, run_build w t (parts.map fun (i, x) => (i, a.eval x)) cs (by rw [hvs]; exact hb), Sem.run_pure, Result.andThen_ok]⟩
/-- a store of a row, as one step -/
theorem step_store_row {P : Program} {ops : Array Oper} {o : Oper} {a : Act} {w : World} {K : Act → World → Prop} {Q : Exit → Act → World → Prop} {E : Prop} (hgd : o.guard = none) (ty : TypeId) (x y : Operand) (ho : o.op = .store ty x y)
    (g : Nat) (cs : List Value) (hx : a.eval x = .pointer (some ⟨g, 0, none⟩)) (hy : a.eval y = .agg cs.toArray)
    (t : TypeId) (old : Array Value) (hg : w.heap[g]? = some (.cells old t (0, 0))) (hi : (P.info? ty).map (·.size) = some cs.length) (hold : old.size = cs.length) (h1 : ∀ v ∈ cs, v.oneCell' = true)
    (h : ∀ w', RowSet w w' g cs t → K (a.put o.dst undef) w') : if Region.wanted o (yielded ops a.tmps) = true then Oper.wp P o a w K Q else E := by
  rw [if_pos (by simp [Region.wanted, hgd])]
  exact wp_store_row ty x y ho g cs.toArray hx hy t old hg (by rw [List.size_toArray]; exact hi) (by rw [List.size_toArray]; exact hold) (by simpa using h1) (h _ (rowSet w g cs t old hg))

theorem kindOf_0 (w : World) : Calls Try.prog 40 #[.int .i64 0] w fun e w' => e = .returned (.tuple #[.agg zRow.toArray, .bool false]) ∧ Below w.heap.size w w' := kindOf_any 0 w
theorem built_k0 : Try.prog.built 29 [(0, .int .i64 0)] = some (fcells (kF 0) nS).toArray := by kernel_rfl
theorem built_k1 : Try.prog.built 29 [(0, .int .i64 1)] = some (fcells (kF 1) nS).toArray := by kernel_rfl
theorem built_k2 : Try.prog.built 29 [(0, .int .i64 2)] = some (fcells (kF 2) nS).toArray := by kernel_rfl
theorem built_k3 : Try.prog.built 29 [(0, .int .i64 3)] = some (fcells (kF 3) nS).toArray := by kernel_rfl
theorem built_k4 : Try.prog.built 29 [(0, .int .i64 4)] = some (fcells (kF 4) nS).toArray := by kernel_rfl
theorem built_k5 : Try.prog.built 29 [(0, .int .i64 5)] = some (fcells (kF 5) nS).toArray := by kernel_rfl
theorem built_k6 : Try.prog.built 29 [(0, .int .i64 6)] = some (fcells (kF 6) nS).toArray := by kernel_rfl
theorem built_zf : Try.prog.built 29 [] = some (fcells zF nS).toArray := by kernel_rfl
theorem built_ft (a b : Int) : Try.prog.built 47 [(0, .int .i64 a), (1, .int .i64 b)] = some [Value.int .i64 a, .int .i64 b].toArray := by kernel_rfl
theorem built_fz : Try.prog.built 47 [] = some [Value.int .i64 0, .int .i64 0].toArray := by kernel_rfl
theorem fault_one (a b : Int) : ∀ v ∈ [Value.int .i64 a, .int .i64 b], v.oneCell' = true := by
  intro v hv
  simp only [List.mem_cons, List.not_mem_nil, or_false] at hv
  rcases hv with rfl | rfl <;> rfl

theorem wowns_g2 {w w' : World} {base b c : Nat} {v : Value} {ts : List (List UInt8)} (h : WOwnS w base v ts) (hg : G2 w w' b c) (hb : b < base) (hc : c < base) : WOwnS w' base v ts := by
  rcases h with ⟨h1, h2 | ⟨g, cap, cur, hv, hb2, hh, r⟩⟩
  · exact ⟨h1, Or.inl h2⟩
  · exact ⟨h1, Or.inr ⟨g, cap, cur, hv, hb2, hg.keep hh (by omega) (by omega), r⟩⟩
theorem wowns_len {w : World} {base : Nat} {v : Value} {ts : List (List UInt8)} (h : WOwnS w base v ts) : ts.length ≤ 9223372036854775807 := by
  rcases h.2 with ⟨_, h9⟩ | ⟨_, _, _, _, _, _, h8, h9, _⟩
  · omega
  · unfold maxLen at h9
    omega
/-- texts of one's own are texts -/
theorem wowns_strs {w : World} {base : Nat} {v : Value} {ts : List (List UInt8)} (h : WOwnS w base v ts) : Strs w v ts := by
  rcases h.2 with ⟨h0, h1⟩ | ⟨g, cap, cur, hv, hb, hh, h1, h2, h3, h4⟩
  · exact Or.inl ⟨none, 0, h0, List.length_eq_zero_iff.1 h1, fun _ => rfl⟩
  · refine Or.inr ⟨g, 0, cap, hv, hp_lt hh, h1, fun j hj => ?_⟩
    have hc := World.ownsRow.cells h (g := g) (by rw [hv]; rfl) j (.string (mk (ts.getD j []))) (by
      rw [List.getElem?_map, List.getElem?_eq_getElem hj]
      simp [List.getD_eq_getElem?_getD, List.getElem?_eq_getElem hj, mk])
    rw [addr_add] at hc
    rw [Nat.zero_add]
    exact hc
theorem frameP_zero (bs : List UInt8) (head : Nat) (h : (oS bs 6 (head, 0, 0)).1 = 0) : frameP bs head = (zF, eS bs (oS bs 6 (head, 0, 0)).2) := by unfold frameP; rw [if_pos h]
theorem frameP_bad (bs : List UInt8) (head : Nat) (K : Nat) (hK : (oS bs 6 (head, 0, 0)).1 = K) (h : K ≠ 0) (he : (eS bs (fieldsP bs (K : Int) (oS bs 6 (head, 0, 0)).2).2).1 ≠ 0) : frameP bs head = (zF, eS bs (fieldsP bs (K : Int) (oS bs 6 (head, 0, 0)).2).2) := by
  unfold frameP
  rw [hK, if_neg h, if_pos he]
theorem frameP_ok (bs : List UInt8) (head : Nat) (K : Nat) (hK : (oS bs 6 (head, 0, 0)).1 = K) (h : K ≠ 0) (he : (eS bs (fieldsP bs (K : Int) (oS bs 6 (head, 0, 0)).2).2).1 = 0) (hm : mayF (fieldsP bs (K : Int) (oS bs 6 (head, 0, 0)).2).1 = true) : frameP bs head = ((fieldsP bs (K : Int) (oS bs 6 (head, 0, 0)).2).1, 0, 0) := by
  unfold frameP
  rw [hK, if_neg h, if_neg (fun h2 => h2 he), if_pos hm]
theorem frameP_may (bs : List UInt8) (head : Nat) (K : Nat) (hK : (oS bs 6 (head, 0, 0)).1 = K) (h : K ≠ 0) (he : (eS bs (fieldsP bs (K : Int) (oS bs 6 (head, 0, 0)).2).2).1 = 0) (hm : mayF (fieldsP bs (K : Int) (oS bs 6 (head, 0, 0)).2).1 = false) : frameP bs head = (zF, 70, (head : Int)) := by
  unfold frameP
  rw [hK, if_neg h, if_neg (fun h2 => h2 he), if_neg (by rw [hm]; decide)]
end Go.Proofs.Ytjinkahlfigdcaa

/- readFrame, where the kind that is read is 0. -/
namespace Go.Proofs.Ytjinkahlfigdcaa
open Go.RowKit Go.BigFrame

set_option maxRecDepth 100000 in
set_option maxHeartbeats 8000000 in
theorem readFrame_0 (v0 : Value) (bs : List UInt8) (head N : Nat) (w : World) (hs : Src w v0 bs) (hbl : bs.length ≤ 1099511627776) (hu : uS bs (0, 0, 0) = (N, head, 0, 0)) (hK : (oS bs 6 (head, 0, 0)).1 = 0) :
    Calls Try.prog 32 #[v0] w fun e w' => ∃ va, e = .returned (.tuple #[.agg (fcells (frameP bs head).1 va).toArray, .agg #[.int .i64 (frameP bs head).2.1, .int .i64 (frameP bs head).2.2]]) ∧ WOwnS w' w.heap.size va (frameP bs head).1.args ∧ Below w.heap.size w w' := by
  obtain ⟨va0, c0, rfl⟩ := src_shape hs
  obtain ⟨L0, HL0⟩ : ∃ n, Hid (bs.length = n) := ⟨_, rfl⟩
  obtain ⟨A, HAA⟩ : ∃ n, Hid (w.heap.size = n) := ⟨_, rfl⟩
  have HB0 := hid (below_walk2 w (.cells (fcells zF nS).toArray 29) (.cells #[.int .i64 0, .int .i64 0] 47))
  have HNB := hid (hp_two w (.cells (fcells zF nS).toArray 29) (.cells #[.int .i64 0, .int .i64 0] 47))
  have HZ : Hid ((w.alloc (.cells (fcells zF nS).toArray 29)).heap.size = w.heap.size + 1) := hid (by simp)
  have HZ2 : Hid (((w.alloc (.cells (fcells zF nS).toArray 29)).alloc (.cells #[.int .i64 0, .int .i64 0] 47)).heap.size = w.heap.size + 2) := hid (by simp)
  have HNR := hid (newReader_any _ bs _ (hs.below HB0.out))
  have HU := hid hu
  have HK := hid hK
  have HBL := hid hbl
  clear hs hbl hu hK
  go_enter Try.func32, Try.ntmps32
  go_upto_region 1 with (refine al_row (by rfl) 29 (by rfl) _ zeroFrame ?_)
  try rw [HZ.out]
  generalize (w.alloc (.cells (fcells zF nS).toArray 29)).alloc (.cells #[.int .i64 0, .int .i64 0] 47) = w0 at HB0 HNB HZ2 HNR ⊢
  rw [HAA.out] at HNB HZ2 ⊢
  have HR1 := hid HNB.out.1
  have HR2 := hid HNB.out.2
  clear HNB HZ
  go_wp2_with fail
  refine HNR.out.mono ?_
  rintro e w1 ⟨rb, v, rfl, hr1, hb1⟩
  obtain ⟨b, HBb⟩ : ∃ b, Hid (w1.heap.size = b) := ⟨_, rfl⟩
  have HLb : Hid (A + 2 ≤ b) := hid (by have := hb1.size; have := HZ2.out; have := HBb.out; omega)
  have HLr : Hid (A + 2 ≤ rb) := hid (by have := hr1.lo; have := HZ2.out; omega)
  have HLrb : Hid (rb < b) := hid (by have := hr1.lt; have := HBb.out; omega)
  have HAW := hid (below_walk w1 (.cells #[.pointer (some ⟨rb, 0, none⟩), .int .i64 0, .int .i64 0] 93))
  have HFD := hid (show Fd (w1.alloc (.cells #[.pointer (some ⟨rb, 0, none⟩), .int .i64 0, .int .i64 0] 93)) w0.heap.size b rb v bs (0, 0, 0) from ⟨0, 0, 0, 0, 0, hr1.below HAW.out, HBb.out ▸ hp_new w1 _, by have := HLrb.out; omega, fun e => by have := (hr1.own.lt _ e).2; have := HBb.out; omega, by have := hb1.size; have := HBb.out; omega, Or.inl ⟨rfl, rfl⟩⟩)
  have HR1a := hid (bel_keep HAW.out (bel_keep hb1 HR1.out))
  have HR2a := hid (bel_keep HAW.out (bel_keep hb1 HR2.out))
  have HB1 := hid (below_then (below_then HB0.out hb1) HAW.out)
  clear hr1 hb1 HR1 HR2 HB0 HNR HAW
  go_upto_region 2 with fail
  rw [HBb.out]
  generalize w1.alloc (.cells #[.pointer (some ⟨rb, 0, none⟩), .int .i64 0, .int .i64 0] 93) = w2 at HFD HR1a HR2a HB1 ⊢
  have p2 := HFD.out.ptr
  go_wp2_with fail
  refine (fd_uint HFD.out).mono ?_
  rintro e w3 ⟨rfl, hf3, hg3⟩
  rw [HU.out] at hf3
  have HF3 := hid (show Fd w3 w0.heap.size b rb v bs (head, 0, 0) from hf3)
  have HR1b := hid (gb_keep hg3 HR1a.out (by have := HLr.out; omega))
  have HR2b := hid (gb_keep hg3 HR2a.out (by have := HLr.out; omega))
  have HB3 := hid (Below.of_gb HB1.out hg3 (by have := HLr.out; have := HAA.out; omega))
  clear hf3 hg3 p2 HFD HR1a HR2a HB1
  have p3 := HF3.out.ptr
  go_wp2_with fail
  refine (fd_at HF3.out).mono ?_
  rintro e w4 ⟨A4, rfl, hw4, hA4⟩
  have hw4 := hw4.symm
  subst hw4
  obtain rfl : A4 = head := hA4 rfl
  clear hA4 p3
  go_wp2_with fail
  refine (fd_some w0.heap.size b rb v bs (A4, 0, 0) 6 w3 (by omega) HF3.out).mono ?_
  rintro e w5 ⟨rfl, hf5, hg5⟩
  rw [show ((oS bs 6 (A4, 0, 0)).1 : Int) = 0 by rw [HK.out]; rfl]
  have HF5 := hid hf5
  have HR1c := hid (hg5.keep HR1b.out (by have := HLb.out; omega) (by have := HLr.out; omega))
  have HR2c := hid (hg5.keep HR2b.out (by have := HLb.out; omega) (by have := HLr.out; omega))
  have HB5 := hid (hg5.below HB3.out (by have := HLb.out; have := HAA.out; omega) (by have := HLr.out; have := HAA.out; omega))
  clear hf5 hg5 HF3 HR1b HR2b HB3
  go_upto_region 5 with (first
    | (refine bd_row (by rfl) 29 #[(0, .tmp 25)] (by rfl) _ (by simp [Act.eval]) _ built_k0 ?_)
    | (refine al_row (by rfl) 29 (by rfl) _ zeroFrame ?_)
    | (refine st_new (by rfl) 29 _ _ (by rfl) (fcells (kF 0) nS) (by rfl) (by rfl) 29 _ (frame_size (kF 0) nS rfl) rfl (fcells_one (kF 0) nS rfl) ?_))
  have HW5 := hid (below_walk w5 (.cells (fcells (kF 0) nS).toArray 29))
  have HF6 := hid (HF5.out.below HW5.out)
  have HR1d := hid (bel_keep HW5.out HR1c.out)
  have HR2d := hid (bel_keep HW5.out HR2c.out)
  have HB6 := hid (below_then HB5.out HW5.out)
  have HFb := hid (hp_new w5 (.cells (fcells (kF 0) nS).toArray 29))
  have HLf0 : Hid (b < w5.heap.size) := hid HF5.out.lt.1
  obtain ⟨fb, HFBe⟩ : ∃ b, Hid (w5.heap.size = b) := ⟨_, rfl⟩
  rw [HFBe.out] at HFb HLf0 ⊢
  generalize w5.alloc (.cells (fcells (kF 0) nS).toArray 29) = w6 at HF6 HR1d HR2d HB6 HFb ⊢
  clear HF5 HR1c HR2c HB5 HW5
  have x0 : w6.cell? ⟨fb, 0, none⟩ = some (.int .i64 0) := (Fb.of HFb.out rfl).k
  go_wp2_with fail
  refine (kindOf_0 w6).mono ?_
  rintro e w7 ⟨rfl, hb7⟩
  have HF7 := hid (HF6.out.below hb7)
  have HR1e := hid (bel_keep hb7 HR1d.out)
  have HR2e := hid (bel_keep hb7 HR2d.out)
  have HB7 := hid (below_then HB6.out hb7)
  have HFc := hid (bel_keep hb7 HFb.out)
  clear hb7 HF6 HR1d HR2d HB6 HFb x0
  go_upto_region 6 with (first
    | (refine al_row (by rfl) 61 (by rfl) _ zeroKind ?_)
    | (refine st_new (by rfl) 61 _ _ (by rfl) zRow (by rfl) (by rfl) 61 _ kindSize rfl (kOf_one 0) ?_))
  have HW7 := hid (below_walk w7 (.cells (zRow).toArray 61))
  have HF8 := hid (HF7.out.below HW7.out)
  have HR1 := hid (bel_keep HW7.out HR1e.out)
  have HR2 := hid (bel_keep HW7.out HR2e.out)
  have HB8 := hid (below_then HB7.out HW7.out)
  have HFd := hid (bel_keep HW7.out HFc.out)
  have HKb := hid (hp_new w7 (.cells (zRow).toArray 61))
  have HLk : Hid (fb < w7.heap.size) := hid (hp_lt HFc.out)
  obtain ⟨kb, HKBe⟩ : ∃ b, Hid (w7.heap.size = b) := ⟨_, rfl⟩
  rw [HKBe.out] at HKb HLk ⊢
  generalize w7.alloc (.cells (zRow).toArray 61) = w8 at HF8 HR1 HR2 HB8 HFd HKb ⊢
  clear HF7 HR1e HR2e HB7 HFc HW7 HZ2 HFBe HKBe
  have HES := hid (show frameP bs A4 = (zF, eS bs (oS bs 6 (A4, 0, 0)).2) from frameP_zero bs A4 HK.out)
  go_wp2_with (refine bd_row (by rfl) 29 #[] (by rfl) _ (by simp [Act.eval]) _ built_zf ?_)
  refine (fd_end w0.heap.size b rb v bs _ w8 HF8.out).mono ?_
  rintro e w9 ⟨rfl, hg9⟩
  have HR1z := hid (hg9.keep HR1.out (by have := HLb.out; omega) (by have := HLr.out; omega))
  have HR2z := hid (hg9.keep HR2.out (by have := HLb.out; omega) (by have := HLr.out; omega))
  have HB9 := hid (hg9.below HB8.out (by have := HLb.out; have := HAA.out; omega) (by have := HLr.out; have := HAA.out; omega))
  obtain ⟨E1, HE1⟩ : ∃ x, Hid ((eS bs (oS bs 6 (A4, 0, 0)).2).1 = x) := ⟨_, rfl⟩
  obtain ⟨E2, HE2⟩ : ∃ x, Hid ((eS bs (oS bs 6 (A4, 0, 0)).2).2 = x) := ⟨_, rfl⟩
  rw [HE1.out, HE2.out]
  clear hg9 HR1 HR2 HB8 HF8 HFd HKb
  go_wp2_with (first
    | (refine st_row (by rfl) 29 _ _ (by rfl) A (fcells zF nS) (by rfl) (by rfl) 29 _ HR1z.out (frame_size zF nS rfl) rfl (fcells_one zF nS rfl) ?_; intro w10 hw10)
    | (refine st_row (by rfl) 47 _ _ (by rfl) (A + 1) [.int .i64 E1, .int .i64 E2] (by rfl) (by rfl) 47 _ (gb_keep hw10.grown HR2z.out (by omega)) faultSize rfl (fault_one E1 E2) ?_; intro w11 hw11))
  refine ret_cc 2 3 29 47 rfl A rfl (A + 1) rfl (fcells zF nS) 29 (gb_keep hw11.grown hw10.blk (by omega)) _ Try.underlying29 rfl (frame_size zF nS rfl) _ 47 hw11.blk _ Try.underlying47 rfl faultSize rfl ?_
  rw [HES.out]
  refine ⟨nS, by show _ = Ending.returned (.tuple #[_, .agg #[.int .i64 (eS bs (oS bs 6 (A4, 0, 0)).2).1, .int .i64 (eS bs (oS bs 6 (A4, 0, 0)).2).2]]); rw [HE1.out, HE2.out], World.ownsRow_nil _ _ _ _, ?_⟩
  exact Below.of_gb (Below.of_gb HB9.out hw10.grown (by have := HAA.out; omega)) hw11.grown (by have := HAA.out; omega)
end Go.Proofs.Ytjinkahlfigdcaa

/- readFrame, where the kind that is read is 1. -/
namespace Go.Proofs.Ytjinkahlfigdcaa
open Go.RowKit Go.BigFrame

set_option maxRecDepth 100000 in
set_option maxHeartbeats 8000000 in
theorem readFrame_1 (v0 : Value) (bs : List UInt8) (head N : Nat) (w : World) (hs : Src w v0 bs) (hbl : bs.length ≤ 1099511627776) (hu : uS bs (0, 0, 0) = (N, head, 0, 0)) (hK : (oS bs 6 (head, 0, 0)).1 = 1) :
    Calls Try.prog 32 #[v0] w fun e w' => ∃ va, e = .returned (.tuple #[.agg (fcells (frameP bs head).1 va).toArray, .agg #[.int .i64 (frameP bs head).2.1, .int .i64 (frameP bs head).2.2]]) ∧ WOwnS w' w.heap.size va (frameP bs head).1.args ∧ Below w.heap.size w w' := by
  obtain ⟨va0, c0, rfl⟩ := src_shape hs
  obtain ⟨L0, HL0⟩ : ∃ n, Hid (bs.length = n) := ⟨_, rfl⟩
  obtain ⟨A, HAA⟩ : ∃ n, Hid (w.heap.size = n) := ⟨_, rfl⟩
  have HB0 := hid (below_walk2 w (.cells (fcells zF nS).toArray 29) (.cells #[.int .i64 0, .int .i64 0] 47))
  have HNB := hid (hp_two w (.cells (fcells zF nS).toArray 29) (.cells #[.int .i64 0, .int .i64 0] 47))
  have HZ : Hid ((w.alloc (.cells (fcells zF nS).toArray 29)).heap.size = w.heap.size + 1) := hid (by simp)
  have HZ2 : Hid (((w.alloc (.cells (fcells zF nS).toArray 29)).alloc (.cells #[.int .i64 0, .int .i64 0] 47)).heap.size = w.heap.size + 2) := hid (by simp)
  have HNR := hid (newReader_any _ bs _ (hs.below HB0.out))
  have HU := hid hu
  have HK := hid hK
  have HBL := hid hbl
  clear hs hbl hu hK
  go_enter Try.func32, Try.ntmps32
  go_upto_region 1 with (refine al_row (by rfl) 29 (by rfl) _ zeroFrame ?_)
  try rw [HZ.out]
  generalize (w.alloc (.cells (fcells zF nS).toArray 29)).alloc (.cells #[.int .i64 0, .int .i64 0] 47) = w0 at HB0 HNB HZ2 HNR ⊢
  rw [HAA.out] at HNB HZ2 ⊢
  have HR1 := hid HNB.out.1
  have HR2 := hid HNB.out.2
  clear HNB HZ
  go_wp2_with fail
  refine HNR.out.mono ?_
  rintro e w1 ⟨rb, v, rfl, hr1, hb1⟩
  obtain ⟨b, HBb⟩ : ∃ b, Hid (w1.heap.size = b) := ⟨_, rfl⟩
  have HLb : Hid (A + 2 ≤ b) := hid (by have := hb1.size; have := HZ2.out; have := HBb.out; omega)
  have HLr : Hid (A + 2 ≤ rb) := hid (by have := hr1.lo; have := HZ2.out; omega)
  have HLrb : Hid (rb < b) := hid (by have := hr1.lt; have := HBb.out; omega)
  have HAW := hid (below_walk w1 (.cells #[.pointer (some ⟨rb, 0, none⟩), .int .i64 0, .int .i64 0] 93))
  have HFD := hid (show Fd (w1.alloc (.cells #[.pointer (some ⟨rb, 0, none⟩), .int .i64 0, .int .i64 0] 93)) w0.heap.size b rb v bs (0, 0, 0) from ⟨0, 0, 0, 0, 0, hr1.below HAW.out, HBb.out ▸ hp_new w1 _, by have := HLrb.out; omega, fun e => by have := (hr1.own.lt _ e).2; have := HBb.out; omega, by have := hb1.size; have := HBb.out; omega, Or.inl ⟨rfl, rfl⟩⟩)
  have HR1a := hid (bel_keep HAW.out (bel_keep hb1 HR1.out))
  have HR2a := hid (bel_keep HAW.out (bel_keep hb1 HR2.out))
  have HB1 := hid (below_then (below_then HB0.out hb1) HAW.out)
  clear hr1 hb1 HR1 HR2 HB0 HNR HAW
  go_upto_region 2 with fail
  rw [HBb.out]
  generalize w1.alloc (.cells #[.pointer (some ⟨rb, 0, none⟩), .int .i64 0, .int .i64 0] 93) = w2 at HFD HR1a HR2a HB1 ⊢
  have p2 := HFD.out.ptr
  go_wp2_with fail
  refine (fd_uint HFD.out).mono ?_
  rintro e w3 ⟨rfl, hf3, hg3⟩
  rw [HU.out] at hf3
  have HF3 := hid (show Fd w3 w0.heap.size b rb v bs (head, 0, 0) from hf3)
  have HR1b := hid (gb_keep hg3 HR1a.out (by have := HLr.out; omega))
  have HR2b := hid (gb_keep hg3 HR2a.out (by have := HLr.out; omega))
  have HB3 := hid (Below.of_gb HB1.out hg3 (by have := HLr.out; have := HAA.out; omega))
  clear hf3 hg3 p2 HFD HR1a HR2a HB1
  have p3 := HF3.out.ptr
  go_wp2_with fail
  refine (fd_at HF3.out).mono ?_
  rintro e w4 ⟨A4, rfl, hw4, hA4⟩
  have hw4 := hw4.symm
  subst hw4
  obtain rfl : A4 = head := hA4 rfl
  clear hA4 p3
  go_wp2_with fail
  refine (fd_some w0.heap.size b rb v bs (A4, 0, 0) 6 w3 (by omega) HF3.out).mono ?_
  rintro e w5 ⟨rfl, hf5, hg5⟩
  rw [show ((oS bs 6 (A4, 0, 0)).1 : Int) = 1 by rw [HK.out]; rfl]
  have HF5 := hid hf5
  have HR1c := hid (hg5.keep HR1b.out (by have := HLb.out; omega) (by have := HLr.out; omega))
  have HR2c := hid (hg5.keep HR2b.out (by have := HLb.out; omega) (by have := HLr.out; omega))
  have HB5 := hid (hg5.below HB3.out (by have := HLb.out; have := HAA.out; omega) (by have := HLr.out; have := HAA.out; omega))
  clear hf5 hg5 HF3 HR1b HR2b HB3
  go_upto_region 5 with (first
    | (refine bd_row (by rfl) 29 #[(0, .tmp 25)] (by rfl) _ (by simp [Act.eval]) _ built_k1 ?_)
    | (refine al_row (by rfl) 29 (by rfl) _ zeroFrame ?_)
    | (refine st_new (by rfl) 29 _ _ (by rfl) (fcells (kF 1) nS) (by rfl) (by rfl) 29 _ (frame_size (kF 1) nS rfl) rfl (fcells_one (kF 1) nS rfl) ?_))
  have HW5 := hid (below_walk w5 (.cells (fcells (kF 1) nS).toArray 29))
  have HF6 := hid (HF5.out.below HW5.out)
  have HR1d := hid (bel_keep HW5.out HR1c.out)
  have HR2d := hid (bel_keep HW5.out HR2c.out)
  have HB6 := hid (below_then HB5.out HW5.out)
  have HFb := hid (hp_new w5 (.cells (fcells (kF 1) nS).toArray 29))
  have HLf0 : Hid (b < w5.heap.size) := hid HF5.out.lt.1
  have HVO0 := hid HF5.out.own
  obtain ⟨fb, HFBe⟩ : ∃ b, Hid (w5.heap.size = b) := ⟨_, rfl⟩
  rw [HFBe.out] at HFb HLf0 HVO0 ⊢
  have HVO : Hid (∀ k, v.ownBlock = some k → k < fb) := hid HVO0.out
  generalize w5.alloc (.cells (fcells (kF 1) nS).toArray 29) = w6 at HF6 HR1d HR2d HB6 HFb ⊢
  clear HF5 HR1c HR2c HB5 HW5
  have x0 : w6.cell? ⟨fb, 0, none⟩ = some (.int .i64 1) := (Fb.of HFb.out rfl).k
  go_wp2_with fail
  refine (kindOf_1 w6).mono ?_
  rintro e w7 ⟨rfl, hb7⟩
  have HF7 := hid (HF6.out.below hb7)
  have HR1e := hid (bel_keep hb7 HR1d.out)
  have HR2e := hid (bel_keep hb7 HR2d.out)
  have HB7 := hid (below_then HB6.out hb7)
  have HFc := hid (bel_keep hb7 HFb.out)
  clear hb7 HF6 HR1d HR2d HB6 HFb x0
  go_upto_region 6 with (first
    | (refine al_row (by rfl) 61 (by rfl) _ zeroKind ?_)
    | (refine st_new (by rfl) 61 _ _ (by rfl) k1 (by rfl) (by rfl) 61 _ kindSize rfl (kOf_one 1) ?_))
  have HW7 := hid (below_walk w7 (.cells (k1).toArray 61))
  have HF8 := hid (HF7.out.below HW7.out)
  have HR1 := hid (bel_keep HW7.out HR1e.out)
  have HR2 := hid (bel_keep HW7.out HR2e.out)
  have HB8 := hid (below_then HB7.out HW7.out)
  have HFd := hid (bel_keep HW7.out HFc.out)
  have HKb := hid (hp_new w7 (.cells (k1).toArray 61))
  have HLk : Hid (fb < w7.heap.size) := hid (hp_lt HFc.out)
  obtain ⟨kb, HKBe⟩ : ∃ b, Hid (w7.heap.size = b) := ⟨_, rfl⟩
  rw [HKBe.out] at HKb HLk ⊢
  generalize w7.alloc (.cells (k1).toArray 61) = w8 at HF8 HR1 HR2 HB8 HFd HKb ⊢
  clear HF7 HR1e HR2e HB7 HFc HW7 HZ2 HFBe HKBe
  have y4 : w8.cell? ⟨kb, 4, none⟩ = some (.func (.func 76) #[] #[]) := by rw [cell_of_row w8 kb 4 _ _ _ HKb.out]; rfl
  go_wp2_with (refine ld_row (by rfl) 29 (.tmp 6) (by rfl) fb (by rfl) (fcells (kF 1) nS) 29 HFd.out _ Try.underlying29 rfl (frame_size (kF 1) nS rfl) ?_)
  refine (readHello_any w0.heap.size b rb v bs (oS bs 6 (A4, 0, 0)).2 w8 HBL.out HF8.out).mono ?_
  rintro e w9 ⟨va, rfl, hoa, hf9, hg9⟩
  have HLb8 : Hid (b < w8.heap.size) := hid HF8.out.lt.1
  have HLr8 : Hid (rb < w8.heap.size) := hid HF8.out.lt.2.1
  have HLk8 : Hid (kb < w8.heap.size) := hid (hp_lt HKb.out)
  have HS9 : Hid (w8.heap.size ≤ w9.heap.size) := hid hg9.size
  have HOA := hid hoa
  have HF9 := hid hf9
  have HR1f := hid (hg9.keep HR1.out (by have := HLb.out; omega) (by have := HLr.out; omega))
  have HR2f := hid (hg9.keep HR2.out (by have := HLb.out; omega) (by have := HLr.out; omega))
  have HB9 := hid (hg9.below HB8.out (by have := HLb.out; have := HAA.out; omega) (by have := HLr.out; have := HAA.out; omega))
  have HFe := hid (hg9.keep HFd.out (by have := HLf0.out; omega) (by have := HLf0.out; have := HLrb.out; omega))
  have HKc := hid (hg9.keep HKb.out (by have := HLk.out; have := HLf0.out; omega) (by have := HLk.out; have := HLf0.out; have := HLrb.out; omega))
  have HTL := hid (show (fieldsP bs 1 (oS bs 6 (A4, 0, 0)).2).1.tool.length = 32 from fieldsP_tool bs 1 (oS bs 6 (A4, 0, 0)).2)
  obtain ⟨aV, cV, eV⟩ := wowns_shape hoa
  have HSZ := hid (frame_size (fieldsP bs 1 (oS bs 6 (A4, 0, 0)).2).1 va HTL.out)
  have HON := hid (fcells_one (fieldsP bs 1 (oS bs 6 (A4, 0, 0)).2).1 va (by rw [eV]; rfl))
  have HOS := hid (show (fcells (kF 1) nS).toArray.size = (fcells (fieldsP bs 1 (oS bs 6 (A4, 0, 0)).2).1 va).length by rw [fcells_length _ _ HTL.out]; rfl)
  obtain ⟨FF, HFF⟩ : ∃ L, Hid (fcells (fieldsP bs 1 (oS bs 6 (A4, 0, 0)).2).1 va = L) := ⟨_, rfl⟩
  rw [HFF.out] at HSZ HON HOS ⊢
  have HFV : Hid (∀ k, v.ownBlock = some k → k < fb) := hid (fun k hk => by have := HVO.out k hk; omega)
  clear hoa hf9 hg9 HF8 HR1 HR2 HB8 HFd HKb y4 eV
  go_upto_region 9 with (refine st_row (by rfl) 29 _ _ (by rfl) fb FF (by rfl) (by rfl) 29 _ HFe.out HSZ.out HOS.out HON.out ?_; intro w10 hw10)
  have HF10 := hid (HF9.out.far hw10.grown (by have := HLf0.out; omega) (by have := HLf0.out; have := HLrb.out; omega) (fun k hk => by have := HFV.out k hk; omega))
  have HR1g := hid (gb_keep hw10.grown HR1f.out (by have := HLf0.out; have := HLb.out; omega))
  have HR2g := hid (gb_keep hw10.grown HR2f.out (by have := HLf0.out; have := HLb.out; omega))
  have HKd := hid (gb_keep hw10.grown HKc.out (by have := HLk.out; omega))
  have HB10 := hid (Below.of_gb HB9.out hw10.grown (by have := HLf0.out; have := HLb.out; have := HAA.out; omega))
  have HFf := hid hw10.blk
  have HOA2 := hid (WOwnS.far HOA.out hw10.grown (fun j e => by injection e with e; have := HLk.out; have := HLk8.out; omega))
  have HS10 : Hid (w8.heap.size ≤ w10.heap.size) := hid (by have := hw10.size; have := HS9.out; omega)
  clear hw10 HF9 HR1f HR2f HKc HB9 HFe HOA HOS HS9
  go_wp2_with fail
  refine (fd_end w0.heap.size b rb v bs _ w10 HF10.out).mono ?_
  rintro e w11 ⟨rfl, hg11⟩
  have HR1h := hid (hg11.keep HR1g.out (by have := HLb.out; omega) (by have := HLr.out; omega))
  have HR2h := hid (hg11.keep HR2g.out (by have := HLb.out; omega) (by have := HLr.out; omega))
  have HB11 := hid (hg11.below HB10.out (by have := HLb.out; have := HAA.out; omega) (by have := HLr.out; have := HAA.out; omega))
  have HFg := hid (hg11.keep HFf.out (by have := HLf0.out; omega) (by have := HLf0.out; have := HLrb.out; omega))
  have HKe := hid (hg11.keep HKd.out (by have := HLk.out; have := HLf0.out; omega) (by have := HLk.out; have := HLf0.out; have := HLrb.out; omega))
  have HOA3 := hid (wowns_g2 HOA2.out hg11 HLb8.out HLr8.out)
  have HS11 : Hid (w8.heap.size ≤ w11.heap.size) := hid (by have := hg11.size; have := HS10.out; omega)
  obtain ⟨E1, HE1⟩ : ∃ x, Hid ((eS bs (fieldsP bs 1 (oS bs 6 (A4, 0, 0)).2).2).1 = x) := ⟨_, rfl⟩
  obtain ⟨E2, HE2⟩ : ∃ x, Hid ((eS bs (fieldsP bs 1 (oS bs 6 (A4, 0, 0)).2).2).2 = x) := ⟨_, rfl⟩
  rw [HE1.out, HE2.out]
  clear hg11 HF10 HR1g HR2g HB10 HFf HKd HOA2 HS10
  go_upto_region 10 with fail
  have HWT := hid (below_walk w11 (.cells #[.int .i64 E1, .int .i64 E2] 47))
  have HR1i := hid (bel_keep HWT.out HR1h.out)
  have HR2i := hid (bel_keep HWT.out HR2h.out)
  have HB12 := hid (below_then HB11.out HWT.out)
  have HFh := hid (bel_keep HWT.out HFg.out)
  have HKf := hid (bel_keep HWT.out HKe.out)
  have HOA4 := hid (HOA3.out.alloc (.cells #[.int .i64 E1, .int .i64 E2] 47))
  have HTB0 := hid (hp_new w11 (.cells #[.int .i64 E1, .int .i64 E2] 47))
  have HLt0 : Hid (kb < w11.heap.size) := hid (hp_lt HKe.out)
  obtain ⟨tb, HTBe⟩ : ∃ b, Hid (w11.heap.size = b) := ⟨_, rfl⟩
  rw [HTBe.out] at HTB0 HLt0 ⊢
  generalize w11.alloc (.cells #[.int .i64 E1, .int .i64 E2] 47) = w12 at HR1i HR2i HB12 HFh HKf HOA4 HTB0 ⊢
  have HLt : Hid (A + 2 ≤ tb) := hid (by have := HLt0.out; have := HLk.out; have := HLf0.out; have := HLb.out; omega)
  have HL8t : Hid (w8.heap.size ≤ tb) := hid (by have := HS11.out; have := HTBe.out; omega)
  clear HR1h HR2h HB11 HFg HKe HOA3 HWT HTBe HS11
  have t0 : w12.cell? ⟨tb, 0, none⟩ = some (.int .i64 E1) := by simp [World.cell?, HTB0.out]
  have t1 : w12.cell? ⟨tb, 1, none⟩ = some (.int .i64 E2) := by simp [World.cell?, HTB0.out]
  have f0 := row_fz HTB0.out 0
  have f1 := row_fz HTB0.out 1
  by_cases hE : E1 = 0
  · obtain ⟨M, HM⟩ : ∃ M, Hid (mayF (fieldsP bs 1 (oS bs 6 (A4, 0, 0)).2).1 = M) := ⟨_, rfl⟩
    have HST := hid (wowns_strs HOA4.out)
    have HMN : Hid ((fieldsP bs 1 (oS bs 6 (A4, 0, 0)).2).1.args.length ≤ 9223372036854775807) := hid (wowns_len HOA4.out)
    have HMAY := hid (show Calls Try.prog 74 #[.agg FF.toArray] w12 fun e w' => e = .returned (.bool M) ∧ Below w12.heap.size w12 w' by
      rw [← HM.out, mayF_1 _ (fieldsP_kind bs 1 (oS bs 6 (A4, 0, 0)).2 (by omega)), ← HFF.out]
      exact mayHello_any (fieldsP bs 1 (oS bs 6 (A4, 0, 0)).2).1 va w12 HTL.out)
    subst hE
    have y2 : w12.cell? ⟨kb, 2, none⟩ = some (.func (.func 74) #[] #[]) := by rw [cell_of_row w12 kb 2 _ _ _ HKf.out]; rfl
    have HRG := hid (range_row HFh.out)
    clear HST HMN
    go_wp2_with (refine ld_gd (by rfl) 29 (.tmp 6) (by rfl) fb 0 (by rfl) FF _ HRG.out Try.underlying29 rfl HSZ.out ?_)
    refine HMAY.out.mono ?_
    rintro e w13 ⟨rfl, hb13⟩
    have HR1z := hid (bel_keep hb13 HR1i.out)
    have HR2z := hid (bel_keep hb13 HR2i.out)
    have HBz := hid (below_then HB12.out hb13)
    have HFz := hid (bel_keep hb13 HFh.out)
    have HTBz := hid (bel_keep hb13 HTB0.out)
    have HOAz := hid (WOwnS.far HOA4.out (below_gb hb13 none) (fun j e => by cases e))
    clear hb13 HR1i HR2i HB12 HFh HTB0 HKf HOA4 HMAY HRG y2 t0 t1 f0 f1
    have t0 : w13.cell? ⟨tb, 0, none⟩ = some (.int .i64 0) := by simp [World.cell?, HTBz.out]
    have t1 : w13.cell? ⟨tb, 1, none⟩ = some (.int .i64 E2) := by simp [World.cell?, HTBz.out]
    have f0 := row_fz HTBz.out 0
    have f1 := row_fz HTBz.out 1
    cases M with
    | true =>
      as_aux_lemma =>
        have HFP := hid (frameP_ok bs A4 1 HK.out (by omega) HE1.out HM.out)
        go_wp2_with (first
          | (refine ld_row (by rfl) 29 (.tmp 6) (by rfl) fb (by rfl) FF 29 HFz.out _ Try.underlying29 rfl HSZ.out ?_)
          | (refine bd_row (by rfl) 47 #[] (by rfl) _ (by simp [Act.eval]) _ built_fz ?_)
          | (refine st_row (by rfl) 29 _ _ (by rfl) A FF (by rfl) (by rfl) 29 _ HR1z.out HSZ.out (by rw [← HFF.out, fcells_length _ _ HTL.out]; rfl) HON.out ?_; intro w14 hw14)
          | (refine st_row (by rfl) 47 _ _ (by rfl) (A + 1) [Value.int .i64 0, .int .i64 0] (by rfl) (by rfl) 47 _ (gb_keep hw14.grown HR2z.out (by omega)) faultSize rfl (fault_one _ _) ?_; intro w15 hw15))
        refine ret_cc 2 3 29 47 rfl A rfl (A + 1) rfl FF 29 (gb_keep hw15.grown hw14.blk (by omega)) _ Try.underlying29 rfl HSZ.out _ 47 hw15.blk _ Try.underlying47 rfl faultSize rfl ?_
        rw [HFP.out]
        refine ⟨va, by rw [← HFF.out]; rfl, ?_, Below.of_gb (Below.of_gb HBz.out hw14.grown (by have := HAA.out; omega)) hw15.grown (by have := HAA.out; omega)⟩
        exact (WOwnS.far (WOwnS.far HOAz.out hw14.grown (fun j e => by injection e with e; have := HLk8.out; have := HLk.out; have := HLf0.out; have := HLb.out; omega)) hw15.grown (fun j e => by injection e with e; have := HLk8.out; have := HLk.out; have := HLf0.out; have := HLb.out; omega)).le (by have := HLk8.out; have := HLk.out; have := HLf0.out; have := HLb.out; have := HAA.out; omega)
    | false =>
      as_aux_lemma =>
        have HFP := hid (frameP_may bs A4 1 HK.out (by omega) HE1.out HM.out)
        go_upto_region 12 with (first
          | (refine bd_row (by rfl) 47 #[(0, .const (.int .i64 70)), (1, .tmp 55)] (by rfl) _ (by simp [Act.eval]) _ (built_ft 70 (A4 : Int)) ?_)
          | (refine st_row (by rfl) 47 _ _ (by rfl) tb [Value.int .i64 70, .int .i64 (A4 : Int)] (by rfl) (by rfl) 47 _ HTBz.out faultSize rfl (fault_one _ _) ?_; intro w14 hw14))
        have HTB := hid hw14.blk
        have HR1y := hid (gb_keep hw14.grown HR1z.out (by have := HLt.out; omega))
        have HR2y := hid (gb_keep hw14.grown HR2z.out (by have := HLt.out; omega))
        have HBy := hid (Below.of_gb HBz.out hw14.grown (by have := HLt.out; have := HAA.out; omega))
        clear hw14 HR1z HR2z HBz t0 t1 f0 f1
        have HR1z := hid HR1y.out
        have HR2z := hid HR2y.out
        have HBz := hid HBy.out
        have t0 : w14.cell? ⟨tb, 0, none⟩ = some (.int .i64 70) := by simp [World.cell?, HTB.out]
        go_upto_region 13 with fail
        have HTBc := hid HTB.out
        refine wp_noPanic (wp_region_held_drew (S := fun W => W.heap[tb]? = some (.cells [Value.int .i64 70, .int .i64 (A4 : Int)].toArray 47 (0, 0))) (by kernel_rfl) HTBc.out ?_)
        intro hHeld
        refine wpAnyH_take (i := 0) (v := .agg (fcells zF nS).toArray) rfl (by kernel_rfl) (by kernel_rfl) (by kernel_rfl) (fun _ _ _ h => h) (yields_build (by rfl) 29 #[] (by rfl) _ (by simp [Act.eval]) _ built_zf) hHeld ?_
        simp only [Act.put, List.getElem_toArray, List.getElem_cons_zero, List.setIfInBounds_toArray, List.set_cons_succ, List.set_cons_zero]
        refine wpAnyH_take (i := 1) (v := .agg [Value.int .i64 70, .int .i64 (A4 : Int)].toArray) rfl (by kernel_rfl) (by kernel_rfl) (by kernel_rfl) (fun _ _ _ h => h) (yieldsIf_load_mid (by rfl) 47 (.tmp 9) rfl tb 0 rfl [Value.int .i64 70, .int .i64 (A4 : Int)] _ (fun W hW => range_row hW) Try.underlying47 rfl faultSize) hHeld ?_
        simp only [Act.put, List.getElem_toArray, List.getElem_cons_zero, List.getElem_cons_succ, List.setIfInBounds_toArray, List.set_cons_succ, List.set_cons_zero]
        obtain ⟨wx, HWX⟩ : ∃ x, Hid (w14.drew = x) := ⟨_, rfl⟩
        have HR1x := hid (show w14.drew.heap[A]? = _ from HR1z.out)
        have HR2x := hid (show w14.drew.heap[A + 1]? = _ from HR2z.out)
        have HTBx := hid (show w14.drew.heap[tb]? = some (.cells [Value.int .i64 70, .int .i64 (A4 : Int)].toArray 47 (0, 0)) from HTB.out)
        have HBx := hid (show Below w.heap.size w w14.drew from below_tr HBz.out ⟨rfl, rfl, rfl, Nat.le_refl _, fun _ _ => rfl⟩)
        rw [HWX.out] at hHeld HR1x HR2x HTBx HBx ⊢
        refine wpAnyH_ready (rs := [2]) (by kernel_rfl) (by simp) ?_
        refine AllReadyH.cons rfl (fun K9 hK9 => ?_) AllReadyH.nil
        refine step_store_row (by rfl) 29 _ _ (by rfl) A (fcells zF nS) (by rfl) (by rfl) 29 _ HR1x.out (frame_size zF nS rfl) rfl (fcells_one zF nS rfl) ?_
        intro wy hwy
        refine hK9.out _ _ (gb_keep hwy.grown HTBx.out (by have := HLt.out; omega)) (fun hHeld => ?_)
        clear hK9 K9
        try simp only [Act.put, List.getElem_toArray, List.getElem_cons_zero, List.getElem_cons_succ]
        refine wpAnyH_ready (rs := [3]) (by kernel_rfl) (by simp) ?_
        refine AllReadyH.cons rfl (fun K9 hK9 => ?_) AllReadyH.nil
        refine step_store_row (by rfl) 47 _ _ (by rfl) (A + 1) [Value.int .i64 70, .int .i64 (A4 : Int)] (by rfl) (by rfl) 47 _ (gb_keep hwy.grown HR2x.out (by omega)) faultSize rfl (fault_one _ _) ?_
        intro wz hwz
        refine hK9.out _ _ (gb_keep hwz.grown (gb_keep hwy.grown HTBx.out (by have := HLt.out; omega)) (by have := HLt.out; omega)) (fun hHeld => ?_)
        clear hK9 K9
        try simp only [Act.put, List.getElem_toArray, List.getElem_cons_zero, List.getElem_cons_succ]
        refine wpAnyH_done (by kernel_rfl) ?_ _
        simp only [noPanic]
        clear hHeld
        go_wp2
        refine ret_cc 2 3 29 47 rfl A rfl (A + 1) rfl (fcells zF nS) 29 (gb_keep hwz.grown hwy.blk (by omega)) _ Try.underlying29 rfl (frame_size zF nS rfl) _ 47 hwz.blk _ Try.underlying47 rfl faultSize rfl ?_
        rw [HFP.out]
        refine ⟨nS, rfl, World.ownsRow_nil _ _ _ _, ?_⟩
        exact Below.of_gb (Below.of_gb HBx.out hwy.grown (by have := HAA.out; omega)) hwz.grown (by have := HAA.out; omega)

  · as_aux_lemma =>
      have q1 : (E1 == 0) = false := by simpa using hE
      have q2 : (E1 != 0) = true := by simpa using hE
      have HFP := hid (show frameP bs A4 = (zF, E1, E2) by
        rw [frameP_bad bs A4 1 HK.out (by omega) (show (eS bs (fieldsP bs 1 (oS bs 6 (A4, 0, 0)).2).2).1 ≠ 0 by rw [HE1.out]; exact hE), ← HE1.out, ← HE2.out]; rfl)
      have HR1z := hid HR1i.out
      have HR2z := hid HR2i.out
      have HBz := hid HB12.out
      have HTB := hid (show w12.heap[tb]? = some (.cells [Value.int .i64 E1, .int .i64 E2].toArray 47 (0, 0)) from HTB0.out)
      clear hE
      go_upto_region 13 with fail
      have HTBc := hid HTB.out
      refine wp_noPanic (wp_region_held_drew (S := fun W => W.heap[tb]? = some (.cells [Value.int .i64 E1, .int .i64 E2].toArray 47 (0, 0))) (by kernel_rfl) HTBc.out ?_)
      intro hHeld
      refine wpAnyH_take (i := 0) (v := .agg (fcells zF nS).toArray) rfl (by kernel_rfl) (by kernel_rfl) (by kernel_rfl) (fun _ _ _ h => h) (yields_build (by rfl) 29 #[] (by rfl) _ (by simp [Act.eval]) _ built_zf) hHeld ?_
      simp only [Act.put, List.getElem_toArray, List.getElem_cons_zero, List.setIfInBounds_toArray, List.set_cons_succ, List.set_cons_zero]
      refine wpAnyH_take (i := 1) (v := .agg [Value.int .i64 E1, .int .i64 E2].toArray) rfl (by kernel_rfl) (by kernel_rfl) (by kernel_rfl) (fun _ _ _ h => h) (yieldsIf_load_mid (by rfl) 47 (.tmp 9) rfl tb 0 rfl [Value.int .i64 E1, .int .i64 E2] _ (fun W hW => range_row hW) Try.underlying47 rfl faultSize) hHeld ?_
      simp only [Act.put, List.getElem_toArray, List.getElem_cons_zero, List.getElem_cons_succ, List.setIfInBounds_toArray, List.set_cons_succ, List.set_cons_zero]
      obtain ⟨wx, HWX⟩ : ∃ x, Hid (w12.drew = x) := ⟨_, rfl⟩
      have HR1x := hid (show w12.drew.heap[A]? = _ from HR1z.out)
      have HR2x := hid (show w12.drew.heap[A + 1]? = _ from HR2z.out)
      have HTBx := hid (show w12.drew.heap[tb]? = some (.cells [Value.int .i64 E1, .int .i64 E2].toArray 47 (0, 0)) from HTB.out)
      have HBx := hid (show Below w.heap.size w w12.drew from below_tr HBz.out ⟨rfl, rfl, rfl, Nat.le_refl _, fun _ _ => rfl⟩)
      rw [HWX.out] at hHeld HR1x HR2x HTBx HBx ⊢
      refine wpAnyH_ready (rs := [2]) (by kernel_rfl) (by simp) ?_
      refine AllReadyH.cons rfl (fun K9 hK9 => ?_) AllReadyH.nil
      refine step_store_row (by rfl) 29 _ _ (by rfl) A (fcells zF nS) (by rfl) (by rfl) 29 _ HR1x.out (frame_size zF nS rfl) rfl (fcells_one zF nS rfl) ?_
      intro wy hwy
      refine hK9.out _ _ (gb_keep hwy.grown HTBx.out (by have := HLt.out; omega)) (fun hHeld => ?_)
      clear hK9 K9
      try simp only [Act.put, List.getElem_toArray, List.getElem_cons_zero, List.getElem_cons_succ]
      refine wpAnyH_ready (rs := [3]) (by kernel_rfl) (by simp) ?_
      refine AllReadyH.cons rfl (fun K9 hK9 => ?_) AllReadyH.nil
      refine step_store_row (by rfl) 47 _ _ (by rfl) (A + 1) [Value.int .i64 E1, .int .i64 E2] (by rfl) (by rfl) 47 _ (gb_keep hwy.grown HR2x.out (by omega)) faultSize rfl (fault_one _ _) ?_
      intro wz hwz
      refine hK9.out _ _ (gb_keep hwz.grown (gb_keep hwy.grown HTBx.out (by have := HLt.out; omega)) (by have := HLt.out; omega)) (fun hHeld => ?_)
      clear hK9 K9
      try simp only [Act.put, List.getElem_toArray, List.getElem_cons_zero, List.getElem_cons_succ]
      refine wpAnyH_done (by kernel_rfl) ?_ _
      simp only [noPanic]
      clear hHeld
      go_wp2
      refine ret_cc 2 3 29 47 rfl A rfl (A + 1) rfl (fcells zF nS) 29 (gb_keep hwz.grown hwy.blk (by omega)) _ Try.underlying29 rfl (frame_size zF nS rfl) _ 47 hwz.blk _ Try.underlying47 rfl faultSize rfl ?_
      rw [HFP.out]
      refine ⟨nS, rfl, World.ownsRow_nil _ _ _ _, ?_⟩
      exact Below.of_gb (Below.of_gb HBx.out hwy.grown (by have := HAA.out; omega)) hwz.grown (by have := HAA.out; omega)

end Go.Proofs.Ytjinkahlfigdcaa

/- readFrame, where the kind that is read is 2. -/
namespace Go.Proofs.Ytjinkahlfigdcaa
open Go.RowKit Go.BigFrame

set_option maxRecDepth 100000 in
set_option maxHeartbeats 8000000 in
theorem readFrame_2 (v0 : Value) (bs : List UInt8) (head N : Nat) (w : World) (hs : Src w v0 bs) (hbl : bs.length ≤ 1099511627776) (hu : uS bs (0, 0, 0) = (N, head, 0, 0)) (hK : (oS bs 6 (head, 0, 0)).1 = 2) :
    Calls Try.prog 32 #[v0] w fun e w' => ∃ va, e = .returned (.tuple #[.agg (fcells (frameP bs head).1 va).toArray, .agg #[.int .i64 (frameP bs head).2.1, .int .i64 (frameP bs head).2.2]]) ∧ WOwnS w' w.heap.size va (frameP bs head).1.args ∧ Below w.heap.size w w' := by
  obtain ⟨va0, c0, rfl⟩ := src_shape hs
  obtain ⟨L0, HL0⟩ : ∃ n, Hid (bs.length = n) := ⟨_, rfl⟩
  obtain ⟨A, HAA⟩ : ∃ n, Hid (w.heap.size = n) := ⟨_, rfl⟩
  have HB0 := hid (below_walk2 w (.cells (fcells zF nS).toArray 29) (.cells #[.int .i64 0, .int .i64 0] 47))
  have HNB := hid (hp_two w (.cells (fcells zF nS).toArray 29) (.cells #[.int .i64 0, .int .i64 0] 47))
  have HZ : Hid ((w.alloc (.cells (fcells zF nS).toArray 29)).heap.size = w.heap.size + 1) := hid (by simp)
  have HZ2 : Hid (((w.alloc (.cells (fcells zF nS).toArray 29)).alloc (.cells #[.int .i64 0, .int .i64 0] 47)).heap.size = w.heap.size + 2) := hid (by simp)
  have HNR := hid (newReader_any _ bs _ (hs.below HB0.out))
  have HU := hid hu
  have HK := hid hK
  have HBL := hid hbl
  clear hs hbl hu hK
  go_enter Try.func32, Try.ntmps32
  go_upto_region 1 with (refine al_row (by rfl) 29 (by rfl) _ zeroFrame ?_)
  try rw [HZ.out]
  generalize (w.alloc (.cells (fcells zF nS).toArray 29)).alloc (.cells #[.int .i64 0, .int .i64 0] 47) = w0 at HB0 HNB HZ2 HNR ⊢
  rw [HAA.out] at HNB HZ2 ⊢
  have HR1 := hid HNB.out.1
  have HR2 := hid HNB.out.2
  clear HNB HZ
  go_wp2_with fail
  refine HNR.out.mono ?_
  rintro e w1 ⟨rb, v, rfl, hr1, hb1⟩
  obtain ⟨b, HBb⟩ : ∃ b, Hid (w1.heap.size = b) := ⟨_, rfl⟩
  have HLb : Hid (A + 2 ≤ b) := hid (by have := hb1.size; have := HZ2.out; have := HBb.out; omega)
  have HLr : Hid (A + 2 ≤ rb) := hid (by have := hr1.lo; have := HZ2.out; omega)
  have HLrb : Hid (rb < b) := hid (by have := hr1.lt; have := HBb.out; omega)
  have HAW := hid (below_walk w1 (.cells #[.pointer (some ⟨rb, 0, none⟩), .int .i64 0, .int .i64 0] 93))
  have HFD := hid (show Fd (w1.alloc (.cells #[.pointer (some ⟨rb, 0, none⟩), .int .i64 0, .int .i64 0] 93)) w0.heap.size b rb v bs (0, 0, 0) from ⟨0, 0, 0, 0, 0, hr1.below HAW.out, HBb.out ▸ hp_new w1 _, by have := HLrb.out; omega, fun e => by have := (hr1.own.lt _ e).2; have := HBb.out; omega, by have := hb1.size; have := HBb.out; omega, Or.inl ⟨rfl, rfl⟩⟩)
  have HR1a := hid (bel_keep HAW.out (bel_keep hb1 HR1.out))
  have HR2a := hid (bel_keep HAW.out (bel_keep hb1 HR2.out))
  have HB1 := hid (below_then (below_then HB0.out hb1) HAW.out)
  clear hr1 hb1 HR1 HR2 HB0 HNR HAW
  go_upto_region 2 with fail
  rw [HBb.out]
  generalize w1.alloc (.cells #[.pointer (some ⟨rb, 0, none⟩), .int .i64 0, .int .i64 0] 93) = w2 at HFD HR1a HR2a HB1 ⊢
  have p2 := HFD.out.ptr
  go_wp2_with fail
  refine (fd_uint HFD.out).mono ?_
  rintro e w3 ⟨rfl, hf3, hg3⟩
  rw [HU.out] at hf3
  have HF3 := hid (show Fd w3 w0.heap.size b rb v bs (head, 0, 0) from hf3)
  have HR1b := hid (gb_keep hg3 HR1a.out (by have := HLr.out; omega))
  have HR2b := hid (gb_keep hg3 HR2a.out (by have := HLr.out; omega))
  have HB3 := hid (Below.of_gb HB1.out hg3 (by have := HLr.out; have := HAA.out; omega))
  clear hf3 hg3 p2 HFD HR1a HR2a HB1
  have p3 := HF3.out.ptr
  go_wp2_with fail
  refine (fd_at HF3.out).mono ?_
  rintro e w4 ⟨A4, rfl, hw4, hA4⟩
  have hw4 := hw4.symm
  subst hw4
  obtain rfl : A4 = head := hA4 rfl
  clear hA4 p3
  go_wp2_with fail
  refine (fd_some w0.heap.size b rb v bs (A4, 0, 0) 6 w3 (by omega) HF3.out).mono ?_
  rintro e w5 ⟨rfl, hf5, hg5⟩
  rw [show ((oS bs 6 (A4, 0, 0)).1 : Int) = 2 by rw [HK.out]; rfl]
  have HF5 := hid hf5
  have HR1c := hid (hg5.keep HR1b.out (by have := HLb.out; omega) (by have := HLr.out; omega))
  have HR2c := hid (hg5.keep HR2b.out (by have := HLb.out; omega) (by have := HLr.out; omega))
  have HB5 := hid (hg5.below HB3.out (by have := HLb.out; have := HAA.out; omega) (by have := HLr.out; have := HAA.out; omega))
  clear hf5 hg5 HF3 HR1b HR2b HB3
  go_upto_region 5 with (first
    | (refine bd_row (by rfl) 29 #[(0, .tmp 25)] (by rfl) _ (by simp [Act.eval]) _ built_k2 ?_)
    | (refine al_row (by rfl) 29 (by rfl) _ zeroFrame ?_)
    | (refine st_new (by rfl) 29 _ _ (by rfl) (fcells (kF 2) nS) (by rfl) (by rfl) 29 _ (frame_size (kF 2) nS rfl) rfl (fcells_one (kF 2) nS rfl) ?_))
  have HW5 := hid (below_walk w5 (.cells (fcells (kF 2) nS).toArray 29))
  have HF6 := hid (HF5.out.below HW5.out)
  have HR1d := hid (bel_keep HW5.out HR1c.out)
  have HR2d := hid (bel_keep HW5.out HR2c.out)
  have HB6 := hid (below_then HB5.out HW5.out)
  have HFb := hid (hp_new w5 (.cells (fcells (kF 2) nS).toArray 29))
  have HLf0 : Hid (b < w5.heap.size) := hid HF5.out.lt.1
  have HVO0 := hid HF5.out.own
  obtain ⟨fb, HFBe⟩ : ∃ b, Hid (w5.heap.size = b) := ⟨_, rfl⟩
  rw [HFBe.out] at HFb HLf0 HVO0 ⊢
  have HVO : Hid (∀ k, v.ownBlock = some k → k < fb) := hid HVO0.out
  generalize w5.alloc (.cells (fcells (kF 2) nS).toArray 29) = w6 at HF6 HR1d HR2d HB6 HFb ⊢
  clear HF5 HR1c HR2c HB5 HW5
  have x0 : w6.cell? ⟨fb, 0, none⟩ = some (.int .i64 2) := (Fb.of HFb.out rfl).k
  go_wp2_with fail
  refine (kindOf_2 w6).mono ?_
  rintro e w7 ⟨rfl, hb7⟩
  have HF7 := hid (HF6.out.below hb7)
  have HR1e := hid (bel_keep hb7 HR1d.out)
  have HR2e := hid (bel_keep hb7 HR2d.out)
  have HB7 := hid (below_then HB6.out hb7)
  have HFc := hid (bel_keep hb7 HFb.out)
  clear hb7 HF6 HR1d HR2d HB6 HFb x0
  go_upto_region 6 with (first
    | (refine al_row (by rfl) 61 (by rfl) _ zeroKind ?_)
    | (refine st_new (by rfl) 61 _ _ (by rfl) k2 (by rfl) (by rfl) 61 _ kindSize rfl (kOf_one 2) ?_))
  have HW7 := hid (below_walk w7 (.cells (k2).toArray 61))
  have HF8 := hid (HF7.out.below HW7.out)
  have HR1 := hid (bel_keep HW7.out HR1e.out)
  have HR2 := hid (bel_keep HW7.out HR2e.out)
  have HB8 := hid (below_then HB7.out HW7.out)
  have HFd := hid (bel_keep HW7.out HFc.out)
  have HKb := hid (hp_new w7 (.cells (k2).toArray 61))
  have HLk : Hid (fb < w7.heap.size) := hid (hp_lt HFc.out)
  obtain ⟨kb, HKBe⟩ : ∃ b, Hid (w7.heap.size = b) := ⟨_, rfl⟩
  rw [HKBe.out] at HKb HLk ⊢
  generalize w7.alloc (.cells (k2).toArray 61) = w8 at HF8 HR1 HR2 HB8 HFd HKb ⊢
  clear HF7 HR1e HR2e HB7 HFc HW7 HZ2 HFBe HKBe
  have y4 : w8.cell? ⟨kb, 4, none⟩ = some (.func (.func 80) #[] #[]) := by rw [cell_of_row w8 kb 4 _ _ _ HKb.out]; rfl
  go_wp2_with (refine ld_row (by rfl) 29 (.tmp 6) (by rfl) fb (by rfl) (fcells (kF 2) nS) 29 HFd.out _ Try.underlying29 rfl (frame_size (kF 2) nS rfl) ?_)
  refine (readRequest_any w0.heap.size b rb v bs (oS bs 6 (A4, 0, 0)).2 w8 HBL.out HF8.out).mono ?_
  rintro e w9 ⟨va, rfl, hoa, hf9, hg9⟩
  have HLb8 : Hid (b < w8.heap.size) := hid HF8.out.lt.1
  have HLr8 : Hid (rb < w8.heap.size) := hid HF8.out.lt.2.1
  have HLk8 : Hid (kb < w8.heap.size) := hid (hp_lt HKb.out)
  have HS9 : Hid (w8.heap.size ≤ w9.heap.size) := hid hg9.size
  have HOA := hid hoa
  have HF9 := hid hf9
  have HR1f := hid (hg9.keep HR1.out (by have := HLb.out; omega) (by have := HLr.out; omega))
  have HR2f := hid (hg9.keep HR2.out (by have := HLb.out; omega) (by have := HLr.out; omega))
  have HB9 := hid (hg9.below HB8.out (by have := HLb.out; have := HAA.out; omega) (by have := HLr.out; have := HAA.out; omega))
  have HFe := hid (hg9.keep HFd.out (by have := HLf0.out; omega) (by have := HLf0.out; have := HLrb.out; omega))
  have HKc := hid (hg9.keep HKb.out (by have := HLk.out; have := HLf0.out; omega) (by have := HLk.out; have := HLf0.out; have := HLrb.out; omega))
  have HTL := hid (show (fieldsP bs 2 (oS bs 6 (A4, 0, 0)).2).1.tool.length = 32 from fieldsP_tool bs 2 (oS bs 6 (A4, 0, 0)).2)
  obtain ⟨aV, cV, eV⟩ := wowns_shape hoa
  have HSZ := hid (frame_size (fieldsP bs 2 (oS bs 6 (A4, 0, 0)).2).1 va HTL.out)
  have HON := hid (fcells_one (fieldsP bs 2 (oS bs 6 (A4, 0, 0)).2).1 va (by rw [eV]; rfl))
  have HOS := hid (show (fcells (kF 2) nS).toArray.size = (fcells (fieldsP bs 2 (oS bs 6 (A4, 0, 0)).2).1 va).length by rw [fcells_length _ _ HTL.out]; rfl)
  obtain ⟨FF, HFF⟩ : ∃ L, Hid (fcells (fieldsP bs 2 (oS bs 6 (A4, 0, 0)).2).1 va = L) := ⟨_, rfl⟩
  rw [HFF.out] at HSZ HON HOS ⊢
  have HFV : Hid (∀ k, v.ownBlock = some k → k < fb) := hid (fun k hk => by have := HVO.out k hk; omega)
  clear hoa hf9 hg9 HF8 HR1 HR2 HB8 HFd HKb y4 eV
  go_upto_region 9 with (refine st_row (by rfl) 29 _ _ (by rfl) fb FF (by rfl) (by rfl) 29 _ HFe.out HSZ.out HOS.out HON.out ?_; intro w10 hw10)
  have HF10 := hid (HF9.out.far hw10.grown (by have := HLf0.out; omega) (by have := HLf0.out; have := HLrb.out; omega) (fun k hk => by have := HFV.out k hk; omega))
  have HR1g := hid (gb_keep hw10.grown HR1f.out (by have := HLf0.out; have := HLb.out; omega))
  have HR2g := hid (gb_keep hw10.grown HR2f.out (by have := HLf0.out; have := HLb.out; omega))
  have HKd := hid (gb_keep hw10.grown HKc.out (by have := HLk.out; omega))
  have HB10 := hid (Below.of_gb HB9.out hw10.grown (by have := HLf0.out; have := HLb.out; have := HAA.out; omega))
  have HFf := hid hw10.blk
  have HOA2 := hid (WOwnS.far HOA.out hw10.grown (fun j e => by injection e with e; have := HLk.out; have := HLk8.out; omega))
  have HS10 : Hid (w8.heap.size ≤ w10.heap.size) := hid (by have := hw10.size; have := HS9.out; omega)
  clear hw10 HF9 HR1f HR2f HKc HB9 HFe HOA HOS HS9
  go_wp2_with fail
  refine (fd_end w0.heap.size b rb v bs _ w10 HF10.out).mono ?_
  rintro e w11 ⟨rfl, hg11⟩
  have HR1h := hid (hg11.keep HR1g.out (by have := HLb.out; omega) (by have := HLr.out; omega))
  have HR2h := hid (hg11.keep HR2g.out (by have := HLb.out; omega) (by have := HLr.out; omega))
  have HB11 := hid (hg11.below HB10.out (by have := HLb.out; have := HAA.out; omega) (by have := HLr.out; have := HAA.out; omega))
  have HFg := hid (hg11.keep HFf.out (by have := HLf0.out; omega) (by have := HLf0.out; have := HLrb.out; omega))
  have HKe := hid (hg11.keep HKd.out (by have := HLk.out; have := HLf0.out; omega) (by have := HLk.out; have := HLf0.out; have := HLrb.out; omega))
  have HOA3 := hid (wowns_g2 HOA2.out hg11 HLb8.out HLr8.out)
  have HS11 : Hid (w8.heap.size ≤ w11.heap.size) := hid (by have := hg11.size; have := HS10.out; omega)
  obtain ⟨E1, HE1⟩ : ∃ x, Hid ((eS bs (fieldsP bs 2 (oS bs 6 (A4, 0, 0)).2).2).1 = x) := ⟨_, rfl⟩
  obtain ⟨E2, HE2⟩ : ∃ x, Hid ((eS bs (fieldsP bs 2 (oS bs 6 (A4, 0, 0)).2).2).2 = x) := ⟨_, rfl⟩
  rw [HE1.out, HE2.out]
  clear hg11 HF10 HR1g HR2g HB10 HFf HKd HOA2 HS10
  go_upto_region 10 with fail
  have HWT := hid (below_walk w11 (.cells #[.int .i64 E1, .int .i64 E2] 47))
  have HR1i := hid (bel_keep HWT.out HR1h.out)
  have HR2i := hid (bel_keep HWT.out HR2h.out)
  have HB12 := hid (below_then HB11.out HWT.out)
  have HFh := hid (bel_keep HWT.out HFg.out)
  have HKf := hid (bel_keep HWT.out HKe.out)
  have HOA4 := hid (HOA3.out.alloc (.cells #[.int .i64 E1, .int .i64 E2] 47))
  have HTB0 := hid (hp_new w11 (.cells #[.int .i64 E1, .int .i64 E2] 47))
  have HLt0 : Hid (kb < w11.heap.size) := hid (hp_lt HKe.out)
  obtain ⟨tb, HTBe⟩ : ∃ b, Hid (w11.heap.size = b) := ⟨_, rfl⟩
  rw [HTBe.out] at HTB0 HLt0 ⊢
  generalize w11.alloc (.cells #[.int .i64 E1, .int .i64 E2] 47) = w12 at HR1i HR2i HB12 HFh HKf HOA4 HTB0 ⊢
  have HLt : Hid (A + 2 ≤ tb) := hid (by have := HLt0.out; have := HLk.out; have := HLf0.out; have := HLb.out; omega)
  have HL8t : Hid (w8.heap.size ≤ tb) := hid (by have := HS11.out; have := HTBe.out; omega)
  clear HR1h HR2h HB11 HFg HKe HOA3 HWT HTBe HS11
  have t0 : w12.cell? ⟨tb, 0, none⟩ = some (.int .i64 E1) := by simp [World.cell?, HTB0.out]
  have t1 : w12.cell? ⟨tb, 1, none⟩ = some (.int .i64 E2) := by simp [World.cell?, HTB0.out]
  have f0 := row_fz HTB0.out 0
  have f1 := row_fz HTB0.out 1
  by_cases hE : E1 = 0
  · obtain ⟨M, HM⟩ : ∃ M, Hid (mayF (fieldsP bs 2 (oS bs 6 (A4, 0, 0)).2).1 = M) := ⟨_, rfl⟩
    have HST := hid (wowns_strs HOA4.out)
    have HMN : Hid ((fieldsP bs 2 (oS bs 6 (A4, 0, 0)).2).1.args.length ≤ 9223372036854775807) := hid (wowns_len HOA4.out)
    have HMAY := hid (show Calls Try.prog 78 #[.agg FF.toArray] w12 fun e w' => e = .returned (.bool M) ∧ Below w12.heap.size w12 w' by
      rw [← HM.out, mayF_2 _ (fieldsP_kind bs 2 (oS bs 6 (A4, 0, 0)).2 (by omega)), ← HFF.out]
      exact mayRequest_any (fieldsP bs 2 (oS bs 6 (A4, 0, 0)).2).1 va w12 HTL.out HST.out HMN.out)
    subst hE
    have y2 : w12.cell? ⟨kb, 2, none⟩ = some (.func (.func 78) #[] #[]) := by rw [cell_of_row w12 kb 2 _ _ _ HKf.out]; rfl
    have HRG := hid (range_row HFh.out)
    clear HST HMN
    go_wp2_with (refine ld_gd (by rfl) 29 (.tmp 6) (by rfl) fb 0 (by rfl) FF _ HRG.out Try.underlying29 rfl HSZ.out ?_)
    refine HMAY.out.mono ?_
    rintro e w13 ⟨rfl, hb13⟩
    have HR1z := hid (bel_keep hb13 HR1i.out)
    have HR2z := hid (bel_keep hb13 HR2i.out)
    have HBz := hid (below_then HB12.out hb13)
    have HFz := hid (bel_keep hb13 HFh.out)
    have HTBz := hid (bel_keep hb13 HTB0.out)
    have HOAz := hid (WOwnS.far HOA4.out (below_gb hb13 none) (fun j e => by cases e))
    clear hb13 HR1i HR2i HB12 HFh HTB0 HKf HOA4 HMAY HRG y2 t0 t1 f0 f1
    have t0 : w13.cell? ⟨tb, 0, none⟩ = some (.int .i64 0) := by simp [World.cell?, HTBz.out]
    have t1 : w13.cell? ⟨tb, 1, none⟩ = some (.int .i64 E2) := by simp [World.cell?, HTBz.out]
    have f0 := row_fz HTBz.out 0
    have f1 := row_fz HTBz.out 1
    cases M with
    | true =>
      as_aux_lemma =>
        have HFP := hid (frameP_ok bs A4 2 HK.out (by omega) HE1.out HM.out)
        go_wp2_with (first
          | (refine ld_row (by rfl) 29 (.tmp 6) (by rfl) fb (by rfl) FF 29 HFz.out _ Try.underlying29 rfl HSZ.out ?_)
          | (refine bd_row (by rfl) 47 #[] (by rfl) _ (by simp [Act.eval]) _ built_fz ?_)
          | (refine st_row (by rfl) 29 _ _ (by rfl) A FF (by rfl) (by rfl) 29 _ HR1z.out HSZ.out (by rw [← HFF.out, fcells_length _ _ HTL.out]; rfl) HON.out ?_; intro w14 hw14)
          | (refine st_row (by rfl) 47 _ _ (by rfl) (A + 1) [Value.int .i64 0, .int .i64 0] (by rfl) (by rfl) 47 _ (gb_keep hw14.grown HR2z.out (by omega)) faultSize rfl (fault_one _ _) ?_; intro w15 hw15))
        refine ret_cc 2 3 29 47 rfl A rfl (A + 1) rfl FF 29 (gb_keep hw15.grown hw14.blk (by omega)) _ Try.underlying29 rfl HSZ.out _ 47 hw15.blk _ Try.underlying47 rfl faultSize rfl ?_
        rw [HFP.out]
        refine ⟨va, by rw [← HFF.out]; rfl, ?_, Below.of_gb (Below.of_gb HBz.out hw14.grown (by have := HAA.out; omega)) hw15.grown (by have := HAA.out; omega)⟩
        exact (WOwnS.far (WOwnS.far HOAz.out hw14.grown (fun j e => by injection e with e; have := HLk8.out; have := HLk.out; have := HLf0.out; have := HLb.out; omega)) hw15.grown (fun j e => by injection e with e; have := HLk8.out; have := HLk.out; have := HLf0.out; have := HLb.out; omega)).le (by have := HLk8.out; have := HLk.out; have := HLf0.out; have := HLb.out; have := HAA.out; omega)
    | false =>
      as_aux_lemma =>
        have HFP := hid (frameP_may bs A4 2 HK.out (by omega) HE1.out HM.out)
        go_upto_region 12 with (first
          | (refine bd_row (by rfl) 47 #[(0, .const (.int .i64 70)), (1, .tmp 55)] (by rfl) _ (by simp [Act.eval]) _ (built_ft 70 (A4 : Int)) ?_)
          | (refine st_row (by rfl) 47 _ _ (by rfl) tb [Value.int .i64 70, .int .i64 (A4 : Int)] (by rfl) (by rfl) 47 _ HTBz.out faultSize rfl (fault_one _ _) ?_; intro w14 hw14))
        have HTB := hid hw14.blk
        have HR1y := hid (gb_keep hw14.grown HR1z.out (by have := HLt.out; omega))
        have HR2y := hid (gb_keep hw14.grown HR2z.out (by have := HLt.out; omega))
        have HBy := hid (Below.of_gb HBz.out hw14.grown (by have := HLt.out; have := HAA.out; omega))
        clear hw14 HR1z HR2z HBz t0 t1 f0 f1
        have HR1z := hid HR1y.out
        have HR2z := hid HR2y.out
        have HBz := hid HBy.out
        have t0 : w14.cell? ⟨tb, 0, none⟩ = some (.int .i64 70) := by simp [World.cell?, HTB.out]
        go_upto_region 13 with fail
        have HTBc := hid HTB.out
        refine wp_noPanic (wp_region_held_drew (S := fun W => W.heap[tb]? = some (.cells [Value.int .i64 70, .int .i64 (A4 : Int)].toArray 47 (0, 0))) (by kernel_rfl) HTBc.out ?_)
        intro hHeld
        refine wpAnyH_take (i := 0) (v := .agg (fcells zF nS).toArray) rfl (by kernel_rfl) (by kernel_rfl) (by kernel_rfl) (fun _ _ _ h => h) (yields_build (by rfl) 29 #[] (by rfl) _ (by simp [Act.eval]) _ built_zf) hHeld ?_
        simp only [Act.put, List.getElem_toArray, List.getElem_cons_zero, List.setIfInBounds_toArray, List.set_cons_succ, List.set_cons_zero]
        refine wpAnyH_take (i := 1) (v := .agg [Value.int .i64 70, .int .i64 (A4 : Int)].toArray) rfl (by kernel_rfl) (by kernel_rfl) (by kernel_rfl) (fun _ _ _ h => h) (yieldsIf_load_mid (by rfl) 47 (.tmp 9) rfl tb 0 rfl [Value.int .i64 70, .int .i64 (A4 : Int)] _ (fun W hW => range_row hW) Try.underlying47 rfl faultSize) hHeld ?_
        simp only [Act.put, List.getElem_toArray, List.getElem_cons_zero, List.getElem_cons_succ, List.setIfInBounds_toArray, List.set_cons_succ, List.set_cons_zero]
        obtain ⟨wx, HWX⟩ : ∃ x, Hid (w14.drew = x) := ⟨_, rfl⟩
        have HR1x := hid (show w14.drew.heap[A]? = _ from HR1z.out)
        have HR2x := hid (show w14.drew.heap[A + 1]? = _ from HR2z.out)
        have HTBx := hid (show w14.drew.heap[tb]? = some (.cells [Value.int .i64 70, .int .i64 (A4 : Int)].toArray 47 (0, 0)) from HTB.out)
        have HBx := hid (show Below w.heap.size w w14.drew from below_tr HBz.out ⟨rfl, rfl, rfl, Nat.le_refl _, fun _ _ => rfl⟩)
        rw [HWX.out] at hHeld HR1x HR2x HTBx HBx ⊢
        refine wpAnyH_ready (rs := [2]) (by kernel_rfl) (by simp) ?_
        refine AllReadyH.cons rfl (fun K9 hK9 => ?_) AllReadyH.nil
        refine step_store_row (by rfl) 29 _ _ (by rfl) A (fcells zF nS) (by rfl) (by rfl) 29 _ HR1x.out (frame_size zF nS rfl) rfl (fcells_one zF nS rfl) ?_
        intro wy hwy
        refine hK9.out _ _ (gb_keep hwy.grown HTBx.out (by have := HLt.out; omega)) (fun hHeld => ?_)
        clear hK9 K9
        try simp only [Act.put, List.getElem_toArray, List.getElem_cons_zero, List.getElem_cons_succ]
        refine wpAnyH_ready (rs := [3]) (by kernel_rfl) (by simp) ?_
        refine AllReadyH.cons rfl (fun K9 hK9 => ?_) AllReadyH.nil
        refine step_store_row (by rfl) 47 _ _ (by rfl) (A + 1) [Value.int .i64 70, .int .i64 (A4 : Int)] (by rfl) (by rfl) 47 _ (gb_keep hwy.grown HR2x.out (by omega)) faultSize rfl (fault_one _ _) ?_
        intro wz hwz
        refine hK9.out _ _ (gb_keep hwz.grown (gb_keep hwy.grown HTBx.out (by have := HLt.out; omega)) (by have := HLt.out; omega)) (fun hHeld => ?_)
        clear hK9 K9
        try simp only [Act.put, List.getElem_toArray, List.getElem_cons_zero, List.getElem_cons_succ]
        refine wpAnyH_done (by kernel_rfl) ?_ _
        simp only [noPanic]
        clear hHeld
        go_wp2
        refine ret_cc 2 3 29 47 rfl A rfl (A + 1) rfl (fcells zF nS) 29 (gb_keep hwz.grown hwy.blk (by omega)) _ Try.underlying29 rfl (frame_size zF nS rfl) _ 47 hwz.blk _ Try.underlying47 rfl faultSize rfl ?_
        rw [HFP.out]
        refine ⟨nS, rfl, World.ownsRow_nil _ _ _ _, ?_⟩
        exact Below.of_gb (Below.of_gb HBx.out hwy.grown (by have := HAA.out; omega)) hwz.grown (by have := HAA.out; omega)

  · as_aux_lemma =>
      have q1 : (E1 == 0) = false := by simpa using hE
      have q2 : (E1 != 0) = true := by simpa using hE
      have HFP := hid (show frameP bs A4 = (zF, E1, E2) by
        rw [frameP_bad bs A4 2 HK.out (by omega) (show (eS bs (fieldsP bs 2 (oS bs 6 (A4, 0, 0)).2).2).1 ≠ 0 by rw [HE1.out]; exact hE), ← HE1.out, ← HE2.out]; rfl)
      have HR1z := hid HR1i.out
      have HR2z := hid HR2i.out
      have HBz := hid HB12.out
      have HTB := hid (show w12.heap[tb]? = some (.cells [Value.int .i64 E1, .int .i64 E2].toArray 47 (0, 0)) from HTB0.out)
      clear hE
      go_upto_region 13 with fail
      have HTBc := hid HTB.out
      refine wp_noPanic (wp_region_held_drew (S := fun W => W.heap[tb]? = some (.cells [Value.int .i64 E1, .int .i64 E2].toArray 47 (0, 0))) (by kernel_rfl) HTBc.out ?_)
      intro hHeld
      refine wpAnyH_take (i := 0) (v := .agg (fcells zF nS).toArray) rfl (by kernel_rfl) (by kernel_rfl) (by kernel_rfl) (fun _ _ _ h => h) (yields_build (by rfl) 29 #[] (by rfl) _ (by simp [Act.eval]) _ built_zf) hHeld ?_
      simp only [Act.put, List.getElem_toArray, List.getElem_cons_zero, List.setIfInBounds_toArray, List.set_cons_succ, List.set_cons_zero]
      refine wpAnyH_take (i := 1) (v := .agg [Value.int .i64 E1, .int .i64 E2].toArray) rfl (by kernel_rfl) (by kernel_rfl) (by kernel_rfl) (fun _ _ _ h => h) (yieldsIf_load_mid (by rfl) 47 (.tmp 9) rfl tb 0 rfl [Value.int .i64 E1, .int .i64 E2] _ (fun W hW => range_row hW) Try.underlying47 rfl faultSize) hHeld ?_
      simp only [Act.put, List.getElem_toArray, List.getElem_cons_zero, List.getElem_cons_succ, List.setIfInBounds_toArray, List.set_cons_succ, List.set_cons_zero]
      obtain ⟨wx, HWX⟩ : ∃ x, Hid (w12.drew = x) := ⟨_, rfl⟩
      have HR1x := hid (show w12.drew.heap[A]? = _ from HR1z.out)
      have HR2x := hid (show w12.drew.heap[A + 1]? = _ from HR2z.out)
      have HTBx := hid (show w12.drew.heap[tb]? = some (.cells [Value.int .i64 E1, .int .i64 E2].toArray 47 (0, 0)) from HTB.out)
      have HBx := hid (show Below w.heap.size w w12.drew from below_tr HBz.out ⟨rfl, rfl, rfl, Nat.le_refl _, fun _ _ => rfl⟩)
      rw [HWX.out] at hHeld HR1x HR2x HTBx HBx ⊢
      refine wpAnyH_ready (rs := [2]) (by kernel_rfl) (by simp) ?_
      refine AllReadyH.cons rfl (fun K9 hK9 => ?_) AllReadyH.nil
      refine step_store_row (by rfl) 29 _ _ (by rfl) A (fcells zF nS) (by rfl) (by rfl) 29 _ HR1x.out (frame_size zF nS rfl) rfl (fcells_one zF nS rfl) ?_
      intro wy hwy
      refine hK9.out _ _ (gb_keep hwy.grown HTBx.out (by have := HLt.out; omega)) (fun hHeld => ?_)
      clear hK9 K9
      try simp only [Act.put, List.getElem_toArray, List.getElem_cons_zero, List.getElem_cons_succ]
      refine wpAnyH_ready (rs := [3]) (by kernel_rfl) (by simp) ?_
      refine AllReadyH.cons rfl (fun K9 hK9 => ?_) AllReadyH.nil
      refine step_store_row (by rfl) 47 _ _ (by rfl) (A + 1) [Value.int .i64 E1, .int .i64 E2] (by rfl) (by rfl) 47 _ (gb_keep hwy.grown HR2x.out (by omega)) faultSize rfl (fault_one _ _) ?_
      intro wz hwz
      refine hK9.out _ _ (gb_keep hwz.grown (gb_keep hwy.grown HTBx.out (by have := HLt.out; omega)) (by have := HLt.out; omega)) (fun hHeld => ?_)
      clear hK9 K9
      try simp only [Act.put, List.getElem_toArray, List.getElem_cons_zero, List.getElem_cons_succ]
      refine wpAnyH_done (by kernel_rfl) ?_ _
      simp only [noPanic]
      clear hHeld
      go_wp2
      refine ret_cc 2 3 29 47 rfl A rfl (A + 1) rfl (fcells zF nS) 29 (gb_keep hwz.grown hwy.blk (by omega)) _ Try.underlying29 rfl (frame_size zF nS rfl) _ 47 hwz.blk _ Try.underlying47 rfl faultSize rfl ?_
      rw [HFP.out]
      refine ⟨nS, rfl, World.ownsRow_nil _ _ _ _, ?_⟩
      exact Below.of_gb (Below.of_gb HBx.out hwy.grown (by have := HAA.out; omega)) hwz.grown (by have := HAA.out; omega)

end Go.Proofs.Ytjinkahlfigdcaa

/- readFrame, where the kind that is read is 3. -/
namespace Go.Proofs.Ytjinkahlfigdcaa
open Go.RowKit Go.BigFrame

set_option maxRecDepth 100000 in
set_option maxHeartbeats 8000000 in
theorem readFrame_3 (v0 : Value) (bs : List UInt8) (head N : Nat) (w : World) (hs : Src w v0 bs) (hbl : bs.length ≤ 1099511627776) (hu : uS bs (0, 0, 0) = (N, head, 0, 0)) (hK : (oS bs 6 (head, 0, 0)).1 = 3) :
    Calls Try.prog 32 #[v0] w fun e w' => ∃ va, e = .returned (.tuple #[.agg (fcells (frameP bs head).1 va).toArray, .agg #[.int .i64 (frameP bs head).2.1, .int .i64 (frameP bs head).2.2]]) ∧ WOwnS w' w.heap.size va (frameP bs head).1.args ∧ Below w.heap.size w w' := by
  obtain ⟨va0, c0, rfl⟩ := src_shape hs
  obtain ⟨L0, HL0⟩ : ∃ n, Hid (bs.length = n) := ⟨_, rfl⟩
  obtain ⟨A, HAA⟩ : ∃ n, Hid (w.heap.size = n) := ⟨_, rfl⟩
  have HB0 := hid (below_walk2 w (.cells (fcells zF nS).toArray 29) (.cells #[.int .i64 0, .int .i64 0] 47))
  have HNB := hid (hp_two w (.cells (fcells zF nS).toArray 29) (.cells #[.int .i64 0, .int .i64 0] 47))
  have HZ : Hid ((w.alloc (.cells (fcells zF nS).toArray 29)).heap.size = w.heap.size + 1) := hid (by simp)
  have HZ2 : Hid (((w.alloc (.cells (fcells zF nS).toArray 29)).alloc (.cells #[.int .i64 0, .int .i64 0] 47)).heap.size = w.heap.size + 2) := hid (by simp)
  have HNR := hid (newReader_any _ bs _ (hs.below HB0.out))
  have HU := hid hu
  have HK := hid hK
  have HBL := hid hbl
  clear hs hbl hu hK
  go_enter Try.func32, Try.ntmps32
  go_upto_region 1 with (refine al_row (by rfl) 29 (by rfl) _ zeroFrame ?_)
  try rw [HZ.out]
  generalize (w.alloc (.cells (fcells zF nS).toArray 29)).alloc (.cells #[.int .i64 0, .int .i64 0] 47) = w0 at HB0 HNB HZ2 HNR ⊢
  rw [HAA.out] at HNB HZ2 ⊢
  have HR1 := hid HNB.out.1
  have HR2 := hid HNB.out.2
  clear HNB HZ
  go_wp2_with fail
  refine HNR.out.mono ?_
  rintro e w1 ⟨rb, v, rfl, hr1, hb1⟩
  obtain ⟨b, HBb⟩ : ∃ b, Hid (w1.heap.size = b) := ⟨_, rfl⟩
  have HLb : Hid (A + 2 ≤ b) := hid (by have := hb1.size; have := HZ2.out; have := HBb.out; omega)
  have HLr : Hid (A + 2 ≤ rb) := hid (by have := hr1.lo; have := HZ2.out; omega)
  have HLrb : Hid (rb < b) := hid (by have := hr1.lt; have := HBb.out; omega)
  have HAW := hid (below_walk w1 (.cells #[.pointer (some ⟨rb, 0, none⟩), .int .i64 0, .int .i64 0] 93))
  have HFD := hid (show Fd (w1.alloc (.cells #[.pointer (some ⟨rb, 0, none⟩), .int .i64 0, .int .i64 0] 93)) w0.heap.size b rb v bs (0, 0, 0) from ⟨0, 0, 0, 0, 0, hr1.below HAW.out, HBb.out ▸ hp_new w1 _, by have := HLrb.out; omega, fun e => by have := (hr1.own.lt _ e).2; have := HBb.out; omega, by have := hb1.size; have := HBb.out; omega, Or.inl ⟨rfl, rfl⟩⟩)
  have HR1a := hid (bel_keep HAW.out (bel_keep hb1 HR1.out))
  have HR2a := hid (bel_keep HAW.out (bel_keep hb1 HR2.out))
  have HB1 := hid (below_then (below_then HB0.out hb1) HAW.out)
  clear hr1 hb1 HR1 HR2 HB0 HNR HAW
  go_upto_region 2 with fail
  rw [HBb.out]
  generalize w1.alloc (.cells #[.pointer (some ⟨rb, 0, none⟩), .int .i64 0, .int .i64 0] 93) = w2 at HFD HR1a HR2a HB1 ⊢
  have p2 := HFD.out.ptr
  go_wp2_with fail
  refine (fd_uint HFD.out).mono ?_
  rintro e w3 ⟨rfl, hf3, hg3⟩
  rw [HU.out] at hf3
  have HF3 := hid (show Fd w3 w0.heap.size b rb v bs (head, 0, 0) from hf3)
  have HR1b := hid (gb_keep hg3 HR1a.out (by have := HLr.out; omega))
  have HR2b := hid (gb_keep hg3 HR2a.out (by have := HLr.out; omega))
  have HB3 := hid (Below.of_gb HB1.out hg3 (by have := HLr.out; have := HAA.out; omega))
  clear hf3 hg3 p2 HFD HR1a HR2a HB1
  have p3 := HF3.out.ptr
  go_wp2_with fail
  refine (fd_at HF3.out).mono ?_
  rintro e w4 ⟨A4, rfl, hw4, hA4⟩
  have hw4 := hw4.symm
  subst hw4
  obtain rfl : A4 = head := hA4 rfl
  clear hA4 p3
  go_wp2_with fail
  refine (fd_some w0.heap.size b rb v bs (A4, 0, 0) 6 w3 (by omega) HF3.out).mono ?_
  rintro e w5 ⟨rfl, hf5, hg5⟩
  rw [show ((oS bs 6 (A4, 0, 0)).1 : Int) = 3 by rw [HK.out]; rfl]
  have HF5 := hid hf5
  have HR1c := hid (hg5.keep HR1b.out (by have := HLb.out; omega) (by have := HLr.out; omega))
  have HR2c := hid (hg5.keep HR2b.out (by have := HLb.out; omega) (by have := HLr.out; omega))
  have HB5 := hid (hg5.below HB3.out (by have := HLb.out; have := HAA.out; omega) (by have := HLr.out; have := HAA.out; omega))
  clear hf5 hg5 HF3 HR1b HR2b HB3
  go_upto_region 5 with (first
    | (refine bd_row (by rfl) 29 #[(0, .tmp 25)] (by rfl) _ (by simp [Act.eval]) _ built_k3 ?_)
    | (refine al_row (by rfl) 29 (by rfl) _ zeroFrame ?_)
    | (refine st_new (by rfl) 29 _ _ (by rfl) (fcells (kF 3) nS) (by rfl) (by rfl) 29 _ (frame_size (kF 3) nS rfl) rfl (fcells_one (kF 3) nS rfl) ?_))
  have HW5 := hid (below_walk w5 (.cells (fcells (kF 3) nS).toArray 29))
  have HF6 := hid (HF5.out.below HW5.out)
  have HR1d := hid (bel_keep HW5.out HR1c.out)
  have HR2d := hid (bel_keep HW5.out HR2c.out)
  have HB6 := hid (below_then HB5.out HW5.out)
  have HFb := hid (hp_new w5 (.cells (fcells (kF 3) nS).toArray 29))
  have HLf0 : Hid (b < w5.heap.size) := hid HF5.out.lt.1
  have HVO0 := hid HF5.out.own
  obtain ⟨fb, HFBe⟩ : ∃ b, Hid (w5.heap.size = b) := ⟨_, rfl⟩
  rw [HFBe.out] at HFb HLf0 HVO0 ⊢
  have HVO : Hid (∀ k, v.ownBlock = some k → k < fb) := hid HVO0.out
  generalize w5.alloc (.cells (fcells (kF 3) nS).toArray 29) = w6 at HF6 HR1d HR2d HB6 HFb ⊢
  clear HF5 HR1c HR2c HB5 HW5
  have x0 : w6.cell? ⟨fb, 0, none⟩ = some (.int .i64 3) := (Fb.of HFb.out rfl).k
  go_wp2_with fail
  refine (kindOf_3 w6).mono ?_
  rintro e w7 ⟨rfl, hb7⟩
  have HF7 := hid (HF6.out.below hb7)
  have HR1e := hid (bel_keep hb7 HR1d.out)
  have HR2e := hid (bel_keep hb7 HR2d.out)
  have HB7 := hid (below_then HB6.out hb7)
  have HFc := hid (bel_keep hb7 HFb.out)
  clear hb7 HF6 HR1d HR2d HB6 HFb x0
  go_upto_region 6 with (first
    | (refine al_row (by rfl) 61 (by rfl) _ zeroKind ?_)
    | (refine st_new (by rfl) 61 _ _ (by rfl) k3 (by rfl) (by rfl) 61 _ kindSize rfl (kOf_one 3) ?_))
  have HW7 := hid (below_walk w7 (.cells (k3).toArray 61))
  have HF8 := hid (HF7.out.below HW7.out)
  have HR1 := hid (bel_keep HW7.out HR1e.out)
  have HR2 := hid (bel_keep HW7.out HR2e.out)
  have HB8 := hid (below_then HB7.out HW7.out)
  have HFd := hid (bel_keep HW7.out HFc.out)
  have HKb := hid (hp_new w7 (.cells (k3).toArray 61))
  have HLk : Hid (fb < w7.heap.size) := hid (hp_lt HFc.out)
  obtain ⟨kb, HKBe⟩ : ∃ b, Hid (w7.heap.size = b) := ⟨_, rfl⟩
  rw [HKBe.out] at HKb HLk ⊢
  generalize w7.alloc (.cells (k3).toArray 61) = w8 at HF8 HR1 HR2 HB8 HFd HKb ⊢
  clear HF7 HR1e HR2e HB7 HFc HW7 HZ2 HFBe HKBe
  have y4 : w8.cell? ⟨kb, 4, none⟩ = some (.func (.func 84) #[] #[]) := by rw [cell_of_row w8 kb 4 _ _ _ HKb.out]; rfl
  go_wp2_with (refine ld_row (by rfl) 29 (.tmp 6) (by rfl) fb (by rfl) (fcells (kF 3) nS) 29 HFd.out _ Try.underlying29 rfl (frame_size (kF 3) nS rfl) ?_)
  refine (readResponse_any w0.heap.size b rb v bs (oS bs 6 (A4, 0, 0)).2 w8 HBL.out HF8.out).mono ?_
  rintro e w9 ⟨va, rfl, hoa, hf9, hg9⟩
  have HLb8 : Hid (b < w8.heap.size) := hid HF8.out.lt.1
  have HLr8 : Hid (rb < w8.heap.size) := hid HF8.out.lt.2.1
  have HLk8 : Hid (kb < w8.heap.size) := hid (hp_lt HKb.out)
  have HS9 : Hid (w8.heap.size ≤ w9.heap.size) := hid hg9.size
  have HOA := hid hoa
  have HF9 := hid hf9
  have HR1f := hid (hg9.keep HR1.out (by have := HLb.out; omega) (by have := HLr.out; omega))
  have HR2f := hid (hg9.keep HR2.out (by have := HLb.out; omega) (by have := HLr.out; omega))
  have HB9 := hid (hg9.below HB8.out (by have := HLb.out; have := HAA.out; omega) (by have := HLr.out; have := HAA.out; omega))
  have HFe := hid (hg9.keep HFd.out (by have := HLf0.out; omega) (by have := HLf0.out; have := HLrb.out; omega))
  have HKc := hid (hg9.keep HKb.out (by have := HLk.out; have := HLf0.out; omega) (by have := HLk.out; have := HLf0.out; have := HLrb.out; omega))
  have HTL := hid (show (fieldsP bs 3 (oS bs 6 (A4, 0, 0)).2).1.tool.length = 32 from fieldsP_tool bs 3 (oS bs 6 (A4, 0, 0)).2)
  obtain ⟨aV, cV, eV⟩ := wowns_shape hoa
  have HSZ := hid (frame_size (fieldsP bs 3 (oS bs 6 (A4, 0, 0)).2).1 va HTL.out)
  have HON := hid (fcells_one (fieldsP bs 3 (oS bs 6 (A4, 0, 0)).2).1 va (by rw [eV]; rfl))
  have HOS := hid (show (fcells (kF 3) nS).toArray.size = (fcells (fieldsP bs 3 (oS bs 6 (A4, 0, 0)).2).1 va).length by rw [fcells_length _ _ HTL.out]; rfl)
  obtain ⟨FF, HFF⟩ : ∃ L, Hid (fcells (fieldsP bs 3 (oS bs 6 (A4, 0, 0)).2).1 va = L) := ⟨_, rfl⟩
  rw [HFF.out] at HSZ HON HOS ⊢
  have HFV : Hid (∀ k, v.ownBlock = some k → k < fb) := hid (fun k hk => by have := HVO.out k hk; omega)
  clear hoa hf9 hg9 HF8 HR1 HR2 HB8 HFd HKb y4 eV
  go_upto_region 9 with (refine st_row (by rfl) 29 _ _ (by rfl) fb FF (by rfl) (by rfl) 29 _ HFe.out HSZ.out HOS.out HON.out ?_; intro w10 hw10)
  have HF10 := hid (HF9.out.far hw10.grown (by have := HLf0.out; omega) (by have := HLf0.out; have := HLrb.out; omega) (fun k hk => by have := HFV.out k hk; omega))
  have HR1g := hid (gb_keep hw10.grown HR1f.out (by have := HLf0.out; have := HLb.out; omega))
  have HR2g := hid (gb_keep hw10.grown HR2f.out (by have := HLf0.out; have := HLb.out; omega))
  have HKd := hid (gb_keep hw10.grown HKc.out (by have := HLk.out; omega))
  have HB10 := hid (Below.of_gb HB9.out hw10.grown (by have := HLf0.out; have := HLb.out; have := HAA.out; omega))
  have HFf := hid hw10.blk
  have HOA2 := hid (WOwnS.far HOA.out hw10.grown (fun j e => by injection e with e; have := HLk.out; have := HLk8.out; omega))
  have HS10 : Hid (w8.heap.size ≤ w10.heap.size) := hid (by have := hw10.size; have := HS9.out; omega)
  clear hw10 HF9 HR1f HR2f HKc HB9 HFe HOA HOS HS9
  go_wp2_with fail
  refine (fd_end w0.heap.size b rb v bs _ w10 HF10.out).mono ?_
  rintro e w11 ⟨rfl, hg11⟩
  have HR1h := hid (hg11.keep HR1g.out (by have := HLb.out; omega) (by have := HLr.out; omega))
  have HR2h := hid (hg11.keep HR2g.out (by have := HLb.out; omega) (by have := HLr.out; omega))
  have HB11 := hid (hg11.below HB10.out (by have := HLb.out; have := HAA.out; omega) (by have := HLr.out; have := HAA.out; omega))
  have HFg := hid (hg11.keep HFf.out (by have := HLf0.out; omega) (by have := HLf0.out; have := HLrb.out; omega))
  have HKe := hid (hg11.keep HKd.out (by have := HLk.out; have := HLf0.out; omega) (by have := HLk.out; have := HLf0.out; have := HLrb.out; omega))
  have HOA3 := hid (wowns_g2 HOA2.out hg11 HLb8.out HLr8.out)
  have HS11 : Hid (w8.heap.size ≤ w11.heap.size) := hid (by have := hg11.size; have := HS10.out; omega)
  obtain ⟨E1, HE1⟩ : ∃ x, Hid ((eS bs (fieldsP bs 3 (oS bs 6 (A4, 0, 0)).2).2).1 = x) := ⟨_, rfl⟩
  obtain ⟨E2, HE2⟩ : ∃ x, Hid ((eS bs (fieldsP bs 3 (oS bs 6 (A4, 0, 0)).2).2).2 = x) := ⟨_, rfl⟩
  rw [HE1.out, HE2.out]
  clear hg11 HF10 HR1g HR2g HB10 HFf HKd HOA2 HS10
  go_upto_region 10 with fail
  have HWT := hid (below_walk w11 (.cells #[.int .i64 E1, .int .i64 E2] 47))
  have HR1i := hid (bel_keep HWT.out HR1h.out)
  have HR2i := hid (bel_keep HWT.out HR2h.out)
  have HB12 := hid (below_then HB11.out HWT.out)
  have HFh := hid (bel_keep HWT.out HFg.out)
  have HKf := hid (bel_keep HWT.out HKe.out)
  have HOA4 := hid (HOA3.out.alloc (.cells #[.int .i64 E1, .int .i64 E2] 47))
  have HTB0 := hid (hp_new w11 (.cells #[.int .i64 E1, .int .i64 E2] 47))
  have HLt0 : Hid (kb < w11.heap.size) := hid (hp_lt HKe.out)
  obtain ⟨tb, HTBe⟩ : ∃ b, Hid (w11.heap.size = b) := ⟨_, rfl⟩
  rw [HTBe.out] at HTB0 HLt0 ⊢
  generalize w11.alloc (.cells #[.int .i64 E1, .int .i64 E2] 47) = w12 at HR1i HR2i HB12 HFh HKf HOA4 HTB0 ⊢
  have HLt : Hid (A + 2 ≤ tb) := hid (by have := HLt0.out; have := HLk.out; have := HLf0.out; have := HLb.out; omega)
  have HL8t : Hid (w8.heap.size ≤ tb) := hid (by have := HS11.out; have := HTBe.out; omega)
  clear HR1h HR2h HB11 HFg HKe HOA3 HWT HTBe HS11
  have t0 : w12.cell? ⟨tb, 0, none⟩ = some (.int .i64 E1) := by simp [World.cell?, HTB0.out]
  have t1 : w12.cell? ⟨tb, 1, none⟩ = some (.int .i64 E2) := by simp [World.cell?, HTB0.out]
  have f0 := row_fz HTB0.out 0
  have f1 := row_fz HTB0.out 1
  by_cases hE : E1 = 0
  · obtain ⟨M, HM⟩ : ∃ M, Hid (mayF (fieldsP bs 3 (oS bs 6 (A4, 0, 0)).2).1 = M) := ⟨_, rfl⟩
    have HST := hid (wowns_strs HOA4.out)
    have HMN : Hid ((fieldsP bs 3 (oS bs 6 (A4, 0, 0)).2).1.args.length ≤ 9223372036854775807) := hid (wowns_len HOA4.out)
    have HMAY := hid (show Calls Try.prog 82 #[.agg FF.toArray] w12 fun e w' => e = .returned (.bool M) ∧ Below w12.heap.size w12 w' by
      rw [← HM.out, mayF_3 _ (fieldsP_kind bs 3 (oS bs 6 (A4, 0, 0)).2 (by omega)), ← HFF.out]
      exact mayResponse_any (fieldsP bs 3 (oS bs 6 (A4, 0, 0)).2).1 va w12 HTL.out)
    subst hE
    have y2 : w12.cell? ⟨kb, 2, none⟩ = some (.func (.func 82) #[] #[]) := by rw [cell_of_row w12 kb 2 _ _ _ HKf.out]; rfl
    have HRG := hid (range_row HFh.out)
    clear HST HMN
    go_wp2_with (refine ld_gd (by rfl) 29 (.tmp 6) (by rfl) fb 0 (by rfl) FF _ HRG.out Try.underlying29 rfl HSZ.out ?_)
    refine HMAY.out.mono ?_
    rintro e w13 ⟨rfl, hb13⟩
    have HR1z := hid (bel_keep hb13 HR1i.out)
    have HR2z := hid (bel_keep hb13 HR2i.out)
    have HBz := hid (below_then HB12.out hb13)
    have HFz := hid (bel_keep hb13 HFh.out)
    have HTBz := hid (bel_keep hb13 HTB0.out)
    have HOAz := hid (WOwnS.far HOA4.out (below_gb hb13 none) (fun j e => by cases e))
    clear hb13 HR1i HR2i HB12 HFh HTB0 HKf HOA4 HMAY HRG y2 t0 t1 f0 f1
    have t0 : w13.cell? ⟨tb, 0, none⟩ = some (.int .i64 0) := by simp [World.cell?, HTBz.out]
    have t1 : w13.cell? ⟨tb, 1, none⟩ = some (.int .i64 E2) := by simp [World.cell?, HTBz.out]
    have f0 := row_fz HTBz.out 0
    have f1 := row_fz HTBz.out 1
    cases M with
    | true =>
      as_aux_lemma =>
        have HFP := hid (frameP_ok bs A4 3 HK.out (by omega) HE1.out HM.out)
        go_wp2_with (first
          | (refine ld_row (by rfl) 29 (.tmp 6) (by rfl) fb (by rfl) FF 29 HFz.out _ Try.underlying29 rfl HSZ.out ?_)
          | (refine bd_row (by rfl) 47 #[] (by rfl) _ (by simp [Act.eval]) _ built_fz ?_)
          | (refine st_row (by rfl) 29 _ _ (by rfl) A FF (by rfl) (by rfl) 29 _ HR1z.out HSZ.out (by rw [← HFF.out, fcells_length _ _ HTL.out]; rfl) HON.out ?_; intro w14 hw14)
          | (refine st_row (by rfl) 47 _ _ (by rfl) (A + 1) [Value.int .i64 0, .int .i64 0] (by rfl) (by rfl) 47 _ (gb_keep hw14.grown HR2z.out (by omega)) faultSize rfl (fault_one _ _) ?_; intro w15 hw15))
        refine ret_cc 2 3 29 47 rfl A rfl (A + 1) rfl FF 29 (gb_keep hw15.grown hw14.blk (by omega)) _ Try.underlying29 rfl HSZ.out _ 47 hw15.blk _ Try.underlying47 rfl faultSize rfl ?_
        rw [HFP.out]
        refine ⟨va, by rw [← HFF.out]; rfl, ?_, Below.of_gb (Below.of_gb HBz.out hw14.grown (by have := HAA.out; omega)) hw15.grown (by have := HAA.out; omega)⟩
        exact (WOwnS.far (WOwnS.far HOAz.out hw14.grown (fun j e => by injection e with e; have := HLk8.out; have := HLk.out; have := HLf0.out; have := HLb.out; omega)) hw15.grown (fun j e => by injection e with e; have := HLk8.out; have := HLk.out; have := HLf0.out; have := HLb.out; omega)).le (by have := HLk8.out; have := HLk.out; have := HLf0.out; have := HLb.out; have := HAA.out; omega)
    | false =>
      as_aux_lemma =>
        have HFP := hid (frameP_may bs A4 3 HK.out (by omega) HE1.out HM.out)
        go_upto_region 12 with (first
          | (refine bd_row (by rfl) 47 #[(0, .const (.int .i64 70)), (1, .tmp 55)] (by rfl) _ (by simp [Act.eval]) _ (built_ft 70 (A4 : Int)) ?_)
          | (refine st_row (by rfl) 47 _ _ (by rfl) tb [Value.int .i64 70, .int .i64 (A4 : Int)] (by rfl) (by rfl) 47 _ HTBz.out faultSize rfl (fault_one _ _) ?_; intro w14 hw14))
        have HTB := hid hw14.blk
        have HR1y := hid (gb_keep hw14.grown HR1z.out (by have := HLt.out; omega))
        have HR2y := hid (gb_keep hw14.grown HR2z.out (by have := HLt.out; omega))
        have HBy := hid (Below.of_gb HBz.out hw14.grown (by have := HLt.out; have := HAA.out; omega))
        clear hw14 HR1z HR2z HBz t0 t1 f0 f1
        have HR1z := hid HR1y.out
        have HR2z := hid HR2y.out
        have HBz := hid HBy.out
        have t0 : w14.cell? ⟨tb, 0, none⟩ = some (.int .i64 70) := by simp [World.cell?, HTB.out]
        go_upto_region 13 with fail
        have HTBc := hid HTB.out
        refine wp_noPanic (wp_region_held_drew (S := fun W => W.heap[tb]? = some (.cells [Value.int .i64 70, .int .i64 (A4 : Int)].toArray 47 (0, 0))) (by kernel_rfl) HTBc.out ?_)
        intro hHeld
        refine wpAnyH_take (i := 0) (v := .agg (fcells zF nS).toArray) rfl (by kernel_rfl) (by kernel_rfl) (by kernel_rfl) (fun _ _ _ h => h) (yields_build (by rfl) 29 #[] (by rfl) _ (by simp [Act.eval]) _ built_zf) hHeld ?_
        simp only [Act.put, List.getElem_toArray, List.getElem_cons_zero, List.setIfInBounds_toArray, List.set_cons_succ, List.set_cons_zero]
        refine wpAnyH_take (i := 1) (v := .agg [Value.int .i64 70, .int .i64 (A4 : Int)].toArray) rfl (by kernel_rfl) (by kernel_rfl) (by kernel_rfl) (fun _ _ _ h => h) (yieldsIf_load_mid (by rfl) 47 (.tmp 9) rfl tb 0 rfl [Value.int .i64 70, .int .i64 (A4 : Int)] _ (fun W hW => range_row hW) Try.underlying47 rfl faultSize) hHeld ?_
        simp only [Act.put, List.getElem_toArray, List.getElem_cons_zero, List.getElem_cons_succ, List.setIfInBounds_toArray, List.set_cons_succ, List.set_cons_zero]
        obtain ⟨wx, HWX⟩ : ∃ x, Hid (w14.drew = x) := ⟨_, rfl⟩
        have HR1x := hid (show w14.drew.heap[A]? = _ from HR1z.out)
        have HR2x := hid (show w14.drew.heap[A + 1]? = _ from HR2z.out)
        have HTBx := hid (show w14.drew.heap[tb]? = some (.cells [Value.int .i64 70, .int .i64 (A4 : Int)].toArray 47 (0, 0)) from HTB.out)
        have HBx := hid (show Below w.heap.size w w14.drew from below_tr HBz.out ⟨rfl, rfl, rfl, Nat.le_refl _, fun _ _ => rfl⟩)
        rw [HWX.out] at hHeld HR1x HR2x HTBx HBx ⊢
        refine wpAnyH_ready (rs := [2]) (by kernel_rfl) (by simp) ?_
        refine AllReadyH.cons rfl (fun K9 hK9 => ?_) AllReadyH.nil
        refine step_store_row (by rfl) 29 _ _ (by rfl) A (fcells zF nS) (by rfl) (by rfl) 29 _ HR1x.out (frame_size zF nS rfl) rfl (fcells_one zF nS rfl) ?_
        intro wy hwy
        refine hK9.out _ _ (gb_keep hwy.grown HTBx.out (by have := HLt.out; omega)) (fun hHeld => ?_)
        clear hK9 K9
        try simp only [Act.put, List.getElem_toArray, List.getElem_cons_zero, List.getElem_cons_succ]
        refine wpAnyH_ready (rs := [3]) (by kernel_rfl) (by simp) ?_
        refine AllReadyH.cons rfl (fun K9 hK9 => ?_) AllReadyH.nil
        refine step_store_row (by rfl) 47 _ _ (by rfl) (A + 1) [Value.int .i64 70, .int .i64 (A4 : Int)] (by rfl) (by rfl) 47 _ (gb_keep hwy.grown HR2x.out (by omega)) faultSize rfl (fault_one _ _) ?_
        intro wz hwz
        refine hK9.out _ _ (gb_keep hwz.grown (gb_keep hwy.grown HTBx.out (by have := HLt.out; omega)) (by have := HLt.out; omega)) (fun hHeld => ?_)
        clear hK9 K9
        try simp only [Act.put, List.getElem_toArray, List.getElem_cons_zero, List.getElem_cons_succ]
        refine wpAnyH_done (by kernel_rfl) ?_ _
        simp only [noPanic]
        clear hHeld
        go_wp2
        refine ret_cc 2 3 29 47 rfl A rfl (A + 1) rfl (fcells zF nS) 29 (gb_keep hwz.grown hwy.blk (by omega)) _ Try.underlying29 rfl (frame_size zF nS rfl) _ 47 hwz.blk _ Try.underlying47 rfl faultSize rfl ?_
        rw [HFP.out]
        refine ⟨nS, rfl, World.ownsRow_nil _ _ _ _, ?_⟩
        exact Below.of_gb (Below.of_gb HBx.out hwy.grown (by have := HAA.out; omega)) hwz.grown (by have := HAA.out; omega)

  · as_aux_lemma =>
      have q1 : (E1 == 0) = false := by simpa using hE
      have q2 : (E1 != 0) = true := by simpa using hE
      have HFP := hid (show frameP bs A4 = (zF, E1, E2) by
        rw [frameP_bad bs A4 3 HK.out (by omega) (show (eS bs (fieldsP bs 3 (oS bs 6 (A4, 0, 0)).2).2).1 ≠ 0 by rw [HE1.out]; exact hE), ← HE1.out, ← HE2.out]; rfl)
      have HR1z := hid HR1i.out
      have HR2z := hid HR2i.out
      have HBz := hid HB12.out
      have HTB := hid (show w12.heap[tb]? = some (.cells [Value.int .i64 E1, .int .i64 E2].toArray 47 (0, 0)) from HTB0.out)
      clear hE
      go_upto_region 13 with fail
      have HTBc := hid HTB.out
      refine wp_noPanic (wp_region_held_drew (S := fun W => W.heap[tb]? = some (.cells [Value.int .i64 E1, .int .i64 E2].toArray 47 (0, 0))) (by kernel_rfl) HTBc.out ?_)
      intro hHeld
      refine wpAnyH_take (i := 0) (v := .agg (fcells zF nS).toArray) rfl (by kernel_rfl) (by kernel_rfl) (by kernel_rfl) (fun _ _ _ h => h) (yields_build (by rfl) 29 #[] (by rfl) _ (by simp [Act.eval]) _ built_zf) hHeld ?_
      simp only [Act.put, List.getElem_toArray, List.getElem_cons_zero, List.setIfInBounds_toArray, List.set_cons_succ, List.set_cons_zero]
      refine wpAnyH_take (i := 1) (v := .agg [Value.int .i64 E1, .int .i64 E2].toArray) rfl (by kernel_rfl) (by kernel_rfl) (by kernel_rfl) (fun _ _ _ h => h) (yieldsIf_load_mid (by rfl) 47 (.tmp 9) rfl tb 0 rfl [Value.int .i64 E1, .int .i64 E2] _ (fun W hW => range_row hW) Try.underlying47 rfl faultSize) hHeld ?_
      simp only [Act.put, List.getElem_toArray, List.getElem_cons_zero, List.getElem_cons_succ, List.setIfInBounds_toArray, List.set_cons_succ, List.set_cons_zero]
      obtain ⟨wx, HWX⟩ : ∃ x, Hid (w12.drew = x) := ⟨_, rfl⟩
      have HR1x := hid (show w12.drew.heap[A]? = _ from HR1z.out)
      have HR2x := hid (show w12.drew.heap[A + 1]? = _ from HR2z.out)
      have HTBx := hid (show w12.drew.heap[tb]? = some (.cells [Value.int .i64 E1, .int .i64 E2].toArray 47 (0, 0)) from HTB.out)
      have HBx := hid (show Below w.heap.size w w12.drew from below_tr HBz.out ⟨rfl, rfl, rfl, Nat.le_refl _, fun _ _ => rfl⟩)
      rw [HWX.out] at hHeld HR1x HR2x HTBx HBx ⊢
      refine wpAnyH_ready (rs := [2]) (by kernel_rfl) (by simp) ?_
      refine AllReadyH.cons rfl (fun K9 hK9 => ?_) AllReadyH.nil
      refine step_store_row (by rfl) 29 _ _ (by rfl) A (fcells zF nS) (by rfl) (by rfl) 29 _ HR1x.out (frame_size zF nS rfl) rfl (fcells_one zF nS rfl) ?_
      intro wy hwy
      refine hK9.out _ _ (gb_keep hwy.grown HTBx.out (by have := HLt.out; omega)) (fun hHeld => ?_)
      clear hK9 K9
      try simp only [Act.put, List.getElem_toArray, List.getElem_cons_zero, List.getElem_cons_succ]
      refine wpAnyH_ready (rs := [3]) (by kernel_rfl) (by simp) ?_
      refine AllReadyH.cons rfl (fun K9 hK9 => ?_) AllReadyH.nil
      refine step_store_row (by rfl) 47 _ _ (by rfl) (A + 1) [Value.int .i64 E1, .int .i64 E2] (by rfl) (by rfl) 47 _ (gb_keep hwy.grown HR2x.out (by omega)) faultSize rfl (fault_one _ _) ?_
      intro wz hwz
      refine hK9.out _ _ (gb_keep hwz.grown (gb_keep hwy.grown HTBx.out (by have := HLt.out; omega)) (by have := HLt.out; omega)) (fun hHeld => ?_)
      clear hK9 K9
      try simp only [Act.put, List.getElem_toArray, List.getElem_cons_zero, List.getElem_cons_succ]
      refine wpAnyH_done (by kernel_rfl) ?_ _
      simp only [noPanic]
      clear hHeld
      go_wp2
      refine ret_cc 2 3 29 47 rfl A rfl (A + 1) rfl (fcells zF nS) 29 (gb_keep hwz.grown hwy.blk (by omega)) _ Try.underlying29 rfl (frame_size zF nS rfl) _ 47 hwz.blk _ Try.underlying47 rfl faultSize rfl ?_
      rw [HFP.out]
      refine ⟨nS, rfl, World.ownsRow_nil _ _ _ _, ?_⟩
      exact Below.of_gb (Below.of_gb HBx.out hwy.grown (by have := HAA.out; omega)) hwz.grown (by have := HAA.out; omega)

end Go.Proofs.Ytjinkahlfigdcaa
