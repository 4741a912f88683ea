/- Contracts and pure facts that the proof needs, joined. -/
import Derived.Test.YtjinkahlfigdcaaG3
import Derived.Test.YtjinkahlfigdcaaG1
import Derived.Test.YtjinkahlfigdcaaG2
import Derived.Deep.Cut
import Derived.Deep.CutRange

/- The plan of a frame of kind 5. -/
namespace Go.Proofs.Ytjinkahlfigdcaa
open Go.RowKit Go.BigFrame

theorem kindOf_5 (w : World) : Calls Try.prog 40 #[.int .i64 5] w fun e w' => e = .returned (.tuple #[.agg k5.toArray, .bool true]) ∧ Below w.heap.size w w' := kindOf_any 5 w

set_option maxRecDepth 100000 in
set_option maxHeartbeats 8000000 in
theorem plan5_any (f : Fr) (va : Value) (w : World) (M : Bool) (Z : Int) (hf : f.tool.length = 32) (ha : Strs w va f.args) (hn : f.args.length ≤ 9223372036854775807) (hk : f.kind = 5)
    (hmay : ∀ W, Strs W va f.args → Calls Try.prog 86 #[.agg (fcells f va).toArray] W fun e w' => e = .returned (.bool M) ∧ Below W.heap.size W w')
    (hsz : sameP f (ownF f) = true → M = true → ∀ W, Strs W va f.args → Calls Try.prog 41 #[.agg k5.toArray, .agg (fcells f va).toArray] W fun e w' => e = .returned (.int .i64 Z) ∧ Below W.heap.size W w') :
    Calls Try.prog 22 #[.agg (fcells f va).toArray] w fun e w' => e = .returned (planA k5 (sameP f (ownF f)) M Z) ∧ Below w.heap.size w w' := by
  obtain ⟨ao, c, rfl⟩ := ha.shape
  have HNB := hid (hp_two w (.cells (fcells f (.slice ao f.args.length c)).toArray 29) (.cells zRow.toArray 61))
  have HBL := hid (below_walk2 w (.cells (fcells f (.slice ao f.args.length c)).toArray 29) (.cells zRow.toArray 61))
  have HZ : Hid ((w.alloc (.cells (fcells f (.slice ao f.args.length c)).toArray 29)).heap.size = w.heap.size + 1) := hid (by simp)
  have HSZ := hid (frame_size f (.slice ao f.args.length c) hf)
  have HS0 := hid ha
  have HF := hid hf
  have HK := hid hk
  have HOWN := hid (fun W => ownBye2_any f (.slice ao f.args.length c) W hk hf ⟨_, _, _, rfl⟩)
  have HSAME := hid (fun W (h : Strs W (.slice ao f.args.length c) f.args) => same_any f (ownF f) (.slice ao f.args.length c) (ownV f (.slice ao f.args.length c)) W hf (ownF_tool f hf) h (own_strs h) hn)
  have HMAY := hid hmay
  have HSIZE := hid hsz
  clear hf ha hn hk hmay hsz
  go_enter Try.func22, Try.ntmps22
  go_upto_region 1 with (refine al_row (by rfl) 61 (by rfl) _ zeroKind ?_)
  try rw [HZ.out]
  generalize (w.alloc (.cells (fcells f (.slice ao f.args.length c)).toArray 29)).alloc (.cells zRow.toArray 61) = w2 at HNB HBL ⊢
  have x0 := (Fb.of HNB.out.1 HF.out).k
  rw [HK.out] at x0
  have HL2 := hid (hp_lt HNB.out.2)
  go_wp2_with fail
  refine (kindOf_5 w2).mono ?_
  rintro e w3 ⟨rfl, hb3⟩
  have HN1 := hid ((hb3.block _ (by have := HL2.out; omega)).trans HNB.out.1)
  have HN2 := hid ((hb3.block _ HL2.out).trans HNB.out.2)
  have HB3 := hid (below_then HBL.out hb3)
  have HL3 := hid (hp_lt HN2.out)
  clear hb3 x0 HNB HBL HL2
  go_upto_region 2 with (first
    | (refine al_row (by rfl) 61 (by rfl) _ zeroKind ?_)
    | (refine st_new (by rfl) 61 _ _ (by rfl) k5 (by rfl) (by rfl) 61 _ kindSize rfl (kOne _ _ _ _ _) ?_))
  have HN4 := hid ((below_walk w3 (.cells k5.toArray 61)).block _ (by have := HL3.out; omega) |>.trans HN1.out)
  have HN5 := hid ((below_walk w3 (.cells k5.toArray 61)).block _ HL3.out |>.trans HN2.out)
  have HN6 := hid (hp_new w3 (.cells k5.toArray 61))
  have HB4 := hid (below_then HB3.out (below_walk w3 (.cells k5.toArray 61)))
  obtain ⟨B5, HB5⟩ : ∃ b : Nat, Hid (w3.heap.size = b) := ⟨_, rfl⟩
  rw [HB5.out] at HN6 ⊢
  generalize w3.alloc (.cells k5.toArray 61) = w4 at HN4 HN5 HN6 HB4 ⊢
  clear HN1 HN2 HB3 HL3
  have HS4 := hid (HS0.out.below HB4.out)
  have HL6 := hid (hp_lt HN6.out)
  have HL4 := hid (hp_lt HN4.out)
  have y1 : w4.cell? ⟨B5, 1, none⟩ = some (.func (.func 89) #[] #[]) := by rw [cell_of_row w4 B5 1 _ _ _ HN6.out]; rfl
  have y2 : w4.cell? ⟨B5, 2, none⟩ = some (.func (.func 86) #[] #[]) := by rw [cell_of_row w4 B5 2 _ _ _ HN6.out]; rfl
  have z1 := fun p : Bel w4 => p.cell y1 HL6.out
  have z2 := fun p : Bel w4 => p.cell y2 HL6.out
  have ib : Nonempty (Bel w4) := bel_some w4
  have HRA := hid (Bel.range (range_row HN4.out) HL4.out)
  have HSM := hid (fun p : Bel w4 => HSAME.out p.out (HS4.out.below p.bel))
  have HMY := hid (fun p : Bel w4 => HMAY.out p.out (HS4.out.below p.bel))
  clear y1 y2 HSAME HMAY
  obtain ⟨FF, HFF⟩ : ∃ x, Hid (fcells f (.slice ao f.args.length c) = x) := ⟨_, rfl⟩
  obtain ⟨FO, HFO⟩ : ∃ x, Hid (fcells (ownF f) (ownV f (.slice ao f.args.length c)) = x) := ⟨_, rfl⟩
  rw [HFF.out] at HOWN HSM HMY HSIZE HN4 HSZ HRA ⊢
  rw [HFO.out] at HOWN HSM
  cases hS : sameP f (ownF f) with
  | false =>
    as_aux_lemma =>
      have HPA := hid (show planA k5 (sameP f (ownF f)) M Z = .tuple #[.agg zRow.toArray, .int .i64 0, .int .i64 70] by unfold planA; rw [hS]; rfl)
      rw [hS] at HSM
      clear hS HSIZE
      refine wp_region_quiet_bel (by kernel_rfl) (by kernel_rfl) ?_
      go_big_quiet_step (fail)
      go_big_quiet_step (fail)
      go_big_quiet_step (fail)
      refine wpQuiet_want (by rfl) fun K hK => quiet_ld 29 (.tmp 1) (by rfl) w.heap.size 0 (by rfl) _ _ HRA.out Try.underlying29 rfl HSZ.out (hK _ ?_)
      simp only [Act.put, List.setIfInBounds_toArray, List.set_cons_succ, List.set_cons_zero]
      go_big_quiet_step (fail)
      go_big_quiet_step (fail)
      refine wpQuiet_want (by rfl) fun K hK => quiet_ld 29 (.tmp 1) (by rfl) w.heap.size 0 (by rfl) _ _ HRA.out Try.underlying29 rfl HSZ.out (hK _ ?_)
      simp only [Act.put, List.setIfInBounds_toArray, List.set_cons_succ, List.set_cons_zero]
      go_big_quiet_step (first | (go_at_call 89; exact bel_of (HOWN.out _)))
      go_big_quiet_step (first | (go_at_call 20; exact bel_of (HSM.out _)))
      go_big_quiet_step (fail)
      go_big_quiet_step (fail)
      go_big_quiet_step (fail)
      go_big_quiet_step (fail)
      go_big_quiet_step (fail)
      go_big_quiet_step (fail)
      go_big_quiet_step (fail)
      go_big_quiet_step (fail)
      go_big_quiet_step (fail)
      refine wpQuiet_nil ?_
      rintro w5 ⟨⟨w5', hb5⟩, hw5⟩
      obtain rfl : w5 = w5' := hw5
      have HN7 := hid ((hb5.block _ HL4.out).trans HN4.out)
      have HN8 := hid ((hb5.block _ (hp_lt HN5.out)).trans HN5.out)
      have HN9 := hid ((hb5.block _ HL6.out).trans HN6.out)
      have HB6 := hid (below_then HB4.out hb5)
      have HS5 := hid (HS4.out.below hb5)
      clear hb5 z1 z2 ib HRA HN4 HN5 HN6 HB4 HL4 HL6 HOWN HSM HMY
      go_wp2_with (first
        | (refine bd_row (by rfl) 61 #[] (by rfl) [] (by simp) zRow.toArray built_zRow ?_)
        | (refine st_row (by rfl) 61 _ _ (by rfl) (w.heap.size + 1) zRow (by rfl) (by rfl) 61 _ HN8.out kindSize rfl zOne ?_; intro w7 hw7))
      refine ret_row3 2 3 4 61 rfl (w.heap.size + 1) rfl zRow 61 hw7.blk _ Try.underlying61 rfl kindSize _ _ rfl rfl rfl ⟨by rw [HPA.out]; rfl, Below.of_gb HB6.out hw7.grown (by omega)⟩
  | true =>
    rw [hS] at HSM
    have HSI := hid (HSIZE.out hS)
    clear HSIZE
    cases M with
    | false =>
      as_aux_lemma =>
        have HPA := hid (show planA k5 (sameP f (ownF f)) false Z = .tuple #[.agg zRow.toArray, .int .i64 0, .int .i64 70] by unfold planA; rw [hS]; rfl)
        clear hS HSI
        refine wp_region_quiet_bel (by kernel_rfl) (by kernel_rfl) ?_
        go_big_quiet_step (fail)
        go_big_quiet_step (fail)
        go_big_quiet_step (fail)
        refine wpQuiet_want (by rfl) fun K hK => quiet_ld 29 (.tmp 1) (by rfl) w.heap.size 0 (by rfl) _ _ HRA.out Try.underlying29 rfl HSZ.out (hK _ ?_)
        simp only [Act.put, List.setIfInBounds_toArray, List.set_cons_succ, List.set_cons_zero]
        go_big_quiet_step (fail)
        go_big_quiet_step (fail)
        refine wpQuiet_want (by rfl) fun K hK => quiet_ld 29 (.tmp 1) (by rfl) w.heap.size 0 (by rfl) _ _ HRA.out Try.underlying29 rfl HSZ.out (hK _ ?_)
        simp only [Act.put, List.setIfInBounds_toArray, List.set_cons_succ, List.set_cons_zero]
        go_big_quiet_step (first | (go_at_call 89; exact bel_of (HOWN.out _)))
        go_big_quiet_step (first | (go_at_call 20; exact bel_of (HSM.out _)))
        go_big_quiet_step (fail)
        go_big_quiet_step (fail)
        go_big_quiet_step (fail)
        go_big_quiet_step (fail)
        go_big_quiet_step (fail)
        refine wpQuiet_want (by rfl) fun K hK => quiet_ld 29 (.tmp 1) (by rfl) w.heap.size 0 (by rfl) _ _ HRA.out Try.underlying29 rfl HSZ.out (hK _ ?_)
        simp only [Act.put, List.setIfInBounds_toArray, List.set_cons_succ, List.set_cons_zero]
        go_big_quiet_step (first | (go_at_call 86; exact bel_of (HMY.out _)))
        go_big_quiet_step (fail)
        go_big_quiet_step (fail)
        refine wpQuiet_nil ?_
        rintro w5 ⟨⟨w5', hb5⟩, hw5⟩
        obtain rfl : w5 = w5' := hw5
        have HN7 := hid ((hb5.block _ HL4.out).trans HN4.out)
        have HN8 := hid ((hb5.block _ (hp_lt HN5.out)).trans HN5.out)
        have HN9 := hid ((hb5.block _ HL6.out).trans HN6.out)
        have HB6 := hid (below_then HB4.out hb5)
        have HS5 := hid (HS4.out.below hb5)
        clear hb5 z1 z2 ib HRA HN4 HN5 HN6 HB4 HL4 HL6 HOWN HSM HMY
        go_wp2_with (first
          | (refine bd_row (by rfl) 61 #[] (by rfl) [] (by simp) zRow.toArray built_zRow ?_)
          | (refine st_row (by rfl) 61 _ _ (by rfl) (w.heap.size + 1) zRow (by rfl) (by rfl) 61 _ HN8.out kindSize rfl zOne ?_; intro w7 hw7))
        refine ret_row3 2 3 4 61 rfl (w.heap.size + 1) rfl zRow 61 hw7.blk _ Try.underlying61 rfl kindSize _ _ rfl rfl rfl ⟨by rw [HPA.out]; rfl, Below.of_gb HB6.out hw7.grown (by omega)⟩
    | true =>
      as_aux_lemma =>
        have HSJ := hid (HSI.out rfl)
        clear HSI
        refine wp_region_quiet_bel (by kernel_rfl) (by kernel_rfl) ?_
        go_big_quiet_step (fail)
        go_big_quiet_step (fail)
        go_big_quiet_step (fail)
        refine wpQuiet_want (by rfl) fun K hK => quiet_ld 29 (.tmp 1) (by rfl) w.heap.size 0 (by rfl) _ _ HRA.out Try.underlying29 rfl HSZ.out (hK _ ?_)
        simp only [Act.put, List.setIfInBounds_toArray, List.set_cons_succ, List.set_cons_zero]
        go_big_quiet_step (fail)
        go_big_quiet_step (fail)
        refine wpQuiet_want (by rfl) fun K hK => quiet_ld 29 (.tmp 1) (by rfl) w.heap.size 0 (by rfl) _ _ HRA.out Try.underlying29 rfl HSZ.out (hK _ ?_)
        simp only [Act.put, List.setIfInBounds_toArray, List.set_cons_succ, List.set_cons_zero]
        go_big_quiet_step (first | (go_at_call 89; exact bel_of (HOWN.out _)))
        go_big_quiet_step (first | (go_at_call 20; exact bel_of (HSM.out _)))
        go_big_quiet_step (fail)
        go_big_quiet_step (fail)
        go_big_quiet_step (fail)
        go_big_quiet_step (fail)
        go_big_quiet_step (fail)
        refine wpQuiet_want (by rfl) fun K hK => quiet_ld 29 (.tmp 1) (by rfl) w.heap.size 0 (by rfl) _ _ HRA.out Try.underlying29 rfl HSZ.out (hK _ ?_)
        simp only [Act.put, List.setIfInBounds_toArray, List.set_cons_succ, List.set_cons_zero]
        go_big_quiet_step (first | (go_at_call 86; exact bel_of (HMY.out _)))
        go_big_quiet_step (fail)
        go_big_quiet_step (fail)
        refine wpQuiet_nil ?_
        rintro w5 ⟨⟨w5', hb5⟩, hw5⟩
        obtain rfl : w5 = w5' := hw5
        have HN7 := hid ((hb5.block _ HL4.out).trans HN4.out)
        have HN8 := hid ((hb5.block _ (hp_lt HN5.out)).trans HN5.out)
        have HN9 := hid ((hb5.block _ HL6.out).trans HN6.out)
        have HB6 := hid (below_then HB4.out hb5)
        have HS5 := hid (HS4.out.below hb5)
        clear hb5 z1 z2 ib HRA HN4 HN5 HN6 HB4 HL4 HL6 HOWN HSM HMY
        go_wp2_with (first
          | (refine ld_row (by rfl) 61 (.tmp 5) (by rfl) B5 (by rfl) k5 61 HN9.out _ Try.underlying61 rfl kindSize ?_)
          | (refine ld_row (by rfl) 29 (.tmp 1) (by rfl) w.heap.size (by rfl) FF 29 HN7.out _ Try.underlying29 rfl HSZ.out ?_))
        refine (HSJ.out w5 HS5.out).mono ?_
        rintro e w6 ⟨rfl, hb6⟩
        have HNA := hid ((hb6.block _ (hp_lt HN8.out)).trans HN8.out)
        have HNB := hid ((hb6.block _ (hp_lt HN9.out)).trans HN9.out)
        have HB7 := hid (below_then HB6.out hb6)
        clear hb6 HN7 HN8 HN9 HB6 HSJ
        by_cases hZ : 2097152 < Z
        · have HPA := hid (show planA k5 (sameP f (ownF f)) true Z = .tuple #[.agg zRow.toArray, .int .i64 0, .int .i64 3] by unfold planA; rw [hS]; simp only [Bool.and_true, if_true, if_pos hZ])
          have q1 : decide ((2097152 : Int) < Z) = true := by simpa using hZ
          clear hS
          go_wp2_with (first
            | (refine bd_row (by rfl) 61 #[] (by rfl) [] (by simp) zRow.toArray built_zRow ?_)
            | (refine st_row (by rfl) 61 _ _ (by rfl) (w.heap.size + 1) zRow (by rfl) (by rfl) 61 _ HNA.out kindSize rfl zOne ?_; intro w7 hw7))
          refine ret_row3 2 3 4 61 rfl (w.heap.size + 1) rfl zRow 61 hw7.blk _ Try.underlying61 rfl kindSize _ _ rfl rfl rfl ⟨by rw [HPA.out]; rfl, Below.of_gb HB7.out hw7.grown (by omega)⟩
        · have HPA := hid (show planA k5 (sameP f (ownF f)) true Z = .tuple #[.agg k5.toArray, .int .i64 Z, .int .i64 0] by unfold planA; rw [hS]; simp only [Bool.and_true, if_true, if_neg hZ])
          have q1 : decide ((2097152 : Int) < Z) = false := by simpa using hZ
          clear hS
          go_wp2_with (first
            | (refine ld_row (by rfl) 61 (.tmp 5) (by rfl) B5 (by rfl) k5 61 HNB.out _ Try.underlying61 rfl kindSize ?_)
            | (refine st_row (by rfl) 61 _ _ (by rfl) (w.heap.size + 1) k5 (by rfl) (by rfl) 61 _ HNA.out kindSize rfl (kOne _ _ _ _ _) ?_; intro w7 hw7))
          refine ret_row3 2 3 4 61 rfl (w.heap.size + 1) rfl k5 61 hw7.blk _ Try.underlying61 rfl kindSize _ _ rfl rfl rfl ⟨by rw [HPA.out]; rfl, Below.of_gb HB7.out hw7.grown (by omega)⟩

end Go.Proofs.Ytjinkahlfigdcaa

/- The plan of a frame of kind 6. -/
namespace Go.Proofs.Ytjinkahlfigdcaa
open Go.RowKit Go.BigFrame

theorem kindOf_6 (w : World) : Calls Try.prog 40 #[.int .i64 6] w fun e w' => e = .returned (.tuple #[.agg k6.toArray, .bool true]) ∧ Below w.heap.size w w' := kindOf_any 6 w

set_option maxRecDepth 100000 in
set_option maxHeartbeats 8000000 in
theorem plan6_any (f : Fr) (va : Value) (w : World) (M : Bool) (Z : Int) (hf : f.tool.length = 32) (ha : Strs w va f.args) (hn : f.args.length ≤ 9223372036854775807) (hk : f.kind = 6)
    (hmay : ∀ W, Strs W va f.args → Calls Try.prog 86 #[.agg (fcells f va).toArray] W fun e w' => e = .returned (.bool M) ∧ Below W.heap.size W w')
    (hsz : sameP f (ownF f) = true → M = true → ∀ W, Strs W va f.args → Calls Try.prog 41 #[.agg k6.toArray, .agg (fcells f va).toArray] W fun e w' => e = .returned (.int .i64 Z) ∧ Below W.heap.size W w') :
    Calls Try.prog 22 #[.agg (fcells f va).toArray] w fun e w' => e = .returned (planA k6 (sameP f (ownF f)) M Z) ∧ Below w.heap.size w w' := by
  obtain ⟨ao, c, rfl⟩ := ha.shape
  have HNB := hid (hp_two w (.cells (fcells f (.slice ao f.args.length c)).toArray 29) (.cells zRow.toArray 61))
  have HBL := hid (below_walk2 w (.cells (fcells f (.slice ao f.args.length c)).toArray 29) (.cells zRow.toArray 61))
  have HZ : Hid ((w.alloc (.cells (fcells f (.slice ao f.args.length c)).toArray 29)).heap.size = w.heap.size + 1) := hid (by simp)
  have HSZ := hid (frame_size f (.slice ao f.args.length c) hf)
  have HS0 := hid ha
  have HF := hid hf
  have HK := hid hk
  have HOWN := hid (fun W => ownNote_any f (.slice ao f.args.length c) W hk hf ⟨_, _, _, rfl⟩)
  have HSAME := hid (fun W (h : Strs W (.slice ao f.args.length c) f.args) => same_any f (ownF f) (.slice ao f.args.length c) (ownV f (.slice ao f.args.length c)) W hf (ownF_tool f hf) h (own_strs h) hn)
  have HMAY := hid hmay
  have HSIZE := hid hsz
  clear hf ha hn hk hmay hsz
  go_enter Try.func22, Try.ntmps22
  go_upto_region 1 with (refine al_row (by rfl) 61 (by rfl) _ zeroKind ?_)
  try rw [HZ.out]
  generalize (w.alloc (.cells (fcells f (.slice ao f.args.length c)).toArray 29)).alloc (.cells zRow.toArray 61) = w2 at HNB HBL ⊢
  have x0 := (Fb.of HNB.out.1 HF.out).k
  rw [HK.out] at x0
  have HL2 := hid (hp_lt HNB.out.2)
  go_wp2_with fail
  refine (kindOf_6 w2).mono ?_
  rintro e w3 ⟨rfl, hb3⟩
  have HN1 := hid ((hb3.block _ (by have := HL2.out; omega)).trans HNB.out.1)
  have HN2 := hid ((hb3.block _ HL2.out).trans HNB.out.2)
  have HB3 := hid (below_then HBL.out hb3)
  have HL3 := hid (hp_lt HN2.out)
  clear hb3 x0 HNB HBL HL2
  go_upto_region 2 with (first
    | (refine al_row (by rfl) 61 (by rfl) _ zeroKind ?_)
    | (refine st_new (by rfl) 61 _ _ (by rfl) k6 (by rfl) (by rfl) 61 _ kindSize rfl (kOne _ _ _ _ _) ?_))
  have HN4 := hid ((below_walk w3 (.cells k6.toArray 61)).block _ (by have := HL3.out; omega) |>.trans HN1.out)
  have HN5 := hid ((below_walk w3 (.cells k6.toArray 61)).block _ HL3.out |>.trans HN2.out)
  have HN6 := hid (hp_new w3 (.cells k6.toArray 61))
  have HB4 := hid (below_then HB3.out (below_walk w3 (.cells k6.toArray 61)))
  obtain ⟨B5, HB5⟩ : ∃ b : Nat, Hid (w3.heap.size = b) := ⟨_, rfl⟩
  rw [HB5.out] at HN6 ⊢
  generalize w3.alloc (.cells k6.toArray 61) = w4 at HN4 HN5 HN6 HB4 ⊢
  clear HN1 HN2 HB3 HL3
  have HS4 := hid (HS0.out.below HB4.out)
  have HL6 := hid (hp_lt HN6.out)
  have HL4 := hid (hp_lt HN4.out)
  have y1 : w4.cell? ⟨B5, 1, none⟩ = some (.func (.func 92) #[] #[]) := by rw [cell_of_row w4 B5 1 _ _ _ HN6.out]; rfl
  have y2 : w4.cell? ⟨B5, 2, none⟩ = some (.func (.func 86) #[] #[]) := by rw [cell_of_row w4 B5 2 _ _ _ HN6.out]; rfl
  have z1 := fun p : Bel w4 => p.cell y1 HL6.out
  have z2 := fun p : Bel w4 => p.cell y2 HL6.out
  have ib : Nonempty (Bel w4) := bel_some w4
  have HRA := hid (Bel.range (range_row HN4.out) HL4.out)
  have HSM := hid (fun p : Bel w4 => HSAME.out p.out (HS4.out.below p.bel))
  have HMY := hid (fun p : Bel w4 => HMAY.out p.out (HS4.out.below p.bel))
  clear y1 y2 HSAME HMAY
  obtain ⟨FF, HFF⟩ : ∃ x, Hid (fcells f (.slice ao f.args.length c) = x) := ⟨_, rfl⟩
  obtain ⟨FO, HFO⟩ : ∃ x, Hid (fcells (ownF f) (ownV f (.slice ao f.args.length c)) = x) := ⟨_, rfl⟩
  rw [HFF.out] at HOWN HSM HMY HSIZE HN4 HSZ HRA ⊢
  rw [HFO.out] at HOWN HSM
  cases hS : sameP f (ownF f) with
  | false =>
    as_aux_lemma =>
      have HPA := hid (show planA k6 (sameP f (ownF f)) M Z = .tuple #[.agg zRow.toArray, .int .i64 0, .int .i64 70] by unfold planA; rw [hS]; rfl)
      rw [hS] at HSM
      clear hS HSIZE
      refine wp_region_quiet_bel (by kernel_rfl) (by kernel_rfl) ?_
      go_big_quiet_step (fail)
      go_big_quiet_step (fail)
      go_big_quiet_step (fail)
      refine wpQuiet_want (by rfl) fun K hK => quiet_ld 29 (.tmp 1) (by rfl) w.heap.size 0 (by rfl) _ _ HRA.out Try.underlying29 rfl HSZ.out (hK _ ?_)
      simp only [Act.put, List.setIfInBounds_toArray, List.set_cons_succ, List.set_cons_zero]
      go_big_quiet_step (fail)
      go_big_quiet_step (fail)
      refine wpQuiet_want (by rfl) fun K hK => quiet_ld 29 (.tmp 1) (by rfl) w.heap.size 0 (by rfl) _ _ HRA.out Try.underlying29 rfl HSZ.out (hK _ ?_)
      simp only [Act.put, List.setIfInBounds_toArray, List.set_cons_succ, List.set_cons_zero]
      go_big_quiet_step (first | (go_at_call 92; exact bel_of (HOWN.out _)))
      go_big_quiet_step (first | (go_at_call 20; exact bel_of (HSM.out _)))
      go_big_quiet_step (fail)
      go_big_quiet_step (fail)
      go_big_quiet_step (fail)
      go_big_quiet_step (fail)
      go_big_quiet_step (fail)
      go_big_quiet_step (fail)
      go_big_quiet_step (fail)
      go_big_quiet_step (fail)
      go_big_quiet_step (fail)
      refine wpQuiet_nil ?_
      rintro w5 ⟨⟨w5', hb5⟩, hw5⟩
      obtain rfl : w5 = w5' := hw5
      have HN7 := hid ((hb5.block _ HL4.out).trans HN4.out)
      have HN8 := hid ((hb5.block _ (hp_lt HN5.out)).trans HN5.out)
      have HN9 := hid ((hb5.block _ HL6.out).trans HN6.out)
      have HB6 := hid (below_then HB4.out hb5)
      have HS5 := hid (HS4.out.below hb5)
      clear hb5 z1 z2 ib HRA HN4 HN5 HN6 HB4 HL4 HL6 HOWN HSM HMY
      go_wp2_with (first
        | (refine bd_row (by rfl) 61 #[] (by rfl) [] (by simp) zRow.toArray built_zRow ?_)
        | (refine st_row (by rfl) 61 _ _ (by rfl) (w.heap.size + 1) zRow (by rfl) (by rfl) 61 _ HN8.out kindSize rfl zOne ?_; intro w7 hw7))
      refine ret_row3 2 3 4 61 rfl (w.heap.size + 1) rfl zRow 61 hw7.blk _ Try.underlying61 rfl kindSize _ _ rfl rfl rfl ⟨by rw [HPA.out]; rfl, Below.of_gb HB6.out hw7.grown (by omega)⟩
  | true =>
    rw [hS] at HSM
    have HSI := hid (HSIZE.out hS)
    clear HSIZE
    cases M with
    | false =>
      as_aux_lemma =>
        have HPA := hid (show planA k6 (sameP f (ownF f)) false Z = .tuple #[.agg zRow.toArray, .int .i64 0, .int .i64 70] by unfold planA; rw [hS]; rfl)
        clear hS HSI
        refine wp_region_quiet_bel (by kernel_rfl) (by kernel_rfl) ?_
        go_big_quiet_step (fail)
        go_big_quiet_step (fail)
        go_big_quiet_step (fail)
        refine wpQuiet_want (by rfl) fun K hK => quiet_ld 29 (.tmp 1) (by rfl) w.heap.size 0 (by rfl) _ _ HRA.out Try.underlying29 rfl HSZ.out (hK _ ?_)
        simp only [Act.put, List.setIfInBounds_toArray, List.set_cons_succ, List.set_cons_zero]
        go_big_quiet_step (fail)
        go_big_quiet_step (fail)
        refine wpQuiet_want (by rfl) fun K hK => quiet_ld 29 (.tmp 1) (by rfl) w.heap.size 0 (by rfl) _ _ HRA.out Try.underlying29 rfl HSZ.out (hK _ ?_)
        simp only [Act.put, List.setIfInBounds_toArray, List.set_cons_succ, List.set_cons_zero]
        go_big_quiet_step (first | (go_at_call 92; exact bel_of (HOWN.out _)))
        go_big_quiet_step (first | (go_at_call 20; exact bel_of (HSM.out _)))
        go_big_quiet_step (fail)
        go_big_quiet_step (fail)
        go_big_quiet_step (fail)
        go_big_quiet_step (fail)
        go_big_quiet_step (fail)
        refine wpQuiet_want (by rfl) fun K hK => quiet_ld 29 (.tmp 1) (by rfl) w.heap.size 0 (by rfl) _ _ HRA.out Try.underlying29 rfl HSZ.out (hK _ ?_)
        simp only [Act.put, List.setIfInBounds_toArray, List.set_cons_succ, List.set_cons_zero]
        go_big_quiet_step (first | (go_at_call 86; exact bel_of (HMY.out _)))
        go_big_quiet_step (fail)
        go_big_quiet_step (fail)
        refine wpQuiet_nil ?_
        rintro w5 ⟨⟨w5', hb5⟩, hw5⟩
        obtain rfl : w5 = w5' := hw5
        have HN7 := hid ((hb5.block _ HL4.out).trans HN4.out)
        have HN8 := hid ((hb5.block _ (hp_lt HN5.out)).trans HN5.out)
        have HN9 := hid ((hb5.block _ HL6.out).trans HN6.out)
        have HB6 := hid (below_then HB4.out hb5)
        have HS5 := hid (HS4.out.below hb5)
        clear hb5 z1 z2 ib HRA HN4 HN5 HN6 HB4 HL4 HL6 HOWN HSM HMY
        go_wp2_with (first
          | (refine bd_row (by rfl) 61 #[] (by rfl) [] (by simp) zRow.toArray built_zRow ?_)
          | (refine st_row (by rfl) 61 _ _ (by rfl) (w.heap.size + 1) zRow (by rfl) (by rfl) 61 _ HN8.out kindSize rfl zOne ?_; intro w7 hw7))
        refine ret_row3 2 3 4 61 rfl (w.heap.size + 1) rfl zRow 61 hw7.blk _ Try.underlying61 rfl kindSize _ _ rfl rfl rfl ⟨by rw [HPA.out]; rfl, Below.of_gb HB6.out hw7.grown (by omega)⟩
    | true =>
      as_aux_lemma =>
        have HSJ := hid (HSI.out rfl)
        clear HSI
        refine wp_region_quiet_bel (by kernel_rfl) (by kernel_rfl) ?_
        go_big_quiet_step (fail)
        go_big_quiet_step (fail)
        go_big_quiet_step (fail)
        refine wpQuiet_want (by rfl) fun K hK => quiet_ld 29 (.tmp 1) (by rfl) w.heap.size 0 (by rfl) _ _ HRA.out Try.underlying29 rfl HSZ.out (hK _ ?_)
        simp only [Act.put, List.setIfInBounds_toArray, List.set_cons_succ, List.set_cons_zero]
        go_big_quiet_step (fail)
        go_big_quiet_step (fail)
        refine wpQuiet_want (by rfl) fun K hK => quiet_ld 29 (.tmp 1) (by rfl) w.heap.size 0 (by rfl) _ _ HRA.out Try.underlying29 rfl HSZ.out (hK _ ?_)
        simp only [Act.put, List.setIfInBounds_toArray, List.set_cons_succ, List.set_cons_zero]
        go_big_quiet_step (first | (go_at_call 92; exact bel_of (HOWN.out _)))
        go_big_quiet_step (first | (go_at_call 20; exact bel_of (HSM.out _)))
        go_big_quiet_step (fail)
        go_big_quiet_step (fail)
        go_big_quiet_step (fail)
        go_big_quiet_step (fail)
        go_big_quiet_step (fail)
        refine wpQuiet_want (by rfl) fun K hK => quiet_ld 29 (.tmp 1) (by rfl) w.heap.size 0 (by rfl) _ _ HRA.out Try.underlying29 rfl HSZ.out (hK _ ?_)
        simp only [Act.put, List.setIfInBounds_toArray, List.set_cons_succ, List.set_cons_zero]
        go_big_quiet_step (first | (go_at_call 86; exact bel_of (HMY.out _)))
        go_big_quiet_step (fail)
        go_big_quiet_step (fail)
        refine wpQuiet_nil ?_
        rintro w5 ⟨⟨w5', hb5⟩, hw5⟩
        obtain rfl : w5 = w5' := hw5
        have HN7 := hid ((hb5.block _ HL4.out).trans HN4.out)
        have HN8 := hid ((hb5.block _ (hp_lt HN5.out)).trans HN5.out)
        have HN9 := hid ((hb5.block _ HL6.out).trans HN6.out)
        have HB6 := hid (below_then HB4.out hb5)
        have HS5 := hid (HS4.out.below hb5)
        clear hb5 z1 z2 ib HRA HN4 HN5 HN6 HB4 HL4 HL6 HOWN HSM HMY
        go_wp2_with (first
          | (refine ld_row (by rfl) 61 (.tmp 5) (by rfl) B5 (by rfl) k6 61 HN9.out _ Try.underlying61 rfl kindSize ?_)
          | (refine ld_row (by rfl) 29 (.tmp 1) (by rfl) w.heap.size (by rfl) FF 29 HN7.out _ Try.underlying29 rfl HSZ.out ?_))
        refine (HSJ.out w5 HS5.out).mono ?_
        rintro e w6 ⟨rfl, hb6⟩
        have HNA := hid ((hb6.block _ (hp_lt HN8.out)).trans HN8.out)
        have HNB := hid ((hb6.block _ (hp_lt HN9.out)).trans HN9.out)
        have HB7 := hid (below_then HB6.out hb6)
        clear hb6 HN7 HN8 HN9 HB6 HSJ
        by_cases hZ : 2097152 < Z
        · have HPA := hid (show planA k6 (sameP f (ownF f)) true Z = .tuple #[.agg zRow.toArray, .int .i64 0, .int .i64 3] by unfold planA; rw [hS]; simp only [Bool.and_true, if_true, if_pos hZ])
          have q1 : decide ((2097152 : Int) < Z) = true := by simpa using hZ
          clear hS
          go_wp2_with (first
            | (refine bd_row (by rfl) 61 #[] (by rfl) [] (by simp) zRow.toArray built_zRow ?_)
            | (refine st_row (by rfl) 61 _ _ (by rfl) (w.heap.size + 1) zRow (by rfl) (by rfl) 61 _ HNA.out kindSize rfl zOne ?_; intro w7 hw7))
          refine ret_row3 2 3 4 61 rfl (w.heap.size + 1) rfl zRow 61 hw7.blk _ Try.underlying61 rfl kindSize _ _ rfl rfl rfl ⟨by rw [HPA.out]; rfl, Below.of_gb HB7.out hw7.grown (by omega)⟩
        · have HPA := hid (show planA k6 (sameP f (ownF f)) true Z = .tuple #[.agg k6.toArray, .int .i64 Z, .int .i64 0] by unfold planA; rw [hS]; simp only [Bool.and_true, if_true, if_neg hZ])
          have q1 : decide ((2097152 : Int) < Z) = false := by simpa using hZ
          clear hS
          go_wp2_with (first
            | (refine ld_row (by rfl) 61 (.tmp 5) (by rfl) B5 (by rfl) k6 61 HNB.out _ Try.underlying61 rfl kindSize ?_)
            | (refine st_row (by rfl) 61 _ _ (by rfl) (w.heap.size + 1) k6 (by rfl) (by rfl) 61 _ HNA.out kindSize rfl (kOne _ _ _ _ _) ?_; intro w7 hw7))
          refine ret_row3 2 3 4 61 rfl (w.heap.size + 1) rfl k6 61 hw7.blk _ Try.underlying61 rfl kindSize _ _ rfl rfl rfl ⟨by rw [HPA.out]; rfl, Below.of_gb HB7.out hw7.grown (by omega)⟩

end Go.Proofs.Ytjinkahlfigdcaa

/- The plan of a frame of no kind; Check. -/
namespace Go.Proofs.Ytjinkahlfigdcaa
open Go.RowKit Go.BigFrame

set_option maxRecDepth 100000 in
set_option maxHeartbeats 8000000 in
theorem planN_any (f : Fr) (va : Value) (w : World) (hf : f.tool.length = 32) (ha : Strs w va f.args) (hk : ¬ (1 ≤ f.kind ∧ f.kind ≤ 6)) :
    Calls Try.prog 22 #[.agg (fcells f va).toArray] w fun e w' => e = .returned (.tuple #[.agg zRow.toArray, .int .i64 0, .int .i64 70]) ∧ Below w.heap.size w w' := by
  obtain ⟨ao, c, rfl⟩ := ha.shape
  have HNB := hid (hp_two w (.cells (fcells f (.slice ao f.args.length c)).toArray 29) (.cells zRow.toArray 61))
  have HBL := hid (below_walk2 w (.cells (fcells f (.slice ao f.args.length c)).toArray 29) (.cells zRow.toArray 61))
  have HZ : Hid ((w.alloc (.cells (fcells f (.slice ao f.args.length c)).toArray 29)).heap.size = w.heap.size + 1) := hid (by simp)
  have HSZ := hid (frame_size f (.slice ao f.args.length c) hf)
  have HS0 := hid ha
  have HF := hid hf
  have HKO : Hid (kOf f.kind = zRow) := hid (by
    unfold kOf
    rw [if_neg (by omega), if_neg (by omega), if_neg (by omega), if_neg (by omega), if_neg (by omega), if_neg (by omega)])
  have HKD := hid (decide_eq_false hk)
  clear hf ha hk
  go_enter Try.func22, Try.ntmps22
  go_upto_region 1 with (refine al_row (by rfl) 61 (by rfl) _ zeroKind ?_)
  try rw [HZ.out]
  generalize (w.alloc (.cells (fcells f (.slice ao f.args.length c)).toArray 29)).alloc (.cells zRow.toArray 61) = w2 at HNB HBL ⊢
  have x0 := (Fb.of HNB.out.1 HF.out).k
  have HL2 := hid (hp_lt HNB.out.2)
  go_wp2_with fail
  have HKI := hid (kindOf_any f.kind w2)
  rw [HKO.out, HKD.out] at HKI
  refine HKI.out.mono ?_
  rintro e w3 ⟨rfl, hb3⟩
  have HN1 := hid ((hb3.block _ (by have := HL2.out; omega)).trans HNB.out.1)
  have HN2 := hid ((hb3.block _ HL2.out).trans HNB.out.2)
  have HB3 := hid (below_then HBL.out hb3)
  have HL3 := hid (hp_lt HN2.out)
  clear hb3 x0 HNB HBL HL2
  go_upto_region 2 with (first
    | (refine al_row (by rfl) 61 (by rfl) _ zeroKind ?_)
    | (refine st_new (by rfl) 61 _ _ (by rfl) zRow (by rfl) (by rfl) 61 _ kindSize rfl zOne ?_))
  have HN4 := hid ((below_walk w3 (.cells zRow.toArray 61)).block _ (by have := HL3.out; omega) |>.trans HN1.out)
  have HN5 := hid ((below_walk w3 (.cells zRow.toArray 61)).block _ HL3.out |>.trans HN2.out)
  have HN6 := hid (hp_new w3 (.cells zRow.toArray 61))
  have HB4 := hid (below_then HB3.out (below_walk w3 (.cells zRow.toArray 61)))
  obtain ⟨B5, HB5⟩ : ∃ b : Nat, Hid (w3.heap.size = b) := ⟨_, rfl⟩
  rw [HB5.out] at HN6 ⊢
  generalize w3.alloc (.cells zRow.toArray 61) = w4 at HN4 HN5 HN6 HB4 ⊢
  clear HN1 HN2 HB3 HL3
  obtain ⟨FF, HFF⟩ : ∃ x, Hid (fcells f (.slice ao f.args.length c) = x) := ⟨_, rfl⟩
  rw [HFF.out] at HN4 ⊢
  have ib : Nonempty (Bel w4) := bel_some w4
  refine wp_region_quiet_bel (by kernel_rfl) (by kernel_rfl) ?_
  go_big_quiet_step (fail)
  go_big_quiet_step (fail)
  go_big_quiet_step (fail)
  go_big_quiet_step (fail)
  go_big_quiet_step (fail)
  go_big_quiet_step (fail)
  go_big_quiet_step (fail)
  go_big_quiet_step (fail)
  go_big_quiet_step (fail)
  go_big_quiet_step (fail)
  go_big_quiet_step (fail)
  go_big_quiet_step (fail)
  go_big_quiet_step (fail)
  go_big_quiet_step (fail)
  go_big_quiet_step (fail)
  go_big_quiet_step (fail)
  go_big_quiet_step (fail)
  go_big_quiet_step (fail)
  refine wpQuiet_nil ?_
  rintro w5 ⟨⟨w5', hb5⟩, hw5⟩
  obtain rfl : w5 = w5' := hw5
  have HN8 := hid ((hb5.block _ (hp_lt HN5.out)).trans HN5.out)
  have HB6 := hid (below_then HB4.out hb5)
  clear hb5 ib HN4 HN5 HN6 HB4
  go_wp2_with (first
    | (refine bd_row (by rfl) 61 #[] (by rfl) [] (by simp) zRow.toArray built_zRow ?_)
    | (refine st_row (by rfl) 61 _ _ (by rfl) (w.heap.size + 1) zRow (by rfl) (by rfl) 61 _ HN8.out kindSize rfl zOne ?_; intro w7 hw7))
  refine ret_row3 2 3 4 61 rfl (w.heap.size + 1) rfl zRow 61 hw7.blk _ Try.underlying61 rfl kindSize _ _ rfl rfl rfl ⟨rfl, Below.of_gb HB6.out hw7.grown (by omega)⟩

set_option maxRecDepth 100000 in
set_option maxHeartbeats 4000000 in
theorem fcheck_any (f : Fr) (va : Value) (w : World) (k : List Value) (Z E : Int) (hl : k.length = 5) (hone : ∀ v ∈ k, v.oneCell' = true) (hf : f.tool.length = 32) (ha : Strs w va f.args)
    (hplan : ∀ W, Strs W va f.args → Calls Try.prog 22 #[.agg (fcells f va).toArray] W fun e w' => e = .returned (.tuple #[.agg k.toArray, .int .i64 Z, .int .i64 E]) ∧ Below W.heap.size W w') :
    Calls Try.prog 13 #[.agg (fcells f va).toArray] w fun e w' => e = .returned (.int .i64 E) ∧ Below w.heap.size w w' := by
  have HNB := hid (hp_new w (.cells (fcells f va).toArray 29))
  have HBL := hid (below_walk w (.cells (fcells f va).toArray 29))
  have HSZ := hid (frame_size f va hf)
  have HPL := hid (hplan _ (ha.below HBL.out))
  have HKS := hid (show (Try.prog.info? 61).map (·.size) = some k.length by rw [hl]; exact kindSize)
  have HKO := hid (show zRow.toArray.size = k.length by rw [hl]; rfl)
  have HON := hid hone
  clear hplan ha hf hone hl
  go_enter Try.func13, Try.ntmps13
  go_upto_region 1 with fail
  generalize w.alloc (.cells (fcells f va).toArray 29) = w1 at HNB HBL HPL ⊢
  generalize fcells f va = FF at *
  go_wp2_with (refine ld_row (by rfl) 29 (.tmp 1) (by rfl) w.heap.size (by rfl) FF 29 HNB.out _ Try.underlying29 rfl HSZ.out ?_)
  refine HPL.out.mono ?_
  rintro e w2 ⟨rfl, hb2⟩
  have HB2 := hid (below_then (below_then HBL.out hb2) (below_walk w2 (.cells k.toArray 61)))
  clear hb2 HNB HBL HPL
  go_wp2_with (first
    | (refine al_row (by rfl) 61 (by rfl) _ zeroKind ?_)
    | (refine st_new (by rfl) 61 _ _ (by rfl) k (by rfl) (by rfl) 61 _ HKS.out HKO.out HON.out ?_))
  go_ret
  exact ⟨rfl, HB2.out⟩

set_option maxRecDepth 100000 in
set_option maxHeartbeats 4000000 in
theorem fsize_err (f : Fr) (va : Value) (w : World) (k : List Value) (Z E : Int) (hE : E ≠ 0) (hl : k.length = 5) (hone : ∀ v ∈ k, v.oneCell' = true) (hf : f.tool.length = 32) (ha : Strs w va f.args)
    (hplan : ∀ W, Strs W va f.args → Calls Try.prog 22 #[.agg (fcells f va).toArray] W fun e w' => e = .returned (.tuple #[.agg k.toArray, .int .i64 Z, .int .i64 E]) ∧ Below W.heap.size W w') :
    Calls Try.prog 11 #[.agg (fcells f va).toArray] w fun e w' => e = .returned (.tuple #[.int .i64 0, .int .i64 E]) ∧ Below w.heap.size w w' := by
  have HNB := hid (hp_new w (.cells (fcells f va).toArray 29))
  have HBL := hid (below_walk w (.cells (fcells f va).toArray 29))
  have HSZ := hid (frame_size f va hf)
  have HPL := hid (hplan _ (ha.below HBL.out))
  have HKS := hid (show (Try.prog.info? 61).map (·.size) = some k.length by rw [hl]; exact kindSize)
  have HKO := hid (show zRow.toArray.size = k.length by rw [hl]; rfl)
  have HON := hid hone
  clear hplan ha hf hone hl
  go_enter Try.func11, Try.ntmps11
  go_upto_region 1 with fail
  generalize w.alloc (.cells (fcells f va).toArray 29) = w1 at HNB HBL HPL ⊢
  generalize fcells f va = FF at *
  go_wp2_with (refine ld_row (by rfl) 29 (.tmp 1) (by rfl) w.heap.size (by rfl) FF 29 HNB.out _ Try.underlying29 rfl HSZ.out ?_)
  refine HPL.out.mono ?_
  rintro e w2 ⟨rfl, hb2⟩
  have HB2 := hid (below_then (below_then HBL.out hb2) (below_walk w2 (.cells k.toArray 61)))
  clear hb2 HNB HBL HPL
  have q1 : (E != 0) = true := by simpa using hE
  have q2 : (E == 0) = false := by simpa using hE
  go_wp2_with (first
    | (refine al_row (by rfl) 61 (by rfl) _ zeroKind ?_)
    | (refine st_new (by rfl) 61 _ _ (by rfl) k (by rfl) (by rfl) 61 _ HKS.out HKO.out HON.out ?_))
  go_ret2
  exact ⟨rfl, HB2.out⟩

set_option maxRecDepth 100000 in
set_option maxHeartbeats 4000000 in
theorem fsize_ok (f : Fr) (va : Value) (w : World) (k : List Value) (Z : Nat) (hZ : Z ≤ 2097152) (hl : k.length = 5) (hone : ∀ v ∈ k, v.oneCell' = true) (hf : f.tool.length = 32) (ha : Strs w va f.args)
    (hplan : ∀ W, Strs W va f.args → Calls Try.prog 22 #[.agg (fcells f va).toArray] W fun e w' => e = .returned (.tuple #[.agg k.toArray, .int .i64 (Z : Int), .int .i64 0]) ∧ Below W.heap.size W w') :
    Calls Try.prog 11 #[.agg (fcells f va).toArray] w fun e w' => e = .returned (.tuple #[.int .i64 (((sn Z).length : Int) + (Z : Int) + 4), .int .i64 0]) ∧ Below w.heap.size w w' := by
  have HNB := hid (hp_new w (.cells (fcells f va).toArray 29))
  have HBL := hid (below_walk w (.cells (fcells f va).toArray 29))
  have HSZ := hid (frame_size f va hf)
  have HPL := hid (hplan _ (ha.below HBL.out))
  have HKS := hid (show (Try.prog.info? 61).map (·.size) = some k.length by rw [hl]; exact kindSize)
  have HKO := hid (show zRow.toArray.size = k.length by rw [hl]; rfl)
  have HON := hid hone
  clear hplan ha hf hone hl
  go_enter Try.func11, Try.ntmps11
  go_upto_region 1 with fail
  generalize w.alloc (.cells (fcells f va).toArray 29) = w1 at HNB HBL HPL ⊢
  generalize fcells f va = FF at *
  go_wp2_with (refine ld_row (by rfl) 29 (.tmp 1) (by rfl) w.heap.size (by rfl) FF 29 HNB.out _ Try.underlying29 rfl HSZ.out ?_)
  refine HPL.out.mono ?_
  rintro e w2 ⟨rfl, hb2⟩
  have HB2 := hid (below_then (below_then HBL.out hb2) (below_walk w2 (.cells k.toArray 61)))
  clear hb2 HNB HBL HPL
  have wz : IntKind.u64.wrap (Z : Int) = (Z : Int) := by rw [IntKind.wrap_u64]; omega
  have hsl := sn_length_le Z
  obtain ⟨SL, HSL⟩ : ∃ n, Hid ((sn Z).length = n) := ⟨_, rfl⟩
  rw [HSL.out] at hsl
  have w1' : IntKind.i64.wrap ((SL : Int) + (Z : Int)) = (SL : Int) + (Z : Int) := by rw [IntKind.wrap_i64]; omega
  have w2' : IntKind.i64.wrap ((SL : Int) + (Z : Int) + 4) = (SL : Int) + (Z : Int) + 4 := by rw [IntKind.wrap_i64]; omega
  have HSZE := hid (fun W => size_any Z W (by omega))
  rw [HSL.out] at HSZE
  go_wp2_with (first
    | (refine al_row (by rfl) 61 (by rfl) _ zeroKind ?_)
    | (refine st_new (by rfl) 61 _ _ (by rfl) k (by rfl) (by rfl) 61 _ HKS.out HKO.out HON.out ?_))
  refine (HSZE.out _).mono ?_
  rintro e w4 ⟨rfl, hw4⟩
  subst hw4
  go_wp2
  go_ret2
  exact ⟨by rw [HSL.out]; rfl, HB2.out⟩

end Go.Proofs.Ytjinkahlfigdcaa

/- What the program's plan, Check, Size and Encode answer, of every frame. -/
namespace Go.Proofs.Ytjinkahlfigdcaa
open Go.RowKit

theorem toNat_eq {x : Int} (h : 0 ≤ x) : x = (x.toNat : Int) := by omega
theorem layF_1 (f : Fr) (va : Value) (hr : Rng f) (hk : f.kind = 1) (h1 : 0 ≤ f.ver) (h2 : 0 ≤ f.slots) : ∀ W vb bs, Src W vb bs → bs.length ≤ 1000 → Strs W va f.args → Calls Try.prog 75 #[vb, .agg (fcells f va).toArray] W fun e w' => ∃ v, e = .returned v ∧ Src w' v (bs ++ layP f) ∧ Below W.heap.size W w' := by
  intro W vb bs hs hb ha
  rw [lay_1 f hk]
  exact layHello_any vb bs f va f.ver.toNat f.slots.toNat W hs hb hr.tool (toNat_eq h1) (toNat_eq h2) (by have := hr.ver; omega) (by have := hr.slots; omega)
theorem layF_2 (f : Fr) (va : Value) (hr : Rng f) (hk : f.kind = 2) (h1 : 0 ≤ f.lim.1) (h2 : 0 ≤ f.lim.2.1) (h3 : 0 ≤ f.lim.2.2) (hA : (txs (f.args.map mk)).length ≤ 100000) (hB : f.body.length ≤ 2097152) : ∀ W vb bs, Src W vb bs → bs.length ≤ 1000 → Strs W va f.args → Calls Try.prog 79 #[vb, .agg (fcells f va).toArray] W fun e w' => ∃ v, e = .returned v ∧ Src w' v (bs ++ layP f) ∧ Below W.heap.size W w' := by
  intro W vb bs hs hb ha
  rw [lay_2 f hk]
  exact layRequest_any vb bs f va f.id.toNat f.lim.1.toNat f.lim.2.1.toNat f.lim.2.2.toNat W hs hb hr.tool ha (toNat_eq hr.idl) (by have := hr.idh; omega) (toNat_eq h1) (toNat_eq h2) (toNat_eq h3) (by have := hr.l1; omega) (by have := hr.l2; omega) (by have := hr.l3; omega) hA hB
theorem layF_3 (f : Fr) (va : Value) (hr : Rng f) (hk : f.kind = 3) (h1 : 0 ≤ f.status) (hB : f.body.length ≤ 2097152) : ∀ W vb bs, Src W vb bs → bs.length ≤ 1000 → Strs W va f.args → Calls Try.prog 83 #[vb, .agg (fcells f va).toArray] W fun e w' => ∃ v, e = .returned v ∧ Src w' v (bs ++ layP f) ∧ Below W.heap.size W w' := by
  intro W vb bs hs hb ha
  rw [lay_3 f hk]
  exact layResponse_any vb bs f va f.id.toNat f.status.toNat W hs hb hr.tool (toNat_eq hr.idl) (by have := hr.idh; omega) (toNat_eq h1) (by have := hr.status; omega) hB
theorem layF_4 (f : Fr) (va : Value) (hr : Rng f) (hk : f.kind = 4)  : ∀ W vb bs, Src W vb bs → bs.length ≤ 1000 → Strs W va f.args → Calls Try.prog 87 #[vb, .agg (fcells f va).toArray] W fun e w' => ∃ v, e = .returned v ∧ Src w' v (bs ++ layP f) ∧ Below W.heap.size W w' := by
  intro W vb bs hs hb ha
  rw [lay_4 f hk]
  exact layCancel_any vb bs f va f.id.toNat W hs hb hr.tool (toNat_eq hr.idl) (by have := hr.idh; omega)
theorem layF_5 (f : Fr) (va : Value) (_ : Rng f) (hk : f.kind = 5) : ∀ W vb bs, Src W vb bs → bs.length ≤ 1000 → Strs W va f.args → Calls Try.prog 90 #[vb, .agg (fcells f va).toArray] W fun e w' => ∃ v, e = .returned v ∧ Src w' v (bs ++ layP f) ∧ Below W.heap.size W w' := by
  intro W vb bs hs hb ha
  rw [lay_5 f hk, List.append_nil]
  obtain ⟨ao, n, c, rfl⟩ := src_named hs
  refine (layBye_any ao n c _ W).mono ?_
  rintro e w' ⟨rfl, hbl⟩
  exact ⟨_, rfl, hs.below hbl, hbl⟩
theorem layF_6 (f : Fr) (va : Value) (hr : Rng f) (hk : f.kind = 6) (hB : f.body.length ≤ 2097152) : ∀ W vb bs, Src W vb bs → bs.length ≤ 1000 → Strs W va f.args → Calls Try.prog 93 #[vb, .agg (fcells f va).toArray] W fun e w' => ∃ v, e = .returned v ∧ Src w' v (bs ++ layP f) ∧ Below W.heap.size W w' := by
  intro W vb bs hs hb ha
  rw [lay_6 f hk]
  exact layNote_any vb bs f va W hs hb hr.tool hB
theorem mayF_1 (f : Fr) (hk : f.kind = 1) : mayF f = mayHelloP f := by
  unfold mayF
  rw [if_pos hk]
set_option maxRecDepth 100000 in
theorem planF_1 (f : Fr) (va : Value) (w : World) (hr : Rng f) (ha : Strs w va f.args) (hk : f.kind = 1) :
    Calls Try.prog 22 #[.agg (fcells f va).toArray] w fun e w' => e = .returned (planA k1 (sameP f (ownF f)) (mayF f) ((bodyP f).length : Int)) ∧ Below w.heap.size w w' := by
  refine plan1_any f va w (mayF f) _ hr.tool ha hr.many hk (fun W hW => by rw [mayF_1 f hk]; exact mayHello_any f va W hr.tool) ?_
  intro hsm hmf W hW
  have hls := lay_short f hmf hr.tool
  have hm := hmf
  rw [mayF_1 f hk] at hm
  refine (ksize1_any f va 1 (layP (noBody f)) W hr.tool hW hk (by omega) hr.body hls (fun W' vb bs hs hb hS => layF_1 (noBody f) va hr.noBody hk (by have := mayHello_of hm; show 0 ≤ f.ver; omega) (by have := mayHello_of hm; show 0 ≤ f.slots; omega) W' vb bs hs hb hS)).mono ?_
  rintro e w' ⟨rfl, hb⟩
  exact ⟨by rw [reck_any f hsm (by omega) 1 hk], hb⟩
theorem mayF_2 (f : Fr) (hk : f.kind = 2) : mayF f = mayReqP f := by
  unfold mayF
  rw [if_neg (by omega), if_pos hk]
set_option maxRecDepth 100000 in
theorem planF_2 (f : Fr) (va : Value) (w : World) (hr : Rng f) (ha : Strs w va f.args) (hk : f.kind = 2) :
    Calls Try.prog 22 #[.agg (fcells f va).toArray] w fun e w' => e = .returned (planA k2 (sameP f (ownF f)) (mayF f) ((bodyP f).length : Int)) ∧ Below w.heap.size w w' := by
  refine plan2_any f va w (mayF f) _ hr.tool ha hr.many hk (fun W hW => by rw [mayF_2 f hk]; exact mayRequest_any f va W hr.tool hW hr.many) ?_
  intro hsm hmf W hW
  have hls := lay_short f hmf hr.tool
  have hm := hmf
  rw [mayF_2 f hk] at hm
  refine (ksize2_any f va 2 (layP (noBody f)) W hr.tool hW hk (by omega) hr.body hls (fun W' vb bs hs hb hS => layF_2 (noBody f) va hr.noBody hk (mayReq_of hm).1 (mayReq_of hm).2.1 (mayReq_of hm).2.2.1 (args_len (mayReq_of hm).2.2.2.2 (mayReq_of hm).2.2.2.1) (by simp [noBody]) W' vb bs hs hb hS)).mono ?_
  rintro e w' ⟨rfl, hb⟩
  exact ⟨by rw [reck_any f hsm (by omega) 2 hk], hb⟩
theorem mayF_3 (f : Fr) (hk : f.kind = 3) : mayF f = mayResP f := by
  unfold mayF
  rw [if_neg (by omega), if_neg (by omega), if_pos hk]
set_option maxRecDepth 100000 in
theorem planF_3 (f : Fr) (va : Value) (w : World) (hr : Rng f) (ha : Strs w va f.args) (hk : f.kind = 3) :
    Calls Try.prog 22 #[.agg (fcells f va).toArray] w fun e w' => e = .returned (planA k3 (sameP f (ownF f)) (mayF f) ((bodyP f).length : Int)) ∧ Below w.heap.size w w' := by
  refine plan3_any f va w (mayF f) _ hr.tool ha hr.many hk (fun W hW => by rw [mayF_3 f hk]; exact mayResponse_any f va W hr.tool) ?_
  intro hsm hmf W hW
  have hls := lay_short f hmf hr.tool
  have hm := hmf
  rw [mayF_3 f hk] at hm
  refine (ksize3_any f va 3 (layP (noBody f)) W hr.tool hW hk (by omega) hr.body hls (fun W' vb bs hs hb hS => layF_3 (noBody f) va hr.noBody hk (by have := mayRes_of hm; show 0 ≤ f.status; omega) (by simp [noBody]) W' vb bs hs hb hS)).mono ?_
  rintro e w' ⟨rfl, hb⟩
  exact ⟨by rw [reck_any f hsm (by omega) 3 hk], hb⟩
theorem mayF_4 (f : Fr) (hk : f.kind = 4) : mayF f = true := by
  unfold mayF
  rw [if_neg (by omega), if_neg (by omega), if_neg (by omega)]
set_option maxRecDepth 100000 in
theorem planF_4 (f : Fr) (va : Value) (w : World) (hr : Rng f) (ha : Strs w va f.args) (hk : f.kind = 4) :
    Calls Try.prog 22 #[.agg (fcells f va).toArray] w fun e w' => e = .returned (planA k4 (sameP f (ownF f)) (mayF f) ((bodyP f).length : Int)) ∧ Below w.heap.size w w' := by
  refine plan4_any f va w (mayF f) _ hr.tool ha hr.many hk (fun W hW => by rw [mayF_4 f hk]; exact mayAlways_any _ W) ?_
  intro hsm hmf W hW
  have hls := lay_short f hmf hr.tool
  have hm := hmf
  rw [mayF_4 f hk] at hm
  refine (ksize4_any f va 4 (layP (noBody f)) W hr.tool hW hk (by omega) hr.body hls (fun W' vb bs hs hb hS => layF_4 (noBody f) va hr.noBody hk  W' vb bs hs hb hS)).mono ?_
  rintro e w' ⟨rfl, hb⟩
  exact ⟨by rw [reck_any f hsm (by omega) 4 hk], hb⟩
theorem mayF_5 (f : Fr) (hk : f.kind = 5) : mayF f = true := by
  unfold mayF
  rw [if_neg (by omega), if_neg (by omega), if_neg (by omega)]
set_option maxRecDepth 100000 in
theorem planF_5 (f : Fr) (va : Value) (w : World) (hr : Rng f) (ha : Strs w va f.args) (hk : f.kind = 5) :
    Calls Try.prog 22 #[.agg (fcells f va).toArray] w fun e w' => e = .returned (planA k5 (sameP f (ownF f)) (mayF f) ((bodyP f).length : Int)) ∧ Below w.heap.size w w' := by
  refine plan5_any f va w (mayF f) _ hr.tool ha hr.many hk (fun W hW => by rw [mayF_5 f hk]; exact mayAlways_any _ W) ?_
  intro hsm hmf W hW
  have hls := lay_short f hmf hr.tool
  have hm := hmf
  rw [mayF_5 f hk] at hm
  refine (ksize5_any f va 5 (layP (noBody f)) W hr.tool hW hk (by omega) hr.body hls (fun W' vb bs hs hb hS => layF_5 (noBody f) va hr.noBody hk  W' vb bs hs hb hS)).mono ?_
  rintro e w' ⟨rfl, hb⟩
  exact ⟨by rw [reck_any f hsm (by omega) 5 hk], hb⟩
theorem mayF_6 (f : Fr) (hk : f.kind = 6) : mayF f = true := by
  unfold mayF
  rw [if_neg (by omega), if_neg (by omega), if_neg (by omega)]
set_option maxRecDepth 100000 in
theorem planF_6 (f : Fr) (va : Value) (w : World) (hr : Rng f) (ha : Strs w va f.args) (hk : f.kind = 6) :
    Calls Try.prog 22 #[.agg (fcells f va).toArray] w fun e w' => e = .returned (planA k6 (sameP f (ownF f)) (mayF f) ((bodyP f).length : Int)) ∧ Below w.heap.size w w' := by
  refine plan6_any f va w (mayF f) _ hr.tool ha hr.many hk (fun W hW => by rw [mayF_6 f hk]; exact mayAlways_any _ W) ?_
  intro hsm hmf W hW
  have hls := lay_short f hmf hr.tool
  have hm := hmf
  rw [mayF_6 f hk] at hm
  refine (ksize6_any f va 6 (layP (noBody f)) W hr.tool hW hk (by omega) hr.body hls (fun W' vb bs hs hb hS => layF_6 (noBody f) va hr.noBody hk (by simp [noBody]) W' vb bs hs hb hS)).mono ?_
  rintro e w' ⟨rfl, hb⟩
  exact ⟨by rw [reck_any f hsm (by omega) 6 hk], hb⟩

/-- what the plan answers -/
def planR (f : Fr) : Value := if chkE f = 0 then .tuple #[.agg (kOf f.kind).toArray, .int .i64 ((bodyP f).length : Int), .int .i64 0] else .tuple #[.agg zRow.toArray, .int .i64 0, .int .i64 (chkE f)]
theorem planA_R (f : Fr) (k : List Value) (hk : 1 ≤ f.kind ∧ f.kind ≤ 6) (e : kOf f.kind = k) : planA k (sameP f (ownF f)) (mayF f) ((bodyP f).length : Int) = planR f := by
  unfold planR planA chkE okFr
  rw [e, decide_eq_true hk, Bool.true_and]
  by_cases h : (sameP f (ownF f) && mayF f) = true
  · rw [if_pos h, if_pos h]
    by_cases hl : 2097152 < (bodyP f).length
    · rw [if_pos hl, if_pos (show (2097152 : Int) < ((bodyP f).length : Int) by omega)]
      rfl
    · rw [if_neg hl, if_neg (show ¬ (2097152 : Int) < ((bodyP f).length : Int) by omega)]
      rfl
  · rw [if_neg h, if_neg h]
    rfl
theorem planF_any (f : Fr) (va : Value) (w : World) (hr : Rng f) (ha : Strs w va f.args) :
    Calls Try.prog 22 #[.agg (fcells f va).toArray] w fun e w' => e = .returned (planR f) ∧ Below w.heap.size w w' := by
  by_cases hk : 1 ≤ f.kind ∧ f.kind ≤ 6
  · have hc : f.kind = 1 ∨ f.kind = 2 ∨ f.kind = 3 ∨ f.kind = 4 ∨ f.kind = 5 ∨ f.kind = 6 := by omega
    rcases hc with k | k | k | k | k | k
    · rw [← planA_R f k1 hk (by rw [k]; rfl)]
      exact planF_1 f va w hr ha k
    · rw [← planA_R f k2 hk (by rw [k]; rfl)]
      exact planF_2 f va w hr ha k
    · rw [← planA_R f k3 hk (by rw [k]; rfl)]
      exact planF_3 f va w hr ha k
    · rw [← planA_R f k4 hk (by rw [k]; rfl)]
      exact planF_4 f va w hr ha k
    · rw [← planA_R f k5 hk (by rw [k]; rfl)]
      exact planF_5 f va w hr ha k
    · rw [← planA_R f k6 hk (by rw [k]; rfl)]
      exact planF_6 f va w hr ha k
  · have e : planR f = .tuple #[.agg zRow.toArray, .int .i64 0, .int .i64 70] := by
      unfold planR chkE okFr
      rw [decide_eq_false hk]
      rfl
    rw [e]
    exact planN_any f va w hr.tool ha hk
theorem kOf_one (n : Int) : ∀ v ∈ kOf n, v.oneCell' = true := by
  unfold kOf
  repeat' split
  all_goals (intro v hv; revert v; decide)
theorem checkF_any (f : Fr) (va : Value) (w : World) (hr : Rng f) (ha : Strs w va f.args) :
    Calls Try.prog 13 #[.agg (fcells f va).toArray] w fun e w' => e = .returned (.int .i64 (chkE f)) ∧ Below w.heap.size w w' := by
  by_cases h : chkE f = 0
  · refine fcheck_any f va w (kOf f.kind) ((bodyP f).length : Int) (chkE f) (kOf_length _) (kOf_one _) hr.tool ha fun W hW => ?_
    have := planF_any f va W hr hW
    unfold planR at this
    rw [if_pos h] at this
    rw [h]
    exact this
  · refine fcheck_any f va w zRow 0 (chkE f) (kOf_length 0) (kOf_one 0) hr.tool ha fun W hW => ?_
    have := planF_any f va W hr hW
    unfold planR at this
    rw [if_neg h] at this
    exact this
/-- what Size answers -/
def sizeN (f : Fr) : Int := if chkE f = 0 then ((encP f).length : Int) else 0
theorem chk_ok {f : Fr} (h : chkE f = 0) : okFr f = true ∧ (bodyP f).length ≤ 2097152 := by
  unfold chkE at h
  by_cases ho : okFr f = true
  · rw [if_pos ho] at h
    by_cases hl : 2097152 < (bodyP f).length
    · rw [if_pos hl] at h; cases h
    · exact ⟨ho, by omega⟩
  · rw [if_neg ho] at h; cases h
theorem sizeF_any (f : Fr) (va : Value) (w : World) (hr : Rng f) (ha : Strs w va f.args) :
    Calls Try.prog 11 #[.agg (fcells f va).toArray] w fun e w' => e = .returned (.tuple #[.int .i64 (sizeN f), .int .i64 (chkE f)]) ∧ Below w.heap.size w w' := by
  unfold sizeN
  by_cases h : chkE f = 0
  · rw [if_pos h, h]
    have e : ((encP f).length : Int) = ((sn (bodyP f).length).length : Int) + ((bodyP f).length : Int) + 4 := by
      unfold encP
      rw [sealP_length, List.length_append]
      omega
    rw [e]
    refine fsize_ok f va w (kOf f.kind) (bodyP f).length (chk_ok h).2 (kOf_length _) (kOf_one _) hr.tool ha fun W hW => ?_
    have := planF_any f va W hr hW
    unfold planR at this
    rw [if_pos h] at this
    exact this
  · rw [if_neg h]
    refine fsize_err f va w zRow 0 (chkE f) h (kOf_length 0) (kOf_one 0) hr.tool ha fun W hW => ?_
    have := planF_any f va W hr hW
    unfold planR at this
    rw [if_neg h] at this
    exact this
theorem encF_err (f : Fr) (va : Value) (w : World) (hr : Rng f) (ha : Strs w va f.args) (h : chkE f ≠ 0) :
    Calls Try.prog 9 #[.agg (fcells f va).toArray] w fun e w' => e = .returned (.tuple #[.slice none 0 0, .int .i64 (chkE f)]) ∧ Below w.heap.size w w' := by
  refine encode_err f va w (chkE f) hr.tool ha h fun W hW => ?_
  have := planF_any f va W hr hW
  unfold planR at this
  rw [if_neg h] at this
  exact this
theorem okFr_of {f : Fr} (h : okFr f = true) : (1 ≤ f.kind ∧ f.kind ≤ 6) ∧ sameP f (ownF f) = true ∧ mayF f = true := by
  unfold okFr at h
  simp only [Bool.and_eq_true, decide_eq_true_eq] at h
  exact h
theorem body_cons (f : Fr) (Z K : Nat) (hK : f.kind = (K : Int)) : sns [Z, K] ++ layP f = sn Z ++ bodyP f := by
  unfold bodyP
  rw [sns_two, List.append_assoc, show f.kind.toNat = K by omega]
theorem lay_le (f : Fr) (h : (bodyP f).length ≤ 2097152) : (layP f).length ≤ 4000000 := by
  unfold bodyP at h
  rw [List.length_append] at h
  omega
theorem encF_ok (f : Fr) (va : Value) (w : World) (hr : Rng f) (ha : Strs w va f.args) (h : chkE f = 0) :
    Calls Try.prog 9 #[.agg (fcells f va).toArray] w fun e w' => ∃ v, e = .returned (.tuple #[v, .int .i64 0]) ∧ OwnB w' w.heap.size v (encP f) ∧ Below w.heap.size w w' := by
  obtain ⟨ho, hl⟩ := chk_ok h
  obtain ⟨hk, hsm, hm⟩ := okFr_of ho
  have hll := lay_le f hl
  have hplan : ∀ W, Strs W va f.args → Calls Try.prog 22 #[.agg (fcells f va).toArray] W fun e w' => e = .returned (.tuple #[.agg (kOf f.kind).toArray, .int .i64 ((bodyP f).length : Int), .int .i64 0]) ∧ Below W.heap.size W w' := fun W hW => by
    have := planF_any f va W hr hW
    unfold planR at this
    rw [if_pos h] at this
    exact this
  unfold encP
  have hc : f.kind = 1 ∨ f.kind = 2 ∨ f.kind = 3 ∨ f.kind = 4 ∨ f.kind = 5 ∨ f.kind = 6 := by omega
  rcases hc with k | k | k | k | k | k
  · rw [mayF_1 f k] at hm
    rw [← body_cons f _ 1 k]
    rw [show kOf f.kind = k1 by rw [k]; rfl] at hplan
    exact encode1_ok f va w (bodyP f).length (layP f) hr.tool ha k hl hll hplan (layF_1 f va hr k (by have := mayHello_of hm; show 0 ≤ f.ver; omega) (by have := mayHello_of hm; show 0 ≤ f.slots; omega))
  · rw [mayF_2 f k] at hm
    rw [← body_cons f _ 2 k]
    rw [show kOf f.kind = k2 by rw [k]; rfl] at hplan
    exact encode2_ok f va w (bodyP f).length (layP f) hr.tool ha k hl hll hplan (layF_2 f va hr k (mayReq_of hm).1 (mayReq_of hm).2.1 (mayReq_of hm).2.2.1 (args_len (mayReq_of hm).2.2.2.2 (mayReq_of hm).2.2.2.1) (body_le f (Or.inl k) hl))
  · rw [mayF_3 f k] at hm
    rw [← body_cons f _ 3 k]
    rw [show kOf f.kind = k3 by rw [k]; rfl] at hplan
    exact encode3_ok f va w (bodyP f).length (layP f) hr.tool ha k hl hll hplan (layF_3 f va hr k (by have := mayRes_of hm; show 0 ≤ f.status; omega) (body_le f (Or.inr (Or.inl k)) hl))
  · rw [mayF_4 f k] at hm
    rw [← body_cons f _ 4 k]
    rw [show kOf f.kind = k4 by rw [k]; rfl] at hplan
    exact encode4_ok f va w (bodyP f).length (layP f) hr.tool ha k hl hll hplan (layF_4 f va hr k )
  · rw [mayF_5 f k] at hm
    rw [← body_cons f _ 5 k]
    rw [show kOf f.kind = k5 by rw [k]; rfl] at hplan
    exact encode5_ok f va w (bodyP f).length (layP f) hr.tool ha k hl hll hplan (layF_5 f va hr k )
  · rw [mayF_6 f k] at hm
    rw [← body_cons f _ 6 k]
    rw [show kOf f.kind = k6 by rw [k]; rfl] at hplan
    exact encode6_ok f va w (bodyP f).length (layP f) hr.tool ha k hl hll hplan (layF_6 f va hr k (body_le f (Or.inr (Or.inr k)) hl))
end Go.Proofs.Ytjinkahlfigdcaa

/- Slices of frames in memory; what is written of many, plainly. -/
namespace Go.Proofs.Ytjinkahlfigdcaa
open Go.RowKit

abbrev FV := Fr × Value
def zFV : FV := (zF, nS)
/-- v is a slice that holds the frames fs, wherever they lie -/
def Frs (w : World) (v : Value) (fs : List FV) : Prop :=
  (∃ ao c, v = .slice ao 0 c ∧ fs = []) ∨ ∃ g o c, v = .slice (some ⟨g, o, none⟩) fs.length c ∧ g < w.heap.size ∧ ∀ j, j < fs.length → w.rangeAt g (o + j * 42) (fcells (fs.getD j zFV).1 (fs.getD j zFV).2) ∧ Strs w (fs.getD j zFV).2 (fs.getD j zFV).1.args ∧ Rng (fs.getD j zFV).1
theorem range_below {w w' : World} {g o n : Nat} {cs : List Value} (h : w.rangeAt g o cs) (hg : g < n) (hb : Below n w w') : w'.rangeAt g o cs := fun j v hv => (hb.cell (p := ⟨g, o + j, none⟩) hg).trans (h j v hv)
theorem Frs.below {w w' : World} {v : Value} {fs : List FV} (h : Frs w v fs) (hb : Below w.heap.size w w') : Frs w' v fs := by
  rcases h with h | ⟨g, o, c, hv, hlt, hc⟩
  · exact Or.inl h
  · exact Or.inr ⟨g, o, c, hv, Nat.lt_of_lt_of_le hlt hb.size, fun j hj => ⟨range_below (hc j hj).1 hlt hb, (hc j hj).2.1.below hb, (hc j hj).2.2⟩⟩
theorem Frs.shape {w : World} {v : Value} {fs : List FV} (h : Frs w v fs) : ∃ ao c, v = .slice ao fs.length c := by
  rcases h with ⟨ao, c, rfl, rfl⟩ | ⟨g, o, c, rfl, _⟩
  · exact ⟨_, _, rfl⟩
  · exact ⟨_, _, rfl⟩
theorem Frs.at {w : World} {ao : Option Addr} {n c : Nat} {fs : List FV} (h : Frs w (.slice ao n c) fs) (k : Nat) (hk : k < fs.length) : ∃ g o, ao = some ⟨g, o, none⟩ ∧ g < w.heap.size ∧ w.rangeAt g (o + k * 42) (fcells (fs.getD k zFV).1 (fs.getD k zFV).2) ∧ Strs w (fs.getD k zFV).2 (fs.getD k zFV).1.args ∧ Rng (fs.getD k zFV).1 := by
  rcases h with ⟨_, _, _, rfl⟩ | ⟨g, o, c', e, hlt, hc⟩
  · simp at hk
  · simp only [Value.slice.injEq] at e
    exact ⟨g, o, e.1, hlt, hc k hk⟩

/-- the first frame that is wrong -/
def firstE : List FV → Int
  | [] => 0
  | f :: r => if chkE f.1 = 0 then firstE r else chkE f.1
def allB (fs : List FV) : List UInt8 := fs.flatMap fun f => encP f.1
def allR (fs : List FV) : List UInt8 := if firstE fs = 0 then allB fs else []
/-- so many frames are right -/
def okTo (fs : List FV) (k : Nat) : Prop := ∀ j, j < k → chkE (fs.getD j zFV).1 = 0
theorem okTo_done : ∀ (fs : List FV), okTo fs fs.length → firstE fs = 0
  | [], _ => rfl
  | f :: r, h => by
    unfold firstE
    rw [if_pos (show chkE f.1 = 0 from h 0 (by simp))]
    exact okTo_done r (fun j hj => h (j + 1) (by simpa using hj))
theorem okTo_bad : ∀ (fs : List FV) (k : Nat), k < fs.length → okTo fs k → chkE (fs.getD k zFV).1 ≠ 0 → firstE fs = chkE (fs.getD k zFV).1
  | [], _, hk, _, _ => by simp at hk
  | f :: r, 0, _, _, hb => by
    unfold firstE
    rw [if_neg (show ¬ chkE f.1 = 0 from hb)]
    rfl
  | f :: r, k + 1, hk, h, hb => by
    unfold firstE
    rw [if_pos (show chkE f.1 = 0 from h 0 (by omega))]
    exact okTo_bad r k (by simpa using hk) (fun j hj => h (j + 1) (by omega)) hb
theorem okTo_step {fs : List FV} {k : Nat} (h : okTo fs k) (hb : chkE (fs.getD k zFV).1 = 0) : okTo fs (k + 1) := by
  intro j hj
  rcases Nat.lt_or_ge j k with h1 | h1
  · exact h j h1
  · obtain rfl : j = k := by omega
    exact hb
theorem allB_snoc (fs : List FV) (k : Nat) (hk : k < fs.length) : allB (fs.take (k + 1)) = allB (fs.take k) ++ encP (fs.getD k zFV).1 := by
  rw [List.take_succ_eq_append_getElem hk]
  unfold allB
  rw [List.flatMap_append]
  simp [List.getD_eq_getElem?_getD, List.getElem?_eq_getElem hk]
theorem enc_le {f : Fr} (h : chkE f = 0) : (encP f).length ≤ 3000000 := by
  have hl := (chk_ok h).2
  have := sn_length_le (bodyP f).length
  unfold encP
  rw [sealP_length, List.length_append]
  omega
theorem allB_len (fs : List FV) : ∀ k, k ≤ fs.length → okTo fs k → (allB (fs.take k)).length ≤ k * 3000000
  | 0, _, _ => by simp [allB]
  | k + 1, hk, h => by
    have ih := allB_len fs k (by omega) (fun j hj => h j (by omega))
    rw [allB_snoc fs k (by omega), List.length_append]
    have := enc_le (h k (by omega))
    omega
end Go.Proofs.Ytjinkahlfigdcaa

/- Frames out of a reading, of bulk. -/
namespace Go.Proofs.Ytjinkahlfigdcaa
open Go.ChangeShapes Go.WideShapes Go.ChangeAt Go.RowKit

section
variable {H : Type} {enc : TypeId × Value → H} {W : World} {spare : Nat → Bool} {held : Bool}
set_option maxRecDepth 100000 in
set_option maxHeartbeats 1000000 in
/-- one frame -/
theorem frame_e {fuel : Nat} {l : List Value} {x : DataW H × List MemPlace} (hf : DataW.trod enc Try.prog W 0 spare held fuel 29 l = some x) :
    ∃ (f : Fr) (va : Value), l = fcells f va ∧ FRead W (.agg l.toArray) f va ∧ f.body.length ≤ Rows.uptoBulk x.1 := by
  obtain ⟨y0, y1, y2, y3, y4, y5, y6, y7, y8, k, hx, hlen, t0, t1, t2, t3, t4, t5, t6, t7, t8⟩ := trod_struct9 Try.underlying29 hf
  rw [cellsFrame] at hlen
  obtain ⟨c0, c1, c2, c3, T, s, l1, l2, l3, va, b, rfl, hT⟩ := cells42 (l := l) hlen
  simp only [cellsInt, cellsU64, cellsDig, cellsLim, cellsTexts, cellsStr] at t0 t1 t2 t3 t4 t5 t6 t7 t8
  rw [mid42 hT] at t4
  rw [show (36 : Nat) = 36 + 0 from rfl, far42 hT] at t5
  rw [show (37 : Nat) = 36 + 1 from rfl, far42 hT] at t6
  rw [show (40 : Nat) = 36 + 4 from rfl, far42 hT] at t7
  rw [show (41 : Nat) = 36 + 5 from rfl, far42 hT] at t8
  simp only [List.cons_append, List.nil_append, List.drop_zero, List.drop_succ_cons, List.take_succ_cons, List.take_zero] at t0 t1 t2 t3 t5 t6 t7 t8 t4
  obtain ⟨n0, e0, _, w0⟩ := DataW.trod_int Try.underlying3 t0
  obtain ⟨n1, e1, _, w1⟩ := DataW.trod_int Try.underlying22 t1
  obtain ⟨n2, e2, _, w2⟩ := DataW.trod_int Try.underlying3 t2
  obtain ⟨n3, e3, _, w3⟩ := DataW.trod_int Try.underlying3 t3
  obtain ⟨n5, e5, _, w5⟩ := DataW.trod_int Try.underlying3 t5
  obtain ⟨bs, hbl, hbe⟩ := bytes_of_array (v := .agg T.toArray) (d := y4.1) (p := y4.2) Try.underlying24 Try.underlying5 (by kernel_rfl) (by kernel_rfl) (by decide) ⟨k, by simpa [Value.cells] using t4⟩
  have hbe2 : T = bytesV bs := by
    injection hbe with hbe
    have := congrArg Array.toList hbe
    simpa using this
  obtain ⟨z0, z1, z2, k6, hx6, hl6, g0, g1, g2⟩ := Go.Deep.trod_struct3 Try.underlying26 t6
  simp only [cellsInt, List.drop_zero, List.drop_succ_cons, List.take_succ_cons, List.take_zero] at g0 g1 g2
  obtain ⟨m0, f0, _, v0⟩ := DataW.trod_int Try.underlying3 g0
  obtain ⟨m1, f1, _, v1⟩ := DataW.trod_int Try.underlying3 g1
  obtain ⟨m2, f2, _, v2⟩ := DataW.trod_int Try.underlying3 g2
  obtain ⟨ao, n, c, rfl⟩ : ∃ ai ni ci, va = .slice ai ni ci := by
    rcases DataW.trod_slice Try.underlying27 t7 with ⟨hc1, _⟩ | ⟨a', len', cap', _, _, _, _, hc1, _⟩
    · simp at hc1; exact ⟨_, _, _, hc1⟩
    · simp at hc1; exact ⟨_, _, _, hc1⟩
  have hmany : n ≤ maxLen := by
    rcases Go.Deep.open_slice Try.underlying27 t7 with ⟨hcs, _⟩ | ⟨a, len, cap, m, n', D, Pl, hcs, _, hl, hm, hmm, hx, hel⟩
    · simp at hcs
      rw [hcs.2.1]
      exact Nat.zero_le _
    · simp at hcs
      rw [hcs.2.1]
      exact Nat.le_trans hl hm
  obtain ⟨ts, hs1, hs2, hs3, hs4, hs5, hs6, hs7⟩ := texts_of (W := W) (pl := y7.2) (d := y7.1) (ao := ao) (n := n) (c := c) ⟨k, by simpa [Value.cells] using t7⟩
  obtain ⟨sb, e8, f8, _⟩ := DataW.trod_string Try.underlying9 t8
  simp only [List.cons.injEq, and_true] at e0 e1 e2 e3 e5 e8 f0 f1 f2
  subst e0 e1 e2 e3 e5 e8 f0 f1 f2 hbe2
  have hfc : [.int .i64 n0, .int .u64 n1, .int .i64 n2, .int .i64 n3] ++ (bytesV bs ++ [.int .i64 n5, .int .i64 m0, .int .i64 m1, .int .i64 m2, .slice ao n c, .string sb]) = fcells ⟨n0, n1, n2, n3, bs, n5, (m0, m1, m2), ts, bl sb⟩ (.slice ao n c) := by
    unfold fcells
    rw [mk_bl]
  refine ⟨⟨n0, n1, n2, n3, bs, n5, (m0, m1, m2), ts, bl sb⟩, .slice ao n c, hfc, ⟨by rw [hfc], hbl, hs1, by rw [hs2]; exact hmany, ⟨wf_i w0, wf_u w1, wf_i w2, wf_i w3, wf_i w5⟩, ⟨wf_i v0, wf_i v1, wf_i v2⟩⟩, ?_⟩
  rw [hx, f8]
  simp only [Rows.uptoBulk, Rows.uptoBulkAll, bl_eq]
  omega
theorem cellsF : Try.prog.cellsOf 29 = 42 := by kernel_rfl

set_option maxRecDepth 100000 in
set_option maxHeartbeats 1000000 in
theorem frames_b {ao : Option Addr} {n c : Nat} {d : DataW H} {pl : List MemPlace} (h : DataW.Trod enc Try.prog W 0 spare held 42 (.slice ao n c) d pl) (hk : Rows.uptoBulk d ≤ 1048576) :
    ∃ fs : List FV, Frs W (.slice ao n c) fs ∧ fs.length ≤ 1048576 := by
  obtain ⟨fuel, hf⟩ := h
  rcases Go.Deep.open_slice Try.underlying42 hf with ⟨hcs, _⟩ | ⟨a, len, cap, m, n', D, Pl, hcs, _, hl, hm, hmm, hx, hel⟩
  · simp [Value.cells] at hcs
    obtain ⟨rfl, rfl, rfl⟩ := hcs
    exact ⟨[], Or.inl ⟨_, _, rfl, rfl⟩, by simp⟩
  · simp [Value.cells] at hcs
    obtain ⟨rfl, rfl, rfl⟩ := hcs
    have hlm : n ≤ m := by rw [hmm]; split <;> omega
    rw [cellsF] at hel
    simp only [Prod.mk.injEq] at hx
    have hbd : Rows.uptoBulkAll ((List.range n).map D) ≤ 1048576 := by rw [hx.1] at hk; simp only [Rows.uptoBulk] at hk; omega
    have hn : n ≤ 1048576 := by
      have := bulk_count ((List.range n).map D)
      simp at this
      omega
    obtain ⟨fs, hfs, hp⟩ := list_of (P := fun i (e : FV) => (∀ j v, (fcells e.1 e.2)[j]? = some v → W.cell? ((a.add (i * 42)).add j) = some v) ∧ Strs W e.2 e.1.args ∧ Rng e.1) (n := n) (by
      intro i hi
      obtain ⟨cs', hc, ht⟩ := hel i (by omega)
      obtain ⟨f, va, e0, hr, hb⟩ := frame_e ht
      have h2 : Rows.uptoBulk (D i) ≤ 1048576 := Nat.le_trans (bulk_mem (List.mem_map.2 ⟨i, List.mem_range.2 (by omega), rfl⟩)) hbd
      have hh := World.cells?_some hc
      refine ⟨(f, va), fun j v hv => ?_, hr.strs, rng_of hr (Nat.le_trans hb (Nat.le_trans h2 (by decide)))⟩
      have hj : j < 42 := by
        have h9 := (List.getElem?_eq_some_iff.1 hv).1
        rw [fcells_length f va hr.tool] at h9
        exact h9
      have h8 := hh.2.2 j (by omega)
      rw [e0] at h8
      rw [← hv]
      simpa using h8)
    refine ⟨fs, ?_, by omega⟩
    rcases Nat.eq_zero_or_pos n with rfl | hpos
    · exact Or.inl ⟨_, _, rfl, List.length_eq_zero_iff.1 hfs⟩
    · have hg : ∀ j, j < n → fs[j]? = some (fs.getD j zFV) := fun j hj => by rw [List.getD_eq_getElem?_getD, List.getElem?_eq_getElem (show j < fs.length by omega)]; rfl
      have h0 := (hp 0 _ (hg 0 hpos)).1 0 (.int .i64 (fs.getD 0 zFV).1.kind) rfl
      have ha : a = ⟨a.block, a.off, none⟩ := addr_plain (v := .int .i64 (fs.getD 0 zFV).1.kind) (by simpa [Addr.add] using h0)
      have hlt : a.block < W.heap.size := World.block_lt_of_cell? W a (u := .int .i64 (fs.getD 0 zFV).1.kind) (by simpa [Addr.add] using h0)
      generalize a.block = g at ha hlt
      generalize a.off = o at ha
      subst ha
      refine Or.inr ⟨g, o, c, by rw [hfs], hlt, fun j hj => ?_⟩
      obtain ⟨h1, h2, h3⟩ := hp j _ (hg j (by omega))
      refine ⟨fun i v hv => ?_, h2, h3⟩
      have h4 := h1 i v hv
      simp only [add_plain] at h4
      exact h4
end
end Go.Proofs.Ytjinkahlfigdcaa

/- The document's only: a frame with just the fields that its kind has. -/
namespace Go.Proofs.Ytjinkahlfigdcaa
open Go.RowKit Go.BigFrame

def setAll (a : Array Value) : Nat → List Value → Array Value
  | _, [] => a
  | o, v :: r => setAll (a.setIfInBounds o v) (o + 1) r
theorem blk_cells {b : Nat} {t : TypeId} : ∀ (cs : List Value) (o : Nat) {w : World} {a : Array Value}, w.heap[b]? = some (.cells a t (0, 0)) → (w.setCells b o cs).heap[b]? = some (.cells (setAll a o cs) t (0, 0))
  | [], _, _, _, h => h
  | _ :: r, o, _, _, h => blk_cells r (o + 1) (blk_set h _)
theorem below_cells {B b : Nat} {w0 : World} (hb : B ≤ b) : ∀ (cs : List Value) (o : Nat) {w : World}, Below B w0 w → Below B w0 (w.setCells b o cs)
  | [], _, _, h => h
  | v :: r, o, _, h => below_cells hb r (o + 1) (h.setCell (p := ⟨b, o, none⟩) hb v)
theorem there_row {w : World} {b : Nat} {a : Array Value} {t : TypeId} (h : w.heap[b]? = some (.cells a t (0, 0))) (o n : Nat) (hn : o + n ≤ a.size) : w.there b o n := fun j hj => by
  refine ⟨?_, row_fz h (o + j)⟩
  rw [cell_of_row w b (o + j) a t (0, 0) h, Array.getElem?_eq_getElem (by omega)]
  rfl
theorem step_store_mid2 {P : Program} {ops : Array Oper} {o : Oper} {a : Act} {w : World} {K : Act → World → Prop} {Q : Exit → Act → World → Prop} {E : Prop} (hgd : o.guard = none) (ty : TypeId) (x y : Operand) (ho : o.op = .store ty x y)
    (b off : Nat) (cs : List Value) (hx : a.eval x = .pointer (some ⟨b, off, none⟩)) (hy : a.eval y = .agg cs.toArray) (ht : w.there b off cs.length) (hi : (P.info? ty).map (·.size) = some cs.length) (h1 : ∀ v ∈ cs, v.oneCell' = true)
    (h : K (a.put o.dst undef) (w.setCells b off cs)) : if Region.wanted o (yielded ops a.tmps) = true then Oper.wp P o a w K Q else E := by
  rw [if_pos (by simp [Region.wanted, hgd])]
  have hrun := run_storeVar_mid (P := P) w b off ty cs.toArray (by simpa using ht) (by simpa using hi) (by simpa using h1)
  unfold Oper.wp execOp
  simp only [ho, hx, hy, Instr.storeAt, Instr.sureAddr, Sem.run_bind, Sem.run_pure, Result.andThen_ok, hrun]
  exact h
theorem heq1_32 (v s : Int) (t0 t1 t2 t3 t4 t5 t6 t7 t8 t9 t10 t11 t12 t13 t14 t15 t16 t17 t18 t19 t20 t21 t22 t23 t24 t25 t26 t27 t28 t29 t30 t31 : UInt8) : setAll ((((fcells ⟨1, 0, 0, 0, List.replicate 32 0, 0, (0, 0, 0), [], []⟩ nS).toArray).setIfInBounds 2 (.int .i64 v)).setIfInBounds 3 (.int .i64 s)) 4 (bytesV [t0, t1, t2, t3, t4, t5, t6, t7, t8, t9, t10, t11, t12, t13, t14, t15, t16, t17, t18, t19, t20, t21, t22, t23, t24, t25, t26, t27, t28, t29, t30, t31]) = (fcells ⟨1, 0, v, s, [t0, t1, t2, t3, t4, t5, t6, t7, t8, t9, t10, t11, t12, t13, t14, t15, t16, t17, t18, t19, t20, t21, t22, t23, t24, t25, t26, t27, t28, t29, t30, t31], 0, (0, 0, 0), [], []⟩ nS).toArray := by kernel_rfl
theorem heq1 (v s : Int) (T : List UInt8) (h : T.length = 32) : setAll ((((fcells ⟨1, 0, 0, 0, List.replicate 32 0, 0, (0, 0, 0), [], []⟩ nS).toArray).setIfInBounds 2 (.int .i64 v)).setIfInBounds 3 (.int .i64 s)) 4 (bytesV T) = (fcells ⟨1, 0, v, s, T, 0, (0, 0, 0), [], []⟩ nS).toArray := by
  obtain ⟨t0, t1, t2, t3, t4, t5, t6, t7, t8, t9, t10, t11, t12, t13, t14, t15, t16, t17, t18, t19, t20, t21, t22, t23, t24, t25, t26, t27, t28, t29, t30, t31, rfl⟩ := list32 h
  exact heq1_32 v s t0 t1 t2 t3 t4 t5 t6 t7 t8 t9 t10 t11 t12 t13 t14 t15 t16 t17 t18 t19 t20 t21 t22 t23 t24 t25 t26 t27 t28 t29 t30 t31
theorem eq_rowFOnly1 {w : World} {g : Nat} {a b : Array Value} {t : TypeId} (h : w.heap[g]? = some (.cells a t (0, 0))) (e : a = b) : w.heap[g]? = some (.cells b t (0, 0)) := by rw [← e]; exact h

theorem built_b1 : Try.prog.built 29 [(0, .int .i64 1)] = some (fcells ⟨1, 0, 0, 0, List.replicate 32 0, 0, (0, 0, 0), [], []⟩ nS).toArray := by kernel_rfl

set_option maxRecDepth 100000 in
set_option maxHeartbeats 4000000 in
theorem only1_any (f : Fr) (va : Value) (w : World) (hk : f.kind = 1) (hf : f.tool.length = 32) (hv : ∃ ao n c, va = .slice ao n c) :
    Calls Try.prog 45 #[.agg (fcells f va).toArray] w fun e w' => e = .returned (.agg (fcells (ownF f) (ownV f va)).toArray) ∧ Below w.heap.size w w' := by
  obtain ⟨ao, nn, cc, rfl⟩ := hv
  have HNB := hid (hp_two w (.cells (fcells f (.slice ao nn cc)).toArray 29) (.cells (fcells zF nS).toArray 29))
  have HBL := hid (below_walk2 w (.cells (fcells f (.slice ao nn cc)).toArray 29) (.cells (fcells zF nS).toArray 29))
  have HZ : Hid ((w.alloc (.cells (fcells f (.slice ao nn cc)).toArray 29)).heap.size = w.heap.size + 1) := hid (by simp)
  have HOW : Hid (fcells (ownF f) (ownV f (.slice ao nn cc)) = fcells (ownF f) (ownV f (.slice ao nn cc))) := hid rfl
  have HOT := hid (ownF_tool f hf)
  have HSZ := hid (frame_size (ownF f) (ownV f (.slice ao nn cc)) HOT.out)
  have HON := hid (fcells_one (ownF f) (ownV f (.slice ao nn cc)) (by unfold ownV; split <;> rfl))
  have HOS := hid (show (fcells zF nS).toArray.size = (fcells (ownF f) (ownV f (.slice ao nn cc))).length by rw [fcells_length _ _ HOT.out]; rfl)
  have HSB := hid (frame_size ⟨1, 0, 0, 0, List.replicate 32 0, 0, (0, 0, 0), [], []⟩ nS rfl)
  have HEQ : Hid (setAll ((((fcells ⟨1, 0, 0, 0, List.replicate 32 0, 0, (0, 0, 0), [], []⟩ nS).toArray).setIfInBounds 2 (.int .i64 f.ver)).setIfInBounds 3 (.int .i64 f.slots)) 4 (bytesV f.tool) = (fcells (ownF f) (ownV f (.slice ao nn cc))).toArray) := hid (by
    unfold ownF ownV
    rw [if_pos hk, if_neg (show ¬ f.kind = 2 by omega)]
    exact heq1 f.ver f.slots f.tool hf)
  have HK := hid hk
  have HF := hid hf
  clear hk hf HOW
  go_enter Try.func45, Try.ntmps45
  go_upto_region 1 with (refine al_row (by rfl) 29 (by rfl) _ zeroFrame ?_)
  try rw [HZ.out]
  generalize (w.alloc (.cells (fcells f (.slice ao nn cc)).toArray 29)).alloc (.cells (fcells zF nS).toArray 29) = w2 at HNB HBL ⊢
  have x0 := (Fb.of HNB.out.1 HF.out).k
  rw [HK.out] at x0
  have HL2 := hid (hp_lt HNB.out.2)
  go_upto_region 2 with (first
    | (refine bd_row (by rfl) 29 #[(0, .tmp 5)] (by rfl) _ (by simp [Act.eval]) _ built_b1 ?_)
    | (refine al_row (by rfl) 29 (by rfl) _ zeroFrame ?_)
    | (refine st_new (by rfl) 29 _ _ (by rfl) (fcells ⟨1, 0, 0, 0, List.replicate 32 0, 0, (0, 0, 0), [], []⟩ nS) (by rfl) (by rfl) 29 _ HSB.out rfl (fcells_one _ nS rfl) ?_))
  have HN1 := hid ((below_walk w2 (.cells (fcells ⟨1, 0, 0, 0, List.replicate 32 0, 0, (0, 0, 0), [], []⟩ nS).toArray 29)).block _ (by have := HL2.out; omega) |>.trans HNB.out.1)
  have HN2 := hid ((below_walk w2 (.cells (fcells ⟨1, 0, 0, 0, List.replicate 32 0, 0, (0, 0, 0), [], []⟩ nS).toArray 29)).block _ HL2.out |>.trans HNB.out.2)
  have HN3 := hid (hp_new w2 (.cells (fcells ⟨1, 0, 0, 0, List.replicate 32 0, 0, (0, 0, 0), [], []⟩ nS).toArray 29))
  have HB3 := hid (below_then HBL.out (below_walk w2 (.cells (fcells ⟨1, 0, 0, 0, List.replicate 32 0, 0, (0, 0, 0), [], []⟩ nS).toArray 29)))
  have HG3 := hid (show w.heap.size + 1 < w2.heap.size from HL2.out)
  obtain ⟨B3, HE3⟩ : ∃ b : Nat, Hid (w2.heap.size = b) := ⟨_, rfl⟩
  rw [HE3.out] at HN3 HG3 ⊢
  generalize w2.alloc (.cells (fcells ⟨1, 0, 0, 0, List.replicate 32 0, 0, (0, 0, 0), [], []⟩ nS).toArray 29) = w3 at HN1 HN2 HN3 HB3 ⊢
  clear x0 HNB HBL HL2
  have HFB := hid (Fb.of HN1.out HF.out)
  have HFC := hid (Fb.of HN3.out (show (⟨1, 0, 0, 0, List.replicate 32 0, 0, (0, 0, 0), [], []⟩ : Fr).tool.length = 32 from rfl))
  have x1 := HFB.out.k
  rw [HK.out] at x1
  have HYv := hid HFB.out.v
  have HYs := hid HFB.out.s
  have HYt := hid HFB.out.t
  have HTS := hid (tool_size f.tool HF.out)
  have ne1 : ¬ w.heap.size = B3 := by have := HG3.out; omega
  have ne2 : ¬ B3 = w.heap.size := by have := HG3.out; omega
  go_upto_region 4 with fail
  have HLB := hid (show w.heap.size < B3 by have := HG3.out; omega)
  refine wp_noPanic (wp_region_held_drew (S := fun W => Below B3 w3 W) (by kernel_rfl) ⟨rfl, rfl, rfl, Nat.le_refl _, fun _ _ => rfl⟩ ?_)
  intro hHeld
  refine wpAnyH_take (i := 0) (v := .pointer (some ⟨w.heap.size, 2, none⟩)) rfl (by kernel_rfl) (by kernel_rfl) (by kernel_rfl) (fun _ _ _ h => h) (Or.inl ⟨by rfl, fun W _ => by go_simp⟩) hHeld ?_
  simp only [Act.put, List.getElem_toArray, List.getElem_cons_zero, List.setIfInBounds_toArray, List.set_cons_succ, List.set_cons_zero]
  refine wpAnyH_take (i := 1) (v := .int .i64 f.ver) rfl (by kernel_rfl) (by kernel_rfl) (by kernel_rfl) (fun _ _ _ h => h) (Or.inl ⟨by rfl, fun W hW => by have hcell2 := (hW.cell (p := ⟨w.heap.size, 2, none⟩) HLB.out).trans HYv.out; clear hW; go_simp⟩) hHeld ?_
  simp only [Act.put, List.getElem_toArray, List.getElem_cons_zero, List.getElem_cons_succ, List.setIfInBounds_toArray, List.set_cons_succ, List.set_cons_zero]
  refine wpAnyH_take (i := 2) (v := .pointer (some ⟨w.heap.size, 3, none⟩)) rfl (by kernel_rfl) (by kernel_rfl) (by kernel_rfl) (fun _ _ _ h => h) (Or.inl ⟨by rfl, fun W _ => by go_simp⟩) hHeld ?_
  simp only [Act.put, List.getElem_toArray, List.getElem_cons_zero, List.getElem_cons_succ, List.setIfInBounds_toArray, List.set_cons_succ, List.set_cons_zero]
  refine wpAnyH_take (i := 3) (v := .int .i64 f.slots) rfl (by kernel_rfl) (by kernel_rfl) (by kernel_rfl) (fun _ _ _ h => h) (Or.inl ⟨by rfl, fun W hW => by have hcell3 := (hW.cell (p := ⟨w.heap.size, 3, none⟩) HLB.out).trans HYs.out; clear hW; go_simp⟩) hHeld ?_
  simp only [Act.put, List.getElem_toArray, List.getElem_cons_zero, List.getElem_cons_succ, List.setIfInBounds_toArray, List.set_cons_succ, List.set_cons_zero]
  refine wpAnyH_take (i := 4) (v := .pointer (some ⟨w.heap.size, 4, none⟩)) rfl (by kernel_rfl) (by kernel_rfl) (by kernel_rfl) (fun _ _ _ h => h) (Or.inl ⟨by rfl, fun W _ => by go_simp⟩) hHeld ?_
  simp only [Act.put, List.getElem_toArray, List.getElem_cons_zero, List.getElem_cons_succ, List.setIfInBounds_toArray, List.set_cons_succ, List.set_cons_zero]
  refine wpAnyH_take (i := 5) (v := .agg (bytesV f.tool).toArray) rfl (by kernel_rfl) (by kernel_rfl) (by kernel_rfl) (fun _ _ _ h => h) (yieldsIf_load_mid (by rfl) 24 (.tmp 15) rfl w.heap.size 4 rfl (bytesV f.tool) _ (fun W hW => fun j v hv => (hW.cell (p := ⟨w.heap.size, 4 + j, none⟩) HLB.out).trans (HYt.out j v hv)) Try.underlying24 rfl HTS.out) hHeld ?_
  simp only [Act.put, List.getElem_toArray, List.getElem_cons_zero, List.getElem_cons_succ, List.setIfInBounds_toArray, List.set_cons_succ, List.set_cons_zero]
  obtain ⟨wx, HWX⟩ : ∃ x, Hid (w3.drew = x) := ⟨_, rfl⟩
  rw [HWX.out] at hHeld ⊢
  have HNx0 := hid (show wx.heap[B3]? = some (.cells (fcells ⟨1, 0, 0, 0, List.replicate 32 0, 0, (0, 0, 0), [], []⟩ nS).toArray 29 (0, 0)) by rw [← HWX.out]; exact HN3.out)
  have hq0 : Below B3 w3 wx := hHeld
  refine wpAnyH_take (i := 6) (v := .pointer (some ⟨B3, 2, none⟩)) rfl (by kernel_rfl) (by kernel_rfl) (by kernel_rfl) (fun _ _ _ h => h) (Or.inl ⟨by rfl, fun W _ => by go_simp⟩) hHeld ?_
  simp only [Act.put, List.getElem_toArray, List.getElem_cons_zero, List.getElem_cons_succ, List.setIfInBounds_toArray, List.set_cons_succ, List.set_cons_zero]
  have g7 : wx.cell? ⟨B3, 2, none⟩ = some _ := cell_of_row wx B3 2 _ _ _ HNx0.out
  have z7 := row_fz HNx0.out 2
  refine wpAnyH_ready (rs := [7]) (by kernel_rfl) (by simp) ?_
  refine AllReadyH.cons rfl (fun K hK => ?_) AllReadyH.nil
  go_simp
  have hq1 : Below B3 w3 (wx.setCell ⟨B3, 2, none⟩ (.int .i64 f.ver)) := hq0.setCell (p := ⟨B3, 2, none⟩) (Nat.le_refl _) _
  have HNx1 := hid (show (wx.setCell ⟨B3, 2, none⟩ (.int .i64 f.ver)).heap[B3]? = some (.cells ((fcells ⟨1, 0, 0, 0, List.replicate 32 0, 0, (0, 0, 0), [], []⟩ nS).toArray.setIfInBounds 2 (.int .i64 f.ver)) 29 (0, 0)) from blk_set HNx0.out _)
  refine hK.out _ _ hq1 (fun hHeld => ?_)
  clear hK K g7 z7
  try simp only [Act.put, List.getElem_toArray, List.getElem_cons_zero, List.getElem_cons_succ, List.setIfInBounds_toArray, List.set_cons_succ, List.set_cons_zero]
  obtain ⟨wy1, hwy1⟩ : ∃ x, (wx.setCell ⟨B3, 2, none⟩ (.int .i64 f.ver)) = x := ⟨_, rfl⟩
  rw [hwy1] at hq1 HNx1 hHeld ⊢
  refine wpAnyH_take (i := 8) (v := .pointer (some ⟨B3, 3, none⟩)) rfl (by kernel_rfl) (by kernel_rfl) (by kernel_rfl) (fun _ _ _ h => h) (Or.inl ⟨by rfl, fun W _ => by go_simp⟩) hHeld ?_
  simp only [Act.put, List.getElem_toArray, List.getElem_cons_zero, List.getElem_cons_succ, List.setIfInBounds_toArray, List.set_cons_succ, List.set_cons_zero]
  have g9 : wy1.cell? ⟨B3, 3, none⟩ = some _ := cell_of_row wy1 B3 3 _ _ _ HNx1.out
  have z9 := row_fz HNx1.out 3
  refine wpAnyH_ready (rs := [9]) (by kernel_rfl) (by simp) ?_
  refine AllReadyH.cons rfl (fun K hK => ?_) AllReadyH.nil
  go_simp
  have hq2 : Below B3 w3 (wy1.setCell ⟨B3, 3, none⟩ (.int .i64 f.slots)) := hq1.setCell (p := ⟨B3, 3, none⟩) (Nat.le_refl _) _
  have HNx2 := hid (show (wy1.setCell ⟨B3, 3, none⟩ (.int .i64 f.slots)).heap[B3]? = some (.cells (((fcells ⟨1, 0, 0, 0, List.replicate 32 0, 0, (0, 0, 0), [], []⟩ nS).toArray.setIfInBounds 2 (.int .i64 f.ver)).setIfInBounds 3 (.int .i64 f.slots)) 29 (0, 0)) from blk_set HNx1.out _)
  refine hK.out _ _ hq2 (fun hHeld => ?_)
  clear hK K g9 z9
  try simp only [Act.put, List.getElem_toArray, List.getElem_cons_zero, List.getElem_cons_succ, List.setIfInBounds_toArray, List.set_cons_succ, List.set_cons_zero]
  obtain ⟨wy2, hwy2⟩ : ∃ x, (wy1.setCell ⟨B3, 3, none⟩ (.int .i64 f.slots)) = x := ⟨_, rfl⟩
  rw [hwy2] at hq2 HNx2 hHeld ⊢
  refine wpAnyH_take (i := 10) (v := .pointer (some ⟨B3, 4, none⟩)) rfl (by kernel_rfl) (by kernel_rfl) (by kernel_rfl) (fun _ _ _ h => h) (Or.inl ⟨by rfl, fun W _ => by go_simp⟩) hHeld ?_
  simp only [Act.put, List.getElem_toArray, List.getElem_cons_zero, List.getElem_cons_succ, List.setIfInBounds_toArray, List.set_cons_succ, List.set_cons_zero]
  refine wpAnyH_ready (rs := [11]) (by kernel_rfl) (by simp) ?_
  refine AllReadyH.cons rfl (fun K hK => ?_) AllReadyH.nil
  refine step_store_mid2 (by rfl) 24 (.tmp 19) (.tmp 16) (by rfl) B3 4 (bytesV f.tool) (by rfl) (by rfl) (there_row HNx2.out 4 _ (by rw [bytesV_length, HF.out, Array.size_setIfInBounds, Array.size_setIfInBounds]; decide)) HTS.out (bytesV_one _) ?_
  have hq3 : Below B3 w3 (wy2.setCells B3 4 (bytesV f.tool)) := below_cells (Nat.le_refl _) _ _ hq2
  have HNx3 := hid (blk_cells (bytesV f.tool) 4 HNx2.out)
  refine hK.out _ _ hq3 (fun hHeld => ?_)
  clear hK K
  try simp only [Act.put, List.getElem_toArray, List.getElem_cons_zero, List.getElem_cons_succ]
  obtain ⟨wy3, hwy3⟩ : ∃ x, wy2.setCells B3 4 (bytesV f.tool) = x := ⟨_, rfl⟩
  rw [hwy3] at hq3 HNx3 hHeld ⊢
  refine wpAnyH_done (by kernel_rfl) ?_ _
  simp only [noPanic]
  clear hHeld
  go_upto_region 13 with fail
  have HN4 := hid (eq_rowFOnly1 HNx3.out HEQ.out)
  have HN5 := hid ((hq3.block (w.heap.size + 1) HG3.out).trans HN2.out)
  have HB4 := hid (show Below w.heap.size w wy3 from below_tr HB3.out (hq3.mono (by have := HLB.out; omega)))
  obtain ⟨FO, HFO⟩ : ∃ L, Hid (fcells (ownF f) (ownV f (.slice ao nn cc)) = L) := ⟨_, rfl⟩
  rw [HFO.out] at HSZ HON HOS HN4
  go_wp2_with (first
    | (refine ld_row (by rfl) 29 (.tmp 3) (by rfl) B3 (by rfl) FO 29 HN4.out _ Try.underlying29 rfl HSZ.out ?_)
    | (refine st_row (by rfl) 29 _ _ (by rfl) (w.heap.size + 1) FO (by rfl) (by rfl) 29 _ HN5.out HSZ.out HOS.out HON.out ?_; intro w5 hw5))
  refine ret_row 2 29 rfl (w.heap.size + 1) rfl FO 29 hw5.blk _ Try.underlying29 rfl HSZ.out rfl ⟨by rw [HFO.out], Below.of_gb HB4.out hw5.grown (by omega)⟩

end Go.Proofs.Ytjinkahlfigdcaa

/- The document's only: a frame with just the fields that its kind has. -/
namespace Go.Proofs.Ytjinkahlfigdcaa
open Go.RowKit Go.BigFrame

theorem eq_rowFOnly2 {w : World} {g : Nat} {a b : Array Value} {t : TypeId} (h : w.heap[g]? = some (.cells a t (0, 0))) (e : a = b) : w.heap[g]? = some (.cells b t (0, 0)) := by rw [← e]; exact h

theorem built_b2 : Try.prog.built 29 [(0, .int .i64 2)] = some (fcells ⟨2, 0, 0, 0, List.replicate 32 0, 0, (0, 0, 0), [], []⟩ nS).toArray := by kernel_rfl

set_option maxRecDepth 100000 in
set_option maxHeartbeats 4000000 in
theorem only2_any (f : Fr) (va : Value) (w : World) (hk : f.kind = 2) (hf : f.tool.length = 32) (hv : ∃ ao n c, va = .slice ao n c) :
    Calls Try.prog 45 #[.agg (fcells f va).toArray] w fun e w' => e = .returned (.agg (fcells (ownF f) (ownV f va)).toArray) ∧ Below w.heap.size w w' := by
  obtain ⟨ao, nn, cc, rfl⟩ := hv
  have HNB := hid (hp_two w (.cells (fcells f (.slice ao nn cc)).toArray 29) (.cells (fcells zF nS).toArray 29))
  have HBL := hid (below_walk2 w (.cells (fcells f (.slice ao nn cc)).toArray 29) (.cells (fcells zF nS).toArray 29))
  have HZ : Hid ((w.alloc (.cells (fcells f (.slice ao nn cc)).toArray 29)).heap.size = w.heap.size + 1) := hid (by simp)
  have HOW : Hid (fcells (ownF f) (ownV f (.slice ao nn cc)) = fcells (ownF f) (ownV f (.slice ao nn cc))) := hid rfl
  have HOT := hid (ownF_tool f hf)
  have HSZ := hid (frame_size (ownF f) (ownV f (.slice ao nn cc)) HOT.out)
  have HON := hid (fcells_one (ownF f) (ownV f (.slice ao nn cc)) (by unfold ownV; split <;> rfl))
  have HOS := hid (show (fcells zF nS).toArray.size = (fcells (ownF f) (ownV f (.slice ao nn cc))).length by rw [fcells_length _ _ HOT.out]; rfl)
  have HSB := hid (frame_size ⟨2, 0, 0, 0, List.replicate 32 0, 0, (0, 0, 0), [], []⟩ nS rfl)
  have HEQ : Hid ((((((((fcells ⟨2, 0, 0, 0, List.replicate 32 0, 0, (0, 0, 0), [], []⟩ nS).toArray.setIfInBounds 1 (.int .u64 f.id)).setIfInBounds 37 (.int .i64 f.lim.1)).setIfInBounds 38 (.int .i64 f.lim.2.1)).setIfInBounds 39 (.int .i64 f.lim.2.2)).setIfInBounds 40 (.slice ao nn cc)).setIfInBounds 41 (.string (mk f.body))) = (fcells (ownF f) (ownV f (.slice ao nn cc))).toArray) := hid (by
    unfold ownF ownV
    rw [if_neg (show ¬ f.kind = 1 by omega), if_pos hk, if_pos hk]
    rfl)
  have HK := hid hk
  have HF := hid hf
  clear hk hf HOW
  go_enter Try.func45, Try.ntmps45
  go_upto_region 1 with (refine al_row (by rfl) 29 (by rfl) _ zeroFrame ?_)
  try rw [HZ.out]
  generalize (w.alloc (.cells (fcells f (.slice ao nn cc)).toArray 29)).alloc (.cells (fcells zF nS).toArray 29) = w2 at HNB HBL ⊢
  have x0 := (Fb.of HNB.out.1 HF.out).k
  rw [HK.out] at x0
  have HL2 := hid (hp_lt HNB.out.2)
  go_upto_region 2 with (first
    | (refine bd_row (by rfl) 29 #[(0, .tmp 5)] (by rfl) _ (by simp [Act.eval]) _ built_b2 ?_)
    | (refine al_row (by rfl) 29 (by rfl) _ zeroFrame ?_)
    | (refine st_new (by rfl) 29 _ _ (by rfl) (fcells ⟨2, 0, 0, 0, List.replicate 32 0, 0, (0, 0, 0), [], []⟩ nS) (by rfl) (by rfl) 29 _ HSB.out rfl (fcells_one _ nS rfl) ?_))
  have HN1 := hid ((below_walk w2 (.cells (fcells ⟨2, 0, 0, 0, List.replicate 32 0, 0, (0, 0, 0), [], []⟩ nS).toArray 29)).block _ (by have := HL2.out; omega) |>.trans HNB.out.1)
  have HN2 := hid ((below_walk w2 (.cells (fcells ⟨2, 0, 0, 0, List.replicate 32 0, 0, (0, 0, 0), [], []⟩ nS).toArray 29)).block _ HL2.out |>.trans HNB.out.2)
  have HN3 := hid (hp_new w2 (.cells (fcells ⟨2, 0, 0, 0, List.replicate 32 0, 0, (0, 0, 0), [], []⟩ nS).toArray 29))
  have HB3 := hid (below_then HBL.out (below_walk w2 (.cells (fcells ⟨2, 0, 0, 0, List.replicate 32 0, 0, (0, 0, 0), [], []⟩ nS).toArray 29)))
  have HG3 := hid (show w.heap.size + 1 < w2.heap.size from HL2.out)
  obtain ⟨B3, HE3⟩ : ∃ b : Nat, Hid (w2.heap.size = b) := ⟨_, rfl⟩
  rw [HE3.out] at HN3 HG3 ⊢
  generalize w2.alloc (.cells (fcells ⟨2, 0, 0, 0, List.replicate 32 0, 0, (0, 0, 0), [], []⟩ nS).toArray 29) = w3 at HN1 HN2 HN3 HB3 ⊢
  clear x0 HNB HBL HL2
  have HFB := hid (Fb.of HN1.out HF.out)
  have HFC := hid (Fb.of HN3.out (show (⟨2, 0, 0, 0, List.replicate 32 0, 0, (0, 0, 0), [], []⟩ : Fr).tool.length = 32 from rfl))
  have x1 := HFB.out.k
  rw [HK.out] at x1
  have y_i := HFB.out.i
  have y_l1 := HFB.out.l1
  have y_l2 := HFB.out.l2
  have y_l3 := HFB.out.l3
  have y_a := HFB.out.a
  have y_bd := HFB.out.bd
  have c_i := HFC.out.i
  have c_l1 := HFC.out.l1
  have c_l2 := HFC.out.l2
  have c_l3 := HFC.out.l3
  have c_a := HFC.out.a
  have c_bd := HFC.out.bd
  have f_1 := row_fz HN3.out 1
  have f_37 := row_fz HN3.out 37
  have f_38 := row_fz HN3.out 38
  have f_39 := row_fz HN3.out 39
  have f_40 := row_fz HN3.out 40
  have f_41 := row_fz HN3.out 41
  have ne1 : ¬ w.heap.size = B3 := by have := HG3.out; omega
  have ne2 : ¬ B3 = w.heap.size := by have := HG3.out; omega
  go_upto_region 6 with fail
  have HLB := hid (show w.heap.size < B3 by have := HG3.out; omega)
  have HYi := hid y_i
  have HYl1 := hid y_l1
  have HYl2 := hid y_l2
  have HYl3 := hid y_l3
  have HYa := hid y_a
  have HYbd := hid y_bd
  clear y_i y_l1 y_l2 y_l3 y_a y_bd c_i c_l1 c_l2 c_l3 c_a c_bd f_1 f_37 f_38 f_39 f_40 f_41
  refine wp_noPanic (wp_region_held_drew (S := fun W => Below B3 w3 W) (by kernel_rfl) ⟨rfl, rfl, rfl, Nat.le_refl _, fun _ _ => rfl⟩ ?_)
  intro hHeld
  refine wpAnyH_take (i := 0) (v := .pointer (some ⟨w.heap.size, 1, none⟩)) rfl (by kernel_rfl) (by kernel_rfl) (by kernel_rfl) (fun _ _ _ h => h) (Or.inl ⟨by rfl, fun W _ => by go_simp⟩) hHeld ?_
  simp only [Act.put, List.getElem_toArray, List.getElem_cons_zero, List.setIfInBounds_toArray, List.set_cons_succ, List.set_cons_zero]
  refine wpAnyH_take (i := 1) (v := .int .u64 f.id) rfl (by kernel_rfl) (by kernel_rfl) (by kernel_rfl) (fun _ _ _ h => h) (Or.inl ⟨by rfl, fun W hW => by have hcell1 := (hW.cell (p := ⟨w.heap.size, 1, none⟩) HLB.out).trans HYi.out; clear hW; go_simp⟩) hHeld ?_
  simp only [Act.put, List.getElem_toArray, List.getElem_cons_zero, List.getElem_cons_succ, List.setIfInBounds_toArray, List.set_cons_succ, List.set_cons_zero]
  refine wpAnyH_take (i := 2) (v := .pointer (some ⟨w.heap.size, 37, none⟩)) rfl (by kernel_rfl) (by kernel_rfl) (by kernel_rfl) (fun _ _ _ h => h) (Or.inl ⟨by rfl, fun W _ => by go_simp⟩) hHeld ?_
  simp only [Act.put, List.getElem_toArray, List.getElem_cons_zero, List.getElem_cons_succ, List.setIfInBounds_toArray, List.set_cons_succ, List.set_cons_zero]
  refine wpAnyH_take (i := 3) (v := .agg #[.int .i64 f.lim.1, .int .i64 f.lim.2.1, .int .i64 f.lim.2.2]) rfl (by kernel_rfl) (by kernel_rfl) (by kernel_rfl) (fun _ _ _ h => h) (Or.inl ⟨by rfl, fun W hW => by have hcell37 := (hW.cell (p := ⟨w.heap.size, 37, none⟩) HLB.out).trans HYl1.out; have hcell38 := (hW.cell (p := ⟨w.heap.size, 38, none⟩) HLB.out).trans HYl2.out; have hcell39 := (hW.cell (p := ⟨w.heap.size, 39, none⟩) HLB.out).trans HYl3.out; clear hW; go_simp⟩) hHeld ?_
  simp only [Act.put, List.getElem_toArray, List.getElem_cons_zero, List.getElem_cons_succ, List.setIfInBounds_toArray, List.set_cons_succ, List.set_cons_zero]
  refine wpAnyH_take (i := 4) (v := .pointer (some ⟨w.heap.size, 40, none⟩)) rfl (by kernel_rfl) (by kernel_rfl) (by kernel_rfl) (fun _ _ _ h => h) (Or.inl ⟨by rfl, fun W _ => by go_simp⟩) hHeld ?_
  simp only [Act.put, List.getElem_toArray, List.getElem_cons_zero, List.getElem_cons_succ, List.setIfInBounds_toArray, List.set_cons_succ, List.set_cons_zero]
  refine wpAnyH_take (i := 5) (v := .slice ao nn cc) rfl (by kernel_rfl) (by kernel_rfl) (by kernel_rfl) (fun _ _ _ h => h) (Or.inl ⟨by rfl, fun W hW => by have hcell40 := (hW.cell (p := ⟨w.heap.size, 40, none⟩) HLB.out).trans HYa.out; clear hW; go_simp⟩) hHeld ?_
  simp only [Act.put, List.getElem_toArray, List.getElem_cons_zero, List.getElem_cons_succ, List.setIfInBounds_toArray, List.set_cons_succ, List.set_cons_zero]
  refine wpAnyH_take (i := 6) (v := .pointer (some ⟨w.heap.size, 41, none⟩)) rfl (by kernel_rfl) (by kernel_rfl) (by kernel_rfl) (fun _ _ _ h => h) (Or.inl ⟨by rfl, fun W _ => by go_simp⟩) hHeld ?_
  simp only [Act.put, List.getElem_toArray, List.getElem_cons_zero, List.getElem_cons_succ, List.setIfInBounds_toArray, List.set_cons_succ, List.set_cons_zero]
  refine wpAnyH_take (i := 7) (v := .string (mk f.body)) rfl (by kernel_rfl) (by kernel_rfl) (by kernel_rfl) (fun _ _ _ h => h) (Or.inl ⟨by rfl, fun W hW => by have hcell41 := (hW.cell (p := ⟨w.heap.size, 41, none⟩) HLB.out).trans HYbd.out; clear hW; go_simp⟩) hHeld ?_
  simp only [Act.put, List.getElem_toArray, List.getElem_cons_zero, List.getElem_cons_succ, List.setIfInBounds_toArray, List.set_cons_succ, List.set_cons_zero]
  refine wpAnyH_take (i := 8) (v := .pointer (some ⟨B3, 1, none⟩)) rfl (by kernel_rfl) (by kernel_rfl) (by kernel_rfl) (fun _ _ _ h => h) (Or.inl ⟨by rfl, fun W _ => by go_simp⟩) hHeld ?_
  simp only [Act.put, List.getElem_toArray, List.getElem_cons_zero, List.getElem_cons_succ, List.setIfInBounds_toArray, List.set_cons_succ, List.set_cons_zero]
  obtain ⟨wx, HWX⟩ : ∃ x, Hid (w3.drew = x) := ⟨_, rfl⟩
  rw [HWX.out] at hHeld ⊢
  have HNx0 := hid (show wx.heap[B3]? = some (.cells (fcells ⟨2, 0, 0, 0, List.replicate 32 0, 0, (0, 0, 0), [], []⟩ nS).toArray 29 (0, 0)) by rw [← HWX.out]; exact HN3.out)
  have hq0 : Below B3 w3 wx := hHeld
  have g9_1 : wx.cell? ⟨B3, 1, none⟩ = some _ := cell_of_row wx B3 1 _ _ _ HNx0.out
  have z9_1 := row_fz HNx0.out 1
  refine wpAnyH_ready (rs := [9]) (by kernel_rfl) (by simp) ?_
  refine AllReadyH.cons rfl (fun K hK => ?_) AllReadyH.nil
  go_simp
  have hq1 : Below B3 w3 (wx.setCell ⟨B3, 1, none⟩ (.int .u64 f.id)) := (hq0.setCell (p := ⟨B3, 1, none⟩) (Nat.le_refl _) _)
  have HNx1 := hid (show (wx.setCell ⟨B3, 1, none⟩ (.int .u64 f.id)).heap[B3]? = some (.cells ((fcells ⟨2, 0, 0, 0, List.replicate 32 0, 0, (0, 0, 0), [], []⟩ nS).toArray.setIfInBounds 1 (.int .u64 f.id)) 29 (0, 0)) from (blk_set HNx0.out (.int .u64 f.id)))
  refine hK.out _ _ hq1 (fun hHeld => ?_)
  clear hK K g9_1 z9_1
  try simp only [Act.put, List.getElem_toArray, List.getElem_cons_zero, List.getElem_cons_succ, List.setIfInBounds_toArray, List.set_cons_succ, List.set_cons_zero]
  obtain ⟨wy1, hwy1⟩ : ∃ x, (wx.setCell ⟨B3, 1, none⟩ (.int .u64 f.id)) = x := ⟨_, rfl⟩
  rw [hwy1] at hq1 HNx1 hHeld ⊢
  have g11_37 : wy1.cell? ⟨B3, 37, none⟩ = some _ := cell_of_row wy1 B3 37 _ _ _ HNx1.out
  have g11_38 : wy1.cell? ⟨B3, 38, none⟩ = some _ := cell_of_row wy1 B3 38 _ _ _ HNx1.out
  have g11_39 : wy1.cell? ⟨B3, 39, none⟩ = some _ := cell_of_row wy1 B3 39 _ _ _ HNx1.out
  have z11_37 := row_fz HNx1.out 37
  have z11_38 := row_fz HNx1.out 38
  have z11_39 := row_fz HNx1.out 39
  refine wpAnyH_take (i := 10) (v := .pointer (some ⟨B3, 37, none⟩)) rfl (by kernel_rfl) (by kernel_rfl) (by kernel_rfl) (fun _ _ _ h => h) (Or.inl ⟨by rfl, fun W _ => by go_simp⟩) hHeld ?_
  simp only [Act.put, List.getElem_toArray, List.getElem_cons_zero, List.getElem_cons_succ, List.setIfInBounds_toArray, List.set_cons_succ, List.set_cons_zero]
  refine wpAnyH_ready (rs := [11]) (by kernel_rfl) (by simp) ?_
  refine AllReadyH.cons rfl (fun K hK => ?_) AllReadyH.nil
  go_simp
  have hq2 : Below B3 w3 (((wy1.setCell ⟨B3, 37, none⟩ (.int .i64 f.lim.1)).setCell ⟨B3, 38, none⟩ (.int .i64 f.lim.2.1)).setCell ⟨B3, 39, none⟩ (.int .i64 f.lim.2.2)) := (((hq1.setCell (p := ⟨B3, 37, none⟩) (Nat.le_refl _) _).setCell (p := ⟨B3, 38, none⟩) (Nat.le_refl _) _).setCell (p := ⟨B3, 39, none⟩) (Nat.le_refl _) _)
  have HNx2 := hid (show (((wy1.setCell ⟨B3, 37, none⟩ (.int .i64 f.lim.1)).setCell ⟨B3, 38, none⟩ (.int .i64 f.lim.2.1)).setCell ⟨B3, 39, none⟩ (.int .i64 f.lim.2.2)).heap[B3]? = some (.cells (((((fcells ⟨2, 0, 0, 0, List.replicate 32 0, 0, (0, 0, 0), [], []⟩ nS).toArray.setIfInBounds 1 (.int .u64 f.id)).setIfInBounds 37 (.int .i64 f.lim.1)).setIfInBounds 38 (.int .i64 f.lim.2.1)).setIfInBounds 39 (.int .i64 f.lim.2.2)) 29 (0, 0)) from (blk_set (blk_set (blk_set HNx1.out (.int .i64 f.lim.1)) (.int .i64 f.lim.2.1)) (.int .i64 f.lim.2.2)))
  refine hK.out _ _ hq2 (fun hHeld => ?_)
  clear hK K g11_37 z11_37 g11_38 z11_38 g11_39 z11_39
  try simp only [Act.put, List.getElem_toArray, List.getElem_cons_zero, List.getElem_cons_succ, List.setIfInBounds_toArray, List.set_cons_succ, List.set_cons_zero]
  obtain ⟨wy2, hwy2⟩ : ∃ x, (((wy1.setCell ⟨B3, 37, none⟩ (.int .i64 f.lim.1)).setCell ⟨B3, 38, none⟩ (.int .i64 f.lim.2.1)).setCell ⟨B3, 39, none⟩ (.int .i64 f.lim.2.2)) = x := ⟨_, rfl⟩
  rw [hwy2] at hq2 HNx2 hHeld ⊢
  have g13_40 : wy2.cell? ⟨B3, 40, none⟩ = some _ := cell_of_row wy2 B3 40 _ _ _ HNx2.out
  have z13_40 := row_fz HNx2.out 40
  refine wpAnyH_take (i := 12) (v := .pointer (some ⟨B3, 40, none⟩)) rfl (by kernel_rfl) (by kernel_rfl) (by kernel_rfl) (fun _ _ _ h => h) (Or.inl ⟨by rfl, fun W _ => by go_simp⟩) hHeld ?_
  simp only [Act.put, List.getElem_toArray, List.getElem_cons_zero, List.getElem_cons_succ, List.setIfInBounds_toArray, List.set_cons_succ, List.set_cons_zero]
  refine wpAnyH_ready (rs := [13]) (by kernel_rfl) (by simp) ?_
  refine AllReadyH.cons rfl (fun K hK => ?_) AllReadyH.nil
  go_simp
  have hq3 : Below B3 w3 (wy2.setCell ⟨B3, 40, none⟩ (.slice ao nn cc)) := (hq2.setCell (p := ⟨B3, 40, none⟩) (Nat.le_refl _) _)
  have HNx3 := hid (show (wy2.setCell ⟨B3, 40, none⟩ (.slice ao nn cc)).heap[B3]? = some (.cells ((((((fcells ⟨2, 0, 0, 0, List.replicate 32 0, 0, (0, 0, 0), [], []⟩ nS).toArray.setIfInBounds 1 (.int .u64 f.id)).setIfInBounds 37 (.int .i64 f.lim.1)).setIfInBounds 38 (.int .i64 f.lim.2.1)).setIfInBounds 39 (.int .i64 f.lim.2.2)).setIfInBounds 40 (.slice ao nn cc)) 29 (0, 0)) from (blk_set HNx2.out (.slice ao nn cc)))
  refine hK.out _ _ hq3 (fun hHeld => ?_)
  clear hK K g13_40 z13_40
  try simp only [Act.put, List.getElem_toArray, List.getElem_cons_zero, List.getElem_cons_succ, List.setIfInBounds_toArray, List.set_cons_succ, List.set_cons_zero]
  obtain ⟨wy3, hwy3⟩ : ∃ x, (wy2.setCell ⟨B3, 40, none⟩ (.slice ao nn cc)) = x := ⟨_, rfl⟩
  rw [hwy3] at hq3 HNx3 hHeld ⊢
  have g15_41 : wy3.cell? ⟨B3, 41, none⟩ = some _ := cell_of_row wy3 B3 41 _ _ _ HNx3.out
  have z15_41 := row_fz HNx3.out 41
  refine wpAnyH_take (i := 14) (v := .pointer (some ⟨B3, 41, none⟩)) rfl (by kernel_rfl) (by kernel_rfl) (by kernel_rfl) (fun _ _ _ h => h) (Or.inl ⟨by rfl, fun W _ => by go_simp⟩) hHeld ?_
  simp only [Act.put, List.getElem_toArray, List.getElem_cons_zero, List.getElem_cons_succ, List.setIfInBounds_toArray, List.set_cons_succ, List.set_cons_zero]
  refine wpAnyH_ready (rs := [15]) (by kernel_rfl) (by simp) ?_
  refine AllReadyH.cons rfl (fun K hK => ?_) AllReadyH.nil
  go_simp
  have hq4 : Below B3 w3 (wy3.setCell ⟨B3, 41, none⟩ (.string (mk f.body))) := (hq3.setCell (p := ⟨B3, 41, none⟩) (Nat.le_refl _) _)
  have HNx4 := hid (show (wy3.setCell ⟨B3, 41, none⟩ (.string (mk f.body))).heap[B3]? = some (.cells (((((((fcells ⟨2, 0, 0, 0, List.replicate 32 0, 0, (0, 0, 0), [], []⟩ nS).toArray.setIfInBounds 1 (.int .u64 f.id)).setIfInBounds 37 (.int .i64 f.lim.1)).setIfInBounds 38 (.int .i64 f.lim.2.1)).setIfInBounds 39 (.int .i64 f.lim.2.2)).setIfInBounds 40 (.slice ao nn cc)).setIfInBounds 41 (.string (mk f.body))) 29 (0, 0)) from (blk_set HNx3.out (.string (mk f.body))))
  refine hK.out _ _ hq4 (fun hHeld => ?_)
  clear hK K g15_41 z15_41
  try simp only [Act.put, List.getElem_toArray, List.getElem_cons_zero, List.getElem_cons_succ, List.setIfInBounds_toArray, List.set_cons_succ, List.set_cons_zero]
  obtain ⟨wy4, hwy4⟩ : ∃ x, (wy3.setCell ⟨B3, 41, none⟩ (.string (mk f.body))) = x := ⟨_, rfl⟩
  rw [hwy4] at hq4 HNx4 hHeld ⊢
  refine wpAnyH_done (by kernel_rfl) ?_ _
  simp only [noPanic]
  clear hHeld
  go_upto_region 13 with fail
  have HN4 := hid (eq_rowFOnly2 HNx4.out HEQ.out)
  have HN5 := hid ((hq4.block (w.heap.size + 1) HG3.out).trans HN2.out)
  have HB4 := hid (show Below w.heap.size w wy4 from below_tr HB3.out (hq4.mono (by have := HLB.out; omega)))
  obtain ⟨FO, HFO⟩ : ∃ L, Hid (fcells (ownF f) (ownV f (.slice ao nn cc)) = L) := ⟨_, rfl⟩
  rw [HFO.out] at HSZ HON HOS HN4
  go_wp2_with (first
    | (refine ld_row (by rfl) 29 (.tmp 3) (by rfl) B3 (by rfl) FO 29 HN4.out _ Try.underlying29 rfl HSZ.out ?_)
    | (refine st_row (by rfl) 29 _ _ (by rfl) (w.heap.size + 1) FO (by rfl) (by rfl) 29 _ HN5.out HSZ.out HOS.out HON.out ?_; intro w5 hw5))
  refine ret_row 2 29 rfl (w.heap.size + 1) rfl FO 29 hw5.blk _ Try.underlying29 rfl HSZ.out rfl ⟨by rw [HFO.out], Below.of_gb HB4.out hw5.grown (by omega)⟩

end Go.Proofs.Ytjinkahlfigdcaa

/- The document's only: a frame with just the fields that its kind has. -/
namespace Go.Proofs.Ytjinkahlfigdcaa
open Go.RowKit Go.BigFrame

theorem eq_rowFOnly3 {w : World} {g : Nat} {a b : Array Value} {t : TypeId} (h : w.heap[g]? = some (.cells a t (0, 0))) (e : a = b) : w.heap[g]? = some (.cells b t (0, 0)) := by rw [← e]; exact h

theorem built_b3 : Try.prog.built 29 [(0, .int .i64 3)] = some (fcells ⟨3, 0, 0, 0, List.replicate 32 0, 0, (0, 0, 0), [], []⟩ nS).toArray := by kernel_rfl

set_option maxRecDepth 100000 in
set_option maxHeartbeats 4000000 in
theorem only3_any (f : Fr) (va : Value) (w : World) (hk : f.kind = 3) (hf : f.tool.length = 32) (hv : ∃ ao n c, va = .slice ao n c) :
    Calls Try.prog 45 #[.agg (fcells f va).toArray] w fun e w' => e = .returned (.agg (fcells (ownF f) (ownV f va)).toArray) ∧ Below w.heap.size w w' := by
  obtain ⟨ao, nn, cc, rfl⟩ := hv
  have HNB := hid (hp_two w (.cells (fcells f (.slice ao nn cc)).toArray 29) (.cells (fcells zF nS).toArray 29))
  have HBL := hid (below_walk2 w (.cells (fcells f (.slice ao nn cc)).toArray 29) (.cells (fcells zF nS).toArray 29))
  have HZ : Hid ((w.alloc (.cells (fcells f (.slice ao nn cc)).toArray 29)).heap.size = w.heap.size + 1) := hid (by simp)
  have HOW : Hid (fcells (ownF f) (ownV f (.slice ao nn cc)) = fcells (ownF f) (ownV f (.slice ao nn cc))) := hid rfl
  have HOT := hid (ownF_tool f hf)
  have HSZ := hid (frame_size (ownF f) (ownV f (.slice ao nn cc)) HOT.out)
  have HON := hid (fcells_one (ownF f) (ownV f (.slice ao nn cc)) (by unfold ownV; split <;> rfl))
  have HOS := hid (show (fcells zF nS).toArray.size = (fcells (ownF f) (ownV f (.slice ao nn cc))).length by rw [fcells_length _ _ HOT.out]; rfl)
  have HSB := hid (frame_size ⟨3, 0, 0, 0, List.replicate 32 0, 0, (0, 0, 0), [], []⟩ nS rfl)
  have HEQ : Hid (((((fcells ⟨3, 0, 0, 0, List.replicate 32 0, 0, (0, 0, 0), [], []⟩ nS).toArray.setIfInBounds 1 (.int .u64 f.id)).setIfInBounds 36 (.int .i64 f.status)).setIfInBounds 41 (.string (mk f.body))) = (fcells (ownF f) (ownV f (.slice ao nn cc))).toArray) := hid (by
    unfold ownF ownV
    rw [if_neg (show ¬ f.kind = 1 by omega), if_neg (show ¬ f.kind = 2 by omega), if_pos hk, if_neg (show ¬ f.kind = 2 by omega)]
    rfl)
  have HK := hid hk
  have HF := hid hf
  clear hk hf HOW
  go_enter Try.func45, Try.ntmps45
  go_upto_region 1 with (refine al_row (by rfl) 29 (by rfl) _ zeroFrame ?_)
  try rw [HZ.out]
  generalize (w.alloc (.cells (fcells f (.slice ao nn cc)).toArray 29)).alloc (.cells (fcells zF nS).toArray 29) = w2 at HNB HBL ⊢
  have x0 := (Fb.of HNB.out.1 HF.out).k
  rw [HK.out] at x0
  have HL2 := hid (hp_lt HNB.out.2)
  go_upto_region 2 with (first
    | (refine bd_row (by rfl) 29 #[(0, .tmp 5)] (by rfl) _ (by simp [Act.eval]) _ built_b3 ?_)
    | (refine al_row (by rfl) 29 (by rfl) _ zeroFrame ?_)
    | (refine st_new (by rfl) 29 _ _ (by rfl) (fcells ⟨3, 0, 0, 0, List.replicate 32 0, 0, (0, 0, 0), [], []⟩ nS) (by rfl) (by rfl) 29 _ HSB.out rfl (fcells_one _ nS rfl) ?_))
  have HN1 := hid ((below_walk w2 (.cells (fcells ⟨3, 0, 0, 0, List.replicate 32 0, 0, (0, 0, 0), [], []⟩ nS).toArray 29)).block _ (by have := HL2.out; omega) |>.trans HNB.out.1)
  have HN2 := hid ((below_walk w2 (.cells (fcells ⟨3, 0, 0, 0, List.replicate 32 0, 0, (0, 0, 0), [], []⟩ nS).toArray 29)).block _ HL2.out |>.trans HNB.out.2)
  have HN3 := hid (hp_new w2 (.cells (fcells ⟨3, 0, 0, 0, List.replicate 32 0, 0, (0, 0, 0), [], []⟩ nS).toArray 29))
  have HB3 := hid (below_then HBL.out (below_walk w2 (.cells (fcells ⟨3, 0, 0, 0, List.replicate 32 0, 0, (0, 0, 0), [], []⟩ nS).toArray 29)))
  have HG3 := hid (show w.heap.size + 1 < w2.heap.size from HL2.out)
  obtain ⟨B3, HE3⟩ : ∃ b : Nat, Hid (w2.heap.size = b) := ⟨_, rfl⟩
  rw [HE3.out] at HN3 HG3 ⊢
  generalize w2.alloc (.cells (fcells ⟨3, 0, 0, 0, List.replicate 32 0, 0, (0, 0, 0), [], []⟩ nS).toArray 29) = w3 at HN1 HN2 HN3 HB3 ⊢
  clear x0 HNB HBL HL2
  have HFB := hid (Fb.of HN1.out HF.out)
  have HFC := hid (Fb.of HN3.out (show (⟨3, 0, 0, 0, List.replicate 32 0, 0, (0, 0, 0), [], []⟩ : Fr).tool.length = 32 from rfl))
  have x1 := HFB.out.k
  rw [HK.out] at x1
  have y_i := HFB.out.i
  have y_st := HFB.out.st
  have y_bd := HFB.out.bd
  have c_i := HFC.out.i
  have c_st := HFC.out.st
  have c_bd := HFC.out.bd
  have f_1 := row_fz HN3.out 1
  have f_36 := row_fz HN3.out 36
  have f_41 := row_fz HN3.out 41
  have ne1 : ¬ w.heap.size = B3 := by have := HG3.out; omega
  have ne2 : ¬ B3 = w.heap.size := by have := HG3.out; omega
  go_upto_region 8 with fail
  go_region
  go_upto_region 13 with fail
  have HN4 := hid (show (((w3.setCell ⟨B3, 1, none⟩ (.int .u64 f.id)).setCell ⟨B3, 36, none⟩ (.int .i64 f.status)).setCell ⟨B3, 41, none⟩ (.string (mk f.body))).drew.heap[B3]? = some (.cells (fcells (ownF f) (ownV f (.slice ao nn cc))).toArray 29 (0, 0)) from eq_rowFOnly3 (blk_set (blk_set (blk_set HN3.out (.int .u64 f.id)) (.int .i64 f.status)) (.string (mk f.body))) HEQ.out)
  have HN5 := hid (show (((w3.setCell ⟨B3, 1, none⟩ (.int .u64 f.id)).setCell ⟨B3, 36, none⟩ (.int .i64 f.status)).setCell ⟨B3, 41, none⟩ (.string (mk f.body))).drew.heap[w.heap.size + 1]? = some (.cells (fcells zF nS).toArray 29 (0, 0)) from ((Below.heap_setCell _ _ _ (w.heap.size + 1) (by have := HG3.out; simp; omega)).trans ((Below.heap_setCell _ _ _ (w.heap.size + 1) (by have := HG3.out; simp; omega)).trans ((Below.heap_setCell _ _ _ (w.heap.size + 1) (by have := HG3.out; simp; omega)).trans HN2.out))))
  have HB4 := hid (show Below w.heap.size w (((w3.setCell ⟨B3, 1, none⟩ (.int .u64 f.id)).setCell ⟨B3, 36, none⟩ (.int .i64 f.status)).setCell ⟨B3, 41, none⟩ (.string (mk f.body))).drew from below_then (((HB3.out.setCell (p := ⟨B3, 1, none⟩) (by show w.heap.size ≤ B3; have := HG3.out; omega) _).setCell (p := ⟨B3, 36, none⟩) (by show w.heap.size ≤ B3; have := HG3.out; omega) _).setCell (p := ⟨B3, 41, none⟩) (by show w.heap.size ≤ B3; have := HG3.out; omega) _) ⟨rfl, rfl, rfl, Nat.le_refl _, fun _ _ => rfl⟩)
  generalize (((w3.setCell ⟨B3, 1, none⟩ (.int .u64 f.id)).setCell ⟨B3, 36, none⟩ (.int .i64 f.status)).setCell ⟨B3, 41, none⟩ (.string (mk f.body))).drew = w4 at HN4 HN5 HB4 ⊢
  obtain ⟨FO, HFO⟩ : ∃ L, Hid (fcells (ownF f) (ownV f (.slice ao nn cc)) = L) := ⟨_, rfl⟩
  rw [HFO.out] at HSZ HON HOS HN4
  go_wp2_with (first
    | (refine ld_row (by rfl) 29 (.tmp 3) (by rfl) B3 (by rfl) FO 29 HN4.out _ Try.underlying29 rfl HSZ.out ?_)
    | (refine st_row (by rfl) 29 _ _ (by rfl) (w.heap.size + 1) FO (by rfl) (by rfl) 29 _ HN5.out HSZ.out HOS.out HON.out ?_; intro w5 hw5))
  refine ret_row 2 29 rfl (w.heap.size + 1) rfl FO 29 hw5.blk _ Try.underlying29 rfl HSZ.out rfl ⟨by rw [HFO.out], Below.of_gb HB4.out hw5.grown (by omega)⟩

end Go.Proofs.Ytjinkahlfigdcaa

/- The document's only: a frame with just the fields that its kind has. -/
namespace Go.Proofs.Ytjinkahlfigdcaa
open Go.RowKit Go.BigFrame

theorem eq_rowFOnly4 {w : World} {g : Nat} {a b : Array Value} {t : TypeId} (h : w.heap[g]? = some (.cells a t (0, 0))) (e : a = b) : w.heap[g]? = some (.cells b t (0, 0)) := by rw [← e]; exact h

theorem built_b4 : Try.prog.built 29 [(0, .int .i64 4)] = some (fcells ⟨4, 0, 0, 0, List.replicate 32 0, 0, (0, 0, 0), [], []⟩ nS).toArray := by kernel_rfl

set_option maxRecDepth 100000 in
set_option maxHeartbeats 4000000 in
theorem only4_any (f : Fr) (va : Value) (w : World) (hk : f.kind = 4) (hf : f.tool.length = 32) (hv : ∃ ao n c, va = .slice ao n c) :
    Calls Try.prog 45 #[.agg (fcells f va).toArray] w fun e w' => e = .returned (.agg (fcells (ownF f) (ownV f va)).toArray) ∧ Below w.heap.size w w' := by
  obtain ⟨ao, nn, cc, rfl⟩ := hv
  have HNB := hid (hp_two w (.cells (fcells f (.slice ao nn cc)).toArray 29) (.cells (fcells zF nS).toArray 29))
  have HBL := hid (below_walk2 w (.cells (fcells f (.slice ao nn cc)).toArray 29) (.cells (fcells zF nS).toArray 29))
  have HZ : Hid ((w.alloc (.cells (fcells f (.slice ao nn cc)).toArray 29)).heap.size = w.heap.size + 1) := hid (by simp)
  have HOW : Hid (fcells (ownF f) (ownV f (.slice ao nn cc)) = fcells (ownF f) (ownV f (.slice ao nn cc))) := hid rfl
  have HOT := hid (ownF_tool f hf)
  have HSZ := hid (frame_size (ownF f) (ownV f (.slice ao nn cc)) HOT.out)
  have HON := hid (fcells_one (ownF f) (ownV f (.slice ao nn cc)) (by unfold ownV; split <;> rfl))
  have HOS := hid (show (fcells zF nS).toArray.size = (fcells (ownF f) (ownV f (.slice ao nn cc))).length by rw [fcells_length _ _ HOT.out]; rfl)
  have HSB := hid (frame_size ⟨4, 0, 0, 0, List.replicate 32 0, 0, (0, 0, 0), [], []⟩ nS rfl)
  have HEQ : Hid (((fcells ⟨4, 0, 0, 0, List.replicate 32 0, 0, (0, 0, 0), [], []⟩ nS).toArray.setIfInBounds 1 (.int .u64 f.id)) = (fcells (ownF f) (ownV f (.slice ao nn cc))).toArray) := hid (by
    unfold ownF ownV
    rw [if_neg (show ¬ f.kind = 1 by omega), if_neg (show ¬ f.kind = 2 by omega), if_neg (show ¬ f.kind = 3 by omega), if_pos hk, if_neg (show ¬ f.kind = 2 by omega)]
    rfl)
  have HK := hid hk
  have HF := hid hf
  clear hk hf HOW
  go_enter Try.func45, Try.ntmps45
  go_upto_region 1 with (refine al_row (by rfl) 29 (by rfl) _ zeroFrame ?_)
  try rw [HZ.out]
  generalize (w.alloc (.cells (fcells f (.slice ao nn cc)).toArray 29)).alloc (.cells (fcells zF nS).toArray 29) = w2 at HNB HBL ⊢
  have x0 := (Fb.of HNB.out.1 HF.out).k
  rw [HK.out] at x0
  have HL2 := hid (hp_lt HNB.out.2)
  go_upto_region 2 with (first
    | (refine bd_row (by rfl) 29 #[(0, .tmp 5)] (by rfl) _ (by simp [Act.eval]) _ built_b4 ?_)
    | (refine al_row (by rfl) 29 (by rfl) _ zeroFrame ?_)
    | (refine st_new (by rfl) 29 _ _ (by rfl) (fcells ⟨4, 0, 0, 0, List.replicate 32 0, 0, (0, 0, 0), [], []⟩ nS) (by rfl) (by rfl) 29 _ HSB.out rfl (fcells_one _ nS rfl) ?_))
  have HN1 := hid ((below_walk w2 (.cells (fcells ⟨4, 0, 0, 0, List.replicate 32 0, 0, (0, 0, 0), [], []⟩ nS).toArray 29)).block _ (by have := HL2.out; omega) |>.trans HNB.out.1)
  have HN2 := hid ((below_walk w2 (.cells (fcells ⟨4, 0, 0, 0, List.replicate 32 0, 0, (0, 0, 0), [], []⟩ nS).toArray 29)).block _ HL2.out |>.trans HNB.out.2)
  have HN3 := hid (hp_new w2 (.cells (fcells ⟨4, 0, 0, 0, List.replicate 32 0, 0, (0, 0, 0), [], []⟩ nS).toArray 29))
  have HB3 := hid (below_then HBL.out (below_walk w2 (.cells (fcells ⟨4, 0, 0, 0, List.replicate 32 0, 0, (0, 0, 0), [], []⟩ nS).toArray 29)))
  have HG3 := hid (show w.heap.size + 1 < w2.heap.size from HL2.out)
  obtain ⟨B3, HE3⟩ : ∃ b : Nat, Hid (w2.heap.size = b) := ⟨_, rfl⟩
  rw [HE3.out] at HN3 HG3 ⊢
  generalize w2.alloc (.cells (fcells ⟨4, 0, 0, 0, List.replicate 32 0, 0, (0, 0, 0), [], []⟩ nS).toArray 29) = w3 at HN1 HN2 HN3 HB3 ⊢
  clear x0 HNB HBL HL2
  have HFB := hid (Fb.of HN1.out HF.out)
  have HFC := hid (Fb.of HN3.out (show (⟨4, 0, 0, 0, List.replicate 32 0, 0, (0, 0, 0), [], []⟩ : Fr).tool.length = 32 from rfl))
  have x1 := HFB.out.k
  rw [HK.out] at x1
  have y_i := HFB.out.i
  have c_i := HFC.out.i
  have f_1 := row_fz HN3.out 1
  have ne1 : ¬ w.heap.size = B3 := by have := HG3.out; omega
  have ne2 : ¬ B3 = w.heap.size := by have := HG3.out; omega
  go_upto_region 13 with fail
  have HN4 := hid (show (w3.setCell ⟨B3, 1, none⟩ (.int .u64 f.id)).heap[B3]? = some (.cells (fcells (ownF f) (ownV f (.slice ao nn cc))).toArray 29 (0, 0)) from eq_rowFOnly4 (blk_set HN3.out (.int .u64 f.id)) HEQ.out)
  have HN5 := hid (show (w3.setCell ⟨B3, 1, none⟩ (.int .u64 f.id)).heap[w.heap.size + 1]? = some (.cells (fcells zF nS).toArray 29 (0, 0)) from ((Below.heap_setCell _ _ _ (w.heap.size + 1) (by have := HG3.out; simp; omega)).trans HN2.out))
  have HB4 := hid (show Below w.heap.size w (w3.setCell ⟨B3, 1, none⟩ (.int .u64 f.id)) from  (HB3.out.setCell (p := ⟨B3, 1, none⟩) (by show w.heap.size ≤ B3; have := HG3.out; omega) _))
  generalize (w3.setCell ⟨B3, 1, none⟩ (.int .u64 f.id)) = w4 at HN4 HN5 HB4 ⊢
  obtain ⟨FO, HFO⟩ : ∃ L, Hid (fcells (ownF f) (ownV f (.slice ao nn cc)) = L) := ⟨_, rfl⟩
  rw [HFO.out] at HSZ HON HOS HN4
  go_wp2_with (first
    | (refine ld_row (by rfl) 29 (.tmp 3) (by rfl) B3 (by rfl) FO 29 HN4.out _ Try.underlying29 rfl HSZ.out ?_)
    | (refine st_row (by rfl) 29 _ _ (by rfl) (w.heap.size + 1) FO (by rfl) (by rfl) 29 _ HN5.out HSZ.out HOS.out HON.out ?_; intro w5 hw5))
  refine ret_row 2 29 rfl (w.heap.size + 1) rfl FO 29 hw5.blk _ Try.underlying29 rfl HSZ.out rfl ⟨by rw [HFO.out], Below.of_gb HB4.out hw5.grown (by omega)⟩

theorem built_b6 : Try.prog.built 29 [(0, .int .i64 6)] = some (fcells ⟨6, 0, 0, 0, List.replicate 32 0, 0, (0, 0, 0), [], []⟩ nS).toArray := by kernel_rfl

set_option maxRecDepth 100000 in
set_option maxHeartbeats 4000000 in
theorem only6_any (f : Fr) (va : Value) (w : World) (hk : f.kind = 6) (hf : f.tool.length = 32) (hv : ∃ ao n c, va = .slice ao n c) :
    Calls Try.prog 45 #[.agg (fcells f va).toArray] w fun e w' => e = .returned (.agg (fcells (ownF f) (ownV f va)).toArray) ∧ Below w.heap.size w w' := by
  obtain ⟨ao, nn, cc, rfl⟩ := hv
  have HNB := hid (hp_two w (.cells (fcells f (.slice ao nn cc)).toArray 29) (.cells (fcells zF nS).toArray 29))
  have HBL := hid (below_walk2 w (.cells (fcells f (.slice ao nn cc)).toArray 29) (.cells (fcells zF nS).toArray 29))
  have HZ : Hid ((w.alloc (.cells (fcells f (.slice ao nn cc)).toArray 29)).heap.size = w.heap.size + 1) := hid (by simp)
  have HOW : Hid (fcells (ownF f) (ownV f (.slice ao nn cc)) = fcells (ownF f) (ownV f (.slice ao nn cc))) := hid rfl
  have HOT := hid (ownF_tool f hf)
  have HSZ := hid (frame_size (ownF f) (ownV f (.slice ao nn cc)) HOT.out)
  have HON := hid (fcells_one (ownF f) (ownV f (.slice ao nn cc)) (by unfold ownV; split <;> rfl))
  have HOS := hid (show (fcells zF nS).toArray.size = (fcells (ownF f) (ownV f (.slice ao nn cc))).length by rw [fcells_length _ _ HOT.out]; rfl)
  have HSB := hid (frame_size ⟨6, 0, 0, 0, List.replicate 32 0, 0, (0, 0, 0), [], []⟩ nS rfl)
  have HEQ : Hid (((fcells ⟨6, 0, 0, 0, List.replicate 32 0, 0, (0, 0, 0), [], []⟩ nS).toArray.setIfInBounds 41 (.string (mk f.body))) = (fcells (ownF f) (ownV f (.slice ao nn cc))).toArray) := hid (by
    unfold ownF ownV
    rw [if_neg (show ¬ f.kind = 1 by omega), if_neg (show ¬ f.kind = 2 by omega), if_neg (show ¬ f.kind = 3 by omega), if_neg (show ¬ f.kind = 4 by omega), if_neg (show ¬ f.kind = 5 by omega), if_pos hk, if_neg (show ¬ f.kind = 2 by omega)]
    rfl)
  have HK := hid hk
  have HF := hid hf
  clear hk hf HOW
  go_enter Try.func45, Try.ntmps45
  go_upto_region 1 with (refine al_row (by rfl) 29 (by rfl) _ zeroFrame ?_)
  try rw [HZ.out]
  generalize (w.alloc (.cells (fcells f (.slice ao nn cc)).toArray 29)).alloc (.cells (fcells zF nS).toArray 29) = w2 at HNB HBL ⊢
  have x0 := (Fb.of HNB.out.1 HF.out).k
  rw [HK.out] at x0
  have HL2 := hid (hp_lt HNB.out.2)
  go_upto_region 2 with (first
    | (refine bd_row (by rfl) 29 #[(0, .tmp 5)] (by rfl) _ (by simp [Act.eval]) _ built_b6 ?_)
    | (refine al_row (by rfl) 29 (by rfl) _ zeroFrame ?_)
    | (refine st_new (by rfl) 29 _ _ (by rfl) (fcells ⟨6, 0, 0, 0, List.replicate 32 0, 0, (0, 0, 0), [], []⟩ nS) (by rfl) (by rfl) 29 _ HSB.out rfl (fcells_one _ nS rfl) ?_))
  have HN1 := hid ((below_walk w2 (.cells (fcells ⟨6, 0, 0, 0, List.replicate 32 0, 0, (0, 0, 0), [], []⟩ nS).toArray 29)).block _ (by have := HL2.out; omega) |>.trans HNB.out.1)
  have HN2 := hid ((below_walk w2 (.cells (fcells ⟨6, 0, 0, 0, List.replicate 32 0, 0, (0, 0, 0), [], []⟩ nS).toArray 29)).block _ HL2.out |>.trans HNB.out.2)
  have HN3 := hid (hp_new w2 (.cells (fcells ⟨6, 0, 0, 0, List.replicate 32 0, 0, (0, 0, 0), [], []⟩ nS).toArray 29))
  have HB3 := hid (below_then HBL.out (below_walk w2 (.cells (fcells ⟨6, 0, 0, 0, List.replicate 32 0, 0, (0, 0, 0), [], []⟩ nS).toArray 29)))
  have HG3 := hid (show w.heap.size + 1 < w2.heap.size from HL2.out)
  obtain ⟨B3, HE3⟩ : ∃ b : Nat, Hid (w2.heap.size = b) := ⟨_, rfl⟩
  rw [HE3.out] at HN3 HG3 ⊢
  generalize w2.alloc (.cells (fcells ⟨6, 0, 0, 0, List.replicate 32 0, 0, (0, 0, 0), [], []⟩ nS).toArray 29) = w3 at HN1 HN2 HN3 HB3 ⊢
  clear x0 HNB HBL HL2
  have HFB := hid (Fb.of HN1.out HF.out)
  have HFC := hid (Fb.of HN3.out (show (⟨6, 0, 0, 0, List.replicate 32 0, 0, (0, 0, 0), [], []⟩ : Fr).tool.length = 32 from rfl))
  have x1 := HFB.out.k
  rw [HK.out] at x1
  have y_bd := HFB.out.bd
  have c_bd := HFC.out.bd
  have f_41 := row_fz HN3.out 41
  have ne1 : ¬ w.heap.size = B3 := by have := HG3.out; omega
  have ne2 : ¬ B3 = w.heap.size := by have := HG3.out; omega
  go_upto_region 13 with fail
  have HN4 := hid (show (w3.setCell ⟨B3, 41, none⟩ (.string (mk f.body))).heap[B3]? = some (.cells (fcells (ownF f) (ownV f (.slice ao nn cc))).toArray 29 (0, 0)) from eq_rowFOnly4 (blk_set HN3.out (.string (mk f.body))) HEQ.out)
  have HN5 := hid (show (w3.setCell ⟨B3, 41, none⟩ (.string (mk f.body))).heap[w.heap.size + 1]? = some (.cells (fcells zF nS).toArray 29 (0, 0)) from ((Below.heap_setCell _ _ _ (w.heap.size + 1) (by have := HG3.out; simp; omega)).trans HN2.out))
  have HB4 := hid (show Below w.heap.size w (w3.setCell ⟨B3, 41, none⟩ (.string (mk f.body))) from  (HB3.out.setCell (p := ⟨B3, 41, none⟩) (by show w.heap.size ≤ B3; have := HG3.out; omega) _))
  generalize (w3.setCell ⟨B3, 41, none⟩ (.string (mk f.body))) = w4 at HN4 HN5 HB4 ⊢
  obtain ⟨FO, HFO⟩ : ∃ L, Hid (fcells (ownF f) (ownV f (.slice ao nn cc)) = L) := ⟨_, rfl⟩
  rw [HFO.out] at HSZ HON HOS HN4
  go_wp2_with (first
    | (refine ld_row (by rfl) 29 (.tmp 3) (by rfl) B3 (by rfl) FO 29 HN4.out _ Try.underlying29 rfl HSZ.out ?_)
    | (refine st_row (by rfl) 29 _ _ (by rfl) (w.heap.size + 1) FO (by rfl) (by rfl) 29 _ HN5.out HSZ.out HOS.out HON.out ?_; intro w5 hw5))
  refine ret_row 2 29 rfl (w.heap.size + 1) rfl FO 29 hw5.blk _ Try.underlying29 rfl HSZ.out rfl ⟨by rw [HFO.out], Below.of_gb HB4.out hw5.grown (by omega)⟩

end Go.Proofs.Ytjinkahlfigdcaa

/- The document's only: a frame with just the fields that its kind has. -/
namespace Go.Proofs.Ytjinkahlfigdcaa
open Go.RowKit Go.BigFrame

theorem eq_rowFOnly5 {w : World} {g : Nat} {a b : Array Value} {t : TypeId} (h : w.heap[g]? = some (.cells a t (0, 0))) (e : a = b) : w.heap[g]? = some (.cells b t (0, 0)) := by rw [← e]; exact h

theorem built_b5 : Try.prog.built 29 [(0, .int .i64 5)] = some (fcells ⟨5, 0, 0, 0, List.replicate 32 0, 0, (0, 0, 0), [], []⟩ nS).toArray := by kernel_rfl

set_option maxRecDepth 100000 in
set_option maxHeartbeats 4000000 in
theorem only5_any (f : Fr) (va : Value) (w : World) (hk : f.kind = 5) (hf : f.tool.length = 32) (hv : ∃ ao n c, va = .slice ao n c) :
    Calls Try.prog 45 #[.agg (fcells f va).toArray] w fun e w' => e = .returned (.agg (fcells (ownF f) (ownV f va)).toArray) ∧ Below w.heap.size w w' := by
  obtain ⟨ao, nn, cc, rfl⟩ := hv
  have HNB := hid (hp_two w (.cells (fcells f (.slice ao nn cc)).toArray 29) (.cells (fcells zF nS).toArray 29))
  have HBL := hid (below_walk2 w (.cells (fcells f (.slice ao nn cc)).toArray 29) (.cells (fcells zF nS).toArray 29))
  have HZ : Hid ((w.alloc (.cells (fcells f (.slice ao nn cc)).toArray 29)).heap.size = w.heap.size + 1) := hid (by simp)
  have HOW : Hid (fcells (ownF f) (ownV f (.slice ao nn cc)) = fcells (ownF f) (ownV f (.slice ao nn cc))) := hid rfl
  have HOT := hid (ownF_tool f hf)
  have HSZ := hid (frame_size (ownF f) (ownV f (.slice ao nn cc)) HOT.out)
  have HON := hid (fcells_one (ownF f) (ownV f (.slice ao nn cc)) (by unfold ownV; split <;> rfl))
  have HOS := hid (show (fcells zF nS).toArray.size = (fcells (ownF f) (ownV f (.slice ao nn cc))).length by rw [fcells_length _ _ HOT.out]; rfl)
  have HSB := hid (frame_size ⟨5, 0, 0, 0, List.replicate 32 0, 0, (0, 0, 0), [], []⟩ nS rfl)
  have HEQ : Hid ((fcells ⟨5, 0, 0, 0, List.replicate 32 0, 0, (0, 0, 0), [], []⟩ nS).toArray = (fcells (ownF f) (ownV f (.slice ao nn cc))).toArray) := hid (by
    unfold ownF ownV
    rw [if_neg (show ¬ f.kind = 1 by omega), if_neg (show ¬ f.kind = 2 by omega), if_neg (show ¬ f.kind = 3 by omega), if_neg (show ¬ f.kind = 4 by omega), if_pos hk, if_neg (show ¬ f.kind = 2 by omega)]
    rfl)
  have HK := hid hk
  have HF := hid hf
  clear hk hf HOW
  go_enter Try.func45, Try.ntmps45
  go_upto_region 1 with (refine al_row (by rfl) 29 (by rfl) _ zeroFrame ?_)
  try rw [HZ.out]
  generalize (w.alloc (.cells (fcells f (.slice ao nn cc)).toArray 29)).alloc (.cells (fcells zF nS).toArray 29) = w2 at HNB HBL ⊢
  have x0 := (Fb.of HNB.out.1 HF.out).k
  rw [HK.out] at x0
  have HL2 := hid (hp_lt HNB.out.2)
  go_upto_region 2 with (first
    | (refine bd_row (by rfl) 29 #[(0, .tmp 5)] (by rfl) _ (by simp [Act.eval]) _ built_b5 ?_)
    | (refine al_row (by rfl) 29 (by rfl) _ zeroFrame ?_)
    | (refine st_new (by rfl) 29 _ _ (by rfl) (fcells ⟨5, 0, 0, 0, List.replicate 32 0, 0, (0, 0, 0), [], []⟩ nS) (by rfl) (by rfl) 29 _ HSB.out rfl (fcells_one _ nS rfl) ?_))
  have HN1 := hid ((below_walk w2 (.cells (fcells ⟨5, 0, 0, 0, List.replicate 32 0, 0, (0, 0, 0), [], []⟩ nS).toArray 29)).block _ (by have := HL2.out; omega) |>.trans HNB.out.1)
  have HN2 := hid ((below_walk w2 (.cells (fcells ⟨5, 0, 0, 0, List.replicate 32 0, 0, (0, 0, 0), [], []⟩ nS).toArray 29)).block _ HL2.out |>.trans HNB.out.2)
  have HN3 := hid (hp_new w2 (.cells (fcells ⟨5, 0, 0, 0, List.replicate 32 0, 0, (0, 0, 0), [], []⟩ nS).toArray 29))
  have HB3 := hid (below_then HBL.out (below_walk w2 (.cells (fcells ⟨5, 0, 0, 0, List.replicate 32 0, 0, (0, 0, 0), [], []⟩ nS).toArray 29)))
  have HG3 := hid (show w.heap.size + 1 < w2.heap.size from HL2.out)
  obtain ⟨B3, HE3⟩ : ∃ b : Nat, Hid (w2.heap.size = b) := ⟨_, rfl⟩
  rw [HE3.out] at HN3 HG3 ⊢
  generalize w2.alloc (.cells (fcells ⟨5, 0, 0, 0, List.replicate 32 0, 0, (0, 0, 0), [], []⟩ nS).toArray 29) = w3 at HN1 HN2 HN3 HB3 ⊢
  clear x0 HNB HBL HL2
  have HFB := hid (Fb.of HN1.out HF.out)
  have HFC := hid (Fb.of HN3.out (show (⟨5, 0, 0, 0, List.replicate 32 0, 0, (0, 0, 0), [], []⟩ : Fr).tool.length = 32 from rfl))
  have x1 := HFB.out.k
  rw [HK.out] at x1
  have ne1 : ¬ w.heap.size = B3 := by have := HG3.out; omega
  have ne2 : ¬ B3 = w.heap.size := by have := HG3.out; omega
  go_upto_region 13 with fail
  have HN4 := hid (show w3.heap[B3]? = some (.cells (fcells (ownF f) (ownV f (.slice ao nn cc))).toArray 29 (0, 0)) from eq_rowFOnly5 HN3.out HEQ.out)
  have HN5 := hid (show w3.heap[w.heap.size + 1]? = some (.cells (fcells zF nS).toArray 29 (0, 0)) from HN2.out)
  have HB4 := hid (show Below w.heap.size w w3 from  HB3.out)
  generalize w3 = w4 at HN4 HN5 HB4 ⊢
  obtain ⟨FO, HFO⟩ : ∃ L, Hid (fcells (ownF f) (ownV f (.slice ao nn cc)) = L) := ⟨_, rfl⟩
  rw [HFO.out] at HSZ HON HOS HN4
  go_wp2_with (first
    | (refine ld_row (by rfl) 29 (.tmp 3) (by rfl) B3 (by rfl) FO 29 HN4.out _ Try.underlying29 rfl HSZ.out ?_)
    | (refine st_row (by rfl) 29 _ _ (by rfl) (w.heap.size + 1) FO (by rfl) (by rfl) 29 _ HN5.out HSZ.out HOS.out HON.out ?_; intro w5 hw5))
  refine ret_row 2 29 rfl (w.heap.size + 1) rfl FO 29 hw5.blk _ Try.underlying29 rfl HSZ.out rfl ⟨by rw [HFO.out], Below.of_gb HB4.out hw5.grown (by omega)⟩

end Go.Proofs.Ytjinkahlfigdcaa

/- Whether all fields of two frames are the same. -/
namespace Go.Proofs.Ytjinkahlfigdcaa
open Go.RowKit

set_option maxRecDepth 100000 in
set_option maxHeartbeats 4000000 in
theorem rsame_any (f g : Fr) (va vb : Value) (w : World) (hf : f.tool.length = 32) (hg : g.tool.length = 32) (ha : Strs w va f.args) (hb : Strs w vb g.args) (hn : f.args.length ≤ 9223372036854775807) :
    Calls Try.prog 18 #[.agg (fcells f va).toArray, .agg (fcells g vb).toArray] w fun e w' => e = .returned (.bool (sameP f g)) ∧ Below w.heap.size w w' := by
  have HNA := hid (hp_two w (.cells (fcells f va).toArray 29) (.cells (fcells g vb).toArray 29))
  have HBL := hid (below_walk2 w (.cells (fcells f va).toArray 29) (.cells (fcells g vb).toArray 29))
  have HSA := hid ha
  have HSB := hid hb
  have HN := hid hn
  have HF := hid hf
  have HG := hid hg
  clear ha hb hn hf hg
  go_enter Try.func18, Try.ntmps18
  go_upto_region 1 with fail
  generalize (w.alloc (.cells (fcells f va).toArray 29)).alloc (.cells (fcells g vb).toArray 29) = w2 at HNA HBL ⊢
  have HA := hid (Fb.of HNA.out.1 HF.out)
  have HB := hid (Fb.of HNA.out.2 HG.out)
  clear HNA
  have HSA2 := hid (HSA.out.below HBL.out)
  have HSB2 := hid (HSB.out.below HBL.out)
  clear HSA HSB
  have hlg := limG
  have hdg := digG
  have HEQ := hid (wsame_any va vb f.args g.args w2 HSA2.out HSB2.out HN.out)
  obtain ⟨fk, fi, fv, fs, ft, fst, fl, fa, fb⟩ := f
  obtain ⟨gk, gi, gv, gs, gt, gst, gl, ga, gb⟩ := g
  obtain ⟨fl1, fl2, fl3⟩ := fl
  obtain ⟨gl1, gl2, gl3⟩ := gl
  obtain ⟨B2, HB2⟩ : ∃ b : Nat, Hid (w.heap.size + 1 = b) := ⟨_, rfl⟩
  obtain ⟨B1, HB1⟩ : ∃ b : Nat, Hid (w.heap.size = b) := ⟨_, rfl⟩
  rw [HB2.out] at HB ⊢
  rw [HB1.out] at HA ⊢
  clear HB1 HB2
  by_cases hne : fk = gk
  · subst hne
    by_cases hne : fi = gi
    · subst hne
      by_cases hne : fv = gv
      · subst hne
        by_cases hne : fs = gs
        · subst hne
          by_cases hne : ft = gt
          · subst hne
            by_cases hne : fst = gst
            · subst hne
              by_cases hne : (fl1, fl2, fl3) = (gl1, gl2, gl3)
              · injection hne with h1 h2; injection h2 with h2 h3; subst h1; subst h2; subst h3
                by_cases hne : fa = ga
                · subst hne
                  by_cases hne : fb = gb
                  · subst hne
                    have HR : Hid (sameP ⟨fk, fi, fv, fs, ft, fst, (fl1, fl2, fl3), fa, fb⟩ ⟨fk, fi, fv, fs, ft, fst, (fl1, fl2, fl3), fa, fb⟩ = true) := hid (sameP_self _)
                    have a0 := HA.out.k
                    have b0 := HB.out.k
                    have a1 := HA.out.i
                    have b1 := HB.out.i
                    have a2 := HA.out.v
                    have b2 := HB.out.v
                    have a3 := HA.out.s
                    have b3 := HB.out.s
                    have a4 := hid HA.out.t
                    have b4 := hid HB.out.t
                    have HS1 := hid (tool_size ft HF.out)
                    have HS2 := hid (tool_size ft HG.out)
                    have a5 := HA.out.st
                    have b5 := HB.out.st
                    have a61 := HA.out.l1
                    have b61 := HB.out.l1
                    have a62 := HA.out.l2
                    have b62 := HB.out.l2
                    have a63 := HA.out.l3
                    have b63 := HB.out.l3
                    have a7 := HA.out.a
                    have b7 := HB.out.a
                    have e4 := dig_eql ft ft HF.out HF.out
                    rw [decide_eq_true rfl] at e4
                    have e6 := lim_eql fl1 fl2 fl3 fl1 fl2 fl3
                    rw [decide_eq_true rfl] at e6
                    have HE2 := hid HEQ.out
                    simp only [decide_true] at HE2
                    have HA8 := hid (fun n => (show (w2.drewN n).cell? ⟨B1, 41, none⟩ = _ from HA.out.bd))
                    have HB8 := hid (fun n => (show (w2.drewN n).cell? ⟨B2, 41, none⟩ = _ from HB.out.bd))
                    clear HA HB HEQ HF HG
                    go_wp2_with (first | (refine ld_gd (by rfl) 24 (.tmp 32) (by rfl) B1 4 (by rfl) _ _ a4.out Try.underlying24 rfl HS1.out ?_) | (refine ld_gd (by rfl) 24 (.tmp 34) (by rfl) B2 4 (by rfl) _ _ b4.out Try.underlying24 rfl HS2.out ?_))
                    refine HE2.out.mono ?_
                    rintro e w3 ⟨rfl, n, rfl⟩
                    have a8 := HA8.out n
                    have b8 := HB8.out n
                    clear HA8 HB8
                    clear HE2
                    go_wp2
                    go_ret
                    exact ⟨ret_eq HR.out.symm, HBL.out.trans ⟨rfl, rfl, rfl, Nat.le_refl _, fun _ _ => rfl⟩⟩
                  · have HR : Hid (sameP ⟨fk, fi, fv, fs, ft, fst, (fl1, fl2, fl3), fa, fb⟩ ⟨fk, fi, fv, fs, ft, fst, (fl1, fl2, fl3), fa, gb⟩ = false) := hid (decide_eq_false (fun h9 => hne (by exact h9.2.2.2.2.2.2.2.2)))
                    have a0 := HA.out.k
                    have b0 := HB.out.k
                    have a1 := HA.out.i
                    have b1 := HB.out.i
                    have a2 := HA.out.v
                    have b2 := HB.out.v
                    have a3 := HA.out.s
                    have b3 := HB.out.s
                    have a4 := hid HA.out.t
                    have b4 := hid HB.out.t
                    have HS1 := hid (tool_size ft HF.out)
                    have HS2 := hid (tool_size ft HG.out)
                    have a5 := HA.out.st
                    have b5 := HB.out.st
                    have a61 := HA.out.l1
                    have b61 := HB.out.l1
                    have a62 := HA.out.l2
                    have b62 := HB.out.l2
                    have a63 := HA.out.l3
                    have b63 := HB.out.l3
                    have a7 := HA.out.a
                    have b7 := HB.out.a
                    have e4 := dig_eql ft ft HF.out HF.out
                    rw [decide_eq_true rfl] at e4
                    have e6 := lim_eql fl1 fl2 fl3 fl1 fl2 fl3
                    rw [decide_eq_true rfl] at e6
                    have HE2 := hid HEQ.out
                    simp only [decide_true] at HE2
                    have HA8 := hid (fun n => (show (w2.drewN n).cell? ⟨B1, 41, none⟩ = _ from HA.out.bd))
                    have HB8 := hid (fun n => (show (w2.drewN n).cell? ⟨B2, 41, none⟩ = _ from HB.out.bd))
                    have t1 : ¬ (mk fb).toList = (mk gb).toList := fun h9 => hne ((bl_mk fb).symm.trans (h9.trans (bl_mk gb)))
                    have t2 : ((mk fb).toList == (mk gb).toList) = false := by simpa using t1
                    clear HA HB HEQ HF HG
                    clear hne
                    go_wp2_with (first | (refine ld_gd (by rfl) 24 (.tmp 32) (by rfl) B1 4 (by rfl) _ _ a4.out Try.underlying24 rfl HS1.out ?_) | (refine ld_gd (by rfl) 24 (.tmp 34) (by rfl) B2 4 (by rfl) _ _ b4.out Try.underlying24 rfl HS2.out ?_))
                    refine HE2.out.mono ?_
                    rintro e w3 ⟨rfl, n, rfl⟩
                    have a8 := HA8.out n
                    have b8 := HB8.out n
                    clear HA8 HB8
                    clear HE2
                    go_wp2
                    go_ret
                    exact ⟨ret_eq HR.out.symm, HBL.out.trans ⟨rfl, rfl, rfl, Nat.le_refl _, fun _ _ => rfl⟩⟩
                · have HR : Hid (sameP ⟨fk, fi, fv, fs, ft, fst, (fl1, fl2, fl3), fa, fb⟩ ⟨fk, fi, fv, fs, ft, fst, (fl1, fl2, fl3), ga, gb⟩ = false) := hid (decide_eq_false (fun h9 => hne (by exact h9.2.2.2.2.2.2.2.1)))
                  have a0 := HA.out.k
                  have b0 := HB.out.k
                  have a1 := HA.out.i
                  have b1 := HB.out.i
                  have a2 := HA.out.v
                  have b2 := HB.out.v
                  have a3 := HA.out.s
                  have b3 := HB.out.s
                  have a4 := hid HA.out.t
                  have b4 := hid HB.out.t
                  have HS1 := hid (tool_size ft HF.out)
                  have HS2 := hid (tool_size ft HG.out)
                  have a5 := HA.out.st
                  have b5 := HB.out.st
                  have a61 := HA.out.l1
                  have b61 := HB.out.l1
                  have a62 := HA.out.l2
                  have b62 := HB.out.l2
                  have a63 := HA.out.l3
                  have b63 := HB.out.l3
                  have a7 := HA.out.a
                  have b7 := HB.out.a
                  have e4 := dig_eql ft ft HF.out HF.out
                  rw [decide_eq_true rfl] at e4
                  have e6 := lim_eql fl1 fl2 fl3 fl1 fl2 fl3
                  rw [decide_eq_true rfl] at e6
                  have HE2 := hid HEQ.out
                  simp only [decide_eq_false hne] at HE2
                  clear HA HB HEQ HF HG
                  clear hne
                  go_wp2_with (first | (refine ld_gd (by rfl) 24 (.tmp 32) (by rfl) B1 4 (by rfl) _ _ a4.out Try.underlying24 rfl HS1.out ?_) | (refine ld_gd (by rfl) 24 (.tmp 34) (by rfl) B2 4 (by rfl) _ _ b4.out Try.underlying24 rfl HS2.out ?_))
                  refine HE2.out.mono ?_
                  rintro e w3 ⟨rfl, n, rfl⟩
                  clear HE2
                  go_wp2
                  go_ret
                  exact ⟨ret_eq HR.out.symm, HBL.out.trans ⟨rfl, rfl, rfl, Nat.le_refl _, fun _ _ => rfl⟩⟩
              · have HR : Hid (sameP ⟨fk, fi, fv, fs, ft, fst, (fl1, fl2, fl3), fa, fb⟩ ⟨fk, fi, fv, fs, ft, fst, (gl1, gl2, gl3), ga, gb⟩ = false) := hid (decide_eq_false (fun h9 => hne (by exact h9.2.2.2.2.2.2.1)))
                have a0 := HA.out.k
                have b0 := HB.out.k
                have a1 := HA.out.i
                have b1 := HB.out.i
                have a2 := HA.out.v
                have b2 := HB.out.v
                have a3 := HA.out.s
                have b3 := HB.out.s
                have a4 := hid HA.out.t
                have b4 := hid HB.out.t
                have HS1 := hid (tool_size ft HF.out)
                have HS2 := hid (tool_size ft HG.out)
                have a5 := HA.out.st
                have b5 := HB.out.st
                have a61 := HA.out.l1
                have b61 := HB.out.l1
                have a62 := HA.out.l2
                have b62 := HB.out.l2
                have a63 := HA.out.l3
                have b63 := HB.out.l3
                have e4 := dig_eql ft ft HF.out HF.out
                rw [decide_eq_true rfl] at e4
                have e6 := lim_eql fl1 fl2 fl3 gl1 gl2 gl3
                rw [decide_eq_false hne] at e6
                clear HA HB HEQ HF HG
                clear hne
                go_wp2_with (first | (refine ld_gd (by rfl) 24 (.tmp 32) (by rfl) B1 4 (by rfl) _ _ a4.out Try.underlying24 rfl HS1.out ?_) | (refine ld_gd (by rfl) 24 (.tmp 34) (by rfl) B2 4 (by rfl) _ _ b4.out Try.underlying24 rfl HS2.out ?_))
                go_ret
                exact ⟨ret_eq HR.out.symm, HBL.out⟩
            · have HR : Hid (sameP ⟨fk, fi, fv, fs, ft, fst, (fl1, fl2, fl3), fa, fb⟩ ⟨fk, fi, fv, fs, ft, gst, (gl1, gl2, gl3), ga, gb⟩ = false) := hid (decide_eq_false (fun h9 => hne (by exact h9.2.2.2.2.2.1)))
              have a0 := HA.out.k
              have b0 := HB.out.k
              have a1 := HA.out.i
              have b1 := HB.out.i
              have a2 := HA.out.v
              have b2 := HB.out.v
              have a3 := HA.out.s
              have b3 := HB.out.s
              have a4 := hid HA.out.t
              have b4 := hid HB.out.t
              have HS1 := hid (tool_size ft HF.out)
              have HS2 := hid (tool_size ft HG.out)
              have a5 := HA.out.st
              have b5 := HB.out.st
              have e4 := dig_eql ft ft HF.out HF.out
              rw [decide_eq_true rfl] at e4
              have q1 : (fst == gst) = false := by simpa using hne
              clear HA HB HEQ HF HG
              go_wp2_with (first | (refine ld_gd (by rfl) 24 (.tmp 32) (by rfl) B1 4 (by rfl) _ _ a4.out Try.underlying24 rfl HS1.out ?_) | (refine ld_gd (by rfl) 24 (.tmp 34) (by rfl) B2 4 (by rfl) _ _ b4.out Try.underlying24 rfl HS2.out ?_))
              go_ret
              exact ⟨ret_eq HR.out.symm, HBL.out⟩
          · have HR : Hid (sameP ⟨fk, fi, fv, fs, ft, fst, (fl1, fl2, fl3), fa, fb⟩ ⟨fk, fi, fv, fs, gt, gst, (gl1, gl2, gl3), ga, gb⟩ = false) := hid (decide_eq_false (fun h9 => hne (by exact h9.2.2.2.2.1)))
            have a0 := HA.out.k
            have b0 := HB.out.k
            have a1 := HA.out.i
            have b1 := HB.out.i
            have a2 := HA.out.v
            have b2 := HB.out.v
            have a3 := HA.out.s
            have b3 := HB.out.s
            have a4 := hid HA.out.t
            have b4 := hid HB.out.t
            have HS1 := hid (tool_size ft HF.out)
            have HS2 := hid (tool_size gt HG.out)
            have e4 := dig_eql ft gt HF.out HG.out
            rw [decide_eq_false hne] at e4
            clear HA HB HEQ HF HG
            clear hne
            go_wp2_with (first | (refine ld_gd (by rfl) 24 (.tmp 32) (by rfl) B1 4 (by rfl) _ _ a4.out Try.underlying24 rfl HS1.out ?_) | (refine ld_gd (by rfl) 24 (.tmp 34) (by rfl) B2 4 (by rfl) _ _ b4.out Try.underlying24 rfl HS2.out ?_))
            go_ret
            exact ⟨ret_eq HR.out.symm, HBL.out⟩
        · have HR : Hid (sameP ⟨fk, fi, fv, fs, ft, fst, (fl1, fl2, fl3), fa, fb⟩ ⟨fk, fi, fv, gs, gt, gst, (gl1, gl2, gl3), ga, gb⟩ = false) := hid (decide_eq_false (fun h9 => hne (by exact h9.2.2.2.1)))
          have a0 := HA.out.k
          have b0 := HB.out.k
          have a1 := HA.out.i
          have b1 := HB.out.i
          have a2 := HA.out.v
          have b2 := HB.out.v
          have a3 := HA.out.s
          have b3 := HB.out.s
          have q1 : (fs == gs) = false := by simpa using hne
          clear HA HB HEQ HF HG
          go_wp2
          go_ret
          exact ⟨ret_eq HR.out.symm, HBL.out⟩
      · have HR : Hid (sameP ⟨fk, fi, fv, fs, ft, fst, (fl1, fl2, fl3), fa, fb⟩ ⟨fk, fi, gv, gs, gt, gst, (gl1, gl2, gl3), ga, gb⟩ = false) := hid (decide_eq_false (fun h9 => hne (by exact h9.2.2.1)))
        have a0 := HA.out.k
        have b0 := HB.out.k
        have a1 := HA.out.i
        have b1 := HB.out.i
        have a2 := HA.out.v
        have b2 := HB.out.v
        have q1 : (fv == gv) = false := by simpa using hne
        clear HA HB HEQ HF HG
        go_wp2
        go_ret
        exact ⟨ret_eq HR.out.symm, HBL.out⟩
    · have HR : Hid (sameP ⟨fk, fi, fv, fs, ft, fst, (fl1, fl2, fl3), fa, fb⟩ ⟨fk, gi, gv, gs, gt, gst, (gl1, gl2, gl3), ga, gb⟩ = false) := hid (decide_eq_false (fun h9 => hne (by exact h9.2.1)))
      have a0 := HA.out.k
      have b0 := HB.out.k
      have a1 := HA.out.i
      have b1 := HB.out.i
      have q1 : (fi == gi) = false := by simpa using hne
      clear HA HB HEQ HF HG
      go_wp2
      go_ret
      exact ⟨ret_eq HR.out.symm, HBL.out⟩
  · have HR : Hid (sameP ⟨fk, fi, fv, fs, ft, fst, (fl1, fl2, fl3), fa, fb⟩ ⟨gk, gi, gv, gs, gt, gst, (gl1, gl2, gl3), ga, gb⟩ = false) := hid (decide_eq_false (fun h9 => hne (by exact h9.1)))
    have a0 := HA.out.k
    have b0 := HB.out.k
    have q1 : (fk == gk) = false := by simpa using hne
    clear HA HB HEQ HF HG
    go_wp2
    go_ret
    exact ⟨ret_eq HR.out.symm, HBL.out⟩

end Go.Proofs.Ytjinkahlfigdcaa

/- The document's only, of every kind. -/
namespace Go.Proofs.Ytjinkahlfigdcaa
open Go.RowKit Go.BigFrame

theorem only_any (f : Fr) (va : Value) (w : World) (hk : 1 ≤ f.kind ∧ f.kind ≤ 6) (hf : f.tool.length = 32) (hv : ∃ ao n c, va = .slice ao n c) :
    Calls Try.prog 45 #[.agg (fcells f va).toArray] w fun e w' => e = .returned (.agg (fcells (ownF f) (ownV f va)).toArray) ∧ Below w.heap.size w w' := by
  have h : f.kind = 1 ∨ f.kind = 2 ∨ f.kind = 3 ∨ f.kind = 4 ∨ f.kind = 5 ∨ f.kind = 6 := by omega
  rcases h with h | h | h | h | h | h
  · exact only1_any f va w h hf hv
  · exact only2_any f va w h hf hv
  · exact only3_any f va w h hf hv
  · exact only4_any f va w h hf hv
  · exact only5_any f va w h hf hv
  · exact only6_any f va w h hf hv

/-- whether a frame is what its kind owns, as the document asks it -/
theorem rsame_own (f : Fr) (va : Value) (w : World) (hf : f.tool.length = 32) (ha : Strs w va f.args) (hn : f.args.length ≤ 9223372036854775807) :
    Calls Try.prog 18 #[.agg (fcells f va).toArray, .agg (fcells (ownF f) (ownV f va)).toArray] w fun e w' => e = .returned (.bool (sameP f (ownF f))) ∧ Below w.heap.size w w' :=
  rsame_any f (ownF f) va (ownV f va) w hf (ownF_tool f hf) ha (own_strs ha) hn

end Go.Proofs.Ytjinkahlfigdcaa

/- The document's body of a frame. -/
namespace Go.Proofs.Ytjinkahlfigdcaa
open Go.RowKit Go.BigFrame

theorem fb_at {w w' : World} {b B : Nat} {f : Fr} {va : Value} (h : Fb w b f va) (hb : b < B) (hB : Below B w w') : Fb w' b f va := by
  have c : ∀ {i : Nat} {v : Value}, w.cell? ⟨b, i, none⟩ = some v → w'.cell? ⟨b, i, none⟩ = some v := fun {i v} hc => (hB.cell (p := ⟨b, i, none⟩) hb).trans hc
  exact ⟨c h.k, c h.i, c h.v, c h.s, fun j v hv => c (h.t j v hv), c h.st, c h.l1, c h.l2, c h.l3, c h.a, c h.bd⟩
/-- texts that lay there before B lie there still -/
theorem strs_at {w0 w w' : World} {v : Value} {ts : List (List UInt8)} (h : Strs w v ts) (h0 : Strs w0 v ts) (hB : Below w0.heap.size w w') : Strs w' v ts := by
  rcases h with h | ⟨g, o, c, hv, hlt, h1, hc⟩
  · exact Or.inl h
  · rcases h0 with ⟨ao, c0, hv0, rfl, hn⟩ | ⟨g0, o0, c0, hv0, hlt0, _, _⟩
    · exact Or.inl ⟨ao, c0, hv0, rfl, hn⟩
    · have e := hv.symm.trans hv0
      injection e with e1 _ _
      injection e1 with e1
      injection e1 with e2 _ _
      exact Or.inr ⟨g, o, c, hv, Nat.lt_of_lt_of_le hlt hB.size, h1, fun j hj => (hB.cell (p := ⟨g, o + j, none⟩) (by show g < w0.heap.size; rw [e2]; exact hlt0)).trans (hc j hj)⟩

set_option maxRecDepth 100000 in
set_option maxHeartbeats 4000000 in
theorem body4_any (f : Fr) (va : Value) (w : World) (hf : f.tool.length = 32) (hk : f.kind = 4) (I : Nat) (hi : f.id = (I : Int)) (hI : I < 18446744073709551616) :
    Calls Try.prog 26 #[.agg (fcells f va).toArray] w fun e w' => ∃ v, e = .returned v ∧ Src w' v (sn 4 ++ sn I) ∧ Below w.heap.size w w' := by
  have HNB := hid (hp_new w (.cells (fcells f va).toArray 29))
  have HBL := hid (below_walk w (.cells (fcells f va).toArray 29))
  have HF := hid hf
  have HK := hid hk
  have E_i := hid hi
  have len_I := sn_length_le I
  have len0 := sn_length_le 4
  have w0 : IntKind.u64.wrap 4 = 4 := rfl
  clear hf hk hi 
  go_enter Try.func26, Try.ntmps26
  go_upto_region 1 with fail
  generalize w.alloc (.cells (fcells f va).toArray 29) = w1 at HNB HBL  ⊢
  have HFB1 := hid (Fb.of HNB.out HF.out)
  have HL1 := hid (hp_lt HNB.out)
  have x0 := HFB1.out.k
  rw [HK.out] at x0
  go_wp2_with fail
  refine (refUint_any 4 w1 (by decide)).mono ?_
  rintro e w2 ⟨v2, rfl, ho2, hb2⟩
  have HO2 := hid ho2
  have HB2 := hid (below_then HBL.out hb2)
  have HFB2 := hid (HFB1.out.below HL1.out hb2)
  have HL2 := hid (Nat.lt_of_lt_of_le HL1.out hb2.size)
  have HZ2 := hid hb2.size
  have x1 := HFB2.out.k
  rw [HK.out] at x1
  obtain ⟨a2, n2, c2, e2⟩ := src_named (ho2.src (by omega))
  subst e2
  clear ho2 hb2 x0 HFB1 HNB
  have y3 := HFB2.out.i
  rw [E_i.out] at y3
  go_wp2_with fail
  refine (refUint_any I w2 (by omega)).mono ?_
  rintro e p3 ⟨u3, rfl, hou3, hbu3⟩
  have HU3 := hid (hou3.src (by omega))
  have HP3 := hid (HO2.out.below hbu3)
  have HBP3 := hid (below_then HB2.out hbu3)
  have HFP3 := hid (HFB2.out.below HL2.out hbu3)
  have HLP3 := hid (Nat.lt_of_lt_of_le HL2.out hbu3.size)
  have HZP3 := hid (Nat.le_trans HZ2.out hbu3.size)
  obtain ⟨au3, nu3, cu3, eu3⟩ := src_named HU3.out
  subst eu3
  clear hou3 hbu3 y3 HO2 HB2 HFB2 HL2 HZ2  x1
  go_wp2_with (at_builtin; refine app_src rfl _ _ rfl w1.heap.size _ _ rfl HP3.out _ _ rfl HU3.out (by (try simp only [List.length_append]); omega) HZP3.out ?_)
  intro v3 w3 ho3 hg3
  have HO3 := hid ho3
  have hbb3 : Below w1.heap.size p3 w3 := ⟨hg3.os, hg3.tape, hg3.output, hg3.size, fun k hk => hg3.block k (by have := HZP3.out; omega) (fun e => by have := (HP3.out.lt k e.symm).1; omega)⟩
  have HB3 := hid (show Below w.heap.size w w3 from below_tr HBP3.out (hbb3.mono (by have := HBL.out.size; omega)))
  have HFB3 := hid (show Fb w3 w.heap.size f va from fb_at HFP3.out HL1.out hbb3)
  have HL3 := hid (Nat.lt_of_lt_of_le HLP3.out hg3.size)
  have HZ3 := hid (Nat.le_trans HZP3.out hg3.size)
  obtain ⟨a3, n3, c3, e3⟩ := src_named (ho3.src (by (try simp only [List.length_append]); omega))
  subst e3
  clear ho3 hg3 hbb3 HP3 HU3 HBP3 HFP3 HLP3 HZP3 
  have xz := HFB3.out.k
  have hz9 := HO3.out.src (by (try simp only [List.length_append]); omega)
  have HSZ := hid (show Src w3 (.slice a3 n3 c3) (sn 4 ++ sn I) by first | exact hz9 | simpa only [List.append_assoc] using hz9)
  clear hz9
  go_wp2
  go_ret
  exact ⟨_, rfl, HSZ.out, HB3.out⟩

set_option maxRecDepth 100000 in
set_option maxHeartbeats 4000000 in
theorem body6_any (f : Fr) (va : Value) (w : World) (hf : f.tool.length = 32) (hk : f.kind = 6) (hB : f.body.length ≤ 2097152) :
    Calls Try.prog 26 #[.agg (fcells f va).toArray] w fun e w' => ∃ v, e = .returned v ∧ Src w' v (sn 6 ++ tx (mk f.body)) ∧ Below w.heap.size w w' := by
  have HNB := hid (hp_new w (.cells (fcells f va).toArray 29))
  have HBL := hid (below_walk w (.cells (fcells f va).toArray 29))
  have HF := hid hf
  have HK := hid hk
  have HTX := hid (tx_len2 (mk f.body))
  rw [mk_size] at HTX
  have len0 := sn_length_le 6
  have w0 : IntKind.u64.wrap 6 = 6 := rfl
  clear hf hk  
  go_enter Try.func26, Try.ntmps26
  go_upto_region 1 with fail
  generalize w.alloc (.cells (fcells f va).toArray 29) = w1 at HNB HBL  ⊢
  have HFB1 := hid (Fb.of HNB.out HF.out)
  have HL1 := hid (hp_lt HNB.out)
  have x0 := HFB1.out.k
  rw [HK.out] at x0
  go_wp2_with fail
  refine (refUint_any 6 w1 (by decide)).mono ?_
  rintro e w2 ⟨v2, rfl, ho2, hb2⟩
  have HO2 := hid ho2
  have HB2 := hid (below_then HBL.out hb2)
  have HFB2 := hid (HFB1.out.below HL1.out hb2)
  have HL2 := hid (Nat.lt_of_lt_of_le HL1.out hb2.size)
  have HZ2 := hid hb2.size
  have x1 := HFB2.out.k
  rw [HK.out] at x1
  obtain ⟨a2, n2, c2, e2⟩ := src_named (ho2.src (by omega))
  subst e2
  clear ho2 hb2 x0 HFB1 HNB
  have y3 := HFB2.out.bd
  go_wp2_with fail
  refine (refText_any (mk f.body) w2 (by rw [mk_size]; omega)).mono ?_
  rintro e p3 ⟨u3, rfl, hou3, hbu3⟩
  have HU3 := hid (hou3.src (by have := HTX.out; omega))
  have HP3 := hid (HO2.out.below hbu3)
  have HBP3 := hid (below_then HB2.out hbu3)
  have HFP3 := hid (HFB2.out.below HL2.out hbu3)
  have HLP3 := hid (Nat.lt_of_lt_of_le HL2.out hbu3.size)
  have HZP3 := hid (Nat.le_trans HZ2.out hbu3.size)
  obtain ⟨au3, nu3, cu3, eu3⟩ := src_named HU3.out
  subst eu3
  clear hou3 hbu3 y3 HO2 HB2 HFB2 HL2 HZ2  x1
  go_wp2_with (at_builtin; refine app_src rfl _ _ rfl w1.heap.size _ _ rfl HP3.out _ _ rfl HU3.out (by (try simp only [List.length_append]); have := HTX.out; omega) HZP3.out ?_)
  intro v3 w3 ho3 hg3
  have HO3 := hid ho3
  have hbb3 : Below w1.heap.size p3 w3 := ⟨hg3.os, hg3.tape, hg3.output, hg3.size, fun k hk => hg3.block k (by have := HZP3.out; omega) (fun e => by have := (HP3.out.lt k e.symm).1; omega)⟩
  have HB3 := hid (show Below w.heap.size w w3 from below_tr HBP3.out (hbb3.mono (by have := HBL.out.size; omega)))
  have HFB3 := hid (show Fb w3 w.heap.size f va from fb_at HFP3.out HL1.out hbb3)
  have HL3 := hid (Nat.lt_of_lt_of_le HLP3.out hg3.size)
  have HZ3 := hid (Nat.le_trans HZP3.out hg3.size)
  obtain ⟨a3, n3, c3, e3⟩ := src_named (ho3.src (by (try simp only [List.length_append]); have := HTX.out; omega))
  subst e3
  clear ho3 hg3 hbb3 HP3 HU3 HBP3 HFP3 HLP3 HZP3 
  have xz := HFB3.out.k
  have hz9 := HO3.out.src (by (try simp only [List.length_append]); have := HTX.out; omega)
  have HSZ := hid (show Src w3 (.slice a3 n3 c3) (sn 6 ++ tx (mk f.body)) by first | exact hz9 | simpa only [List.append_assoc] using hz9)
  clear hz9
  go_wp2
  go_ret
  exact ⟨_, rfl, HSZ.out, HB3.out⟩

set_option maxRecDepth 100000 in
set_option maxHeartbeats 4000000 in
theorem body3_any (f : Fr) (va : Value) (w : World) (hf : f.tool.length = 32) (hk : f.kind = 3) (I S : Nat) (hi : f.id = (I : Int)) (hI : I < 18446744073709551616) (hst : f.status = (S : Int)) (kS : S ≤ 9223372036854775807) (hB : f.body.length ≤ 2097152) :
    Calls Try.prog 26 #[.agg (fcells f va).toArray] w fun e w' => ∃ v, e = .returned v ∧ Src w' v (sn 3 ++ sn I ++ sn S ++ tx (mk f.body)) ∧ Below w.heap.size w w' := by
  have HNB := hid (hp_new w (.cells (fcells f va).toArray 29))
  have HBL := hid (below_walk w (.cells (fcells f va).toArray 29))
  have HF := hid hf
  have HK := hid hk
  have E_i := hid hi
  have E_st := hid hst
  have HTX := hid (tx_len2 (mk f.body))
  rw [mk_size] at HTX
  have len_I := sn_length_le I
  have len_S := sn_length_le S
  have wr_S : IntKind.u64.wrap (S : Int) = (S : Int) := by rw [IntKind.wrap_u64]; omega
  have len0 := sn_length_le 3
  have w0 : IntKind.u64.wrap 3 = 3 := rfl
  clear hf hk hi hst 
  go_enter Try.func26, Try.ntmps26
  go_upto_region 1 with fail
  generalize w.alloc (.cells (fcells f va).toArray 29) = w1 at HNB HBL  ⊢
  have HFB1 := hid (Fb.of HNB.out HF.out)
  have HL1 := hid (hp_lt HNB.out)
  have x0 := HFB1.out.k
  rw [HK.out] at x0
  go_wp2_with fail
  refine (refUint_any 3 w1 (by decide)).mono ?_
  rintro e w2 ⟨v2, rfl, ho2, hb2⟩
  have HO2 := hid ho2
  have HB2 := hid (below_then HBL.out hb2)
  have HFB2 := hid (HFB1.out.below HL1.out hb2)
  have HL2 := hid (Nat.lt_of_lt_of_le HL1.out hb2.size)
  have HZ2 := hid hb2.size
  have x1 := HFB2.out.k
  rw [HK.out] at x1
  obtain ⟨a2, n2, c2, e2⟩ := src_named (ho2.src (by omega))
  subst e2
  clear ho2 hb2 x0 HFB1 HNB
  have y3 := HFB2.out.i
  rw [E_i.out] at y3
  go_wp2_with fail
  refine (refUint_any I w2 (by omega)).mono ?_
  rintro e p3 ⟨u3, rfl, hou3, hbu3⟩
  have HU3 := hid (hou3.src (by omega))
  have HP3 := hid (HO2.out.below hbu3)
  have HBP3 := hid (below_then HB2.out hbu3)
  have HFP3 := hid (HFB2.out.below HL2.out hbu3)
  have HLP3 := hid (Nat.lt_of_lt_of_le HL2.out hbu3.size)
  have HZP3 := hid (Nat.le_trans HZ2.out hbu3.size)
  obtain ⟨au3, nu3, cu3, eu3⟩ := src_named HU3.out
  subst eu3
  clear hou3 hbu3 y3 HO2 HB2 HFB2 HL2 HZ2  x1
  go_wp2_with (at_builtin; refine app_src rfl _ _ rfl w1.heap.size _ _ rfl HP3.out _ _ rfl HU3.out (by (try simp only [List.length_append]); have := HTX.out; omega) HZP3.out ?_)
  intro v3 w3 ho3 hg3
  have HO3 := hid ho3
  have hbb3 : Below w1.heap.size p3 w3 := ⟨hg3.os, hg3.tape, hg3.output, hg3.size, fun k hk => hg3.block k (by have := HZP3.out; omega) (fun e => by have := (HP3.out.lt k e.symm).1; omega)⟩
  have HB3 := hid (show Below w.heap.size w w3 from below_tr HBP3.out (hbb3.mono (by have := HBL.out.size; omega)))
  have HFB3 := hid (show Fb w3 w.heap.size f va from fb_at HFP3.out HL1.out hbb3)
  have HL3 := hid (Nat.lt_of_lt_of_le HLP3.out hg3.size)
  have HZ3 := hid (Nat.le_trans HZP3.out hg3.size)
  obtain ⟨a3, n3, c3, e3⟩ := src_named (ho3.src (by (try simp only [List.length_append]); have := HTX.out; omega))
  subst e3
  clear ho3 hg3 hbb3 HP3 HU3 HBP3 HFP3 HLP3 HZP3 
  have y4 := HFB3.out.st
  rw [E_st.out] at y4
  go_wp2_with fail
  refine (refUint_any S w3 (by omega)).mono ?_
  rintro e p4 ⟨u4, rfl, hou4, hbu4⟩
  have HU4 := hid (hou4.src (by omega))
  have HP4 := hid (HO3.out.below hbu4)
  have HBP4 := hid (below_then HB3.out hbu4)
  have HFP4 := hid (HFB3.out.below HL3.out hbu4)
  have HLP4 := hid (Nat.lt_of_lt_of_le HL3.out hbu4.size)
  have HZP4 := hid (Nat.le_trans HZ3.out hbu4.size)
  obtain ⟨au4, nu4, cu4, eu4⟩ := src_named HU4.out
  subst eu4
  clear hou4 hbu4 y4 HO3 HB3 HFB3 HL3 HZ3  
  go_wp2_with (at_builtin; refine app_src rfl _ _ rfl w1.heap.size _ _ rfl HP4.out _ _ rfl HU4.out (by (try simp only [List.length_append]); have := HTX.out; omega) HZP4.out ?_)
  intro v4 w4 ho4 hg4
  have HO4 := hid ho4
  have hbb4 : Below w1.heap.size p4 w4 := ⟨hg4.os, hg4.tape, hg4.output, hg4.size, fun k hk => hg4.block k (by have := HZP4.out; omega) (fun e => by have := (HP4.out.lt k e.symm).1; omega)⟩
  have HB4 := hid (show Below w.heap.size w w4 from below_tr HBP4.out (hbb4.mono (by have := HBL.out.size; omega)))
  have HFB4 := hid (show Fb w4 w.heap.size f va from fb_at HFP4.out HL1.out hbb4)
  have HL4 := hid (Nat.lt_of_lt_of_le HLP4.out hg4.size)
  have HZ4 := hid (Nat.le_trans HZP4.out hg4.size)
  obtain ⟨a4, n4, c4, e4⟩ := src_named (ho4.src (by (try simp only [List.length_append]); have := HTX.out; omega))
  subst e4
  clear ho4 hg4 hbb4 HP4 HU4 HBP4 HFP4 HLP4 HZP4 
  have y5 := HFB4.out.bd
  go_wp2_with fail
  refine (refText_any (mk f.body) w4 (by rw [mk_size]; omega)).mono ?_
  rintro e p5 ⟨u5, rfl, hou5, hbu5⟩
  have HU5 := hid (hou5.src (by have := HTX.out; omega))
  have HP5 := hid (HO4.out.below hbu5)
  have HBP5 := hid (below_then HB4.out hbu5)
  have HFP5 := hid (HFB4.out.below HL4.out hbu5)
  have HLP5 := hid (Nat.lt_of_lt_of_le HL4.out hbu5.size)
  have HZP5 := hid (Nat.le_trans HZ4.out hbu5.size)
  obtain ⟨au5, nu5, cu5, eu5⟩ := src_named HU5.out
  subst eu5
  clear hou5 hbu5 y5 HO4 HB4 HFB4 HL4 HZ4  
  go_wp2_with (at_builtin; refine app_src rfl _ _ rfl w1.heap.size _ _ rfl HP5.out _ _ rfl HU5.out (by (try simp only [List.length_append]); have := HTX.out; omega) HZP5.out ?_)
  intro v5 w5 ho5 hg5
  have HO5 := hid ho5
  have hbb5 : Below w1.heap.size p5 w5 := ⟨hg5.os, hg5.tape, hg5.output, hg5.size, fun k hk => hg5.block k (by have := HZP5.out; omega) (fun e => by have := (HP5.out.lt k e.symm).1; omega)⟩
  have HB5 := hid (show Below w.heap.size w w5 from below_tr HBP5.out (hbb5.mono (by have := HBL.out.size; omega)))
  have HFB5 := hid (show Fb w5 w.heap.size f va from fb_at HFP5.out HL1.out hbb5)
  have HL5 := hid (Nat.lt_of_lt_of_le HLP5.out hg5.size)
  have HZ5 := hid (Nat.le_trans HZP5.out hg5.size)
  obtain ⟨a5, n5, c5, e5⟩ := src_named (ho5.src (by (try simp only [List.length_append]); have := HTX.out; omega))
  subst e5
  clear ho5 hg5 hbb5 HP5 HU5 HBP5 HFP5 HLP5 HZP5 
  have xz := HFB5.out.k
  have hz9 := HO5.out.src (by (try simp only [List.length_append]); have := HTX.out; omega)
  have HSZ := hid (show Src w5 (.slice a5 n5 c5) (sn 3 ++ sn I ++ sn S ++ tx (mk f.body)) by first | exact hz9 | simpa only [List.append_assoc] using hz9)
  clear hz9
  go_wp2
  go_ret
  exact ⟨_, rfl, HSZ.out, HB5.out⟩

set_option maxRecDepth 100000 in
set_option maxHeartbeats 4000000 in
theorem body2_any (f : Fr) (va : Value) (w : World) (hf : f.tool.length = 32) (hk : f.kind = 2) (I a b c : Nat) (hi : f.id = (I : Int)) (hI : I < 18446744073709551616) (h1 : f.lim.1 = (a : Int)) (h2 : f.lim.2.1 = (b : Int)) (h3 : f.lim.2.2 = (c : Int)) (ka : a ≤ 9223372036854775807) (kb : b ≤ 9223372036854775807) (kc : c ≤ 9223372036854775807) (ha : Strs w va f.args) (hA : (txs (f.args.map mk)).length ≤ 100000) (hB : f.body.length ≤ 2097152) :
    Calls Try.prog 26 #[.agg (fcells f va).toArray] w fun e w' => ∃ v, e = .returned v ∧ Src w' v (sn 2 ++ sn I ++ sn a ++ sn b ++ sn c ++ ls (f.args.map mk) ++ tx (mk f.body)) ∧ Below w.heap.size w w' := by
  obtain ⟨av, cv, ev⟩ := ha.shape
  have HEV := hid ev
  clear ev
  have HNB := hid (hp_new w (.cells (fcells f va).toArray 29))
  have HBL := hid (below_walk w (.cells (fcells f va).toArray 29))
  have HSA := hid (ha.below HBL.out)
  have HF := hid hf
  have HK := hid hk
  have E_i := hid hi
  have E_l1 := hid h1
  have E_l2 := hid h2
  have E_l3 := hid h3
  have HTX := hid (tx_len2 (mk f.body))
  rw [mk_size] at HTX
  have hll : (ls (f.args.map mk)).length ≤ 100010 := by
    have := sn_length_le (f.args.map mk).length
    unfold ls
    rw [List.length_append]
    omega
  have len_I := sn_length_le I
  have len_a := sn_length_le a
  have wr_a : IntKind.u64.wrap (a : Int) = (a : Int) := by rw [IntKind.wrap_u64]; omega
  have len_b := sn_length_le b
  have wr_b : IntKind.u64.wrap (b : Int) = (b : Int) := by rw [IntKind.wrap_u64]; omega
  have len_c := sn_length_le c
  have wr_c : IntKind.u64.wrap (c : Int) = (c : Int) := by rw [IntKind.wrap_u64]; omega
  have len0 := sn_length_le 2
  have w0 : IntKind.u64.wrap 2 = 2 := rfl
  clear hf hk hi h1 h2 h3 ha
  go_enter Try.func26, Try.ntmps26
  go_upto_region 1 with fail
  generalize w.alloc (.cells (fcells f va).toArray 29) = w1 at HNB HBL HSA ⊢
  have HFB1 := hid (Fb.of HNB.out HF.out)
  have HL1 := hid (hp_lt HNB.out)
  have x0 := HFB1.out.k
  rw [HK.out] at x0
  go_wp2_with fail
  refine (refUint_any 2 w1 (by decide)).mono ?_
  rintro e w2 ⟨v2, rfl, ho2, hb2⟩
  have HO2 := hid ho2
  have HB2 := hid (below_then HBL.out hb2)
  have HFB2 := hid (HFB1.out.below HL1.out hb2)
  have HL2 := hid (Nat.lt_of_lt_of_le HL1.out hb2.size)
  have HZ2 := hid hb2.size
  have HSA2 := hid (HSA.out.below hb2)
  have x1 := HFB2.out.k
  rw [HK.out] at x1
  obtain ⟨a2, n2, c2, e2⟩ := src_named (ho2.src (by omega))
  subst e2
  clear ho2 hb2 x0 HFB1 HNB
  have y3 := HFB2.out.i
  rw [E_i.out] at y3
  go_wp2_with fail
  refine (refUint_any I w2 (by omega)).mono ?_
  rintro e p3 ⟨u3, rfl, hou3, hbu3⟩
  have HU3 := hid (hou3.src (by omega))
  have HP3 := hid (HO2.out.below hbu3)
  have HBP3 := hid (below_then HB2.out hbu3)
  have HFP3 := hid (HFB2.out.below HL2.out hbu3)
  have HLP3 := hid (Nat.lt_of_lt_of_le HL2.out hbu3.size)
  have HZP3 := hid (Nat.le_trans HZ2.out hbu3.size)
  have HSP3 := hid (HSA2.out.below hbu3)
  obtain ⟨au3, nu3, cu3, eu3⟩ := src_named HU3.out
  subst eu3
  clear hou3 hbu3 y3 HO2 HB2 HFB2 HL2 HZ2 HSA2 x1
  go_wp2_with (at_builtin; refine app_src rfl _ _ rfl w1.heap.size _ _ rfl HP3.out _ _ rfl HU3.out (by (try simp only [List.length_append]); have := HTX.out; omega) HZP3.out ?_)
  intro v3 w3 ho3 hg3
  have HO3 := hid ho3
  have hbb3 : Below w1.heap.size p3 w3 := ⟨hg3.os, hg3.tape, hg3.output, hg3.size, fun k hk => hg3.block k (by have := HZP3.out; omega) (fun e => by have := (HP3.out.lt k e.symm).1; omega)⟩
  have HB3 := hid (show Below w.heap.size w w3 from below_tr HBP3.out (hbb3.mono (by have := HBL.out.size; omega)))
  have HFB3 := hid (show Fb w3 w.heap.size f va from fb_at HFP3.out HL1.out hbb3)
  have HL3 := hid (Nat.lt_of_lt_of_le HLP3.out hg3.size)
  have HZ3 := hid (Nat.le_trans HZP3.out hg3.size)
  have HSA3 := hid (strs_at HSP3.out HSA.out hbb3)
  obtain ⟨a3, n3, c3, e3⟩ := src_named (ho3.src (by (try simp only [List.length_append]); have := HTX.out; omega))
  subst e3
  clear ho3 hg3 hbb3 HP3 HU3 HBP3 HFP3 HLP3 HZP3 HSP3
  have y4 := HFB3.out.l1
  rw [E_l1.out] at y4
  go_wp2_with fail
  refine (refUint_any a w3 (by omega)).mono ?_
  rintro e p4 ⟨u4, rfl, hou4, hbu4⟩
  have HU4 := hid (hou4.src (by omega))
  have HP4 := hid (HO3.out.below hbu4)
  have HBP4 := hid (below_then HB3.out hbu4)
  have HFP4 := hid (HFB3.out.below HL3.out hbu4)
  have HLP4 := hid (Nat.lt_of_lt_of_le HL3.out hbu4.size)
  have HZP4 := hid (Nat.le_trans HZ3.out hbu4.size)
  have HSP4 := hid (HSA3.out.below hbu4)
  obtain ⟨au4, nu4, cu4, eu4⟩ := src_named HU4.out
  subst eu4
  clear hou4 hbu4 y4 HO3 HB3 HFB3 HL3 HZ3 HSA3 
  go_wp2_with (at_builtin; refine app_src rfl _ _ rfl w1.heap.size _ _ rfl HP4.out _ _ rfl HU4.out (by (try simp only [List.length_append]); have := HTX.out; omega) HZP4.out ?_)
  intro v4 w4 ho4 hg4
  have HO4 := hid ho4
  have hbb4 : Below w1.heap.size p4 w4 := ⟨hg4.os, hg4.tape, hg4.output, hg4.size, fun k hk => hg4.block k (by have := HZP4.out; omega) (fun e => by have := (HP4.out.lt k e.symm).1; omega)⟩
  have HB4 := hid (show Below w.heap.size w w4 from below_tr HBP4.out (hbb4.mono (by have := HBL.out.size; omega)))
  have HFB4 := hid (show Fb w4 w.heap.size f va from fb_at HFP4.out HL1.out hbb4)
  have HL4 := hid (Nat.lt_of_lt_of_le HLP4.out hg4.size)
  have HZ4 := hid (Nat.le_trans HZP4.out hg4.size)
  have HSA4 := hid (strs_at HSP4.out HSA.out hbb4)
  obtain ⟨a4, n4, c4, e4⟩ := src_named (ho4.src (by (try simp only [List.length_append]); have := HTX.out; omega))
  subst e4
  clear ho4 hg4 hbb4 HP4 HU4 HBP4 HFP4 HLP4 HZP4 HSP4
  have y5 := HFB4.out.l2
  rw [E_l2.out] at y5
  go_wp2_with fail
  refine (refUint_any b w4 (by omega)).mono ?_
  rintro e p5 ⟨u5, rfl, hou5, hbu5⟩
  have HU5 := hid (hou5.src (by omega))
  have HP5 := hid (HO4.out.below hbu5)
  have HBP5 := hid (below_then HB4.out hbu5)
  have HFP5 := hid (HFB4.out.below HL4.out hbu5)
  have HLP5 := hid (Nat.lt_of_lt_of_le HL4.out hbu5.size)
  have HZP5 := hid (Nat.le_trans HZ4.out hbu5.size)
  have HSP5 := hid (HSA4.out.below hbu5)
  obtain ⟨au5, nu5, cu5, eu5⟩ := src_named HU5.out
  subst eu5
  clear hou5 hbu5 y5 HO4 HB4 HFB4 HL4 HZ4 HSA4 
  go_wp2_with (at_builtin; refine app_src rfl _ _ rfl w1.heap.size _ _ rfl HP5.out _ _ rfl HU5.out (by (try simp only [List.length_append]); have := HTX.out; omega) HZP5.out ?_)
  intro v5 w5 ho5 hg5
  have HO5 := hid ho5
  have hbb5 : Below w1.heap.size p5 w5 := ⟨hg5.os, hg5.tape, hg5.output, hg5.size, fun k hk => hg5.block k (by have := HZP5.out; omega) (fun e => by have := (HP5.out.lt k e.symm).1; omega)⟩
  have HB5 := hid (show Below w.heap.size w w5 from below_tr HBP5.out (hbb5.mono (by have := HBL.out.size; omega)))
  have HFB5 := hid (show Fb w5 w.heap.size f va from fb_at HFP5.out HL1.out hbb5)
  have HL5 := hid (Nat.lt_of_lt_of_le HLP5.out hg5.size)
  have HZ5 := hid (Nat.le_trans HZP5.out hg5.size)
  have HSA5 := hid (strs_at HSP5.out HSA.out hbb5)
  obtain ⟨a5, n5, c5, e5⟩ := src_named (ho5.src (by (try simp only [List.length_append]); have := HTX.out; omega))
  subst e5
  clear ho5 hg5 hbb5 HP5 HU5 HBP5 HFP5 HLP5 HZP5 HSP5
  have y6 := HFB5.out.l3
  rw [E_l3.out] at y6
  go_wp2_with fail
  refine (refUint_any c w5 (by omega)).mono ?_
  rintro e p6 ⟨u6, rfl, hou6, hbu6⟩
  have HU6 := hid (hou6.src (by omega))
  have HP6 := hid (HO5.out.below hbu6)
  have HBP6 := hid (below_then HB5.out hbu6)
  have HFP6 := hid (HFB5.out.below HL5.out hbu6)
  have HLP6 := hid (Nat.lt_of_lt_of_le HL5.out hbu6.size)
  have HZP6 := hid (Nat.le_trans HZ5.out hbu6.size)
  have HSP6 := hid (HSA5.out.below hbu6)
  obtain ⟨au6, nu6, cu6, eu6⟩ := src_named HU6.out
  subst eu6
  clear hou6 hbu6 y6 HO5 HB5 HFB5 HL5 HZ5 HSA5 
  go_wp2_with (at_builtin; refine app_src rfl _ _ rfl w1.heap.size _ _ rfl HP6.out _ _ rfl HU6.out (by (try simp only [List.length_append]); have := HTX.out; omega) HZP6.out ?_)
  intro v6 w6 ho6 hg6
  have HO6 := hid ho6
  have hbb6 : Below w1.heap.size p6 w6 := ⟨hg6.os, hg6.tape, hg6.output, hg6.size, fun k hk => hg6.block k (by have := HZP6.out; omega) (fun e => by have := (HP6.out.lt k e.symm).1; omega)⟩
  have HB6 := hid (show Below w.heap.size w w6 from below_tr HBP6.out (hbb6.mono (by have := HBL.out.size; omega)))
  have HFB6 := hid (show Fb w6 w.heap.size f va from fb_at HFP6.out HL1.out hbb6)
  have HL6 := hid (Nat.lt_of_lt_of_le HLP6.out hg6.size)
  have HZ6 := hid (Nat.le_trans HZP6.out hg6.size)
  have HSA6 := hid (strs_at HSP6.out HSA.out hbb6)
  obtain ⟨a6, n6, c6, e6⟩ := src_named (ho6.src (by (try simp only [List.length_append]); have := HTX.out; omega))
  subst e6
  clear ho6 hg6 hbb6 HP6 HU6 HBP6 HFP6 HLP6 HZP6 HSP6
  have y7 := HFB6.out.a
  rw [HEV.out] at y7
  go_wp2_with fail
  refine (refList_any _ (f.args.map mk) w6 (by rw [← HEV.out]; exact wstrs_of HSA6.out) (by omega)).mono ?_
  rintro e p7 ⟨u7, rfl, hou7, hbu7⟩
  have HU7 := hid (hou7.src (by omega))
  have HP7 := hid (HO6.out.below hbu7)
  have HBP7 := hid (below_then HB6.out hbu7)
  have HFP7 := hid (HFB6.out.below HL6.out hbu7)
  have HLP7 := hid (Nat.lt_of_lt_of_le HL6.out hbu7.size)
  have HZP7 := hid (Nat.le_trans HZ6.out hbu7.size)
  have HSP7 := hid (HSA6.out.below hbu7)
  obtain ⟨au7, nu7, cu7, eu7⟩ := src_named HU7.out
  subst eu7
  clear hou7 hbu7 y7 HO6 HB6 HFB6 HL6 HZ6 HSA6 
  go_wp2_with (at_builtin; refine app_src rfl _ _ rfl w1.heap.size _ _ rfl HP7.out _ _ rfl HU7.out (by (try simp only [List.length_append]); have := HTX.out; omega) HZP7.out ?_)
  intro v7 w7 ho7 hg7
  have HO7 := hid ho7
  have hbb7 : Below w1.heap.size p7 w7 := ⟨hg7.os, hg7.tape, hg7.output, hg7.size, fun k hk => hg7.block k (by have := HZP7.out; omega) (fun e => by have := (HP7.out.lt k e.symm).1; omega)⟩
  have HB7 := hid (show Below w.heap.size w w7 from below_tr HBP7.out (hbb7.mono (by have := HBL.out.size; omega)))
  have HFB7 := hid (show Fb w7 w.heap.size f va from fb_at HFP7.out HL1.out hbb7)
  have HL7 := hid (Nat.lt_of_lt_of_le HLP7.out hg7.size)
  have HZ7 := hid (Nat.le_trans HZP7.out hg7.size)
  have HSA7 := hid (strs_at HSP7.out HSA.out hbb7)
  obtain ⟨a7, n7, c7, e7⟩ := src_named (ho7.src (by (try simp only [List.length_append]); have := HTX.out; omega))
  subst e7
  clear ho7 hg7 hbb7 HP7 HU7 HBP7 HFP7 HLP7 HZP7 HSP7
  have y8 := HFB7.out.bd
  go_wp2_with fail
  refine (refText_any (mk f.body) w7 (by rw [mk_size]; omega)).mono ?_
  rintro e p8 ⟨u8, rfl, hou8, hbu8⟩
  have HU8 := hid (hou8.src (by have := HTX.out; omega))
  have HP8 := hid (HO7.out.below hbu8)
  have HBP8 := hid (below_then HB7.out hbu8)
  have HFP8 := hid (HFB7.out.below HL7.out hbu8)
  have HLP8 := hid (Nat.lt_of_lt_of_le HL7.out hbu8.size)
  have HZP8 := hid (Nat.le_trans HZ7.out hbu8.size)
  have HSP8 := hid (HSA7.out.below hbu8)
  obtain ⟨au8, nu8, cu8, eu8⟩ := src_named HU8.out
  subst eu8
  clear hou8 hbu8 y8 HO7 HB7 HFB7 HL7 HZ7 HSA7 
  go_wp2_with (at_builtin; refine app_src rfl _ _ rfl w1.heap.size _ _ rfl HP8.out _ _ rfl HU8.out (by (try simp only [List.length_append]); have := HTX.out; omega) HZP8.out ?_)
  intro v8 w8 ho8 hg8
  have HO8 := hid ho8
  have hbb8 : Below w1.heap.size p8 w8 := ⟨hg8.os, hg8.tape, hg8.output, hg8.size, fun k hk => hg8.block k (by have := HZP8.out; omega) (fun e => by have := (HP8.out.lt k e.symm).1; omega)⟩
  have HB8 := hid (show Below w.heap.size w w8 from below_tr HBP8.out (hbb8.mono (by have := HBL.out.size; omega)))
  have HFB8 := hid (show Fb w8 w.heap.size f va from fb_at HFP8.out HL1.out hbb8)
  have HL8 := hid (Nat.lt_of_lt_of_le HLP8.out hg8.size)
  have HZ8 := hid (Nat.le_trans HZP8.out hg8.size)
  have HSA8 := hid (strs_at HSP8.out HSA.out hbb8)
  obtain ⟨a8, n8, c8, e8⟩ := src_named (ho8.src (by (try simp only [List.length_append]); have := HTX.out; omega))
  subst e8
  clear ho8 hg8 hbb8 HP8 HU8 HBP8 HFP8 HLP8 HZP8 HSP8
  have xz := HFB8.out.k
  have hz9 := HO8.out.src (by (try simp only [List.length_append]); have := HTX.out; omega)
  have HSZ := hid (show Src w8 (.slice a8 n8 c8) (sn 2 ++ sn I ++ sn a ++ sn b ++ sn c ++ ls (f.args.map mk) ++ tx (mk f.body)) by first | exact hz9 | simpa only [List.append_assoc] using hz9)
  clear hz9
  go_wp2
  go_ret
  exact ⟨_, rfl, HSZ.out, HB8.out⟩

end Go.Proofs.Ytjinkahlfigdcaa

/- The document's body of a hello. -/
namespace Go.Proofs.Ytjinkahlfigdcaa
open Go.RowKit Go.BigFrame

set_option maxRecDepth 100000 in
set_option maxHeartbeats 4000000 in
theorem body1_any (f : Fr) (va : Value) (w : World) (hf : f.tool.length = 32) (hk : f.kind = 1) (V S : Nat) (hv : f.ver = (V : Int)) (hs : f.slots = (S : Int)) (kV : V ≤ 9223372036854775807) (kS : S ≤ 9223372036854775807) :
    Calls Try.prog 26 #[.agg (fcells f va).toArray] w fun e w' => ∃ v, e = .returned v ∧ Src w' v (sn 1 ++ sn V ++ sn S ++ f.tool) ∧ Below w.heap.size w w' := by
  have HNB := hid (hp_new w (.cells (fcells f va).toArray 29))
  have HBL := hid (below_walk w (.cells (fcells f va).toArray 29))
  have HF := hid hf
  have HK := hid hk
  have E_v := hid hv
  have E_s := hid hs
  have len_V := sn_length_le V
  have wr_V : IntKind.u64.wrap (V : Int) = (V : Int) := by rw [IntKind.wrap_u64]; omega
  have len_S := sn_length_le S
  have wr_S : IntKind.u64.wrap (S : Int) = (S : Int) := by rw [IntKind.wrap_u64]; omega
  have len0 := sn_length_le 1
  have w0 : IntKind.u64.wrap 1 = 1 := rfl
  clear hf hk hv hs 
  go_enter Try.func26, Try.ntmps26
  go_upto_region 1 with fail
  generalize w.alloc (.cells (fcells f va).toArray 29) = w1 at HNB HBL  ⊢
  have HFB1 := hid (Fb.of HNB.out HF.out)
  have HL1 := hid (hp_lt HNB.out)
  have x0 := HFB1.out.k
  rw [HK.out] at x0
  go_wp2_with fail
  refine (refUint_any 1 w1 (by decide)).mono ?_
  rintro e w2 ⟨v2, rfl, ho2, hb2⟩
  have HO2 := hid ho2
  have HB2 := hid (below_then HBL.out hb2)
  have HFB2 := hid (HFB1.out.below HL1.out hb2)
  have HL2 := hid (Nat.lt_of_lt_of_le HL1.out hb2.size)
  have HZ2 := hid hb2.size
  have x1 := HFB2.out.k
  rw [HK.out] at x1
  obtain ⟨a2, n2, c2, e2⟩ := src_named (ho2.src (by omega))
  subst e2
  clear ho2 hb2 x0 HFB1 HNB
  have y3 := HFB2.out.v
  rw [E_v.out] at y3
  go_wp2_with fail
  refine (refUint_any V w2 (by omega)).mono ?_
  rintro e p3 ⟨u3, rfl, hou3, hbu3⟩
  have HU3 := hid (hou3.src (by omega))
  have HP3 := hid (HO2.out.below hbu3)
  have HBP3 := hid (below_then HB2.out hbu3)
  have HFP3 := hid (HFB2.out.below HL2.out hbu3)
  have HLP3 := hid (Nat.lt_of_lt_of_le HL2.out hbu3.size)
  have HZP3 := hid (Nat.le_trans HZ2.out hbu3.size)
  obtain ⟨au3, nu3, cu3, eu3⟩ := src_named HU3.out
  subst eu3
  clear hou3 hbu3 y3 HO2 HB2 HFB2 HL2 HZ2  x1
  go_wp2_with (at_builtin; refine app_src rfl _ _ rfl w1.heap.size _ _ rfl HP3.out _ _ rfl HU3.out (by (try simp only [List.length_append]); omega) HZP3.out ?_)
  intro v3 w3 ho3 hg3
  have HO3 := hid ho3
  have hbb3 : Below w1.heap.size p3 w3 := ⟨hg3.os, hg3.tape, hg3.output, hg3.size, fun k hk => hg3.block k (by have := HZP3.out; omega) (fun e => by have := (HP3.out.lt k e.symm).1; omega)⟩
  have HB3 := hid (show Below w.heap.size w w3 from below_tr HBP3.out (hbb3.mono (by have := HBL.out.size; omega)))
  have HFB3 := hid (show Fb w3 w.heap.size f va from fb_at HFP3.out HL1.out hbb3)
  have HL3 := hid (Nat.lt_of_lt_of_le HLP3.out hg3.size)
  have HZ3 := hid (Nat.le_trans HZP3.out hg3.size)
  obtain ⟨a3, n3, c3, e3⟩ := src_named (ho3.src (by (try simp only [List.length_append]); omega))
  subst e3
  clear ho3 hg3 hbb3 HP3 HU3 HBP3 HFP3 HLP3 HZP3 
  have y4 := HFB3.out.s
  rw [E_s.out] at y4
  go_wp2_with fail
  refine (refUint_any S w3 (by omega)).mono ?_
  rintro e p4 ⟨u4, rfl, hou4, hbu4⟩
  have HU4 := hid (hou4.src (by omega))
  have HP4 := hid (HO3.out.below hbu4)
  have HBP4 := hid (below_then HB3.out hbu4)
  have HFP4 := hid (HFB3.out.below HL3.out hbu4)
  have HLP4 := hid (Nat.lt_of_lt_of_le HL3.out hbu4.size)
  have HZP4 := hid (Nat.le_trans HZ3.out hbu4.size)
  obtain ⟨au4, nu4, cu4, eu4⟩ := src_named HU4.out
  subst eu4
  clear hou4 hbu4 y4 HO3 HB3 HFB3 HL3 HZ3  
  go_wp2_with (at_builtin; refine app_src rfl _ _ rfl w1.heap.size _ _ rfl HP4.out _ _ rfl HU4.out (by (try simp only [List.length_append]); omega) HZP4.out ?_)
  intro v4 w4 ho4 hg4
  have HO4 := hid ho4
  have hbb4 : Below w1.heap.size p4 w4 := ⟨hg4.os, hg4.tape, hg4.output, hg4.size, fun k hk => hg4.block k (by have := HZP4.out; omega) (fun e => by have := (HP4.out.lt k e.symm).1; omega)⟩
  have HB4 := hid (show Below w.heap.size w w4 from below_tr HBP4.out (hbb4.mono (by have := HBL.out.size; omega)))
  have HFB4 := hid (show Fb w4 w.heap.size f va from fb_at HFP4.out HL1.out hbb4)
  have HL4 := hid (Nat.lt_of_lt_of_le HLP4.out hg4.size)
  have HZ4 := hid (Nat.le_trans HZP4.out hg4.size)
  obtain ⟨a4, n4, c4, e4⟩ := src_named (ho4.src (by (try simp only [List.length_append]); omega))
  subst e4
  clear ho4 hg4 hbb4 HP4 HU4 HBP4 HFP4 HLP4 HZP4 
  obtain ⟨X, HX⟩ : ∃ X, Hid (sn 1 ++ sn V ++ sn S = X) := ⟨_, rfl⟩
  have HO5 := hid (show OwnB w4 w1.heap.size (.slice a4 n4 c4) X by rw [← HX.out]; first | exact HO4.out | simpa only [List.append_assoc] using HO4.out)
  have hXl : X.length ≤ 30 := by rw [← HX.out]; simp only [List.length_append]; omega
  clear HO4
  go_wp2_with fail
  go_loopw [3, 4] (fun v i wr => ∃ k : Nat, k ≤ 32 ∧ i = .int .i64 k ∧ Hid (OwnB wr w1.heap.size v (X ++ f.tool.take k)) ∧ Hid (Below w.heap.size w wr) ∧ Hid (Fb wr w.heap.size f va) ∧ Hid (w1.heap.size ≤ wr.heap.size)) (fun _ i _ => 32 - (intOf i).toNat)
  case atStart => exact ⟨0, by omega, rfl, hid (by simpa using HO5.out), HB4, HFB4, HZ4⟩
  case round =>
    obtain ⟨k, hk, rfl, HO, HB, HFB, HZ⟩ := hrel
    have HTL := hid (show (f.tool.take k).length ≤ 32 by rw [List.length_take]; omega)
    obtain ⟨av, nv, cv, ev⟩ := src_named (HO.out.src (by rw [List.length_append]; have := HTL.out; omega))
    subst ev
    by_cases hlt : k < 32
    · have hki : (k : Int) < 32 := by omega
      have hd : decide ((k : Int) < 32) = true := by simpa using hki
      have hkt : k < f.tool.length := by rw [HF.out]; exact hlt
      have c1 : wr.cell? ⟨w.heap.size, 4 + k, none⟩ = some (.int .u8 ((f.tool.getD k 0).toNat : Nat)) := HFB.out.t k _ (by rw [bytesV_get, List.getElem?_eq_getElem hkt]; simp [List.getD_eq_getElem?_getD, List.getElem?_eq_getElem hkt])
      have HTK := hid (show f.tool.take k ++ [f.tool.getD k 0] = f.tool.take (k + 1) by rw [List.take_succ_eq_append_getElem hkt, List.getD_eq_getElem?_getD, List.getElem?_eq_getElem hkt]; rfl)
      have hkw : IntKind.i64.wrap ((k : Int) + 1) = (k : Int) + 1 := by rw [IntKind.wrap_i64]; omega
      have hpa : (⟨w.heap.size, 4, none⟩ : Addr).add k = ⟨w.heap.size, 4 + k, none⟩ := Addr.add_mid w.heap.size 4 k
      obtain ⟨T, HT⟩ : ∃ T, Hid (f.tool.getD k 0 = T) := ⟨_, rfl⟩
      rw [HT.out] at c1 HTK
      go_wp2_with (at_builtin; refine app_src rfl _ _ rfl w1.heap.size _ _ rfl (HO.out.below (below_walk wr _)) _ [T] rfl (src_lit (hp_new wr _) rfl (by simp) _ rfl) (by rw [List.length_append]; have := HTL.out; simp; omega) (by have := HZ.out; simp; omega) ?_)
      intro v9 w9 ho9 hg9
      have HO9 := hid (show OwnB w9 w1.heap.size v9 (X ++ f.tool.take (k + 1)) by rw [← HTK.out]; first | exact ho9 | simpa only [List.append_assoc] using ho9)
      have hbb : Below w1.heap.size (wr.alloc (.cells #[.int .u8 (T.toNat : Nat)] 5)) w9 := ⟨hg9.os, hg9.tape, hg9.output, hg9.size, fun j hj => hg9.block j (by have := HZ.out; simp; omega) (fun e => by have := (HO.out.lt j e.symm).1; omega)⟩
      have HB9 := hid (below_tr (below_then HB.out (below_walk wr (.cells #[.int .u8 (T.toNat : Nat)] 5))) (hbb.mono HBL.out.size))
      have HFB9 := hid (show Fb w9 w.heap.size f va from fb_at (HFB.out.below (Nat.lt_of_lt_of_le HL1.out HZ.out) (below_walk wr (.cells #[.int .u8 (T.toNat : Nat)] 5))) HL1.out hbb)
      have HZ9 := hid (show w1.heap.size ≤ w9.heap.size by have := hg9.size; have := HZ.out; simp at *; omega)
      have HT9 := hid (show (f.tool.take (k + 1)).length ≤ 32 by rw [List.length_take]; omega)
      obtain ⟨a9, n9, c9, e9⟩ := src_named (HO9.out.src (by rw [List.length_append]; have := HT9.out; omega))
      subst e9
      clear ho9 hg9 hbb c1 HO HB HFB HZ
      go_wp2
      exact ⟨⟨k + 1, by omega, by simp, HO9, HB9, HFB9, HZ9⟩, by simp [intOf]; omega⟩
    · obtain rfl : k = 32 := by omega
      have HS9 := hid (show Src wr (.slice av nv cv) (sn 1 ++ sn V ++ sn S ++ f.tool) by
        have h9 := HO.out.src (by rw [List.length_append]; have := HTL.out; omega)
        rw [List.take_of_length_le (by rw [HF.out]; omega)] at h9
        rw [HX.out]
        exact h9)
      have xz := HFB.out.k
      rw [HK.out] at xz
      go_wp2
      go_ret
      exact ⟨_, rfl, HS9.out, HB.out⟩

end Go.Proofs.Ytjinkahlfigdcaa

/- A Bye, written by the document. -/
namespace Go.Proofs.Ytjinkahlfigdcaa
open Go.RowKit Go.BigFrame

set_option maxRecDepth 100000 in
set_option maxHeartbeats 4000000 in
theorem onlyBye_any (w : World) :
    Calls Try.prog 45 #[.agg (fcells byeF nS).toArray] w fun e w' => e = .returned (.agg (fcells byeF nS).toArray) ∧ Below w.heap.size w w' := by
  have HNB := hid (hp_two w (.cells (fcells byeF nS).toArray 29) (.cells (fcells zF nS).toArray 29))
  have HBL := hid (below_walk2 w (.cells (fcells byeF nS).toArray 29) (.cells (fcells zF nS).toArray 29))
  have HZ : Hid ((w.alloc (.cells (fcells byeF nS).toArray 29)).heap.size = w.heap.size + 1) := hid (by simp)
  have HSZ := hid (frame_size byeF nS rfl)
  go_enter Try.func45, Try.ntmps45
  go_upto_region 1 with (refine al_row (by rfl) 29 (by rfl) _ zeroFrame ?_)
  try rw [HZ.out]
  generalize (w.alloc (.cells (fcells byeF nS).toArray 29)).alloc (.cells (fcells zF nS).toArray 29) = w2 at HNB HBL ⊢
  have x0 : w2.cell? ⟨w.heap.size, 0, none⟩ = some (.int .i64 5) := (Fb.of HNB.out.1 rfl).k
  have HL2 := hid (hp_lt HNB.out.2)
  go_upto_region 2 with (first
    | (refine bd_row (by rfl) 29 #[(0, .tmp 5)] (by rfl) _ (by simp [Act.eval]) _ built_bye ?_)
    | (refine al_row (by rfl) 29 (by rfl) _ zeroFrame ?_)
    | (refine st_new (by rfl) 29 _ _ (by rfl) (fcells byeF nS) (by rfl) (by rfl) 29 _ HSZ.out rfl (fcells_one byeF nS rfl) ?_))
  have HN1 := hid ((below_walk w2 (.cells (fcells byeF nS).toArray 29)).block _ (by have := HL2.out; omega) |>.trans HNB.out.1)
  have HN2 := hid ((below_walk w2 (.cells (fcells byeF nS).toArray 29)).block _ HL2.out |>.trans HNB.out.2)
  have HN3 := hid (hp_new w2 (.cells (fcells byeF nS).toArray 29))
  have HB3 := hid (below_then HBL.out (below_walk w2 (.cells (fcells byeF nS).toArray 29)))
  obtain ⟨B3, HE3⟩ : ∃ b : Nat, Hid (w2.heap.size = b) := ⟨_, rfl⟩
  rw [HE3.out] at HN3 ⊢
  generalize w2.alloc (.cells (fcells byeF nS).toArray 29) = w3 at HN1 HN2 HN3 HB3 ⊢
  clear x0 HNB HBL HL2
  have x1 : w3.cell? ⟨w.heap.size, 0, none⟩ = some (.int .i64 5) := (Fb.of HN1.out rfl).k
  go_wp2_with (first
    | (refine ld_row (by rfl) 29 (.tmp 3) (by rfl) B3 (by rfl) (fcells byeF nS) 29 HN3.out _ Try.underlying29 rfl HSZ.out ?_)
    | (refine st_row (by rfl) 29 _ _ (by rfl) (w.heap.size + 1) (fcells byeF nS) (by rfl) (by rfl) 29 _ HN2.out HSZ.out rfl (fcells_one byeF nS rfl) ?_; intro w4 hw4))
  refine ret_row 2 29 rfl (w.heap.size + 1) rfl (fcells byeF nS) 29 hw4.blk _ Try.underlying29 rfl HSZ.out rfl ⟨rfl, Below.of_gb HB3.out hw4.grown (by omega)⟩

theorem ruint_five (w : World) : Calls Try.prog 27 #[.int .u64 5] w fun e w' => ∃ ao c, e = .returned (.slice ao 1 c) ∧ OwnB w' w.heap.size (.slice ao 1 c) [5] ∧ Below w.heap.size w w' := by
  refine (refUint_any 5 w (by decide)).mono ?_
  rintro e w' ⟨v, rfl, ho, hb⟩
  have ho' : OwnB w' w.heap.size v [5] := ho
  obtain ⟨ao, c, rfl⟩ := src_shape (ho'.src (by simp))
  exact ⟨ao, c, rfl, ho', hb⟩
theorem ruint_one (w : World) : Calls Try.prog 27 #[.int .u64 1] w fun e w' => ∃ ao c, e = .returned (.slice ao 1 c) ∧ OwnB w' w.heap.size (.slice ao 1 c) [1] ∧ Below w.heap.size w w' := by
  refine (refUint_any 1 w (by decide)).mono ?_
  rintro e w' ⟨v, rfl, ho, hb⟩
  have ho' : OwnB w' w.heap.size v [1] := ho
  obtain ⟨ao, c, rfl⟩ := src_shape (ho'.src (by simp))
  exact ⟨ao, c, rfl, ho', hb⟩

set_option maxRecDepth 100000 in
set_option maxHeartbeats 4000000 in
theorem bodyBye_any (w : World) :
    Calls Try.prog 26 #[.agg (fcells byeF nS).toArray] w fun e w' => ∃ ao c, e = .returned (.slice ao 1 c) ∧ Src w' (.slice ao 1 c) [5] ∧ Below w.heap.size w w' := by
  have HNB := hid (hp_new w (.cells (fcells byeF nS).toArray 29))
  have HBL := hid (below_walk w (.cells (fcells byeF nS).toArray 29))
  go_enter Try.func26, Try.ntmps26
  go_upto_region 1 with fail
  generalize w.alloc (.cells (fcells byeF nS).toArray 29) = w1 at HNB HBL ⊢
  have x0 : w1.cell? ⟨w.heap.size, 0, none⟩ = some (.int .i64 5) := (Fb.of HNB.out rfl).k
  have hw5 : IntKind.u64.wrap 5 = 5 := rfl
  go_wp2_with fail
  refine (ruint_five w1).mono ?_
  rintro e w2 ⟨ao, c, rfl, ho2, hb2⟩
  have HS2 := hid (ho2.src (by simp))
  have HN2 := hid ((hb2.block _ (hp_lt HNB.out)).trans HNB.out)
  have HB2 := hid (below_then HBL.out hb2)
  have x1 : w2.cell? ⟨w.heap.size, 0, none⟩ = some (.int .i64 5) := (Fb.of HN2.out rfl).k
  clear x0 hw5 ho2 hb2 HNB HBL HN2
  go_wp2
  go_ret
  exact ⟨_, _, rfl, HS2.out, HB2.out⟩

theorem rsame_bye (w : World) : Calls Try.prog 18 #[.agg (fcells byeF nS).toArray, .agg (fcells byeF nS).toArray] w fun e w' => e = .returned (.bool true) ∧ Below w.heap.size w w' := by
  have := rsame_any byeF byeF nS nS w rfl rfl (strs_nil w) (strs_nil w) (by simp [byeF])
  rwa [sameP_self] at this

set_option maxRecDepth 100000 in
set_option maxHeartbeats 4000000 in
theorem checkBye_any (w : World) :
    Calls Try.prog 25 #[.agg (fcells byeF nS).toArray] w fun e w' => e = .returned (.int .i64 0) ∧ Below w.heap.size w w' := by
  have HNB := hid (hp_new w (.cells (fcells byeF nS).toArray 29))
  have HBL := hid (below_walk w (.cells (fcells byeF nS).toArray 29))
  have HSZ := hid (frame_size byeF nS rfl)
  go_enter Try.func25, Try.ntmps25
  go_upto_region 1 with fail
  generalize w.alloc (.cells (fcells byeF nS).toArray 29) = w1 at HNB HBL ⊢
  have HL := hid (hp_lt HNB.out)
  have x0 : w1.cell? ⟨w.heap.size, 0, none⟩ = some (.int .i64 5) := (Fb.of HNB.out rfl).k
  have x7 : w1.cell? ⟨w.heap.size, 40, none⟩ = some (.slice none 0 0) := (Fb.of HNB.out rfl).a
  have z0 := fun p : Bel w1 => p.cell x0 HL.out
  have z7 := fun p : Bel w1 => p.cell x7 HL.out
  have ib : Nonempty (Bel w1) := bel_some w1
  have HRA := hid (Bel.range (range_row HNB.out) HL.out)
  clear x0 x7
  refine wp_region_quiet_bel (by kernel_rfl) (by kernel_rfl) ?_
  go_big_quiet_step (fail)
  go_big_quiet_step (fail)
  go_big_quiet_step (fail)
  go_big_quiet_step (fail)
  go_big_quiet_step (fail)
  go_big_quiet_step (fail)
  go_big_quiet_step (fail)
  go_big_quiet_step (fail)
  go_big_quiet_step (fail)
  refine wpQuiet_want (by rfl) fun K hK => quiet_ld 29 (.tmp 1) (by rfl) w.heap.size 0 (by rfl) _ _ HRA.out Try.underlying29 rfl HSZ.out (hK _ ?_)
  simp only [Act.put, List.setIfInBounds_toArray, List.set_cons_succ, List.set_cons_zero]
  refine wpQuiet_want (by rfl) fun K hK => quiet_ld 29 (.tmp 1) (by rfl) w.heap.size 0 (by rfl) _ _ HRA.out Try.underlying29 rfl HSZ.out (hK _ ?_)
  simp only [Act.put, List.setIfInBounds_toArray, List.set_cons_succ, List.set_cons_zero]
  go_big_quiet_step (first | (go_at_call 45; exact bel_of (onlyBye_any _)))
  go_big_quiet_step (first | (go_at_call 18; exact bel_of (rsame_bye _)))
  go_big_quiet_step (fail)
  go_big_quiet_step (fail)
  go_big_quiet_step (fail)
  go_big_quiet_step (fail)
  go_big_quiet_step (fail)
  go_big_quiet_step (fail)
  go_big_quiet_step (fail)
  go_big_quiet_step (fail)
  go_big_quiet_step (fail)
  refine wpQuiet_nil ?_
  rintro w2 ⟨⟨w2', hb2⟩, hw2⟩
  obtain rfl : w2 = w2' := hw2
  have HN2 := hid ((hb2.block _ HL.out).trans HNB.out)
  have HB2 := hid (below_then HBL.out hb2)
  clear hb2 z0 z7 ib HRA HNB HBL HL
  have x0 : w2.cell? ⟨w.heap.size, 0, none⟩ = some (.int .i64 5) := (Fb.of HN2.out rfl).k
  have l1 : w2.cell? ⟨w.heap.size, 37, none⟩ = some (.int .i64 0) := (Fb.of HN2.out rfl).l1
  have l2 : w2.cell? ⟨w.heap.size, 38, none⟩ = some (.int .i64 0) := (Fb.of HN2.out rfl).l2
  have l3 : w2.cell? ⟨w.heap.size, 39, none⟩ = some (.int .i64 0) := (Fb.of HN2.out rfl).l3
  have x7 : w2.cell? ⟨w.heap.size, 40, none⟩ = some (.slice none 0 0) := (Fb.of HN2.out rfl).a
  have x8 : w2.cell? ⟨w.heap.size, 41, none⟩ = some (.string ⟨#[]⟩) := (Fb.of HN2.out rfl).bd
  go_wp2_with fail
  go_loopw [3, 4] (fun b i wr => b = .bool false ∧ i = .int .i64 0 ∧ wr = w2) (fun _ _ _ => 0)
  case atStart => exact ⟨rfl, rfl, rfl⟩
  case round =>
    obtain ⟨rfl, rfl, rfl⟩ := hrel
    have HRG := hid (range_row HN2.out)
    go_wp2_with (refine ld_gd (by rfl) 29 (.tmp 1) (by rfl) w.heap.size 0 (by rfl) _ _ HRG.out Try.underlying29 rfl HSZ.out ?_)
    refine (bodyBye_any wr).mono ?_
    rintro e w3 ⟨ao, c, rfl, hs3, hb3⟩
    have HB3 := hid (below_then HB2.out hb3)
    clear hs3 hb3 x0 l1 l2 l3 x7 x8 HN2 HB2
    go_wp2
    go_ret
    exact ⟨rfl, HB3.out⟩

set_option maxRecDepth 100000 in
set_option maxHeartbeats 4000000 in
theorem rencodeBye_any (w : World) :
    Calls Try.prog 10 #[.agg (fcells byeF nS).toArray] w fun e w' => ∃ v, e = .returned (.tuple #[v, .int .i64 0]) ∧ OwnB w' w.heap.size v (sealP [1, 5]) ∧ Below w.heap.size w w' := by
  have HNB := hid (hp_new w (.cells (fcells byeF nS).toArray 29))
  have HBL := hid (below_walk w (.cells (fcells byeF nS).toArray 29))
  have HSZ := hid (frame_size byeF nS rfl)
  go_enter Try.func10, Try.ntmps10
  go_upto_region 1 with fail
  generalize w.alloc (.cells (fcells byeF nS).toArray 29) = w1 at HNB HBL ⊢
  go_wp2_with (refine ld_row (by rfl) 29 (.tmp 1) (by rfl) w.heap.size (by rfl) (fcells byeF nS) 29 HNB.out _ Try.underlying29 rfl HSZ.out ?_)
  refine (checkBye_any w1).mono ?_
  rintro e w2 ⟨rfl, hb2⟩
  have HN2 := hid ((hb2.block _ (hp_lt HNB.out)).trans HNB.out)
  have HB2 := hid (below_then HBL.out hb2)
  clear hb2 HNB HBL
  go_wp2_with (refine ld_row (by rfl) 29 (.tmp 1) (by rfl) w.heap.size (by rfl) (fcells byeF nS) 29 HN2.out _ Try.underlying29 rfl HSZ.out ?_)
  refine (bodyBye_any w2).mono ?_
  rintro e w3 ⟨ao, c, rfl, hs3, hb3⟩
  have HS3 := hid hs3
  have HB3 := hid (below_then HB2.out hb3)
  have hw1 : IntKind.u64.wrap 1 = 1 := rfl
  clear hs3 hb3 HN2 HB2
  go_wp2_with fail
  refine (ruint_one w3).mono ?_
  rintro e w4 ⟨a4, c4, rfl, ho4, hb4⟩
  have HO4 := hid ho4
  have HS4 := hid (HS3.out.below hb4)
  have HB4 := hid (below_then HB3.out hb4)
  have HZ4 := hid hb4.size
  clear ho4 hb4 HS3
  go_wp2_with (at_builtin; refine app_src rfl _ _ rfl w3.heap.size _ [1] rfl HO4.out _ [5] rfl HS4.out (by simp) HZ4.out ?_)
  intro v5 w5 ho5 hg5
  have hs5 : Src w5 v5 [1, 5] := ho5.src (by simp)
  have HB5 := hid (show Below w.heap.size w w5 from below_tr HB4.out ⟨hg5.os, hg5.tape, hg5.output, hg5.size, fun k hk => hg5.block k (by have := HB3.out.size; have := HZ4.out; omega) (fun e => by have := (HO4.out.lt k e.symm).1; have := HB3.out.size; omega)⟩)
  have HSE := hid (rseal_any w5 v5 [1, 5] hs5 (by simp))
  obtain ⟨a5, c5, e5⟩ := src_shape hs5
  subst e5
  clear ho5 hg5 hs5 HB4 HB3 HZ4 HO4 HS4
  go_wp2_with fail
  refine HSE.out.mono ?_
  rintro e w6 ⟨v6, rfl, ho6, hb6⟩
  have HO6 := hid (ho6.le HB5.out.size)
  have HB7 := hid (below_then HB5.out hb6)
  obtain ⟨a6, c6, e6⟩ := src_shape (ho6.src (by rw [sealP_length]; simp))
  subst e6
  clear ho6 hb6
  go_wp2
  go_ret2
  exact ⟨_, rfl, HO6.out, HB7.out⟩

end Go.Proofs.Ytjinkahlfigdcaa

/- The document's Check of every frame. -/
namespace Go.Proofs.Ytjinkahlfigdcaa
open Go.RowKit Go.BigFrame

def bad1 (f : Fr) : Bool := decide (¬ (1 ≤ f.kind ∧ f.kind ≤ 6) ∨ sameP f (ownF f) = false ∨ 8 < f.args.length)
def bad2 (f : Fr) : Bool := bad1 f || decide (f.lim.1 < 0 ∨ f.lim.2.1 < 0 ∨ f.lim.2.2 < 0)
def bad3 (f : Fr) : Bool := bad2 f || decide (f.kind = 1 ∧ (f.ver ≠ 1 ∨ f.slots < 1 ∨ 64 < f.slots))
def bad4 (f : Fr) : Bool := bad3 f || decide (f.kind = 3 ∧ (f.status < 1 ∨ 3 < f.status ∨ (f.status ≠ 1 ∧ f.body ≠ [])))
theorem bad_ok (f : Fr) : (bad4 f || longA f.args) = !okFr f := by
  by_cases hk : 1 ≤ f.kind ∧ f.kind ≤ 6
  · by_cases hs : sameP f (ownF f) = true
    · have e := same_eq hs
      have hc : f.kind = 1 ∨ f.kind = 2 ∨ f.kind = 3 ∨ f.kind = 4 ∨ f.kind = 5 ∨ f.kind = 6 := by omega
      unfold bad4 bad3 bad2 bad1 okFr
      rw [hs, decide_eq_true hk]
      simp only [hk, Bool.true_and]
      rcases hc with k | k | k | k | k | k
      · rw [mayF_1 f k, own_1 f k] at *
        have eA := congrArg Fr.args e
        have eL := congrArg Fr.lim e
        simp only at eA eL
        rw [Bool.eq_iff_iff]
        simp [eA, eL, mayHelloP, longA, k]
        try omega
      · rw [mayF_2 f k]
        rw [Bool.eq_iff_iff]
        cases hl : longA f.args <;> simp [mayReqP, k, hl] <;> omega
      · rw [mayF_3 f k, own_3 f k] at *
        have eA := congrArg Fr.args e
        have eL := congrArg Fr.lim e
        simp only [resF] at eA eL
        rw [Bool.eq_iff_iff]
        by_cases hb : f.body = []
        · simp [eA, eL, mayResP, longA, k, hb]
          omega
        · simp [eA, eL, mayResP, longA, k, hb]
          omega
      · rw [mayF_4 f k, own_4 f k] at *
        have eA := congrArg Fr.args e
        have eL := congrArg Fr.lim e
        simp only [canF] at eA eL
        simp [eA, eL, longA, k]
      · rw [mayF_5 f k, own_5 f k] at *
        have eA := congrArg Fr.args e
        have eL := congrArg Fr.lim e
        simp only [byeF] at eA eL
        simp [eA, eL, longA, k]
      · rw [mayF_6 f k, own_6 f k] at *
        have eA := congrArg Fr.args e
        have eL := congrArg Fr.lim e
        simp only [noteF] at eA eL
        simp [eA, eL, longA, k]
    · have hs' : sameP f (ownF f) = false := by simpa using hs
      unfold bad4 bad3 bad2 bad1 okFr
      simp [hs']
  · unfold bad4 bad3 bad2 bad1 okFr
    rw [decide_eq_true (show ¬ (1 ≤ f.kind ∧ f.kind ≤ 6) ∨ sameP f (ownF f) = false ∨ 8 < f.args.length from Or.inl hk), decide_eq_false hk]
    rfl

set_option maxRecDepth 100000 in
set_option maxHeartbeats 4000000 in
theorem body5_any (f : Fr) (va : Value) (w : World) (hf : f.tool.length = 32) (hk : f.kind = 5) :
    Calls Try.prog 26 #[.agg (fcells f va).toArray] w fun e w' => ∃ v, e = .returned v ∧ Src w' v (sn 5) ∧ Below w.heap.size w w' := by
  have HNB := hid (hp_new w (.cells (fcells f va).toArray 29))
  have HBL := hid (below_walk w (.cells (fcells f va).toArray 29))
  go_enter Try.func26, Try.ntmps26
  go_upto_region 1 with fail
  generalize w.alloc (.cells (fcells f va).toArray 29) = w1 at HNB HBL ⊢
  have x0 : w1.cell? ⟨w.heap.size, 0, none⟩ = some (.int .i64 5) := by have := (Fb.of HNB.out hf).k; rw [hk] at this; exact this
  have hw5 : IntKind.u64.wrap 5 = 5 := rfl
  have HF := hid hf
  have HK := hid hk
  clear hk hf
  go_wp2_with fail
  refine (ruint_five w1).mono ?_
  rintro e w2 ⟨ao, c, rfl, ho2, hb2⟩
  have HS2 := hid (ho2.src (by simp))
  have HN2 := hid ((hb2.block _ (hp_lt HNB.out)).trans HNB.out)
  have HB2 := hid (below_then HBL.out hb2)
  have x1 : w2.cell? ⟨w.heap.size, 0, none⟩ = some (.int .i64 5) := by have := (Fb.of HN2.out HF.out).k; rw [HK.out] at this; exact this
  clear x0 hw5 ho2 hb2 HNB HBL HN2
  go_wp2
  go_ret
  exact ⟨_, rfl, HS2.out, HB2.out⟩

/-- the document's body of a frame that may be -/
theorem rbodyF_any (f : Fr) (va : Value) (W : World) (hr : Rng f) (ha : Strs W va f.args) (hk : 1 ≤ f.kind ∧ f.kind ≤ 6) (hm : mayF f = true) (hB : f.body.length ≤ 2097152) :
    Calls Try.prog 26 #[.agg (fcells f va).toArray] W fun e w' => ∃ v, e = .returned v ∧ Src w' v (bodyP f) ∧ Below W.heap.size W w' := by
  have hc : f.kind = 1 ∨ f.kind = 2 ∨ f.kind = 3 ∨ f.kind = 4 ∨ f.kind = 5 ∨ f.kind = 6 := by omega
  unfold bodyP
  rcases hc with k | k | k | k | k | k
  · rw [mayF_1 f k] at hm
    have h := mayHello_of hm
    rw [lay_1 f k, k, sns_two, ← List.append_assoc, ← List.append_assoc]
    exact body1_any f va W hr.tool k f.ver.toNat f.slots.toNat (toNat_eq (by omega)) (toNat_eq (by omega)) (by have := hr.ver; omega) (by have := hr.slots; omega)
  · rw [mayF_2 f k] at hm
    have h := mayReq_of hm
    rw [lay_2 f k, k]
    unfold layReqP
    rw [sns_thr]
    simp only [← List.append_assoc]
    exact body2_any f va W hr.tool k f.id.toNat f.lim.1.toNat f.lim.2.1.toNat f.lim.2.2.toNat (toNat_eq hr.idl) (by have := hr.idh; omega) (toNat_eq h.1) (toNat_eq h.2.1) (toNat_eq h.2.2.1) (by have := hr.l1; omega) (by have := hr.l2; omega) (by have := hr.l3; omega) ha (args_len h.2.2.2.2 h.2.2.2.1) hB
  · rw [mayF_3 f k] at hm
    have h := mayRes_of hm
    rw [lay_3 f k, k, sns_one]
    simp only [← List.append_assoc]
    exact body3_any f va W hr.tool k f.id.toNat f.status.toNat (toNat_eq hr.idl) (by have := hr.idh; omega) (toNat_eq (by omega)) (by have := hr.status; omega) hB
  · rw [lay_4 f k, k]
    exact body4_any f va W hr.tool k f.id.toNat (toNat_eq hr.idl) (by have := hr.idh; omega)
  · rw [lay_5 f k, k, List.append_nil]
    exact body5_any f va W hr.tool k
  · rw [lay_6 f k, k]
    exact body6_any f va W hr.tool k hB
end Go.Proofs.Ytjinkahlfigdcaa
