/- Contracts and pure facts that the proof needs, joined. -/
import Derived.Test.YtjinkahlfigdcaaG4
import Derived.Test.YtjinkahlfigdcaaG3
import Derived.Test.YtjinkahlfigdcaaG1

/- The document's Check of every frame. -/
namespace Go.Proofs.Ytjinkahlfigdcaa
open Go.RowKit Go.BigFrame

theorem body_gt (f : Fr) (ho : okFr f = true) (h : 2097152 < f.body.length) : 2097152 < (bodyP f).length := by
  obtain ⟨hk, hs, hm⟩ := okFr_of ho
  rcases Nat.lt_or_ge 2097152 (bodyP f).length with h1 | h1
  · exact h1
  · exfalso
    have hc : (f.kind = 1 ∨ f.kind = 4 ∨ f.kind = 5) ∨ (f.kind = 2 ∨ f.kind = 3 ∨ f.kind = 6) := by omega
    rcases hc with k | k
    · rw [same_own_body hs k] at h
      simp at h
    · have := body_le f k h1
      omega
theorem bad1_kind (f : Fr) (h : ¬ (1 ≤ f.kind ∧ f.kind ≤ 6)) : bad1 f = true := by
  unfold bad1
  exact decide_eq_true (Or.inl h)
theorem bad1_same (f : Fr) (h : sameP f (ownF f) = false) : bad1 f = true := by
  unfold bad1
  exact decide_eq_true (Or.inr (Or.inl h))
theorem long_take {A : List (List UInt8)} {k : Nat} (h : longA (A.take k) = true) : longA A = true := by
  unfold longA at h ⊢
  rw [List.any_eq_true] at h ⊢
  obtain ⟨x, hx, hp⟩ := h
  exact ⟨x, List.mem_of_mem_take hx, hp⟩

set_option maxRecDepth 100000 in
set_option maxHeartbeats 8000000 in
theorem rcheckF_any (f : Fr) (va : Value) (w : World) (hr : Rng f) (ha : Strs w va f.args) :
    Calls Try.prog 25 #[.agg (fcells f va).toArray] w fun e w' => e = .returned (.int .i64 (chkE f)) ∧ Below w.heap.size w w' := by
  obtain ⟨ao, c, rfl⟩ := ha.shape
  have HNB := hid (hp_new w (.cells (fcells f (.slice ao f.args.length c)).toArray 29))
  have HBL := hid (below_walk w (.cells (fcells f (.slice ao f.args.length c)).toArray 29))
  have HSZ := hid (frame_size f (.slice ao f.args.length c) hr.tool)
  have HR := hid hr
  have HA := hid ha
  clear ha hr
  go_enter Try.func25, Try.ntmps25
  go_upto_region 1 with fail
  have HA1 := hid (HA.out.below HBL.out)
  generalize w.alloc (.cells (fcells f (.slice ao f.args.length c)).toArray 29) = w1 at HNB HBL HA1 ⊢
  have HL := hid (hp_lt HNB.out)
  go_cut [3] from 5 (fun s3 wx => s3 = .bool (bad1 f) ∧ Below w1.heap.size w1 wx)
  case first =>
    as_aux_lemma =>
      have x0 : w1.cell? ⟨w.heap.size, 0, none⟩ = some (.int .i64 f.kind) := (Fb.of HNB.out HR.out.tool).k
      have x7 : w1.cell? ⟨w.heap.size, 40, none⟩ = some (.slice ao f.args.length c) := (Fb.of HNB.out HR.out.tool).a
      have z0 := fun p : Bel w1 => p.cell x0 HL.out
      have z7 := fun p : Bel w1 => p.cell x7 HL.out
      have ib : Nonempty (Bel w1) := bel_some w1
      have HRA := hid (Bel.range (range_row HNB.out) HL.out)
      clear x0 x7
      by_cases h1 : f.kind < 1
      · have q1 : decide (f.kind < 1) = true := decide_eq_true h1
        have HB := hid ((bad1_kind f (fun h => by omega)).symm)
        refine wp_region_quiet_bel (by kernel_rfl) (by kernel_rfl) ?_
        repeat (go_big_quiet_step (fail))
        refine wpQuiet_nil ?_
        rintro w2 ⟨⟨w2', hb2⟩, hw2⟩
        obtain rfl : w2 = w2' := hw2
        go_wp2
        go_meet
        case rel => exact ⟨congrArg Value.bool HB.out, hb2⟩
      · by_cases h6 : 6 < f.kind
        · have q1 : decide (f.kind < 1) = false := decide_eq_false h1
          have q2 : decide (6 < f.kind) = true := decide_eq_true h6
          have HB := hid ((bad1_kind f (fun h => by omega)).symm)
          refine wp_region_quiet_bel (by kernel_rfl) (by kernel_rfl) ?_
          repeat (go_big_quiet_step (fail))
          refine wpQuiet_nil ?_
          rintro w2 ⟨⟨w2', hb2⟩, hw2⟩
          obtain rfl : w2 = w2' := hw2
          go_wp2
          go_meet
          case rel => exact ⟨congrArg Value.bool HB.out, hb2⟩
        · have q1 : decide (f.kind < 1) = false := decide_eq_false h1
          have q2 : decide (6 < f.kind) = false := decide_eq_false h6
          have HON := hid (fun p : Bel w1 => only_any f (.slice ao f.args.length c) p.out ⟨by omega, by omega⟩ HR.out.tool ⟨_, _, _, rfl⟩)
          have HSM := hid (fun p : Bel w1 => rsame_own f (.slice ao f.args.length c) p.out HR.out.tool (HA1.out.below p.bel) HR.out.many)
          obtain ⟨S, HS⟩ : ∃ S, Hid (sameP f (ownF f) = S) := ⟨_, rfl⟩
          rw [HS.out] at HSM
          cases S with
          | false =>
            have HB := hid ((bad1_same f HS.out).symm)
            refine wp_region_quiet_bel (by kernel_rfl) (by kernel_rfl) ?_
            go_big_quiet_step (fail)
            go_big_quiet_step (fail)
            go_big_quiet_step (fail)
            go_big_quiet_step (fail)
            go_big_quiet_step (fail)
            go_big_quiet_step (fail)
            go_big_quiet_step (fail)
            go_big_quiet_step (fail)
            go_big_quiet_step (fail)
            refine wpQuiet_want (by rfl) fun K hK => quiet_ld 29 (.tmp 1) (by rfl) w.heap.size 0 (by rfl) _ _ HRA.out Try.underlying29 rfl HSZ.out (hK _ ?_)
            simp only [Act.put, List.setIfInBounds_toArray, List.set_cons_succ, List.set_cons_zero]
            refine wpQuiet_want (by rfl) fun K hK => quiet_ld 29 (.tmp 1) (by rfl) w.heap.size 0 (by rfl) _ _ HRA.out Try.underlying29 rfl HSZ.out (hK _ ?_)
            simp only [Act.put, List.setIfInBounds_toArray, List.set_cons_succ, List.set_cons_zero]
            go_big_quiet_step (first | (go_at_call 45; exact bel_of (HON.out _)))
            go_big_quiet_step (first | (go_at_call 18; exact bel_of (HSM.out _)))
            go_big_quiet_step (fail)
            go_big_quiet_step (fail)
            go_big_quiet_step (fail)
            go_big_quiet_step (fail)
            go_big_quiet_step (fail)
            go_big_quiet_step (fail)
            go_big_quiet_step (fail)
            go_big_quiet_step (fail)
            go_big_quiet_step (fail)
            refine wpQuiet_nil ?_
            rintro w2 ⟨⟨w2', hb2⟩, hw2⟩
            obtain rfl : w2 = w2' := hw2
            go_wp2
            go_meet
            case rel => exact ⟨congrArg Value.bool HB.out, hb2⟩
          | true =>
            have HB := hid (show decide ((8 : Int) < (f.args.length : Int)) = bad1 f by
              unfold bad1
              rw [HS.out]
              refine decide_eq_decide.2 ⟨fun h => Or.inr (Or.inr (by omega)), fun h => ?_⟩
              rcases h with h | h | h
              · exact absurd (⟨by omega, by omega⟩ : 1 ≤ f.kind ∧ f.kind ≤ 6) h
              · cases h
              · omega)
            refine wp_region_quiet_bel (by kernel_rfl) (by kernel_rfl) ?_
            go_big_quiet_step (fail)
            go_big_quiet_step (fail)
            go_big_quiet_step (fail)
            go_big_quiet_step (fail)
            go_big_quiet_step (fail)
            go_big_quiet_step (fail)
            go_big_quiet_step (fail)
            go_big_quiet_step (fail)
            go_big_quiet_step (fail)
            refine wpQuiet_want (by rfl) fun K hK => quiet_ld 29 (.tmp 1) (by rfl) w.heap.size 0 (by rfl) _ _ HRA.out Try.underlying29 rfl HSZ.out (hK _ ?_)
            simp only [Act.put, List.setIfInBounds_toArray, List.set_cons_succ, List.set_cons_zero]
            refine wpQuiet_want (by rfl) fun K hK => quiet_ld 29 (.tmp 1) (by rfl) w.heap.size 0 (by rfl) _ _ HRA.out Try.underlying29 rfl HSZ.out (hK _ ?_)
            simp only [Act.put, List.setIfInBounds_toArray, List.set_cons_succ, List.set_cons_zero]
            go_big_quiet_step (first | (go_at_call 45; exact bel_of (HON.out _)))
            go_big_quiet_step (first | (go_at_call 18; exact bel_of (HSM.out _)))
            go_big_quiet_step (fail)
            go_big_quiet_step (fail)
            go_big_quiet_step (fail)
            go_big_quiet_step (fail)
            go_big_quiet_step (fail)
            go_big_quiet_step (fail)
            go_big_quiet_step (fail)
            go_big_quiet_step (fail)
            go_big_quiet_step (fail)
            refine wpQuiet_nil ?_
            rintro w2 ⟨⟨w2', hb2⟩, hw2⟩
            obtain rfl : w2 = w2' := hw2
            go_wp2
            go_meet
            case rel => exact ⟨congrArg Value.bool HB.out, hb2⟩
  case rest =>
    as_aux_lemma =>
      obtain ⟨rfl, hb2⟩ := hcut
      have HN2 := hid ((hb2.block _ HL.out).trans HNB.out)
      have HA2 := hid (HA1.out.below hb2)
      have HB2 := hid (below_then HBL.out hb2)
      clear hb2 HA1 HBL HNB HL
      have HFB := hid (Fb.of HN2.out HR.out.tool)
      have x0 := HFB.out.k
      have x2 := HFB.out.v
      have x3 := HFB.out.s
      have x5 := HFB.out.st
      have l1 := HFB.out.l1
      have l2 := HFB.out.l2
      have l3 := HFB.out.l3
      have x7 := HFB.out.a
      have x8 := HFB.out.bd
      clear HFB
      obtain ⟨b1, Hb1⟩ : ∃ b, Hid (bad1 f = b) := ⟨_, rfl⟩
      rw [Hb1.out]
      go_upto_region 2 with fail
      go_cut [3] from 5 (fun s3 wx => s3 = .bool (bad2 f) ∧ wx = wc)
      case first =>
        as_aux_lemma =>
          clear HN2 HA2 HB2 HSZ
          cases b1 with
          | true =>
            have HX := hid (show true = bad2 f from by unfold bad2; rw [Hb1.out]; rfl)
            as_aux_lemma =>
              go_wp2
              go_meet
              case rel => exact ⟨congrArg Value.bool HX.out, rfl⟩
          | false =>
            by_cases a1 : f.lim.1 < 0
            · have da1 : decide (f.lim.1 < 0) = true := decide_eq_true a1
              have HX := hid (show true = bad2 f from by unfold bad2; rw [Hb1.out, decide_eq_true (Or.inl a1)]; rfl)
              as_aux_lemma =>
                go_wp2
                go_meet
                case rel => exact ⟨congrArg Value.bool HX.out, rfl⟩
            · have da1 : decide (f.lim.1 < 0) = false := decide_eq_false a1
              by_cases a2 : f.lim.2.1 < 0
              · have da2 : decide (f.lim.2.1 < 0) = true := decide_eq_true a2
                have HX := hid (show true = bad2 f from by unfold bad2; rw [Hb1.out, decide_eq_true (Or.inr (Or.inl a2))]; rfl)
                as_aux_lemma =>
                  go_wp2
                  go_meet
                  case rel => exact ⟨congrArg Value.bool HX.out, rfl⟩
              · have da2 : decide (f.lim.2.1 < 0) = false := decide_eq_false a2
                by_cases a3 : f.lim.2.2 < 0
                · have da3 : decide (f.lim.2.2 < 0) = true := decide_eq_true a3
                  have HX := hid (show true = bad2 f from by unfold bad2; rw [Hb1.out, decide_eq_true (Or.inr (Or.inr a3))]; rfl)
                  as_aux_lemma =>
                    go_wp2
                    go_meet
                    case rel => exact ⟨congrArg Value.bool HX.out, rfl⟩
                · have da3 : decide (f.lim.2.2 < 0) = false := decide_eq_false a3
                  have HX := hid (show false = bad2 f from by unfold bad2; rw [Hb1.out, decide_eq_false (by rintro (h | h | h) <;> omega)]; rfl)
                  as_aux_lemma =>
                    go_wp2
                    go_meet
                    case rel => exact ⟨congrArg Value.bool HX.out, rfl⟩
      case rest =>
        as_aux_lemma =>
          obtain ⟨rfl, rfl⟩ := hcut
          clear Hb1
          obtain ⟨b2, Hb2⟩ : ∃ b, Hid (bad2 f = b) := ⟨_, rfl⟩
          rw [Hb2.out]
          go_upto_region 3 with fail
          go_cut [3] from 5 (fun s3 wx => s3 = .bool (bad3 f) ∧ wx = wc)
          case first =>
            as_aux_lemma =>
              clear HN2 HA2 HB2 HSZ
              cases b2 with
              | true =>
                have HX := hid (show true = bad3 f from by unfold bad3; rw [Hb2.out]; rfl)
                as_aux_lemma =>
                  go_wp2
                  go_meet
                  case rel => exact ⟨congrArg Value.bool HX.out, rfl⟩
              | false =>
                by_cases a0 : f.kind = 1
                · have da0 : decide (f.kind = 1) = true := decide_eq_true a0
                  have ea0 : (f.kind == 1) = true := by simpa using a0
                  have ga0 : (f.kind != 1) = false := by simpa using a0
                  by_cases a1 : f.ver = 1
                  · have da1 : decide (f.ver = 1) = true := decide_eq_true a1
                    have ea1 : (f.ver == 1) = true := by simpa using a1
                    have ga1 : (f.ver != 1) = false := by simpa using a1
                    by_cases a2 : f.slots < 1
                    · have da2 : decide (f.slots < 1) = true := decide_eq_true a2
                      have HX := hid (show true = bad3 f from by unfold bad3; rw [Hb2.out, decide_eq_true (⟨a0, Or.inr (Or.inl a2)⟩)]; rfl)
                      as_aux_lemma =>
                        go_wp2
                        go_meet
                        case rel => exact ⟨congrArg Value.bool HX.out, rfl⟩
                    · have da2 : decide (f.slots < 1) = false := decide_eq_false a2
                      by_cases a3 : 64 < f.slots
                      · have da3 : decide (64 < f.slots) = true := decide_eq_true a3
                        have HX := hid (show true = bad3 f from by unfold bad3; rw [Hb2.out, decide_eq_true (⟨a0, Or.inr (Or.inr a3)⟩)]; rfl)
                        as_aux_lemma =>
                          go_wp2
                          go_meet
                          case rel => exact ⟨congrArg Value.bool HX.out, rfl⟩
                      · have da3 : decide (64 < f.slots) = false := decide_eq_false a3
                        have HX := hid (show false = bad3 f from by unfold bad3; rw [Hb2.out, decide_eq_false (by rintro ⟨_, h | h | h⟩ <;> omega)]; rfl)
                        as_aux_lemma =>
                          go_wp2
                          go_meet
                          case rel => exact ⟨congrArg Value.bool HX.out, rfl⟩
                  · have da1 : decide (f.ver = 1) = false := decide_eq_false a1
                    have ea1 : (f.ver == 1) = false := by simpa using a1
                    have ga1 : (f.ver != 1) = true := by simpa using a1
                    have HX := hid (show true = bad3 f from by unfold bad3; rw [Hb2.out, decide_eq_true (⟨a0, Or.inl a1⟩)]; rfl)
                    as_aux_lemma =>
                      go_wp2
                      go_meet
                      case rel => exact ⟨congrArg Value.bool HX.out, rfl⟩
                · have da0 : decide (f.kind = 1) = false := decide_eq_false a0
                  have ea0 : (f.kind == 1) = false := by simpa using a0
                  have ga0 : (f.kind != 1) = true := by simpa using a0
                  have HX := hid (show false = bad3 f from by unfold bad3; rw [Hb2.out, decide_eq_false (fun h => a0 h.1)]; rfl)
                  as_aux_lemma =>
                    go_wp2
                    go_meet
                    case rel => exact ⟨congrArg Value.bool HX.out, rfl⟩
          case rest =>
            as_aux_lemma =>
              obtain ⟨rfl, rfl⟩ := hcut
              clear Hb2
              obtain ⟨b3, Hb3⟩ : ∃ b, Hid (bad3 f = b) := ⟨_, rfl⟩
              rw [Hb3.out]
              go_upto_region 4 with fail
              go_cut [3] from 5 (fun s3 wx => s3 = .bool (bad4 f) ∧ wx = wc)
              case first =>
                as_aux_lemma =>
                  clear HN2 HA2 HB2 HSZ
                  cases b3 with
                  | true =>
                    have HX := hid (show true = bad4 f from by unfold bad4; rw [Hb3.out]; rfl)
                    as_aux_lemma =>
                      go_wp2
                      go_meet
                      case rel => exact ⟨congrArg Value.bool HX.out, rfl⟩
                  | false =>
                    by_cases a0 : f.kind = 3
                    · have da0 : decide (f.kind = 3) = true := decide_eq_true a0
                      have ea0 : (f.kind == 3) = true := by simpa using a0
                      have ga0 : (f.kind != 3) = false := by simpa using a0
                      by_cases a1 : f.status < 1
                      · have da1 : decide (f.status < 1) = true := decide_eq_true a1
                        have HX := hid (show true = bad4 f from by unfold bad4; rw [Hb3.out, decide_eq_true (⟨a0, Or.inl a1⟩)]; rfl)
                        as_aux_lemma =>
                          go_wp2
                          go_meet
                          case rel => exact ⟨congrArg Value.bool HX.out, rfl⟩
                      · have da1 : decide (f.status < 1) = false := decide_eq_false a1
                        by_cases a2 : 3 < f.status
                        · have da2 : decide (3 < f.status) = true := decide_eq_true a2
                          have HX := hid (show true = bad4 f from by unfold bad4; rw [Hb3.out, decide_eq_true (⟨a0, Or.inr (Or.inl a2)⟩)]; rfl)
                          as_aux_lemma =>
                            go_wp2
                            go_meet
                            case rel => exact ⟨congrArg Value.bool HX.out, rfl⟩
                        · have da2 : decide (3 < f.status) = false := decide_eq_false a2
                          by_cases a3 : f.status = 1
                          · have da3 : decide (f.status = 1) = true := decide_eq_true a3
                            have ea3 : (f.status == 1) = true := by simpa using a3
                            have ga3 : (f.status != 1) = false := by simpa using a3
                            have HX := hid (show false = bad4 f from by unfold bad4; rw [Hb3.out, decide_eq_false (by rintro ⟨_, h | h | h⟩ <;> omega)]; rfl)
                            as_aux_lemma =>
                              go_wp2
                              go_meet
                              case rel => exact ⟨congrArg Value.bool HX.out, rfl⟩
                          · have da3 : decide (f.status = 1) = false := decide_eq_false a3
                            have ea3 : (f.status == 1) = false := by simpa using a3
                            have ga3 : (f.status != 1) = true := by simpa using a3
                            by_cases a4 : f.body = []
                            · have e4 : (mk f.body).toList = [] := (bl_mk f.body).trans a4
                              have e5 : ((mk f.body).toList == []) = true := by rw [e4]; rfl
                              have e6 : (mk f.body) = ⟨#[]⟩ := by rw [a4]; rfl
                              have e7 : ((mk f.body).toList != []) = false := by rw [e4]; rfl
                              have HX := hid (show false = bad4 f from by unfold bad4; rw [Hb3.out, decide_eq_false (by rintro ⟨_, h | h | h⟩ <;> first | omega | exact h.2 a4)]; rfl)
                              clear a4 e6
                              as_aux_lemma =>
                                go_wp2
                                go_meet
                                case rel => exact ⟨congrArg Value.bool HX.out, rfl⟩
                            · have e4 : ¬ (mk f.body).toList = [] := fun h => a4 ((bl_mk f.body).symm.trans h)
                              have e5 : ((mk f.body).toList == []) = false := by simpa using e4
                              have e7 : ((mk f.body).toList != []) = true := by simpa using e4
                              have e8 : (mk f.body).toList.isEmpty = false := by rw [List.isEmpty_eq_false_iff]; exact e4
                              have HX := hid (show true = bad4 f from by unfold bad4; rw [Hb3.out, decide_eq_true (⟨a0, Or.inr (Or.inr ⟨a3, a4⟩)⟩)]; rfl)
                              as_aux_lemma =>
                                go_wp2
                                go_meet
                                case rel => exact ⟨congrArg Value.bool HX.out, rfl⟩
                    · have da0 : decide (f.kind = 3) = false := decide_eq_false a0
                      have ea0 : (f.kind == 3) = false := by simpa using a0
                      have ga0 : (f.kind != 3) = true := by simpa using a0
                      have HX := hid (show false = bad4 f from by unfold bad4; rw [Hb3.out, decide_eq_false (fun h => a0 h.1)]; rfl)
                      as_aux_lemma =>
                        go_wp2
                        go_meet
                        case rel => exact ⟨congrArg Value.bool HX.out, rfl⟩
              case rest =>
                as_aux_lemma =>
                  obtain ⟨rfl, rfl⟩ := hcut
                  clear Hb3
                  clear x2 x3 x5 l1 l2 l3
                  go_wp2_with fail
                  go_loopw [3, 4] (fun b i wr => ∃ k : Nat, k ≤ f.args.length ∧ i = .int .i64 k ∧ wr = wc ∧ ∃ B, b = .bool B ∧ Hid ((bad4 f || longA (f.args.take k)) = B)) (fun _ i _ => f.args.length - (intOf i).toNat)
                  case atStart => exact ⟨0, by omega, rfl, rfl, _, rfl, hid (by simp [longA])⟩
                  case round =>
                    obtain ⟨k, hk, rfl, rfl, B, rfl, HBK⟩ := hrel
                    by_cases hlt : k < f.args.length
                    · have hki : (k : Int) < (f.args.length : Int) := by omega
                      have hd : decide ((k : Int) < (f.args.length : Int)) = true := by simpa using hki
                      have hkw : IntKind.i64.wrap ((k : Int) + 1) = (k : Int) + 1 := by have := HR.out.many; rw [IntKind.wrap_i64]; omega
                      cases B with
                      | true =>
                        as_aux_lemma =>
                          have HE := hid (show chkE f = 70 by
                            have h : (bad4 f || longA f.args) = true := by
                              have h := HBK.out
                              rw [Bool.or_eq_true] at h ⊢
                              exact h.imp_right long_take
                            rw [bad_ok] at h
                            unfold chkE
                            rw [if_neg (by intro h2; rw [h2] at h; cases h)])
                          go_wp2
                          go_ret
                          exact ⟨by rw [HE.out]; rfl, HB2.out⟩
                      | false =>
                        as_aux_lemma =>
                          obtain ⟨g1, o1, rfl, c1⟩ := HA2.out.at k hlt
                          have HS : (mk (f.args.getD k [])).size = (f.args.getD k []).length := mk_size _
                          have h0 : bad4 f = false ∧ longA (f.args.take k) = false := by
                            have h := HBK.out
                            rw [Bool.or_eq_false_iff] at h
                            exact h
                          by_cases hlg : 4096 < (f.args.getD k []).length
                          · have HY := hid (show (bad4 f || longA (f.args.take (k + 1))) = true by
                              rw [Bool.or_eq_true]
                              refine Or.inr (long_yes (k := k) (by simp; omega) ?_)
                              rw [List.getD_eq_getElem?_getD, List.getElem?_take_of_lt (by omega), ← List.getD_eq_getElem?_getD]
                              exact hlg)
                            obtain ⟨M, HM⟩ : ∃ M : Nat, Hid ((f.args.getD k []).length = M) := ⟨_, rfl⟩
                            rw [HM.out] at HS hlg
                            have q1 : (4096 : Int) < (M : Int) := by omega
                            have q2 : decide ((4096 : Int) < (M : Int)) = true := decide_eq_true q1
                            clear hlg h0 HBK
                            generalize mk (f.args.getD k []) = s at *
                            go_wp2
                            exact ⟨⟨k + 1, by omega, by simp, by first | rfl | trivial, _, rfl, HY⟩, by simp [intOf]; omega⟩
                          · have HY := hid (show (bad4 f || longA (f.args.take (k + 1))) = false by
                              rw [h0.1, long_no hlt h0.2 hlg]
                              rfl)
                            obtain ⟨M, HM⟩ : ∃ M : Nat, Hid ((f.args.getD k []).length = M) := ⟨_, rfl⟩
                            rw [HM.out] at HS hlg
                            have q1 : ¬ (4096 : Int) < (M : Int) := by omega
                            have q2 : decide ((4096 : Int) < (M : Int)) = false := decide_eq_false q1
                            clear hlg h0 HBK
                            generalize mk (f.args.getD k []) = s at *
                            go_wp2
                            exact ⟨⟨k + 1, by omega, by simp, by first | rfl | trivial, _, rfl, HY⟩, by simp [intOf]; omega⟩
                    · obtain rfl : k = f.args.length := by omega
                      rw [List.take_length, bad_ok] at HBK
                      cases B with
                      | true =>
                        as_aux_lemma =>
                          have HE := hid (show chkE f = 70 by
                            unfold chkE
                            rw [if_neg (by intro h2; have h := HBK.out; rw [h2] at h; cases h)])
                          go_wp2
                          go_ret
                          exact ⟨by rw [HE.out]; rfl, HB2.out⟩
                      | false =>
                        as_aux_lemma =>
                          have HO := hid (show okFr f = true by have h := HBK.out; simpa using h)
                          have hbs : (mk f.body).size = f.body.length := mk_size _
                          clear HBK
                          by_cases hB : 2097152 < f.body.length
                          · have HE := hid (show chkE f = 3 by
                              unfold chkE
                              rw [if_pos HO.out, if_pos (body_gt f HO.out hB)])
                            have q1 : (2097152 : Int) < (f.body.length : Int) := by omega
                            have q2 : decide ((2097152 : Int) < (f.body.length : Int)) = true := decide_eq_true q1
                            clear hB
                            go_wp2
                            go_ret
                            exact ⟨by rw [HE.out]; rfl, HB2.out⟩
                          · have q1 : ¬ (2097152 : Int) < (f.body.length : Int) := by omega
                            have q2 : decide ((2097152 : Int) < (f.body.length : Int)) = false := decide_eq_false q1
                            have HBO := hid (rbodyF_any f (.slice ao f.args.length c) wr HR.out HA2.out (okFr_of HO.out).1 (okFr_of HO.out).2.2 (by omega))
                            have HRG := hid (range_row HN2.out)
                            clear hB
                            go_wp2_with (refine ld_gd (by rfl) 29 (.tmp 1) (by rfl) w.heap.size 0 (by rfl) _ _ HRG.out Try.underlying29 rfl HSZ.out ?_)
                            refine HBO.out.mono ?_
                            rintro e w3 ⟨v3, rfl, hs3, hb3⟩
                            obtain ⟨a3, c3, rfl⟩ := src_shape hs3
                            have HB3 := hid (below_then HB2.out hb3)
                            have HE : Hid (chkE f = if 2097152 < (bodyP f).length then 3 else 0) := hid (by unfold chkE; rw [if_pos HO.out])
                            obtain ⟨M, HM⟩ : ∃ M : Nat, Hid ((bodyP f).length = M) := ⟨_, rfl⟩
                            rw [HM.out] at HE ⊢
                            clear hs3 hb3 HB2 HBO HRG HN2 HA2 HO x0 x7 x8 q1 q2
                            by_cases hM : 2097152 < M
                            · have q1 : (2097152 : Int) < (M : Int) := by omega
                              have q2 : decide ((2097152 : Int) < (M : Int)) = true := decide_eq_true q1
                              rw [if_pos hM] at HE
                              clear hM
                              go_wp2
                              go_ret
                              exact ⟨by rw [HE.out]; rfl, HB3.out⟩
                            · have q1 : ¬ (2097152 : Int) < (M : Int) := by omega
                              have q2 : decide ((2097152 : Int) < (M : Int)) = false := decide_eq_false q1
                              rw [if_neg hM] at HE
                              clear hM
                              go_wp2
                              go_ret
                              exact ⟨by rw [HE.out]; rfl, HB3.out⟩
end Go.Proofs.Ytjinkahlfigdcaa

/- The document's Encode of every frame. -/
namespace Go.Proofs.Ytjinkahlfigdcaa
open Go.RowKit Go.BigFrame

set_option maxRecDepth 100000 in
set_option maxHeartbeats 4000000 in
theorem rencF_err (f : Fr) (va : Value) (w : World) (hr : Rng f) (ha : Strs w va f.args) (h : chkE f ≠ 0) :
    Calls Try.prog 10 #[.agg (fcells f va).toArray] w fun e w' => e = .returned (.tuple #[.slice none 0 0, .int .i64 (chkE f)]) ∧ Below w.heap.size w w' := by
  have HNB := hid (hp_new w (.cells (fcells f va).toArray 29))
  have HBL := hid (below_walk w (.cells (fcells f va).toArray 29))
  have HSZ := hid (frame_size f va hr.tool)
  have HCK := hid (rcheckF_any f va _ hr (ha.below HBL.out))
  obtain ⟨E, HE⟩ : ∃ E, Hid (chkE f = E) := ⟨_, rfl⟩
  rw [HE.out] at h HCK
  have q1 : (E != 0) = true := by simpa using h
  have q2 : (E == 0) = false := by simpa using h
  clear ha hr h
  go_enter Try.func10, Try.ntmps10
  go_upto_region 1 with fail
  generalize w.alloc (.cells (fcells f va).toArray 29) = w1 at HNB HBL HCK ⊢
  generalize fcells f va = FF at *
  go_wp2_with (refine ld_row (by rfl) 29 (.tmp 1) (by rfl) w.heap.size (by rfl) FF 29 HNB.out _ Try.underlying29 rfl HSZ.out ?_)
  refine HCK.out.mono ?_
  rintro e w2 ⟨rfl, hb2⟩
  have HB2 := hid (below_then HBL.out hb2)
  clear hb2 HNB HBL HCK
  go_wp2
  go_ret2
  exact ⟨by rw [HE.out]; rfl, HB2.out⟩

set_option maxRecDepth 100000 in
set_option maxHeartbeats 4000000 in
theorem rencF_ok (f : Fr) (va : Value) (w : World) (hr : Rng f) (ha : Strs w va f.args) (h : chkE f = 0) :
    Calls Try.prog 10 #[.agg (fcells f va).toArray] w fun e w' => ∃ v, e = .returned (.tuple #[v, .int .i64 0]) ∧ OwnB w' w.heap.size v (encP f) ∧ Below w.heap.size w w' := by
  have HNB := hid (hp_new w (.cells (fcells f va).toArray 29))
  have HBL := hid (below_walk w (.cells (fcells f va).toArray 29))
  have HSZ := hid (frame_size f va hr.tool)
  have HCK := hid (rcheckF_any f va _ hr (ha.below HBL.out))
  rw [h] at HCK
  obtain ⟨ho, hl⟩ := chk_ok h
  have hBl : f.body.length ≤ 2097152 := by
    rcases Nat.lt_or_ge 2097152 f.body.length with h1 | h1
    · have := body_gt f ho h1
      omega
    · exact h1
  have HBO := hid (fun W (hW : Strs W va f.args) => rbodyF_any f va W hr hW (okFr_of ho).1 (okFr_of ho).2.2 hBl)
  have HA := hid (ha.below HBL.out)
  obtain ⟨EP, HEP⟩ : ∃ E, Hid (encP f = E) := ⟨_, rfl⟩
  have HEN : Hid (EP = sealP (sn (bodyP f).length ++ bodyP f)) := hid (HEP.out.symm)
  have hsl := sn_length_le (bodyP f).length
  clear ha hr h ho hBl
  go_enter Try.func10, Try.ntmps10
  go_upto_region 1 with fail
  generalize w.alloc (.cells (fcells f va).toArray 29) = w1 at HNB HBL HCK HA ⊢
  generalize fcells f va = FF at *
  generalize bodyP f = BP at *
  obtain ⟨M, HM⟩ : ∃ M : Nat, Hid (BP.length = M) := ⟨_, rfl⟩
  rw [HM.out] at hl hsl HEN
  go_wp2_with (refine ld_row (by rfl) 29 (.tmp 1) (by rfl) w.heap.size (by rfl) FF 29 HNB.out _ Try.underlying29 rfl HSZ.out ?_)
  refine HCK.out.mono ?_
  rintro e w2 ⟨rfl, hb2⟩
  have HN2 := hid ((hb2.block _ (hp_lt HNB.out)).trans HNB.out)
  have HB2 := hid (below_then HBL.out hb2)
  have HA2 := hid (HA.out.below hb2)
  clear hb2 HNB HBL HCK HA
  go_wp2_with (refine ld_row (by rfl) 29 (.tmp 1) (by rfl) w.heap.size (by rfl) FF 29 HN2.out _ Try.underlying29 rfl HSZ.out ?_)
  refine (HBO.out w2 HA2.out).mono ?_
  rintro e w3 ⟨v3, rfl, hs3, hb3⟩
  obtain ⟨ao, c, rfl⟩ := src_shape hs3
  have HS3 := hid hs3
  have HB3 := hid (below_then HB2.out hb3)
  have hw1 : IntKind.u64.wrap (M : Int) = (M : Int) := by rw [IntKind.wrap_u64]; omega
  rw [HM.out] at HS3 ⊢
  clear hs3 hb3 HN2 HB2 HBO HA2
  go_wp2_with fail
  refine (refUint_any M w3 (by omega)).mono ?_
  rintro e w4 ⟨v4, rfl, ho4, hb4⟩
  have HO4 := hid ho4
  have HS4 := hid (HS3.out.below hb4)
  have HB4 := hid (below_then HB3.out hb4)
  have HZ4 := hid hb4.size
  obtain ⟨a4, c4, e4⟩ := src_shape (ho4.src (by omega))
  subst e4
  clear ho4 hb4 HS3 hw1
  go_wp2_with (at_builtin; refine app_src rfl _ _ rfl w3.heap.size _ (sn M) rfl HO4.out _ BP rfl HS4.out (by rw [HM.out]; omega) HZ4.out ?_)
  intro v5 w5 ho5 hg5
  have hs5 : Src w5 v5 (sn M ++ BP) := ho5.src (by rw [List.length_append, HM.out]; omega)
  have HB5 := hid (show Below w.heap.size w w5 from below_tr HB4.out ⟨hg5.os, hg5.tape, hg5.output, hg5.size, fun k hk => hg5.block k (by have := HB3.out.size; have := HZ4.out; omega) (fun e => by have := (HO4.out.lt k e.symm).1; have := HB3.out.size; omega)⟩)
  have HSE := hid (rseal_any w5 v5 (sn M ++ BP) hs5 (by rw [List.length_append, HM.out]; omega))
  obtain ⟨a5, c5, e5⟩ := src_shape hs5
  obtain ⟨M5, HM5⟩ : ∃ M5, Hid ((sn M ++ BP).length = M5) := ⟨_, rfl⟩
  rw [HM5.out] at e5
  subst e5
  clear ho5 hg5 hs5 HB4 HB3 HZ4 HO4 HS4
  go_wp2_with fail
  refine HSE.out.mono ?_
  rintro e w6 ⟨v6, rfl, ho6, hb6⟩
  rw [← HEN.out] at ho6
  have HO6 := hid (ho6.le HB5.out.size)
  have HB7 := hid (below_then HB5.out hb6)
  obtain ⟨a6, c6, e6⟩ := src_shape (ho6.src (by rw [HEN.out, sealP_length, List.length_append, HM.out]; omega))
  obtain ⟨M6, HM6⟩ : ∃ M6, Hid (EP.length = M6) := ⟨_, rfl⟩
  rw [HM6.out] at e6
  subst e6
  clear ho6 hb6
  go_wp2
  go_ret2
  refine ⟨_, rfl, ?_, HB7.out⟩
  rw [HEP.out]
  exact HO6.out

end Go.Proofs.Ytjinkahlfigdcaa

/- All, of the program and of the document. -/
namespace Go.Proofs.Ytjinkahlfigdcaa
open Go.RowKit Go.BigFrame

set_option maxRecDepth 100000 in
set_option maxHeartbeats 4000000 in
theorem all_any (v : Value) (fs : List FV) (w : World) (h : Frs w v fs) (hn : fs.length ≤ 1048576) :
    Calls Try.prog 15 #[v] w fun e w' => ∃ vb, e = .returned (.tuple #[vb, .int .i64 (firstE fs)]) ∧ Src w' vb (allR fs) ∧ Below w.heap.size w w' := by
  obtain ⟨ao, c, rfl⟩ := h.shape
  have HF := hid h
  clear h
  go_enter Try.func15, Try.ntmps15
  go_wp2_with fail
  go_loopw [4, 11] (fun b i wr => ∃ k : Nat, k ≤ fs.length ∧ i = .int .i64 k ∧ ∃ vb, b = vb ∧ OwnB wr w.heap.size vb (allB (fs.take k)) ∧ okTo fs k ∧ Below w.heap.size w wr) (fun _ i _ => fs.length - (intOf i).toNat)
  case atStart => exact ⟨0, by omega, rfl, _, rfl, OwnB.nil _ _, fun j hj => by omega, Below.refl _ _⟩
  case round =>
    obtain ⟨k, hk, rfl, vb, rfl, hob, hok, hbl⟩ := hrel
    have HOB := hid hob
    have HOK := hid hok
    have HBL := hid hbl
    have hlen := allB_len fs k hk hok
    obtain ⟨ab, cb, eb⟩ := src_shape (hob.src (by omega))
    clear hob hok hbl
    by_cases hlt : k < fs.length
    · have hki : (k : Int) < (fs.length : Int) := by omega
      have hd : decide ((k : Int) < (fs.length : Int)) = true := by simpa using hki
      have hkw : IntKind.i64.wrap ((k : Int) + 1) = (k : Int) + 1 := by rw [IntKind.wrap_i64]; omega
      obtain ⟨g, o, rfl, hgl, hra, hst, hrn⟩ := (HF.out.below HBL.out).at k hlt
      have HRA := hid hra
      have HST := hid hst
      have HRN := hid hrn
      have HSZ := hid (frame_size (fs.getD k zFV).1 (fs.getD k zFV).2 hrn.tool)
      have HON := hid (fcells_one (fs.getD k zFV).1 (fs.getD k zFV).2 (by obtain ⟨a9, c9, e9⟩ := hst.shape; rw [e9]; rfl))
      have HLZ := hid (show (fcells zF nS).toArray.size = (fcells (fs.getD k zFV).1 (fs.getD k zFV).2).length by rw [fcells_length _ _ hrn.tool]; rfl)
      have HES := hid (allB_snoc fs k hlt)
      have HEO := hid (fun (h9 : chkE (fs.getD k zFV).1 = 0) W (hW : Strs W (fs.getD k zFV).2 (fs.getD k zFV).1.args) => encF_ok (fs.getD k zFV).1 (fs.getD k zFV).2 W HRN.out hW h9)
      have HEE := hid (fun (h9 : chkE (fs.getD k zFV).1 ≠ 0) W (hW : Strs W (fs.getD k zFV).2 (fs.getD k zFV).1.args) => encF_err (fs.getD k zFV).1 (fs.getD k zFV).2 W HRN.out hW h9)
      obtain ⟨f, HFV⟩ : ∃ f, Hid ((fs.getD k zFV).1 = f) := ⟨_, rfl⟩
      obtain ⟨va, HVA⟩ : ∃ f, Hid ((fs.getD k zFV).2 = f) := ⟨_, rfl⟩
      rw [HFV.out] at HRA HST HRN HSZ HON HLZ HES HEO HEE
      rw [HVA.out] at HRA HST HSZ HON HLZ HEO HEE
      clear hra hst hrn
      obtain ⟨MB, HMB⟩ : ∃ M, Hid ((allB (fs.take k)).length = M) := ⟨_, rfl⟩
      rw [HMB.out] at eb
      subst eb
      obtain ⟨FF, HFF⟩ : ∃ f9, Hid (fcells f va = f9) := ⟨_, rfl⟩
      rw [HFF.out] at HRA HSZ HON HLZ HEO HEE
      by_cases h0 : chkE f = 0
      · have HE := hid (HEO.out h0)
        have hEl := enc_le h0
        have HOK2 := hid (okTo_step HOK.out (by rw [HFV.out]; exact h0))
        clear HEO HEE h0
        go_wp2_with (first
          | (refine wpList_load_mid (by rfl) 29 (.tmp 13) (by rfl) g (o + k * 42) (by rfl) FF _ HRA.out Try.underlying29 rfl HSZ.out ?_)
          | (refine al_row (by rfl) 29 (by rfl) _ zeroFrame ?_)
          | (refine st_new (by rfl) 29 _ _ (by rfl) FF (by rfl) (by rfl) 29 _ HSZ.out HLZ.out HON.out ?_)
          | (refine ld_row (by rfl) 29 (.tmp 6) (by rfl) wr.heap.size (by rfl) FF 29 (hp_new wr _) _ Try.underlying29 rfl HSZ.out ?_))
        refine (HE.out _ (HST.out.below (below_walk wr (.cells FF.toArray 29)))).mono ?_
        rintro e w2 ⟨v2, rfl, ho2, hb2⟩
        have HO2 := hid (ho2.le (show wr.heap.size ≤ (wr.alloc (.cells FF.toArray 29)).heap.size from by simp))
        have HB2 := hid (below_then (below_walk wr (.cells FF.toArray 29)) hb2)
        have HS2 := hid (ho2.src (by omega))
        obtain ⟨a2, c2, e2⟩ := src_shape HS2.out
        obtain ⟨M2, HM2⟩ : ∃ M, Hid ((encP f).length = M) := ⟨_, rfl⟩
        rw [HM2.out] at e2
        subst e2
        have HOB2 := hid (HOB.out.below HB2.out)
        clear ho2 hb2
        go_wp2_with (at_builtin; refine app_src rfl _ _ rfl w.heap.size _ (allB (fs.take k)) rfl HOB2.out _ (encP f) rfl HS2.out (by omega) (by have := HBL.out.size; have := HB2.out.size; omega) ?_)
        intro v5 w5 ho5 hg5
        have HB5 := hid (show Below w.heap.size w w5 from below_tr (below_tr HBL.out (HB2.out.mono HBL.out.size)) ⟨hg5.os, hg5.tape, hg5.output, hg5.size, fun k9 hk9 => hg5.block k9 (by have := HBL.out.size; have := HB2.out.size; omega) (fun e => by have := (HOB2.out.lt k9 e.symm).1; omega)⟩)
        have HO5 := hid (show OwnB w5 w.heap.size v5 (allB (fs.take (k + 1))) by rw [HES.out]; exact ho5)
        clear ho5 hg5
        go_wp2
        exact ⟨⟨k + 1, by omega, by simp, _, rfl, HO5.out, HOK2.out, HB5.out⟩, by simp [intOf]; omega⟩
      · have HE := hid (HEE.out h0)
        have HFE := hid (okTo_bad fs k hlt HOK.out (by rw [HFV.out]; exact h0))
        have HAR := hid (show allR fs = [] by unfold allR; rw [if_neg (by rw [HFE.out, HFV.out]; exact h0)])
        rw [HFV.out] at HFE
        clear HEO HEE
        obtain ⟨E, HE9⟩ : ∃ E, Hid (chkE f = E) := ⟨_, rfl⟩
        rw [HE9.out] at h0 HE HFE
        have q1 : (E != 0) = true := by simpa using h0
        have q2 : (E == 0) = false := by simpa using h0
        clear h0
        go_wp2_with (first
          | (refine wpList_load_mid (by rfl) 29 (.tmp 13) (by rfl) g (o + k * 42) (by rfl) FF _ HRA.out Try.underlying29 rfl HSZ.out ?_)
          | (refine al_row (by rfl) 29 (by rfl) _ zeroFrame ?_)
          | (refine st_new (by rfl) 29 _ _ (by rfl) FF (by rfl) (by rfl) 29 _ HSZ.out HLZ.out HON.out ?_)
          | (refine ld_row (by rfl) 29 (.tmp 6) (by rfl) wr.heap.size (by rfl) FF 29 (hp_new wr _) _ Try.underlying29 rfl HSZ.out ?_))
        refine (HE.out _ (HST.out.below (below_walk wr (.cells FF.toArray 29)))).mono ?_
        rintro e w2 ⟨rfl, hb2⟩
        have HB2 := hid (below_tr HBL.out ((below_then (below_walk wr (.cells FF.toArray 29)) hb2).mono HBL.out.size))
        clear hb2
        go_wp2
        go_ret2
        refine ⟨_, by rw [HFE.out]; rfl, ?_, HB2.out⟩
        rw [HAR.out]
        exact srcNil _
    · obtain rfl : k = fs.length := by omega
      have HFE := hid (okTo_done fs HOK.out)
      have HAR := hid (show allR fs = allB (fs.take fs.length) by unfold allR; rw [if_pos HFE.out, List.take_length])
      have HS := hid (HOB.out.src (by omega))
      obtain ⟨MB, HMB⟩ : ∃ M, Hid ((allB (fs.take fs.length)).length = M) := ⟨_, rfl⟩
      rw [HMB.out] at eb
      subst eb
      clear HOB
      go_wp2
      go_ret2
      refine ⟨_, by rw [HFE.out]; rfl, ?_, HBL.out⟩
      rw [HAR.out]
      exact HS.out

set_option maxRecDepth 100000 in
set_option maxHeartbeats 4000000 in
theorem rall_any (v : Value) (fs : List FV) (w : World) (h : Frs w v fs) (hn : fs.length ≤ 1048576) :
    Calls Try.prog 16 #[v] w fun e w' => ∃ vb, e = .returned (.tuple #[vb, .int .i64 (firstE fs)]) ∧ Src w' vb (allR fs) ∧ Below w.heap.size w w' := by
  obtain ⟨ao, c, rfl⟩ := h.shape
  have HF := hid h
  clear h
  go_enter Try.func16, Try.ntmps16
  go_wp2_with fail
  go_loopw [4, 5] (fun b i wr => ∃ k : Nat, k ≤ fs.length ∧ i = .int .i64 k ∧ ∃ vb, b = vb ∧ OwnB wr w.heap.size vb (allB (fs.take k)) ∧ okTo fs k ∧ Below w.heap.size w wr) (fun _ i _ => fs.length - (intOf i).toNat)
  case atStart => exact ⟨0, by omega, rfl, _, rfl, OwnB.nil _ _, fun j hj => by omega, Below.refl _ _⟩
  case round =>
    obtain ⟨k, hk, rfl, vb, rfl, hob, hok, hbl⟩ := hrel
    have HOB := hid hob
    have HOK := hid hok
    have HBL := hid hbl
    have hlen := allB_len fs k hk hok
    obtain ⟨ab, cb, eb⟩ := src_shape (hob.src (by omega))
    clear hob hok hbl
    by_cases hlt : k < fs.length
    · have hki : (k : Int) < (fs.length : Int) := by omega
      have hd : decide ((k : Int) < (fs.length : Int)) = true := by simpa using hki
      have hkw : IntKind.i64.wrap ((k : Int) + 1) = (k : Int) + 1 := by rw [IntKind.wrap_i64]; omega
      obtain ⟨g, o, rfl, hgl, hra, hst, hrn⟩ := (HF.out.below HBL.out).at k hlt
      have HRA := hid hra
      have HST := hid hst
      have HRN := hid hrn
      have HSZ := hid (frame_size (fs.getD k zFV).1 (fs.getD k zFV).2 hrn.tool)
      have HON := hid (fcells_one (fs.getD k zFV).1 (fs.getD k zFV).2 (by obtain ⟨a9, c9, e9⟩ := hst.shape; rw [e9]; rfl))
      have HLZ := hid (show (fcells zF nS).toArray.size = (fcells (fs.getD k zFV).1 (fs.getD k zFV).2).length by rw [fcells_length _ _ hrn.tool]; rfl)
      have HES := hid (allB_snoc fs k hlt)
      have HEO := hid (fun (h9 : chkE (fs.getD k zFV).1 = 0) W (hW : Strs W (fs.getD k zFV).2 (fs.getD k zFV).1.args) => rencF_ok (fs.getD k zFV).1 (fs.getD k zFV).2 W HRN.out hW h9)
      have HEE := hid (fun (h9 : chkE (fs.getD k zFV).1 ≠ 0) W (hW : Strs W (fs.getD k zFV).2 (fs.getD k zFV).1.args) => rencF_err (fs.getD k zFV).1 (fs.getD k zFV).2 W HRN.out hW h9)
      obtain ⟨f, HFV⟩ : ∃ f, Hid ((fs.getD k zFV).1 = f) := ⟨_, rfl⟩
      obtain ⟨va, HVA⟩ : ∃ f, Hid ((fs.getD k zFV).2 = f) := ⟨_, rfl⟩
      rw [HFV.out] at HRA HST HRN HSZ HON HLZ HES HEO HEE
      rw [HVA.out] at HRA HST HSZ HON HLZ HEO HEE
      clear hra hst hrn
      obtain ⟨MB, HMB⟩ : ∃ M, Hid ((allB (fs.take k)).length = M) := ⟨_, rfl⟩
      rw [HMB.out] at eb
      subst eb
      obtain ⟨FF, HFF⟩ : ∃ f9, Hid (fcells f va = f9) := ⟨_, rfl⟩
      rw [HFF.out] at HRA HSZ HON HLZ HEO HEE
      by_cases h0 : chkE f = 0
      · have HE := hid (HEO.out h0)
        have hEl := enc_le h0
        have HOK2 := hid (okTo_step HOK.out (by rw [HFV.out]; exact h0))
        clear HEO HEE h0
        go_wp2_with (refine wpList_load_mid (by rfl) 29 (.tmp 17) (by rfl) g (o + k * 42) (by rfl) FF _ HRA.out Try.underlying29 rfl HSZ.out ?_)
        refine (HE.out wr HST.out).mono ?_
        rintro e w2 ⟨v2, rfl, ho2, hb2⟩
        have HO2 := hid ho2
        have HB2 := hid hb2
        have HS2 := hid (ho2.src (by omega))
        obtain ⟨a2, c2, e2⟩ := src_shape HS2.out
        obtain ⟨M2, HM2⟩ : ∃ M, Hid ((encP f).length = M) := ⟨_, rfl⟩
        rw [HM2.out] at e2
        subst e2
        have HOB2 := hid (HOB.out.below HB2.out)
        clear ho2 hb2
        go_wp2_with (at_builtin; refine app_src rfl _ _ rfl w.heap.size _ (allB (fs.take k)) rfl HOB2.out _ (encP f) rfl HS2.out (by omega) (by have := HBL.out.size; have := HB2.out.size; omega) ?_)
        intro v5 w5 ho5 hg5
        have HB5 := hid (show Below w.heap.size w w5 from below_tr (below_tr HBL.out (HB2.out.mono HBL.out.size)) ⟨hg5.os, hg5.tape, hg5.output, hg5.size, fun k9 hk9 => hg5.block k9 (by have := HBL.out.size; have := HB2.out.size; omega) (fun e => by have := (HOB2.out.lt k9 e.symm).1; omega)⟩)
        have HO5 := hid (show OwnB w5 w.heap.size v5 (allB (fs.take (k + 1))) by rw [HES.out]; exact ho5)
        clear ho5 hg5
        go_wp2
        exact ⟨⟨k + 1, by omega, by simp, _, rfl, HO5.out, HOK2.out, HB5.out⟩, by simp [intOf]; omega⟩
      · have HE := hid (HEE.out h0)
        have HFE := hid (okTo_bad fs k hlt HOK.out (by rw [HFV.out]; exact h0))
        have HAR := hid (show allR fs = [] by unfold allR; rw [if_neg (by rw [HFE.out, HFV.out]; exact h0)])
        rw [HFV.out] at HFE
        clear HEO HEE
        obtain ⟨E, HE9⟩ : ∃ E, Hid (chkE f = E) := ⟨_, rfl⟩
        rw [HE9.out] at h0 HE HFE
        have q1 : (E != 0) = true := by simpa using h0
        have q2 : (E == 0) = false := by simpa using h0
        clear h0
        go_wp2_with (refine wpList_load_mid (by rfl) 29 (.tmp 17) (by rfl) g (o + k * 42) (by rfl) FF _ HRA.out Try.underlying29 rfl HSZ.out ?_)
        refine (HE.out wr HST.out).mono ?_
        rintro e w2 ⟨rfl, hb2⟩
        have HB2 := hid (below_tr HBL.out (hb2.mono HBL.out.size))
        clear hb2
        go_wp2
        go_ret2
        refine ⟨_, by rw [HFE.out]; rfl, ?_, HB2.out⟩
        rw [HAR.out]
        exact srcNil _
    · obtain rfl : k = fs.length := by omega
      have HFE := hid (okTo_done fs HOK.out)
      have HAR := hid (show allR fs = allB (fs.take fs.length) by unfold allR; rw [if_pos HFE.out, List.take_length])
      have HS := hid (HOB.out.src (by omega))
      obtain ⟨MB, HMB⟩ : ∃ M, Hid ((allB (fs.take fs.length)).length = M) := ⟨_, rfl⟩
      rw [HMB.out] at eb
      subst eb
      clear HOB
      go_wp2
      go_ret2
      refine ⟨_, by rw [HFE.out]; rfl, ?_, HBL.out⟩
      rw [HAR.out]
      exact HS.out

end Go.Proofs.Ytjinkahlfigdcaa

/- The law's alive answers true. -/
namespace Go.Proofs.Ytjinkahlfigdcaa
open Go.RowKit Go.BigFrame

set_option maxRecDepth 100000 in
set_option maxHeartbeats 4000000 in
theorem alive_any (w : World) :
    Calls Try.prog 14 #[] w fun e w' => e = .returned (.bool true) ∧ Below w.heap.size w w' := by
  have hl6 : (sealP [1, 5]).length = 6 := rfl
  go_enter Try.func14, Try.ntmps14
  go_wp2_with fail
  refine (bye_any w).mono ?_
  rintro e w1 ⟨rfl, hb1⟩
  have HB1 := hid hb1
  clear hb1
  go_wp2_with fail
  refine (encodeBye_any w1).mono ?_
  rintro e w2 ⟨v2, rfl, ho2, hb2⟩
  have HS2 := hid (ho2.src (by rw [sealP_length]; simp))
  have HB2 := hid (below_then HB1.out hb2)
  obtain ⟨a2, c2, e2⟩ := src_shape HS2.out
  rw [hl6] at e2
  subst e2
  clear ho2 hb2 HB1
  go_wp2_with (refine bd_row (by rfl) 29 #[(0, .const (.int .i64 5))] (by rfl) _ (by simp [Act.eval]) _ built_bye ?_)
  refine (rencodeBye_any w2).mono ?_
  rintro e w3 ⟨v3, rfl, ho3, hb3⟩
  have HS3 := hid (ho3.src (by rw [sealP_length]; simp))
  have HS2b := hid (HS2.out.below hb3)
  have HB3 := hid (below_then HB2.out hb3)
  obtain ⟨a3, c3, e3⟩ := src_shape HS3.out
  rw [hl6] at e3
  subst e3
  clear ho3 hb3 HB2 HS2
  go_wp2_with fail
  refine (equal_true _ _ _ w3 HS2b.out HS3.out).mono ?_
  rintro e w4 ⟨rfl, hw4⟩
  subst hw4
  go_wp2
  go_ret
  exact ⟨rfl, HB3.out⟩

end Go.Proofs.Ytjinkahlfigdcaa

/- FrameAll answers true. -/
namespace Go.Proofs.Ytjinkahlfigdcaa
open Go.RowKit Go.BigFrame

set_option maxRecDepth 100000 in
set_option maxHeartbeats 4000000 in
theorem lawAll_any (v : Value) (fs : List FV) (w : World) (h : Frs w v fs) (hn : fs.length ≤ 1048576) :
    Calls Try.prog 4 #[v] w fun e w' => e = .returned (.bool true) ∧ Below w.heap.size w w' := by
  obtain ⟨ao, c, rfl⟩ := h.shape
  have HF := hid h
  have HA := hid (all_any _ fs w h hn)
  have HN := hid hn
  obtain ⟨E, HE⟩ : ∃ E, Hid (firstE fs = E) := ⟨_, rfl⟩
  rw [HE.out] at HA
  have q1 : (E == E) = true := by simp
  clear h hn
  go_enter Try.func4, Try.ntmps4
  go_wp2_with fail
  refine HA.out.mono ?_
  rintro e w1 ⟨v1, rfl, hs1, hb1⟩
  have HS1 := hid hs1
  have HB1 := hid hb1
  have HR := hid (rall_any _ fs w1 (HF.out.below hb1) HN.out)
  rw [HE.out] at HR
  obtain ⟨a1, c1, e1⟩ := src_shape hs1
  obtain ⟨M, HM⟩ : ∃ M, Hid ((allR fs).length = M) := ⟨_, rfl⟩
  rw [HM.out] at e1
  subst e1
  clear hs1 hb1 HA
  go_wp2_with fail
  refine HR.out.mono ?_
  rintro e w2 ⟨v2, rfl, hs2, hb2⟩
  have HS2 := hid hs2
  have HT2 := hid (HS1.out.below hb2)
  have HB2 := hid (below_then HB1.out hb2)
  obtain ⟨a2, c2, e2⟩ := src_shape hs2
  rw [HM.out] at e2
  subst e2
  clear hs2 hb2 HR HB1 HS1
  go_wp2_with fail
  refine (equal_true _ _ _ w2 HT2.out HS2.out).mono ?_
  rintro e w3 ⟨rfl, hw3⟩
  have hw3 := hw3.symm
  subst hw3
  go_wp2_with fail
  refine (alive_any w2).mono ?_
  rintro e w4 ⟨rfl, hb4⟩
  have HB4 := hid (below_then HB2.out hb4)
  clear hb4
  go_wp2
  go_ret
  exact ⟨rfl, HB4.out⟩
end Go.Proofs.Ytjinkahlfigdcaa
