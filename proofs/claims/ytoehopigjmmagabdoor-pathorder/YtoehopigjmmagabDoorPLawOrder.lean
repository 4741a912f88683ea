/- PathOrder: the order of paths is an order; what stands between a directory and what is below it is below it. -/
import Derived.Test.YtoehopigjmmagabDoorPCmp2
namespace Go.Proofs.YtoehopigjmmagabDoor
open Go.RowKit

theorem pN_ok {a b : List UInt8} (ha : okP a = true) (hb : okP b = true) : pN a b = 0 := by unfold pN; rw [if_pos ⟨ha, hb⟩]
theorem pN_bad {a b : List UInt8} (h : okP a = false ∨ okP b = false) : pN a b = 45 := by
  unfold pN
  rw [if_neg]
  rintro ⟨h1, h2⟩
  rcases h with h | h
  · rw [h] at h1; cases h1
  · rw [h] at h2; cases h2
theorem below_dd {w w2 w3 : World} {a n : Nat} (h : Below a w w2) (k : Below (w2.drewN n).heap.size (w2.drewN n) w3) (ha : a ≤ w2.heap.size) : Below a w w3 := below_tr h (below_le (below_d k) ha)

set_option maxRecDepth 100000 in
set_option maxHeartbeats 8000000 in
theorem lawOrder_any (a b c : ByteArray) (w : World) (ha : (bl a).length ≤ 9223372036854775807) (hb : (bl b).length ≤ 9223372036854775807) (hc : (bl c).length ≤ 9223372036854775807) :
    Calls Tryd.prog 6 #[.string a, .string b, .string c] w fun e w' => e = .returned (.bool true) ∧ Below w.heap.size w w' := by
  have H1 := hid (compare_any a b w ha hb)
  have H2 := hid (compare_any b c · hb hc)
  have H3 := hid (compare_any a c · ha hc)
  have H4 := hid (compare_any b a · hb ha)
  have HU := hid (above_any a c · ha hc)
  have HL := hid (above_any a b · ha hb)
  have HAW := hid awake_any
  have HCK := hid (⟨fun x h => check_is a x h ha, fun x h => check_is b x h hb, fun x h => check_is c x h hc⟩ : (∀ x, chN (bl a) = x → ∀ w, Calls Tryd.prog 12 #[.string a] w fun e w' => e = .returned (.int .i64 x) ∧ ∃ n, w' = w.drewN n) ∧ (∀ x, chN (bl b) = x → ∀ w, Calls Tryd.prog 12 #[.string b] w fun e w' => e = .returned (.int .i64 x) ∧ ∃ n, w' = w.drewN n) ∧ (∀ x, chN (bl c) = x → ∀ w, Calls Tryd.prog 12 #[.string c] w fun e w' => e = .returned (.int .i64 x) ∧ ∃ n, w' = w.drewN n))
  clear ha hb hc
  go_enter Tryd.func6, Tryd.ntmps6
  go_wp2_with fail
  refine H1.out.mono ?_
  rintro e w1 ⟨rfl, hb1⟩
  have HB1 := hid hb1
  clear hb1 H1
  go_wp2_with fail
  refine (H2.out w1).mono ?_
  rintro e w2 ⟨rfl, hb2⟩
  have HB2 := hid (below_tr HB1.out (below_le hb2 HB1.out.size))
  clear hb2 H2 HB1
  go_wp2_with fail
  refine (H3.out w2).mono ?_
  rintro e w3 ⟨rfl, hb3⟩
  have HB3 := hid (below_tr HB2.out (below_le hb3 HB2.out.size))
  clear hb3 H3 HB2
  go_wp2_with fail
  refine (H4.out w3).mono ?_
  rintro e w4 ⟨rfl, hb4⟩
  have HB4 := hid (below_tr HB3.out (below_le hb4 HB3.out.size))
  clear hb4 H4 HB3
  by_cases hall : okP (bl a) = true ∧ okP (bl b) = true ∧ okP (bl c) = true
  · obtain ⟨oa, ob, oc⟩ := hall
    have ep : cmP (bl a) (bl b) = cmpL (nms (bl a)) (nms (bl b)) := by unfold cmP; rw [if_pos ⟨oa, ob⟩]
    have eq : cmP (bl b) (bl c) = cmpL (nms (bl b)) (nms (bl c)) := by unfold cmP; rw [if_pos ⟨ob, oc⟩]
    have er : cmP (bl a) (bl c) = cmpL (nms (bl a)) (nms (bl c)) := by unfold cmP; rw [if_pos ⟨oa, oc⟩]
    have eb : cmP (bl b) (bl a) = cmpL (nms (bl b)) (nms (bl a)) := by unfold cmP; rw [if_pos ⟨ob, oa⟩]
    have eu : abB (bl a) (bl c) = upP (nms (bl a)) (nms (bl c)) := by unfold abB; rw [oa, oc]; rfl
    have el : abB (bl a) (bl b) = upP (nms (bl a)) (nms (bl b)) := by unfold abB; rw [oa, ob]; rfl
    rw [pN_ok oa ob, pN_ok ob oc, pN_ok oa oc, pN_ok ob oa, ep, eq, er, eb]
    rw [pN_ok oa oc, eu] at HU
    rw [pN_ok oa ob, el] at HL
    have hAB : cmpL (nms (bl a)) (nms (bl b)) = 0 → a = b := fun h => bl_inj (by rw [← txt_nms (bl a), cmpL_zero h, txt_nms])
    have hAA : a = b → cmpL (nms (bl a)) (nms (bl b)) = 0 := fun h => by rw [h]; exact cmpL_self _
    have hrng := cmpL_range (nms (bl a)) (nms (bl b))
    have hanti := cmpL_anti (nms (bl a)) (nms (bl b))
    have htr := cmpL_trans (nms (bl a)) (nms (bl b)) (nms (bl c))
    have hlow : upP (nms (bl a)) (nms (bl b)) = true → cmpL (nms (bl a)) (nms (bl b)) = -1 := fun h => by
      obtain ⟨r, hr, e⟩ := upP_iff.1 h
      rw [e]; exact cmpL_pre hr
    have hbet : upP (nms (bl a)) (nms (bl c)) = true → cmpL (nms (bl a)) (nms (bl b)) < 0 → cmpL (nms (bl b)) (nms (bl c)) < 0 → upP (nms (bl a)) (nms (bl b)) = true := fun h h1 h2 => by
      obtain ⟨r, hr, e⟩ := upP_iff.1 h
      rw [e] at h2
      exact upP_iff.2 (cmpL_between h1 h2)
    clear ep eq er eb eu el oa ob oc HCK
    generalize cmpL (nms (bl b)) (nms (bl a)) = back at *
    generalize cmpL (nms (bl a)) (nms (bl b)) = p at *
    generalize cmpL (nms (bl b)) (nms (bl c)) = q at *
    generalize cmpL (nms (bl a)) (nms (bl c)) = r at *
    generalize upP (nms (bl a)) (nms (bl c)) = up at *
    generalize upP (nms (bl a)) (nms (bl b)) = low at *
    subst hanti
    have HF := hid (⟨hAB, hAA, htr, hlow, hbet⟩ : (p = 0 → a = b) ∧ (a = b → p = 0) ∧ (p ≤ 0 → q ≤ 0 → r ≤ 0) ∧ (low = true → p = -1) ∧ (up = true → p < 0 → q < 0 → low = true))
    clear hAB hAA htr hlow hbet
    rcases hrng with rfl | rfl | rfl
    · have hne : (a.toList == b.toList) = false := by
        have : a ≠ b := fun e => by have := HF.out.2.1 e; omega
        simp
        exact fun e => this (bl_inj e)
      have hne' : ¬ a.toList = b.toList := fun e => by
        have := HF.out.2.1 (bl_inj e); omega
      rcases (show q < 0 ∨ q = 0 ∨ 0 < q by omega) with hq | hq | hq
      · have hq1 : q ≤ 0 := by omega
        have hr : ¬ 0 < r := by have := HF.out.2.2.1 (by decide) hq1; omega
        cases low with
        | true =>
          cases up
          all_goals go_wp2_with (first | (go_at_call 14; with_reducible refine Calls.mono (HU.out _) ?_; rintro e w5 ⟨rfl, hb5⟩) | (go_at_call 14; with_reducible refine Calls.mono (HL.out _) ?_; rintro e w6 ⟨rfl, hb6⟩) | (go_at_call 10; refine (HAW.out _).mono ?_; rintro e w7 ⟨rfl, hb7⟩))
          all_goals go_ret
          all_goals exact ⟨rfl, below_tr HB4.out (below_le (below_tr hb5 (below_le (below_tr hb6 (below_le hb7 hb6.size)) hb5.size)) HB4.out.size)⟩
        | false =>
          cases up with
          | true => have := HF.out.2.2.2.2 rfl (by decide) hq; cases this
          | false =>
            skip
            all_goals go_wp2_with (first | (go_at_call 14; with_reducible refine Calls.mono (HU.out _) ?_; rintro e w5 ⟨rfl, hb5⟩) | (go_at_call 14; with_reducible refine Calls.mono (HL.out _) ?_; rintro e w6 ⟨rfl, hb6⟩) | (go_at_call 10; refine (HAW.out _).mono ?_; rintro e w7 ⟨rfl, hb7⟩))
            all_goals go_ret
            all_goals exact ⟨rfl, below_tr HB4.out (below_le (below_tr hb5 (below_le (below_tr hb6 (below_le hb7 hb6.size)) hb5.size)) HB4.out.size)⟩
      · subst hq
        have hr : ¬ 0 < r := by have := HF.out.2.2.1 (by decide) (by decide); omega
        cases low <;> cases up
        all_goals go_wp2_with (first | (go_at_call 14; with_reducible refine Calls.mono (HU.out _) ?_; rintro e w5 ⟨rfl, hb5⟩) | (go_at_call 14; with_reducible refine Calls.mono (HL.out _) ?_; rintro e w6 ⟨rfl, hb6⟩) | (go_at_call 10; refine (HAW.out _).mono ?_; rintro e w7 ⟨rfl, hb7⟩))
        all_goals go_ret
        all_goals exact ⟨rfl, below_tr HB4.out (below_le (below_tr hb5 (below_le (below_tr hb6 (below_le hb7 hb6.size)) hb5.size)) HB4.out.size)⟩
      · have hq1 : ¬ q ≤ 0 := by omega
        have hq2 : ¬ q < 0 := by omega
        cases low <;> cases up
        all_goals go_wp2_with (first | (go_at_call 14; with_reducible refine Calls.mono (HU.out _) ?_; rintro e w5 ⟨rfl, hb5⟩) | (go_at_call 14; with_reducible refine Calls.mono (HL.out _) ?_; rintro e w6 ⟨rfl, hb6⟩) | (go_at_call 10; refine (HAW.out _).mono ?_; rintro e w7 ⟨rfl, hb7⟩))
        all_goals go_ret
        all_goals exact ⟨rfl, below_tr HB4.out (below_le (below_tr hb5 (below_le (below_tr hb6 (below_le hb7 hb6.size)) hb5.size)) HB4.out.size)⟩
    · have hab : a = b := HF.out.1 rfl
      subst hab
      cases low with
      | true => have := HF.out.2.2.2.1 rfl; omega
      | false =>
        rcases (show q ≤ 0 ∨ 0 < q by omega) with hq | hq
        · have hr : ¬ 0 < r := by have := HF.out.2.2.1 (by decide) hq; omega
          cases up
          all_goals go_wp2_with (first | (go_at_call 14; with_reducible refine Calls.mono (HU.out _) ?_; rintro e w5 ⟨rfl, hb5⟩) | (go_at_call 14; with_reducible refine Calls.mono (HL.out _) ?_; rintro e w6 ⟨rfl, hb6⟩) | (go_at_call 10; refine (HAW.out _).mono ?_; rintro e w7 ⟨rfl, hb7⟩))
          all_goals go_ret
          all_goals exact ⟨rfl, below_tr HB4.out (below_le (below_tr hb5 (below_le (below_tr hb6 (below_le hb7 hb6.size)) hb5.size)) HB4.out.size)⟩
        · have hq1 : ¬ q ≤ 0 := by omega
          cases up
          all_goals go_wp2_with (first | (go_at_call 14; with_reducible refine Calls.mono (HU.out _) ?_; rintro e w5 ⟨rfl, hb5⟩) | (go_at_call 14; with_reducible refine Calls.mono (HL.out _) ?_; rintro e w6 ⟨rfl, hb6⟩) | (go_at_call 10; refine (HAW.out _).mono ?_; rintro e w7 ⟨rfl, hb7⟩))
          all_goals go_ret
          all_goals exact ⟨rfl, below_tr HB4.out (below_le (below_tr hb5 (below_le (below_tr hb6 (below_le hb7 hb6.size)) hb5.size)) HB4.out.size)⟩
    · have hne : (a.toList == b.toList) = false := by
        have : a ≠ b := fun e => by have := HF.out.2.1 e; omega
        simp
        exact fun e => this (bl_inj e)
      have hne' : ¬ a.toList = b.toList := fun e => by
        have := HF.out.2.1 (bl_inj e); omega
      cases low with
      | true => have := HF.out.2.2.2.1 rfl; omega
      | false =>
        cases up
        all_goals go_wp2_with (first | (go_at_call 14; with_reducible refine Calls.mono (HU.out _) ?_; rintro e w5 ⟨rfl, hb5⟩) | (go_at_call 14; with_reducible refine Calls.mono (HL.out _) ?_; rintro e w6 ⟨rfl, hb6⟩) | (go_at_call 10; refine (HAW.out _).mono ?_; rintro e w7 ⟨rfl, hb7⟩))
        all_goals go_ret
        all_goals exact ⟨rfl, below_tr HB4.out (below_le (below_tr hb5 (below_le (below_tr hb6 (below_le hb7 hb6.size)) hb5.size)) HB4.out.size)⟩
  · have HOK := hid hall
    clear hall HU HL
    generalize cmP (bl a) (bl b) = p
    generalize cmP (bl b) (bl c) = q
    generalize cmP (bl a) (bl c) = r
    generalize cmP (bl b) (bl a) = back
    cases oa : okP (bl a) with
    | false =>
      have HA := hid (HCK.out.1 45 (by unfold chN; rw [oa]; rfl))
      rw [pN_bad (Or.inl oa)]
      clear oa HCK
      generalize pN (bl b) (bl c) = n1
      generalize pN (bl a) (bl c) = n2
      generalize pN (bl b) (bl a) = n3
      go_wp2_with (first | (go_at_call 12; with_reducible refine Calls.mono (HA.out _) ?_; rintro e w' ⟨rfl, m1, rfl⟩) | (go_at_call 10; refine (HAW.out _).mono ?_; rintro e w7 ⟨rfl, hb7⟩))
      go_ret
      exact ⟨rfl, below_dd HB4.out hb7 HB4.out.size⟩
    | true =>
      have HA := hid (HCK.out.1 0 (by unfold chN; rw [oa]; rfl))
      cases ob : okP (bl b) with
      | false =>
        have HBC := hid (HCK.out.2.1 45 (by unfold chN; rw [ob]; rfl))
        rw [pN_bad (a := bl a) (b := bl b) (Or.inr ob)]
        clear oa ob HCK
        generalize pN (bl b) (bl c) = n1
        generalize pN (bl a) (bl c) = n2
        generalize pN (bl b) (bl a) = n3
        go_wp2_with (first | (go_at_call 12; with_reducible refine Calls.mono (HA.out _) ?_; rintro e w' ⟨rfl, m1, rfl⟩) | (go_at_call 12; with_reducible refine Calls.mono (HBC.out _) ?_; rintro e w' ⟨rfl, m2, rfl⟩) | (go_at_call 10; refine (HAW.out _).mono ?_; rintro e w7 ⟨rfl, hb7⟩))
        go_ret
        exact ⟨rfl, below_tr HB4.out ⟨hb7.os, hb7.tape, hb7.output, hb7.size, fun k hk => hb7.block k (Nat.lt_of_lt_of_le hk HB4.out.size)⟩⟩
      | true =>
        cases oc : okP (bl c) with
        | true => exact absurd ⟨oa, ob, oc⟩ HOK.out
        | false =>
          have HBC := hid (HCK.out.2.1 0 (by unfold chN; rw [ob]; rfl))
          have HCC := hid (HCK.out.2.2 45 (by unfold chN; rw [oc]; rfl))
          rw [pN_ok oa ob, pN_bad (a := bl b) (b := bl c) (Or.inr oc), pN_bad (a := bl a) (b := bl c) (Or.inr oc), pN_ok ob oa]
          clear oa ob oc HCK
          go_wp2_with (first | (go_at_call 12; with_reducible refine Calls.mono (HA.out _) ?_; rintro e w' ⟨rfl, m1, rfl⟩) | (go_at_call 12; with_reducible refine Calls.mono (HBC.out _) ?_; rintro e w' ⟨rfl, m2, rfl⟩) | (go_at_call 12; with_reducible refine Calls.mono (HCC.out _) ?_; rintro e w' ⟨rfl, m3, rfl⟩) | (go_at_call 10; refine (HAW.out _).mono ?_; rintro e w7 ⟨rfl, hb7⟩))
          go_ret
          exact ⟨rfl, below_tr HB4.out ⟨hb7.os, hb7.tape, hb7.output, hb7.size, fun k hk => hb7.block k (Nat.lt_of_lt_of_le hk HB4.out.size)⟩⟩

end Go.Proofs.YtoehopigjmmagabDoor
