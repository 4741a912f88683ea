/- ShaApart answers true. -/
import Derived.Test.YticmdmnjajjpbabDoorSLawTg
import Derived.Test.YticmdmnjajjpbabDoorSLawCuts
import Derived.Test.YticmdmnjajjpbabDoorSAlike
import Derived.Test.YticmdmnjajjpbabDoorSApartP
namespace Go.Proofs.YticmdmnjajjpbabDoor
open Go.RowKit

set_option maxRecDepth 100000 in
set_option maxHeartbeats 1000000 in
theorem begins_any (va vb : Value) (bs cs : List UInt8) (w : World) (ha : Src w va bs) (hb : Src w vb cs) :
    Calls Tryd.prog 29 #[va, vb] w fun e w' => e = .returned (.bool (decide (bs.take cs.length = cs))) ∧ ∃ k, w' = w.drewN k := by
  obtain ⟨aa, ca, rfl⟩ := src_shape ha
  obtain ⟨ab, cb, rfl⟩ := src_shape hb
  have hl := ha.1
  have hm := hb.1
  by_cases h : cs.length ≤ bs.length
  · obtain ⟨vx, hx, hcut⟩ := cut_begin ha cs.length h
    obtain ⟨T, HTT⟩ : ∃ T, Hid (bs.take cs.length = T) := ⟨_, rfl⟩
    rw [HTT.out] at hx
    have HAL := hid (alike_any vx _ _ cs w hx hb)
    obtain ⟨ax, cx, rfl⟩ := src_shape hx
    have q1 : (cs.length : Int) ≤ (bs.length : Int) := by omega
    have q2 : (bs.length : Int) ≥ (cs.length : Int) := by omega
    clear ha hb hx h
    rw [HTT.out]
    generalize decide (T = cs) = B at *
    go_enter Tryd.func29, Tryd.ntmps29
    go_wp2_with (first | (go_at_call 28; refine HAL.out.mono ?_; rintro e w' ⟨rfl, k, rfl⟩))
    go_ret
    exact ⟨rfl, _, rfl⟩
  · have HF := hid (show (false : Bool) = decide (bs.take cs.length = cs) from (decide_eq_false (fun e => by
      have := congrArg List.length e
      rw [List.length_take] at this
      omega)).symm)
    have q1 : ¬ (cs.length : Int) ≤ (bs.length : Int) := by omega
    have q2 : ¬ (bs.length : Int) ≥ (cs.length : Int) := by omega
    clear ha hb h
    go_enter Tryd.func29, Tryd.ntmps29
    go_wp2
    go_ret
    exact ⟨ret_b HF.out, 0, rfl⟩

theorem short_of {pss : List (List UInt8)} (h : (fl pss).length ≤ 1048576) : Short pss := by
  intro p hp
  obtain ⟨j, hj, rfl⟩ := List.mem_iff_getElem.1 hp
  have := fl_each pss j hj
  simp [List.getD_eq_getElem?_getD, hj] at this
  omega

set_option maxRecDepth 100000 in
set_option maxHeartbeats 4000000 in
theorem apart_any (X Y : Nat → Prop) (w : World) (s t : ByteArray) (ao bo : Option Addr) (n m c d : Nat) (pss qss : List (List UInt8)) (hT : Tabs w) (hs : s.size ≤ 1048576) (ht : t.size ≤ 1048576)
    (hv : Lists X w (.slice ao n c) pss) (hu : Lists Y w (.slice bo m d) qss) (hn : pss.length ≤ 1048576) (hm : qss.length ≤ 1048576) (hN : (fl pss).length ≤ 1048576) (hM : (fl qss).length ≤ 1048576) :
    Calls Tryd.prog 6 #[.agg #[.string s, .slice ao n c], .agg #[.string t, .slice bo m d]] w fun e w' => e = .returned (.bool true) ∧ Below w.heap.size w w' := by
  have HT := hid hT
  obtain ⟨l, HL⟩ : ∃ l, Hid (s.data.toList = l) := ⟨_, rfl⟩
  obtain ⟨k, HK⟩ : ∃ l, Hid (t.data.toList = l) := ⟨_, rfl⟩
  have HSS := hid hs
  have HTS := hid ht
  have HNN := hid hN
  have HN1 := hid hn
  have HMM := hid hM
  have HM1 := hid hm
  have HB0 := hid (below_walk2 w (.cells #[.string s, .slice ao n c] 62) (.cells #[.string t, .slice bo m d] 62))
  have H2 := hid (hp_two' w (.cells #[.string s, .slice ao n c] 62) (.cells #[.string t, .slice bo m d] 62))
  have HV0 := hid (hv.below HB0.out)
  have HU0 := hid (hu.below HB0.out)
  obtain ⟨a1, c1, hv1⟩ := lists_shape hv
  obtain ⟨rfl, rfl, rfl⟩ : ao = a1 ∧ n = pss.length ∧ c = c1 := by injection hv1 with h1 h2 h3; exact ⟨h1, h2, h3⟩
  obtain ⟨a2, c2, hu1⟩ := lists_shape hu
  obtain ⟨rfl, rfl, rfl⟩ : bo = a2 ∧ m = qss.length ∧ d = c2 := by injection hu1 with h1 h2 h3; exact ⟨h1, h2, h3⟩
  clear hT hs ht hv hu hn hm hN hM hv1 hu1
  go_enter Tryd.func6, Tryd.ntmps6
  go_upto_region 1 with fail
  generalize (w.alloc (.cells #[.string s, .slice ao pss.length c] 62)).alloc (.cells #[.string t, .slice bo qss.length d] 62) = w0 at HB0 H2 HV0 HU0 ⊢
  have HX0 := hid (⟨H2.out.1⟩ : Nb w0 w.heap.size s (.slice ao pss.length c))
  have HY0 := hid (⟨H2.out.2⟩ : Nb w0 (w.heap.size + 1) t (.slice bo qss.length d))
  clear H2
  have x0 := HX0.out.c0
  have x1 := HX0.out.c1
  go_wp2_with fail
  refine (pre_any X w0 s l _ pss HL.out HV0.out HN1.out HNN.out).mono ?_
  rintro e w1 ⟨v1, rfl, ha1, hb1⟩
  have HA1 := hid ha1.src
  have HB1 := hid (HB0.out.trans (hb1.mono HB0.out.size))
  have HX1 := hid (HX0.out.below hb1)
  have HY1 := hid (HY0.out.below hb1)
  have HV1 := hid (HV0.out.below hb1)
  have HU1 := hid (HU0.out.below hb1)
  clear x0 x1 ha1 hb1 HB0 HX0 HY0 HV0 HU0
  obtain ⟨E1, HE1⟩ : ∃ E, Hid (E = tgE l) := ⟨_, rfl⟩
  rw [← HE1.out]
  obtain ⟨p1, cc1, hv1⟩ := src_shape HA1.out
  subst hv1
  have y0 := HY1.out.c0
  have y1 := HY1.out.c1
  go_wp2_with fail
  refine (pre_any Y w1 t k _ qss HK.out HU1.out HM1.out HMM.out).mono ?_
  rintro e w2 ⟨v2, rfl, ha2, hb2⟩
  have HC2 := hid ha2.src
  have HA2 := hid (HA1.out.below hb2)
  have HB2 := hid (HB1.out.trans (hb2.mono HB1.out.size))
  have HX2 := hid (HX1.out.below hb2)
  have HY2 := hid (HY1.out.below hb2)
  have HV2 := hid (HV1.out.below hb2)
  have HU2 := hid (HU1.out.below hb2)
  clear y0 y1 ha2 hb2 HB1 HX1 HY1 HV1 HU1 HA1
  obtain ⟨E2, HE2⟩ : ∃ E, Hid (E = tgE k) := ⟨_, rfl⟩
  rw [← HE2.out]
  obtain ⟨p2, cc2, hv2⟩ := src_shape HC2.out
  subst hv2
  have x0 := HX2.out.c0
  have x1 := HX2.out.c1
  have y0 := HY2.out.c0
  have y1 := HY2.out.c1
  have HAQ := hid (fun q : Nat => (awake_any (w2.drewN q) (HT.out.below (show Below w.heap.size w (w2.drewN q) from ⟨HB2.out.os, HB2.out.tape, HB2.out.output, HB2.out.size, HB2.out.block⟩))).mono (fun e w5 h => (⟨h.1, HB2.out.trans ((⟨h.2.os, h.2.tape, h.2.output, h.2.size, h.2.block⟩ : Below w2.heap.size w2 w5).mono HB2.out.size)⟩ : e = .returned (.bool true) ∧ Below w.heap.size w w5)))
  have HA0 := hid ((awake_any w2 (HT.out.below HB2.out)).mono (fun e w5 h => (⟨h.1, HB2.out.trans (h.2.mono HB2.out.size)⟩ : e = .returned (.bool true) ∧ Below w.heap.size w w5)))
  have HG1 := hid (fun W => rtag_any W s l HL.out HSS.out)
  have HG2 := hid (fun W => rtag_any W t k HK.out HTS.out)
  by_cases hts : tagP l = true ∧ tagP k = true
  · obtain ⟨ht1, ht2⟩ := hts
    have HJ := hid (preP_inj ht1 ht2 (short_of HNN.out) (short_of HMM.out))
    have HP1 := hid (show preA l pss = preP l pss by unfold preA; rw [ht1]; rfl)
    have HP2 := hid (show preA k qss = preP k qss by unfold preA; rw [ht2]; rfl)
    obtain rfl : E1 = 0 := by rw [HE1.out]; unfold tgE; rw [ht1]; rfl
    obtain rfl : E2 = 0 := by rw [HE2.out]; unfold tgE; rw [ht2]; rfl
    rw [HP1.out] at HA2 ⊢
    rw [HP2.out] at HC2 ⊢
    clear ht1 ht2 HE1 HE2 HP1 HP2 HG1 HG2
    have HFR : Hid (∀ (l : List UInt8) (pss qss : List (List UInt8)), pss.length = qss.length → pss ≠ qss → (fl pss).length ≤ 1048576 → (fl qss).length ≤ 1048576 → decide ((preP l qss).take (preP l pss).length = preP l pss) = false) := fun l pss qss h1 h2 h3 h4 => decide_eq_false (preP_free (short_of h3) (short_of h4) h1 h2)
    by_cases hlk : l = k
    · have hst : s = t := Go.WideShapes.bytes_inj (by rw [HL.out, HK.out, hlk])
      subst hst
      subst hlk
      have HJ2 := hid (HJ.out.trans (decide_eq_decide.2 ⟨fun h => h.2, fun h => ⟨rfl, h⟩⟩ : decide (l = l ∧ pss = qss) = decide (pss = qss)))
      have HAL := hid (fun q => alike_any _ _ _ _ (w2.drewN q) (show Src (w2.drewN q) _ _ from HA2.out) (show Src (w2.drewN q) _ _ from HC2.out))
      have HSP := hid (same_parts_any X Y w2 _ _ pss qss HV2.out HU2.out HN1.out HM1.out)
      by_cases hpq : pss = qss
      · have HD := hid (decide_eq_true hpq)
        rw [HJ2.out, HD.out] at HAL
        rw [HD.out] at HSP
        clear hpq
        go_wp2_with (first | (go_at_call 27; refine HSP.out.mono ?_; rintro e w' ⟨rfl, q3, rfl⟩) | (go_at_call 28; refine (HAL.out _).mono ?_; rintro e w' ⟨rfl, q4, rfl⟩))
        refine (HAQ.out _).mono ?_
        rintro e w5 ⟨rfl, hb5⟩
        have HB5 := hid hb5
        clear hb5
        go_wp2
        go_ret
        exact ⟨rfl, HB5.out⟩
      · have HD := hid (decide_eq_false hpq)
        rw [HJ2.out, HD.out] at HAL
        rw [HD.out] at HSP
        by_cases hlen : pss.length = qss.length
        · have HBG1 := hid (fun q => begins_any _ _ _ _ (w2.drewN q) (show Src (w2.drewN q) _ _ from HA2.out) (show Src (w2.drewN q) _ _ from HC2.out))
          have HBG2 := hid (fun q => begins_any _ _ _ _ (w2.drewN q) (show Src (w2.drewN q) _ _ from HC2.out) (show Src (w2.drewN q) _ _ from HA2.out))
          rw [HFR.out l qss pss hlen.symm (Ne.symm hpq) HMM.out HNN.out] at HBG1
          rw [HFR.out l pss qss hlen hpq HNN.out HMM.out] at HBG2
          have q1 : ((pss.length : Int) == (qss.length : Int)) = true := by simp; omega
          have q2 : (pss.length : Int) = (qss.length : Int) := by omega
          clear hpq hlen
          go_wp2_with (first | (go_at_call 27; refine HSP.out.mono ?_; rintro e w' ⟨rfl, q3, rfl⟩) | (go_at_call 28; refine (HAL.out _).mono ?_; rintro e w' ⟨rfl, q4, rfl⟩) | (go_at_call 29; with_reducible refine Calls.mono (HBG1.out _) ?_; rintro e w' ⟨rfl, q5, rfl⟩) | (go_at_call 29; with_reducible refine Calls.mono (HBG2.out _) ?_; rintro e w' ⟨rfl, q6, rfl⟩))
          refine (HAQ.out _).mono ?_
          rintro e w5 ⟨rfl, hb5⟩
          have HB5 := hid hb5
          clear hb5
          go_wp2
          go_ret
          exact ⟨rfl, HB5.out⟩
        · have q1 : ((pss.length : Int) == (qss.length : Int)) = false := by simp; omega
          have q2 : ¬ (pss.length : Int) = (qss.length : Int) := by omega
          clear hpq hlen
          go_wp2_with (first | (go_at_call 27; refine HSP.out.mono ?_; rintro e w' ⟨rfl, q3, rfl⟩) | (go_at_call 28; refine (HAL.out _).mono ?_; rintro e w' ⟨rfl, q4, rfl⟩))
          refine (HAQ.out _).mono ?_
          rintro e w5 ⟨rfl, hb5⟩
          have HB5 := hid hb5
          clear hb5
          go_wp2
          go_ret
          exact ⟨rfl, HB5.out⟩
    · have hne : (s.toList == t.toList) = false := by
        rw [ByteArray.toList_eq, ByteArray.toList_eq, HL.out, HK.out]
        simpa using hlk
      have hne' : ¬ s.toList = t.toList := by
        rw [ByteArray.toList_eq, ByteArray.toList_eq, HL.out, HK.out]
        exact hlk
      have HAL := hid (alike_any _ _ _ _ w2 HA2.out HC2.out)
      rw [HJ.out, decide_eq_false (fun h => hlk h.1)] at HAL
      clear hlk
      go_wp2_with (first | (go_at_call 28; refine HAL.out.mono ?_; rintro e w' ⟨rfl, q4, rfl⟩))
      refine (HAQ.out _).mono ?_
      rintro e w5 ⟨rfl, hb5⟩
      have HB5 := hid hb5
      clear hb5
      go_wp2
      go_ret
      exact ⟨rfl, HB5.out⟩
  · clear HA2 HC2
    generalize (preA l pss).length = L1
    generalize (preA k qss).length = L2
    cases ht1 : tagP l with
    | false =>
      obtain rfl : E1 = 22 := by rw [HE1.out]; unfold tgE; rw [ht1]; rfl
      rw [ht1] at HG1
      cases ht2 : tagP k with
      | false =>
        obtain rfl : E2 = 22 := by rw [HE2.out]; unfold tgE; rw [ht2]; rfl
        rw [ht2] at HG2
        clear ht1 ht2 hts HE1 HE2
        go_wp2_with (first | (go_at_call 26; with_reducible refine Calls.mono (HG1.out _) ?_; rintro e w' ⟨rfl, h0⟩; subst w') | (go_at_call 26; with_reducible refine Calls.mono (HG2.out _) ?_; rintro e w' ⟨rfl, h0⟩; subst w'))
        refine HA0.out.mono ?_
        rintro e w5 ⟨rfl, hb5⟩
        have HB5 := hid hb5
        clear hb5
        go_wp2
        go_ret
        exact ⟨rfl, HB5.out⟩
      | true =>
        obtain rfl : E2 = 0 := by rw [HE2.out]; unfold tgE; rw [ht2]; rfl
        rw [ht2] at HG2
        clear ht1 ht2 hts HE1 HE2
        go_wp2_with (first | (go_at_call 26; with_reducible refine Calls.mono (HG1.out _) ?_; rintro e w' ⟨rfl, h0⟩; subst w') | (go_at_call 26; with_reducible refine Calls.mono (HG2.out _) ?_; rintro e w' ⟨rfl, h0⟩; subst w'))
        refine HA0.out.mono ?_
        rintro e w5 ⟨rfl, hb5⟩
        have HB5 := hid hb5
        clear hb5
        go_wp2
        go_ret
        exact ⟨rfl, HB5.out⟩
    | true =>
      have ht2 : tagP k = false := by
        cases h : tagP k with
        | false => rfl
        | true => exact absurd ⟨ht1, h⟩ hts
      obtain rfl : E1 = 0 := by rw [HE1.out]; unfold tgE; rw [ht1]; rfl
      obtain rfl : E2 = 22 := by rw [HE2.out]; unfold tgE; rw [ht2]; rfl
      rw [ht1] at HG1
      rw [ht2] at HG2
      clear ht1 ht2 hts HE1 HE2
      go_wp2_with (first | (go_at_call 26; with_reducible refine Calls.mono (HG1.out _) ?_; rintro e w' ⟨rfl, h0⟩; subst w') | (go_at_call 26; with_reducible refine Calls.mono (HG2.out _) ?_; rintro e w' ⟨rfl, h0⟩; subst w'))
      refine HA0.out.mono ?_
      rintro e w5 ⟨rfl, hb5⟩
      have HB5 := hid hb5
      clear hb5
      go_wp2
      go_ret
      exact ⟨rfl, HB5.out⟩

end Go.Proofs.YticmdmnjajjpbabDoor
