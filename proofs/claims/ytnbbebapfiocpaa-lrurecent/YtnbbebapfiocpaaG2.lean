/- Contracts and pure facts that the proof needs, joined. -/
import Derived.Test.YtnbbebapfiocpaaG1

/- LruRecent. -/
namespace Go.Proofs.Ytnbbebapfiocpaa
open Go.RowKit

theorem lookP_kok {k : Int} (h : (Lit.int .i64 k).wf = true) : iKok k := h
theorem mem_take_succ (os : List Int) (i : Nat) (hi : i < os.length) (k : Int) : decide (k ∈ os.take (i + 1)) = (decide (k ∈ os.take i) || decide (os.getD i 0 = k)) := by
  rw [List.take_add_one, List.getD_eq_getElem?_getD, List.getElem?_eq_getElem hi]
  simp only [Option.toList_some, Option.getD_some, List.mem_append, List.mem_singleton, Bool.decide_or]
  rw [show decide (k = os[i]) = decide (os[i] = k) from decide_eq_decide.2 ⟨Eq.symm, Eq.symm⟩]

set_option maxRecDepth 100000 in
set_option maxHeartbeats 8000000 in
theorem lawRecent_any (w : World) (p key : Int) (v : Value) (n : Nat) (hkey : (Lit.int .i64 key).wf = true) (hv : Acts w v n) :
    Calls Try.prog 5 #[.int .i64 p, .int .i64 key, v] w fun e w' => e = .returned (.bool true) ∧ Below w.heap.size w w' := by
  have hn := hv.len
  obtain ⟨ao, cv, rfl⟩ := hv.shape
  have HV := hid hv
  have HKEY : Hid (iKok key) := hid hkey
  clear hv hkey
  by_cases hp : p < 1 ∨ 4096 < p
  · have HP := hid hp
    rcases hp with hp | hp
    all_goals
      try have hp2 : ¬ p < 1 := by omega
      go_enter Try.func5, Try.ntmps5
      go_wp2_with fail
      refine (inew_bad w p HP.out).mono ?_
      rintro e w1 ⟨rfl, hw1⟩
      subst hw1
      go_wp2_with fail
      refine (alive_any _).mono ?_
      rintro e w2 ⟨rfl, hb2⟩
      go_wp2
      go_ret
      exact ⟨rfl, hb2⟩
  obtain ⟨most, rfl⟩ : ∃ M : Nat, p = (M : Int) := ⟨p.toNat, by omega⟩
  have m1 : 1 ≤ most := by omega
  have m2 : most ≤ 4096 := by omega
  clear hp
  go_enter Try.func5, Try.ntmps5
  go_wp2_with fail
  refine (inew_mo w most m1 m2).mono ?_
  rintro e w1 ⟨bm, F1, rfl, q1, b1⟩
  have HQ1 := hid q1
  have HB1 := hid b1
  clear q1 b1
  go_wp2
  go_loopw [43] (fun vi wr => ∃ (j : Nat) (L : List (Int × Int)) (F : List Nat) (h mi g : Int), j ≤ n ∧ vi = .int .i64 j ∧ Hid (iMo wr w.heap.size bm most L h mi g F) ∧ Hid (Below w.heap.size w wr)) (fun vi _ => n - (intOf vi).toNat)
  case atStart => exact ⟨0, [], F1, 0, 0, 0, by omega, rfl, HQ1, HB1⟩
  case round =>
    clear HQ1 HB1
    obtain ⟨j, L, F, h0, mi0, g0, hj, rfl, HQ, HB⟩ := hrel
    by_cases hlt : j < n
    · obtain ⟨g, o, rfl, d, k, x, vp, ks, hrg, hps, hk1, hk2, hv1⟩ := HV.out.at j hlt
      have HRG := hid (hrg _ HB.out)
      have HK1 := hid hk1
      obtain ⟨z, s⟩ := zero_of_info (P := Try.prog) (t := 37) (v := .agg #[.int .i64 0, .int .i64 0, .int .i64 0, .slice none 0 0]) (n := 4) (by kernel_rfl)
      have HS := hid s
      have HV1 := hid hv1
      clear hrg hps s hv1 hk1 hk2
      go_upto_region 7 with (first
        | (refine wpList_load_mid rfl 37 (.tmp 45) rfl g (o + j * 4) rfl [.int .i64 d, .int .i64 k, .int .i64 x, vp] _ HRG.out Try.underlying37 rfl HS.out ?_)
        | (refine al_row rfl 37 rfl _ z ?_; refine st_new rfl 37 (.tmp 10) (.tmp 46) rfl [.int .i64 d, .int .i64 k, .int .i64 x, vp] rfl rfl _ _ HS.out rfl HV1.out ?_))
      try simp only [Act.put, List.setIfInBounds_toArray, List.set_cons_succ, List.set_cons_zero]
      have HB2 := hid (HB.out.alloc HB.out.size (.cells [.int .i64 d, .int .i64 k, .int .i64 x, vp].toArray 37))
      have HQ2 := hid (HQ.out.below (below_walk wr (.cells [.int .i64 d, .int .i64 k, .int .i64 x, vp].toArray 37)))
      have HN2 := hid (hp_new wr (.cells [.int .i64 d, .int .i64 k, .int .i64 x, vp].toArray 37))
      have d0 := row_cell HN2.out 0 (by simp)
      have d1 := row_cell HN2.out 1 (by simp)
      have d2 := row_cell HN2.out 2 (by simp)
      simp only [List.getElem_cons_zero, List.getElem_cons_succ] at d0 d1 d2
      generalize wr.alloc (.cells [.int .i64 d, .int .i64 k, .int .i64 x, vp].toArray 37) = w2 at HB2 HQ2 HN2 d0 d1 d2 ⊢
      generalize wr.heap.size = b2 at HN2 d0 d1 d2 ⊢
      clear z HS HV1 HRG HQ HB
      have HG := hid (iput_mo HQ2.out k HK1.out x)
      go_wp2_with fail
      refine HG.out.mono ?_
      rintro e w3 ⟨rfl, F3, q3, s3⟩
      have HQ3 := hid q3
      have HB3 := hid (HB2.out.trans (HQ2.out.low s3))
      clear q3 s3
      go_wp2
      exact ⟨⟨j + 1, _, F3, _, _, _, hlt, by simp, HQ3, HB3⟩, by simp [intOf]; omega⟩
    · have HG := hid (iput_mo HQ.out key HKEY.out 77)
      go_wp2_with fail
      refine HG.out.mono ?_
      rintro e w3 ⟨rfl, F3, q3, s3⟩
      have HQ3 := hid q3
      have HB3 := hid (HB.out.trans (HQ.out.low s3))
      have HRC := hid (rec_head key [] m1 HQ.out.kd)
      have HPO := hid (put_pos m1 L key 77)
      clear q3 s3 HG HQ HB hj hlt
      go_wp2
      go_loopw [59, 11] (fun vi vo wr => ∃ (j : Nat) (os : List Int) (L : List (Int × Int)) (F : List Nat) (h mi g : Int), j ≤ n ∧ vi = .int .i64 j ∧ Hid (iMo wr w.heap.size bm most L h mi g F) ∧ Hid (Below w.heap.size w wr) ∧ Hid (OwnI wr w.heap.size vo os) ∧ os.length < most ∧ Hid (Rec key os L) ∧ Hid (1 ≤ L.length)) (fun vi _ _ => n - (intOf vi).toNat)
      case atStart => exact ⟨0, [], _, F3, _, _, _, by omega, rfl, HQ3, HB3, OwnI.nil _ _, by simp; omega, HRC, HPO⟩
      case round =>
        clear HQ3 HB3 HRC HPO
        obtain ⟨j, os, L, F, h0, mi0, g0, hj, rfl, HQ, HB, HOS, hol, HRC, HPO⟩ := hrel
        obtain ⟨aos, cos, rfl⟩ := HOS.out.shape
        by_cases hlt : j < n
        · obtain ⟨g, o, rfl, d, k, x, vp, ks, hrg, hps, hk1, hk2, hv1⟩ := HV.out.at j hlt
          have HRG := hid (hrg _ HB.out)
          have HK1 := hid hk1
          obtain ⟨z, s⟩ := zero_of_info (P := Try.prog) (t := 37) (v := .agg #[.int .i64 0, .int .i64 0, .int .i64 0, .slice none 0 0]) (n := 4) (by kernel_rfl)
          have HS := hid s
          have HV1 := hid hv1
          clear hrg hps s hv1 hk1 hk2
          go_upto_region 14 with (first
            | (refine wpList_load_mid rfl 37 (.tmp 61) rfl g (o + j * 4) rfl [.int .i64 d, .int .i64 k, .int .i64 x, vp] _ HRG.out Try.underlying37 rfl HS.out ?_)
            | (refine al_row rfl 37 rfl _ z ?_; refine st_new rfl 37 (.tmp 13) (.tmp 62) rfl [.int .i64 d, .int .i64 k, .int .i64 x, vp] rfl rfl _ _ HS.out rfl HV1.out ?_))
          try simp only [Act.put, List.setIfInBounds_toArray, List.set_cons_succ, List.set_cons_zero]
          have HB2 := hid (HB.out.alloc HB.out.size (.cells [.int .i64 d, .int .i64 k, .int .i64 x, vp].toArray 37))
          have HQ2 := hid (HQ.out.below (below_walk wr (.cells [.int .i64 d, .int .i64 k, .int .i64 x, vp].toArray 37)))
          have HN2 := hid (hp_new wr (.cells [.int .i64 d, .int .i64 k, .int .i64 x, vp].toArray 37))
          have HOS2 := hid (HOS.out.below (below_walk wr (.cells [.int .i64 d, .int .i64 k, .int .i64 x, vp].toArray 37)))
          have d0 := row_cell HN2.out 0 (by simp)
          have d1 := row_cell HN2.out 1 (by simp)
          have d2 := row_cell HN2.out 2 (by simp)
          simp only [List.getElem_cons_zero, List.getElem_cons_succ] at d0 d1 d2
          generalize wr.alloc (.cells [.int .i64 d, .int .i64 k, .int .i64 x, vp].toArray 37) = w2 at HB2 HQ2 HN2 HOS2 d0 d1 d2 ⊢
          generalize wr.heap.size = b2 at HN2 d0 d1 d2 ⊢
          clear z HS HV1 HRG HQ HB HOS
          have HQF := hid (HQ2.out.typ HN2.out (by decide) (by decide))
          by_cases hkk : k = key
          · as_aux_lemma =>
              go_wp2
              exact ⟨⟨j + 1, os, L, F, _, _, _, hlt, by simp, HQ2, HB2, HOS2, hol, HRC, HPO⟩, by simp [intOf]; omega⟩
          · by_cases hpar : d.tmod 2 = 0
            · as_aux_lemma =>
                have HG := hid (iput_mo HQ2.out k HK1.out x)
                go_wp2_with fail
                refine HG.out.mono ?_
                rintro e w5 ⟨rfl, F5, q5, s5⟩
                have HQ5 := hid q5
                have HB5 := hid (HB2.out.trans (HQ2.out.low s5))
                have HOS5 := hid (HOS2.out.fr s5.1 (HQ2.out.own HOS2.out))
                have HN5 := hid (s5.1.blk HN2.out HQF.out)
                have HT : Hid (∀ os' : List Int, (∀ y ∈ os, y ∈ os') → k ∈ os' → os'.length < most → Rec key os' (putP most L k x)) := hid (fun os' h1 h2 h3 => HRC.out.put x hkk h1 h2 h3)
                have HPO5 := hid (put_pos m1 L k x)
                generalize putP most L k x = L5 at HQ5 HT HPO5
                clear q5 s5 HG HQ2 HB2 HOS2 HN2 HRC HPO d0 d1 d2 HQF
                have d1 := row_cell HN5.out 1 (by simp)
                simp only [List.getElem_cons_zero, List.getElem_cons_succ] at d1
                go_wp2
                go_loopw [88, 16] (fun vi vk wr => ∃ i : Nat, i ≤ os.length ∧ vi = .int .i64 i ∧ vk = .bool (decide (k ∈ os.take i)) ∧ wr = w5) (fun vi _ _ => os.length - (intOf vi).toNat)
                case atStart => exact ⟨0, by omega, rfl, by simp, rfl⟩
                case round =>
                  obtain ⟨i, hi, rfl, rfl, hwr⟩ := hrel
                  subst hwr
                  by_cases hilt : i < os.length
                  · obtain ⟨go, rfl, hi2, hc⟩ := HOS5.out.at i hilt
                    have HMT := hid (mem_take_succ os i hilt k)
                    generalize os.getD i 0 = y at hc HMT
                    obtain ⟨K, HKB⟩ : ∃ K, Hid (decide (k ∈ os.take i) = K) := ⟨_, rfl⟩
                    rw [HKB.out] at HMT ⊢
                    cases K with
                    | true =>
                      go_wp2
                      exact ⟨⟨i + 1, hilt, by simp, by rw [HMT.out]; rfl, by first | rfl | trivial⟩, by simp [intOf]; omega⟩
                    | false =>
                      by_cases hy : y = k
                      · go_wp2
                        exact ⟨⟨i + 1, hilt, by simp, by rw [HMT.out]; simp [hy], by first | rfl | trivial⟩, by simp [intOf]; omega⟩
                      · go_wp2
                        exact ⟨⟨i + 1, hilt, by simp, by rw [HMT.out]; simp [hy], by first | rfl | trivial⟩, by simp [intOf]; omega⟩
                  · have hie : i = os.length := by omega
                    subst hie
                    rw [List.take_length]
                    by_cases hmem : k ∈ os
                    · have hdm : decide (k ∈ os) = true := decide_eq_true hmem
                      rw [hdm]
                      obtain ⟨os6, HO6⟩ : ∃ os6, Hid (os6 = os) := ⟨_, rfl⟩
                      have HQ6 := HQ5
                      have HB6 := HB5
                      have HOS6 := HOS5
                      rw [← HO6.out] at HOS6 hol ⊢
                      have HSUB : Hid (∀ y ∈ os, y ∈ os6) := by rw [HO6.out]; exact hid (fun _ h => h)
                      have HMEM : Hid (k ∈ os6) := by rw [HO6.out]; exact hid hmem
                      clear hmem hdm
                      have HLK := hid (ilook_mo HQ6.out key HKEY.out)
                      have hl6 : os6.length < most := hol
                      have hlk6 : lookP L5 key = some 77 := (HT.out os6 HSUB.out HMEM.out hl6).look
                      rw [hlk6] at HLK
                      have HRC6 := hid (HT.out os6 HSUB.out HMEM.out hl6)
                      clear hlk6
                      go_wp2_with fail
                      refine HLK.out.mono ?_
                      rintro e w7 ⟨rfl, b7⟩
                      have HQ7 := hid (HQ6.out.below b7)
                      have HB7 := hid (HB6.out.trans (b7.mono HB6.out.size))
                      have HOS7 := hid (HOS6.out.below b7)
                      have HL := hid (ilen_mo HQ7.out)
                      obtain ⟨len, HLN⟩ : ∃ len, Hid (L5.length = len) := ⟨_, rfl⟩
                      rw [HLN.out] at HL
                      have hl2 : len ≤ most := by rw [← HLN.out]; exact HQ7.out.le
                      clear b7 HLK
                      simp only [Option.isSome_some, Option.getD_some]
                      go_wp2_with fail
                      refine HL.out.mono ?_
                      rintro e w8 ⟨rfl, hw8⟩
                      subst hw8
                      go_wp2
                      exact ⟨⟨j + 1, os6, L5, _, _, _, _, hlt, by simp, HQ7, HB7, HOS7, hl6, HRC6, HPO5⟩, by simp [intOf]; omega⟩
                    · have hdm : decide (k ∈ os) = false := decide_eq_false hmem
                      rw [hdm]
                      have HNW := hid (below_walk wr (.cells #[.int .i64 k] 3))
                      have HQA := hid (HQ5.out.below HNW.out)
                      have HBA := hid (HB5.out.trans (HNW.out.mono HB5.out.size))
                      have HOSA := hid (HOS5.out.below HNW.out)
                      have hca : (wr.alloc (.cells #[.int .i64 k] 3)).cell? ⟨wr.heap.size, 0, none⟩ = some (.int .i64 k) := by
                        unfold World.cell?; rw [hp_new]; rfl
                      have HCA := hid hca
                      clear hmem hdm hca
                      go_wp2_with (first | (at_builtin; refine app_one (by rfl) _ _ rfl w.heap.size _ os rfl HOSA.out wr.heap.size k rfl HCA.out (by omega) HBA.out.size ?_; intro v6 w6 ho6 hg6))
                      obtain ⟨os6, HO6⟩ : ∃ os6, Hid (os ++ [k] = os6) := ⟨_, rfl⟩
                      rw [HO6.out] at ho6
                      obtain ⟨a6, c6, rfl⟩ := ho6.shape
                      have hol6 : os6.length ≤ most := by rw [← HO6.out]; simp; omega
                      have HQ6 := hid (HQA.out.fr (fr_own hg6) (own_far (HQA.out.own HOSA.out)))
                      have HB6 := hid (HBA.out.trans ((fr_own hg6).below HBA.out.size (own_low HOSA.out)))
                      have HOS6 := hid ho6
                      have HSUB : Hid (∀ y ∈ os, y ∈ os6) := by rw [← HO6.out]; exact hid (fun _ h => by simp [h])
                      have HMEM : Hid (k ∈ os6) := by rw [← HO6.out]; exact hid (by simp)
                      clear ho6 hg6 HQA HOSA HCA HNW
                      have HLK := hid (ilook_mo HQ6.out key HKEY.out)
                      by_cases hl6 : os6.length < most
                      · have hlk6 : lookP L5 key = some 77 := (HT.out os6 HSUB.out HMEM.out hl6).look
                        rw [hlk6] at HLK
                        have HRC6 := hid (HT.out os6 HSUB.out HMEM.out hl6)
                        clear hlk6
                        go_wp2_with fail
                        refine HLK.out.mono ?_
                        rintro e w7 ⟨rfl, b7⟩
                        have HQ7 := hid (HQ6.out.below b7)
                        have HB7 := hid (HB6.out.trans (b7.mono HB6.out.size))
                        have HOS7 := hid (HOS6.out.below b7)
                        have HL := hid (ilen_mo HQ7.out)
                        obtain ⟨len, HLN⟩ : ∃ len, Hid (L5.length = len) := ⟨_, rfl⟩
                        rw [HLN.out] at HL
                        have hl2 : len ≤ most := by rw [← HLN.out]; exact HQ7.out.le
                        clear b7 HLK
                        simp only [Option.isSome_some, Option.getD_some]
                        go_wp2_with fail
                        refine HL.out.mono ?_
                        rintro e w8 ⟨rfl, hw8⟩
                        subst hw8
                        go_wp2
                        exact ⟨⟨j + 1, os6, L5, _, _, _, _, hlt, by simp, HQ7, HB7, HOS7, hl6, HRC6, HPO5⟩, by simp [intOf]; omega⟩
                      · obtain ⟨o6, HO6⟩ : ∃ o6, Hid (lookP L5 key = o6) := ⟨_, rfl⟩
                        rw [HO6.out] at HLK
                        go_wp2_with fail
                        refine HLK.out.mono ?_
                        rintro e w7 ⟨rfl, b7⟩
                        have HQ := hid (HQ6.out.below b7)
                        have HB := hid (HB6.out.trans (b7.mono HB6.out.size))
                        have HL := hid (ilen_mo HQ.out)
                        obtain ⟨len, HLN⟩ : ∃ len, Hid (L5.length = len) := ⟨_, rfl⟩
                        rw [HLN.out] at HL
                        have hl1 : 1 ≤ len := by rw [← HLN.out]; exact HPO5.out
                        have hl2 : len ≤ most := by rw [← HLN.out]; exact HQ.out.le
                        clear b7 HLK
                        go_wp2_with fail
                        refine HL.out.mono ?_
                        rintro e w8 ⟨rfl, hw8⟩
                        subst hw8
                        go_wp2_with fail
                        refine HL.out.mono ?_
                        rintro e w4 ⟨rfl, hw4⟩
                        subst hw4
                        go_wp2_with fail
                        refine HL.out.mono ?_
                        rintro e w5 ⟨rfl, hw5⟩
                        subst hw5
                        go_wp2_with fail
                        refine (alive_any _).mono ?_
                        rintro e w6 ⟨rfl, b6⟩
                        have HB6 := hid (HB.out.trans (b6.mono HB.out.size))
                        clear b6
                        go_wp2
                        go_ret
                        exact ⟨rfl, HB6.out⟩
            · as_aux_lemma =>
                have HG := hid (iget_mo HQ2.out k HK1.out)
                cases hlk : lookP L k with
                | none =>
                  rw [hlk] at HG
                  go_wp2_with fail
                  refine HG.out.mono ?_
                  rintro e w5 ⟨rfl, F5, q5, s5⟩
                  have HQ5 := hid q5
                  have HB5 := hid (HB2.out.trans (HQ2.out.low s5))
                  have HOS5 := hid (HOS2.out.fr s5.1 (HQ2.out.own HOS2.out))
                  have HRC5 : Hid (Rec key os (getP L k)) := by
                    have : getP L k = L := by unfold getP; rw [findP_not hlk]
                    rw [this]; exact HRC
                  have HPO5 := hid (get_pos HPO.out k)
                  clear q5 s5 HG HQ2 HB2 HOS2 HN2 HRC HPO d0 d1 d2 HQF hlk
                  simp only [Option.isSome_none, Option.getD_none]
                  go_wp2
                  exact ⟨⟨j + 1, os, _, F5, _, _, _, hlt, by simp, HQ5, HB5, HOS5, hol, HRC5, HPO5⟩, by simp [intOf]; omega⟩
                | some y =>
                  rw [hlk] at HG
                  go_wp2_with fail
                  refine HG.out.mono ?_
                  rintro e w5 ⟨rfl, F5, q5, s5⟩
                  have HQ5 := hid q5
                  have HB5 := hid (HB2.out.trans (HQ2.out.low s5))
                  have HOS5 := hid (HOS2.out.fr s5.1 (HQ2.out.own HOS2.out))
                  have HN5 := hid (s5.1.blk HN2.out HQF.out)
                  have HT : Hid (∀ os' : List Int, (∀ y ∈ os, y ∈ os') → k ∈ os' → os'.length < most → Rec key os' (getP L k)) := hid (fun os' h1 h2 _ => HRC.out.get hkk h1 h2 hlk)
                  have HPO5 := hid (get_pos HPO.out k)
                  generalize getP L k = L5 at HQ5 HT HPO5
                  clear q5 s5 HG HQ2 HB2 HOS2 HN2 HRC HPO d0 d1 d2 HQF hlk
                  simp only [Option.isSome_some, Option.getD_some]
                  have d1 := row_cell HN5.out 1 (by simp)
                  simp only [List.getElem_cons_zero, List.getElem_cons_succ] at d1
                  go_wp2
                  go_loopw [88, 16] (fun vi vk wr => ∃ i : Nat, i ≤ os.length ∧ vi = .int .i64 i ∧ vk = .bool (decide (k ∈ os.take i)) ∧ wr = w5) (fun vi _ _ => os.length - (intOf vi).toNat)
                  case atStart => exact ⟨0, by omega, rfl, by simp, rfl⟩
                  case round =>
                    obtain ⟨i, hi, rfl, rfl, hwr⟩ := hrel
                    subst hwr
                    by_cases hilt : i < os.length
                    · obtain ⟨go, rfl, hi2, hc⟩ := HOS5.out.at i hilt
                      have HMT := hid (mem_take_succ os i hilt k)
                      generalize os.getD i 0 = y at hc HMT
                      obtain ⟨K, HKB⟩ : ∃ K, Hid (decide (k ∈ os.take i) = K) := ⟨_, rfl⟩
                      rw [HKB.out] at HMT ⊢
                      cases K with
                      | true =>
                        go_wp2
                        exact ⟨⟨i + 1, hilt, by simp, by rw [HMT.out]; rfl, by first | rfl | trivial⟩, by simp [intOf]; omega⟩
                      | false =>
                        by_cases hy : y = k
                        · go_wp2
                          exact ⟨⟨i + 1, hilt, by simp, by rw [HMT.out]; simp [hy], by first | rfl | trivial⟩, by simp [intOf]; omega⟩
                        · go_wp2
                          exact ⟨⟨i + 1, hilt, by simp, by rw [HMT.out]; simp [hy], by first | rfl | trivial⟩, by simp [intOf]; omega⟩
                    · have hie : i = os.length := by omega
                      subst hie
                      rw [List.take_length]
                      by_cases hmem : k ∈ os
                      · have hdm : decide (k ∈ os) = true := decide_eq_true hmem
                        rw [hdm]
                        obtain ⟨os6, HO6⟩ : ∃ os6, Hid (os6 = os) := ⟨_, rfl⟩
                        have HQ6 := HQ5
                        have HB6 := HB5
                        have HOS6 := HOS5
                        rw [← HO6.out] at HOS6 hol ⊢
                        have HSUB : Hid (∀ y ∈ os, y ∈ os6) := by rw [HO6.out]; exact hid (fun _ h => h)
                        have HMEM : Hid (k ∈ os6) := by rw [HO6.out]; exact hid hmem
                        clear hmem hdm
                        have HLK := hid (ilook_mo HQ6.out key HKEY.out)
                        have hl6 : os6.length < most := hol
                        have hlk6 : lookP L5 key = some 77 := (HT.out os6 HSUB.out HMEM.out hl6).look
                        rw [hlk6] at HLK
                        have HRC6 := hid (HT.out os6 HSUB.out HMEM.out hl6)
                        clear hlk6
                        go_wp2_with fail
                        refine HLK.out.mono ?_
                        rintro e w7 ⟨rfl, b7⟩
                        have HQ7 := hid (HQ6.out.below b7)
                        have HB7 := hid (HB6.out.trans (b7.mono HB6.out.size))
                        have HOS7 := hid (HOS6.out.below b7)
                        have HL := hid (ilen_mo HQ7.out)
                        obtain ⟨len, HLN⟩ : ∃ len, Hid (L5.length = len) := ⟨_, rfl⟩
                        rw [HLN.out] at HL
                        have hl2 : len ≤ most := by rw [← HLN.out]; exact HQ7.out.le
                        clear b7 HLK
                        simp only [Option.isSome_some, Option.getD_some]
                        go_wp2_with fail
                        refine HL.out.mono ?_
                        rintro e w8 ⟨rfl, hw8⟩
                        subst hw8
                        go_wp2
                        exact ⟨⟨j + 1, os6, L5, _, _, _, _, hlt, by simp, HQ7, HB7, HOS7, hl6, HRC6, HPO5⟩, by simp [intOf]; omega⟩
                      · have hdm : decide (k ∈ os) = false := decide_eq_false hmem
                        rw [hdm]
                        have HNW := hid (below_walk wr (.cells #[.int .i64 k] 3))
                        have HQA := hid (HQ5.out.below HNW.out)
                        have HBA := hid (HB5.out.trans (HNW.out.mono HB5.out.size))
                        have HOSA := hid (HOS5.out.below HNW.out)
                        have hca : (wr.alloc (.cells #[.int .i64 k] 3)).cell? ⟨wr.heap.size, 0, none⟩ = some (.int .i64 k) := by
                          unfold World.cell?; rw [hp_new]; rfl
                        have HCA := hid hca
                        clear hmem hdm hca
                        go_wp2_with (first | (at_builtin; refine app_one (by rfl) _ _ rfl w.heap.size _ os rfl HOSA.out wr.heap.size k rfl HCA.out (by omega) HBA.out.size ?_; intro v6 w6 ho6 hg6))
                        obtain ⟨os6, HO6⟩ : ∃ os6, Hid (os ++ [k] = os6) := ⟨_, rfl⟩
                        rw [HO6.out] at ho6
                        obtain ⟨a6, c6, rfl⟩ := ho6.shape
                        have hol6 : os6.length ≤ most := by rw [← HO6.out]; simp; omega
                        have HQ6 := hid (HQA.out.fr (fr_own hg6) (own_far (HQA.out.own HOSA.out)))
                        have HB6 := hid (HBA.out.trans ((fr_own hg6).below HBA.out.size (own_low HOSA.out)))
                        have HOS6 := hid ho6
                        have HSUB : Hid (∀ y ∈ os, y ∈ os6) := by rw [← HO6.out]; exact hid (fun _ h => by simp [h])
                        have HMEM : Hid (k ∈ os6) := by rw [← HO6.out]; exact hid (by simp)
                        clear ho6 hg6 HQA HOSA HCA HNW
                        have HLK := hid (ilook_mo HQ6.out key HKEY.out)
                        by_cases hl6 : os6.length < most
                        · have hlk6 : lookP L5 key = some 77 := (HT.out os6 HSUB.out HMEM.out hl6).look
                          rw [hlk6] at HLK
                          have HRC6 := hid (HT.out os6 HSUB.out HMEM.out hl6)
                          clear hlk6
                          go_wp2_with fail
                          refine HLK.out.mono ?_
                          rintro e w7 ⟨rfl, b7⟩
                          have HQ7 := hid (HQ6.out.below b7)
                          have HB7 := hid (HB6.out.trans (b7.mono HB6.out.size))
                          have HOS7 := hid (HOS6.out.below b7)
                          have HL := hid (ilen_mo HQ7.out)
                          obtain ⟨len, HLN⟩ : ∃ len, Hid (L5.length = len) := ⟨_, rfl⟩
                          rw [HLN.out] at HL
                          have hl2 : len ≤ most := by rw [← HLN.out]; exact HQ7.out.le
                          clear b7 HLK
                          simp only [Option.isSome_some, Option.getD_some]
                          go_wp2_with fail
                          refine HL.out.mono ?_
                          rintro e w8 ⟨rfl, hw8⟩
                          subst hw8
                          go_wp2
                          exact ⟨⟨j + 1, os6, L5, _, _, _, _, hlt, by simp, HQ7, HB7, HOS7, hl6, HRC6, HPO5⟩, by simp [intOf]; omega⟩
                        · obtain ⟨o6, HO6⟩ : ∃ o6, Hid (lookP L5 key = o6) := ⟨_, rfl⟩
                          rw [HO6.out] at HLK
                          go_wp2_with fail
                          refine HLK.out.mono ?_
                          rintro e w7 ⟨rfl, b7⟩
                          have HQ := hid (HQ6.out.below b7)
                          have HB := hid (HB6.out.trans (b7.mono HB6.out.size))
                          have HL := hid (ilen_mo HQ.out)
                          obtain ⟨len, HLN⟩ : ∃ len, Hid (L5.length = len) := ⟨_, rfl⟩
                          rw [HLN.out] at HL
                          have hl1 : 1 ≤ len := by rw [← HLN.out]; exact HPO5.out
                          have hl2 : len ≤ most := by rw [← HLN.out]; exact HQ.out.le
                          clear b7 HLK
                          go_wp2_with fail
                          refine HL.out.mono ?_
                          rintro e w8 ⟨rfl, hw8⟩
                          subst hw8
                          go_wp2_with fail
                          refine HL.out.mono ?_
                          rintro e w4 ⟨rfl, hw4⟩
                          subst hw4
                          go_wp2_with fail
                          refine HL.out.mono ?_
                          rintro e w5 ⟨rfl, hw5⟩
                          subst hw5
                          go_wp2_with fail
                          refine (alive_any _).mono ?_
                          rintro e w6 ⟨rfl, b6⟩
                          have HB6 := hid (HB.out.trans (b6.mono HB.out.size))
                          clear b6
                          go_wp2
                          go_ret
                          exact ⟨rfl, HB6.out⟩
        · have HL := hid (ilen_mo HQ.out)
          obtain ⟨len, HLN⟩ : ∃ len, Hid (L.length = len) := ⟨_, rfl⟩
          rw [HLN.out] at HL
          have hl1 : 1 ≤ len := by rw [← HLN.out]; exact HPO.out
          have hl2 : len ≤ most := by rw [← HLN.out]; exact HQ.out.le
          go_wp2_with fail
          refine HL.out.mono ?_
          rintro e w4 ⟨rfl, hw4⟩
          subst hw4
          go_wp2_with fail
          refine HL.out.mono ?_
          rintro e w5 ⟨rfl, hw5⟩
          subst hw5
          go_wp2_with fail
          refine (alive_any _).mono ?_
          rintro e w6 ⟨rfl, b6⟩
          have HB6 := hid (HB.out.trans (b6.mono HB.out.size))
          clear b6
          go_wp2
          go_ret
          exact ⟨rfl, HB6.out⟩

end Go.Proofs.Ytnbbebapfiocpaa
