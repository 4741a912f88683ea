/- Contracts and pure facts that the proof needs, joined. -/
import Derived.Test.YtnbbebapfiocpaaG1

/- LruMore. -/
namespace Go.Proofs.Ytnbbebapfiocpaa
open Go.RowKit

/-- two memos apart from one another -/
structure Duo2 (w : World) (base m n : Nat) (hm hn : Nat) (L M : List (Int × Int)) (F G : List Nat) : Prop where
  a : ∃ h mi g, iMo w base m hm L h mi g F
  b : ∃ h mi g, iMo w base n hn M h mi g G
  ap : ∀ x ∈ F, x ∉ G

theorem Duo2.below {w w' : World} {base m n hm hn : Nat} {L M : List (Int × Int)} {F G : List Nat} (q : Duo2 w base m n hm hn L M F G) (r : Below w.heap.size w w') : Duo2 w' base m n hm hn L M F G := by
  obtain ⟨⟨h, mi, g, qa⟩, ⟨h', mi', g', qb⟩, ap⟩ := q
  exact ⟨⟨h, mi, g, qa.below r⟩, ⟨h', mi', g', qb.below r⟩, ap⟩

theorem Duo2.stepA {w w' : World} {base m n hm hn : Nat} {L L' M : List (Int × Int)} {F F' G : List Nat} (q : Duo2 w base m n hm hn L M F G) {h mi g : Int} (a : iMo w' base m hm L' h mi g F') (s : St w w' F F') : Duo2 w' base m n hm hn L' M F' G := by
  obtain ⟨_, ⟨h', mi', g', qb⟩, ap⟩ := q
  have hd := s.apart (G := G) qb.lts (fun x hx e => ap x e hx)
  exact ⟨⟨h, mi, g, a⟩, ⟨h', mi', g', qb.fr s.1 (fun x hx e => ap x e hx)⟩, fun x hx e => hd x e hx⟩
theorem Duo2.stepB {w w' : World} {base m n hm hn : Nat} {L M M' : List (Int × Int)} {F G G' : List Nat} (q : Duo2 w base m n hm hn L M F G) {h mi g : Int} (b : iMo w' base n hn M' h mi g G') (s : St w w' G G') : Duo2 w' base m n hm hn L M' F G' := by
  obtain ⟨⟨h', mi', g', qa⟩, _, ap⟩ := q
  exact ⟨⟨h', mi', g', qa.fr s.1 ap⟩, ⟨h, mi, g, b⟩, s.apart (G := F) qa.lts ap⟩

set_option maxRecDepth 100000 in
set_option maxHeartbeats 4000000 in
theorem lawMore_any (w : World) (p r : Int) (v : Value) (n : Nat) (hv : Acts w v n) :
    Calls Try.prog 6 #[.int .i64 p, .int .i64 r, v] w fun e w' => e = .returned (.bool true) ∧ Below w.heap.size w w' := by
  have hn := hv.len
  obtain ⟨ao, cv, rfl⟩ := hv.shape
  have HV := hid hv
  clear hv
  go_enter Try.func6, Try.ntmps6
  go_upto_region 2 with fail
  generalize hp1 : (if p < 1 then (1 : Int) else p) = P1
  generalize hp2 : (if 4096 < P1 then (4096 : Int) else P1) = P2
  generalize hr1 : (if r < 0 then (0 : Int) else r) = R1
  generalize hr2 : (if 4096 < R1 then (4096 : Int) else R1) = R2
  obtain ⟨hm, rfl⟩ : ∃ M : Nat, P2 = (M : Int) := ⟨P2.toNat, by omega⟩
  obtain ⟨hr, rfl⟩ : ∃ M : Nat, R2 = (M : Int) := ⟨R2.toNat, by omega⟩
  have m1 : 1 ≤ hm := by omega
  have m2 : hm ≤ 4096 := by omega
  have r2 : hr ≤ 4096 := by omega
  clear hp1 hp2 hr1 hr2
  have hw : wrap64 ((hm : Int) + (hr : Int)) = (hm : Int) + (hr : Int) := by unfold wrap64; omega
  obtain ⟨hk, hhk⟩ : ∃ M : Nat, (if 4096 < (hm : Int) + (hr : Int) then (4096 : Int) else (hm : Int) + (hr : Int)) = (M : Int) := ⟨min (hm + hr) 4096, by omega⟩
  have k1 : 1 ≤ hk := by omega
  have k2 : hk ≤ 4096 := by omega
  have k3 : hm ≤ hk := by omega
  go_wp2_with fail
  refine (inew_mo w hm m1 m2).mono ?_
  rintro e w1 ⟨bm, F1, rfl, q1, b1⟩
  have HQ1 := hid q1
  have HB1 := hid b1
  clear q1 b1
  go_wp2_with fail
  clear hhk hw
  refine (inew_mo w1 hk k1 k2).mono ?_
  rintro e w2 ⟨bn, G1, rfl, q2, b2⟩
  have HB2 := hid (HB1.out.trans (b2.mono HB1.out.size))
  have HD2 : Hid (Duo2 w2 w.heap.size bm bn hm hk [] [] F1 G1) := ⟨⟨_, _, _, HQ1.out.below b2⟩, ⟨_, _, _, q2.lw HB1.out.size⟩, fun x hx e => by
    have h1 := HQ1.out.lts x hx
    have h2 := q2.lo x e
    omega⟩
  clear q2 b2 HQ1 HB1
  go_wp2_with fail
  refine (alive_any w2).mono ?_
  rintro e w3 ⟨rfl, b3⟩
  have HB3 := hid (HB2.out.trans (b3.mono HB2.out.size))
  have HD3 := hid (HD2.out.below b3)
  clear b3 HB2 HD2
  go_wp2
  go_loopw [60] (fun vi wr => ∃ (j : Nat) (L M : List (Int × Int)) (F G : List Nat), j ≤ n ∧ vi = .int .i64 j ∧ Hid (Duo2 wr w.heap.size bm bn hm hk L M F G) ∧ Hid (Inc hm hk L M) ∧ Hid (Below w.heap.size w wr)) (fun vi _ => n - (intOf vi).toNat)
  case atStart => exact ⟨0, [], [], F1, G1, by omega, rfl, HD3, ⟨List.Sublist.refl _, fun _ => rfl, k3, m1, by simp, by simp, by simp⟩, HB3⟩
  case round =>
    clear HD3 HB3
    obtain ⟨j, L, M, F, G, hj, rfl, HD, HI, HB⟩ := hrel
    by_cases hlt : j < n
    · obtain ⟨g, o, rfl, d, k, x, vp, ks, hrg, hps, hk1, hk2, hv1⟩ := HV.out.at j hlt
      have HRG := hid (hrg _ HB.out)
      have HK1 := hid hk1
      obtain ⟨z, s⟩ := zero_of_info (P := Try.prog) (t := 37) (v := .agg #[.int .i64 0, .int .i64 0, .int .i64 0, .slice none 0 0]) (n := 4) (by kernel_rfl)
      have HS := hid s
      have HV1 := hid hv1
      clear hrg hps s hv1 hk1 hk2
      go_upto_region 9 with (first
        | (refine wpList_load_mid rfl 37 (.tmp 62) rfl g (o + j * 4) rfl [.int .i64 d, .int .i64 k, .int .i64 x, vp] _ HRG.out Try.underlying37 rfl HS.out ?_)
        | (refine al_row rfl 37 rfl _ z ?_; refine st_new rfl 37 (.tmp 12) (.tmp 63) rfl [.int .i64 d, .int .i64 k, .int .i64 x, vp] rfl rfl _ _ HS.out rfl HV1.out ?_))
      try simp only [Act.put, List.setIfInBounds_toArray, List.set_cons_succ, List.set_cons_zero]
      have HB2 := hid (HB.out.alloc HB.out.size (.cells [.int .i64 d, .int .i64 k, .int .i64 x, vp].toArray 37))
      have HD2 := hid (HD.out.below (below_walk wr (.cells [.int .i64 d, .int .i64 k, .int .i64 x, vp].toArray 37)))
      have HN2 := hid (hp_new wr (.cells [.int .i64 d, .int .i64 k, .int .i64 x, vp].toArray 37))
      have HNF : Hid (∀ q ∈ F, q ≠ wr.heap.size) := hid (fun q hq e => by obtain ⟨⟨_, _, _, qa⟩, _, _⟩ := HD.out; have := qa.lts q hq; omega)
      have d0 := row_cell HN2.out 0 (by simp)
      have d1 := row_cell HN2.out 1 (by simp)
      have d2 := row_cell HN2.out 2 (by simp)
      simp only [List.getElem_cons_zero, List.getElem_cons_succ] at d0 d1 d2
      generalize wr.alloc (.cells [.int .i64 d, .int .i64 k, .int .i64 x, vp].toArray 37) = w2 at HB2 HD2 HN2 d0 d1 d2 ⊢
      generalize wr.heap.size = b2 at HN2 HNF d0 d1 d2 ⊢
      clear z HS HV1 HRG HD HB
      rcases kind3 d with hK | hK | hK
      · as_aux_lemma =>
          obtain ⟨⟨h1, mi1, g1, qa⟩, _, ap⟩ := HD2.out
          have HG := hid (iget_mo qa k HK1.out)
          have HQA := hid qa
          have hmore : ∀ y, lookP L k = some y → lookP M k = some y := fun y hy => HI.out.look hy
          obtain ⟨o1, HO1⟩ : ∃ o1, Hid (lookP L k = o1) := ⟨_, rfl⟩
          obtain ⟨o2, HO2⟩ : ∃ o2, Hid (lookP M k = o2) := ⟨_, rfl⟩
          rw [HO1.out, HO2.out] at hmore
          rw [HO1.out] at HG
          have HMO := hid hmore
          clear qa ap hmore
          go_wp2_with fail
          refine HG.out.mono ?_
          rintro e w3 ⟨rfl, F3, q3, s3⟩
          have HD3 := hid (HD2.out.stepA q3 s3)
          have HN3 := hid (s3.1.blk HN2.out (fun e => HNF.out b2 e rfl))
          have HB3 := hid (HB2.out.trans (HQA.out.low s3))
          clear q3 s3 HG HQA d0 d1 d2
          have d1 := row_cell HN3.out 1 (by simp)
          simp only [List.getElem_cons_zero, List.getElem_cons_succ] at d1
          obtain ⟨_, ⟨h2, mi2, g2, qb⟩, _⟩ := HD3.out
          have HG := hid (iget_mo qb k HK1.out)
          have HQB := hid qb
          rw [HO2.out] at HG
          clear qb
          go_wp2_with fail
          refine HG.out.mono ?_
          rintro e w4 ⟨rfl, G4, q4, s4⟩
          have HD4 := hid (HD3.out.stepB q4 s4)
          have HB4 := hid (HB3.out.trans (HQB.out.low s4))
          clear q4 s4 HG HQB d1
          cases o1 with
          | none =>
            simp only [Option.isSome_none, Option.getD_none]
            go_wp2
            exact ⟨⟨j + 1, getP L k, getP M k, F3, G4, hlt, by simp, HD4, HI.out.get k, HB4⟩, by simp [intOf]; omega⟩
          | some y =>
            have e2 : o2 = some y := HMO.out y rfl
            subst e2
            simp only [Option.isSome_some, Option.getD_some]
            go_wp2
            exact ⟨⟨j + 1, getP L k, getP M k, F3, G4, hlt, by simp, HD4, HI.out.get k, HB4⟩, by simp [intOf]; omega⟩
      · as_aux_lemma =>
          obtain ⟨⟨h1, mi1, g1, qa⟩, _, ap⟩ := HD2.out
          have HG := hid (ilook_mo qa k HK1.out)
          have HQA := hid qa
          have hmore : ∀ y, lookP L k = some y → lookP M k = some y := fun y hy => HI.out.look hy
          obtain ⟨o1, HO1⟩ : ∃ o1, Hid (lookP L k = o1) := ⟨_, rfl⟩
          obtain ⟨o2, HO2⟩ : ∃ o2, Hid (lookP M k = o2) := ⟨_, rfl⟩
          rw [HO1.out, HO2.out] at hmore
          rw [HO1.out] at HG
          have HMO := hid hmore
          clear qa ap hmore
          go_wp2_with fail
          refine HG.out.mono ?_
          rintro e w3 ⟨rfl, s3⟩
          have HD3 := hid (HD2.out.below s3)
          have HN3 := hid ((s3.block b2 (hp_lt HN2.out)).trans HN2.out)
          have HB3 := hid (HB2.out.trans (s3.mono HB2.out.size))
          clear s3 HG HQA d0 d1 d2
          have d1 := row_cell HN3.out 1 (by simp)
          simp only [List.getElem_cons_zero, List.getElem_cons_succ] at d1
          obtain ⟨_, ⟨h2, mi2, g2, qb⟩, _⟩ := HD3.out
          have HG := hid (ilook_mo qb k HK1.out)
          have HQB := hid qb
          rw [HO2.out] at HG
          clear qb
          go_wp2_with fail
          refine HG.out.mono ?_
          rintro e w4 ⟨rfl, s4⟩
          have HD4 := hid (HD3.out.below s4)
          have HB4 := hid (HB3.out.trans (s4.mono HB3.out.size))
          clear s4 HG HQB d1
          cases o1 with
          | none =>
            simp only [Option.isSome_none, Option.getD_none]
            go_wp2
            exact ⟨⟨j + 1, L, M, F, G, hlt, by simp, HD4, HI, HB4⟩, by simp [intOf]; omega⟩
          | some y =>
            have e2 : o2 = some y := HMO.out y rfl
            subst e2
            simp only [Option.isSome_some, Option.getD_some]
            go_wp2
            exact ⟨⟨j + 1, L, M, F, G, hlt, by simp, HD4, HI, HB4⟩, by simp [intOf]; omega⟩
      · as_aux_lemma =>
          obtain ⟨⟨h1, mi1, g1, qa⟩, _, ap⟩ := HD2.out
          have HG := hid (iput_mo qa k HK1.out x)
          have HQA := hid qa
          clear qa ap
          go_wp2_with fail
          refine HG.out.mono ?_
          rintro e w3 ⟨rfl, F3, q3, s3⟩
          have HD3 := hid (HD2.out.stepA q3 s3)
          have HN3 := hid (s3.1.blk HN2.out (fun e => HNF.out b2 e rfl))
          have HB3 := hid (HB2.out.trans (HQA.out.low s3))
          clear q3 s3 HG HQA d0 d1 d2
          have d1 := row_cell HN3.out 1 (by simp)
          have d2 := row_cell HN3.out 2 (by simp)
          simp only [List.getElem_cons_zero, List.getElem_cons_succ] at d1 d2
          obtain ⟨_, ⟨h2, mi2, g2, qb⟩, _⟩ := HD3.out
          have HG := hid (iput_mo qb k HK1.out x)
          have HQB := hid qb
          clear qb
          go_wp2_with fail
          refine HG.out.mono ?_
          rintro e w4 ⟨rfl, G4, q4, s4⟩
          have HD4 := hid (HD3.out.stepB q4 s4)
          have HB4 := hid (HB3.out.trans (HQB.out.low s4))
          clear q4 s4 HG HQB d1 d2
          go_wp2
          exact ⟨⟨j + 1, putP hm L k x, putP hk M k x, F3, G4, hlt, by simp, HD4, HI.out.put k x, HB4⟩, by simp [intOf]; omega⟩
    · go_wp2
      go_ret
      exact ⟨rfl, HB.out⟩

end Go.Proofs.Ytnbbebapfiocpaa
