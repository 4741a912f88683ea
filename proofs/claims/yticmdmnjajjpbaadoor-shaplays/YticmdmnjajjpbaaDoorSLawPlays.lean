/- ShaPlays answers true. -/
import Derived.Test.YticmdmnjajjpbaaDoorSPlayB
namespace Go.Proofs.YticmdmnjajjpbaaDoor
open Go.RowKit

theorem range_low {w W : World} {g o : Nat} {cs : List Value} (h : w.rangeAt g o cs) (hb : Below w.heap.size w W) (hg : g < w.heap.size) : W.rangeAt g o cs := fun j v hv => by
  rw [hb.cell (p := ⟨g, o + j, none⟩) hg]
  exact h j v hv

set_option maxRecDepth 100000 in
set_option maxHeartbeats 8000000 in
theorem plays_any (w : World) (v : Value) (n : Nat) (hT : Tabs w) (hR : TabR w) (hv : OpsL w v n) (hn : n ≤ 1048576) :
    Calls Tryd.prog 8 #[v] w fun e w' => e = .returned (.bool true) ∧ Below w.heap.size w w' := by
  have HT := hid hT
  have HR := hid hR
  have HV := hid hv
  obtain ⟨aa, c, rfl⟩ := hv.shape
  obtain ⟨zz, sz⟩ := zero_of_info (P := Tryd.prog) (t := 69) (v := .agg zp.toArray) (n := 23) (by kernel_rfl)
  have HZ := hid zz
  clear zz sz hT hR hv
  go_enter Tryd.func8, Tryd.ntmps8
  go_wp2_with fail
  refine (new_any w HT.out).mono ?_
  rintro e w1 ⟨rfl, hw1⟩
  have HS1 := hid (new_hst HT.out)
  have hbw := below_walk w (.cells (hcells Hs (zeros 64) 0 true).toArray 97)
  rw [← hw1] at HS1 hbw
  have HB1 := hid hbw
  have HL1 := hid (show w.heap.size < w1.heap.size by rw [hw1]; simp)
  clear hw1 hbw
  go_wp2_with fail
  refine (new_any w1 (HT.out.below HB1.out)).mono ?_
  rintro e w2 ⟨rfl, hw2⟩
  have HS2 := hid (new_hst (HT.out.below HB1.out))
  have hbw := below_walk w1 (.cells (hcells Hs (zeros 64) 0 true).toArray 97)
  rw [← hw2] at HS2 hbw
  have HS12 := hid (HS1.out.below hbw)
  have HB2 := hid (HB1.out.trans (hbw.mono HB1.out.size))
  clear hw2 hbw HS1
  obtain ⟨b0, HE0⟩ : ∃ b, Hid (b = w.heap.size) := ⟨_, rfl⟩
  obtain ⟨b1, HE1⟩ : ∃ b, Hid (b = w1.heap.size) := ⟨_, rfl⟩
  rw [← HE0.out] at HS12 ⊢
  rw [← HE1.out] at HS2 ⊢
  rename_i Kx hKx
  refine hKx _ _ ?_
  clear hKx
  refine bd_row (by rfl) 63 #[(0, .tmp 6), (1, .tmp 7)] (by rfl) _ (by simp [Act.eval]) _ (built_h b0 b1) ?_
  go_wp2_with fail
  refine (rnew_any w2).mono ?_
  rintro e w3 ⟨rfl, hb3⟩
  have HS13 := hid (HS12.out.below hb3)
  have HS23 := hid (HS2.out.below hb3)
  have HB3 := hid (HB2.out.trans (hb3.mono HB2.out.size))
  clear hb3 HS12 HS2
  obtain ⟨ρ, HRH⟩ : ∃ ρ : S5, Hid (ρ = ⟨Hs, .slice none 0 0, [], 0⟩) := ⟨_, rfl⟩
  have HRC := hid (show scells Hs (.slice none 0 0) 0 = ρ.cs by rw [HRH.out]; rfl)
  have HLR := hid (show ρ.cs.length = 10 by rw [HRH.out]; exact scells_length _ _ _ Hs_length)
  rw [HRC.out]
  go_wp2_with fail
  refine (rnew_any w3).mono ?_
  rintro e w4 ⟨rfl, hb4⟩
  rw [HRC.out]
  have HA0 := hid (show At w4 w.heap.size b0 ρ by rw [HRH.out]; exact ⟨(HS13.out.below hb4).hg, OwnB.nil _ _, by simp, Hs_length, by rw [HE0.out]; exact Nat.le_refl _⟩)
  have HA1 := hid (show At w4 w.heap.size b1 ρ by rw [HRH.out]; exact ⟨(HS23.out.below hb4).hg, OwnB.nil _ _, by simp, Hs_length, by rw [HE1.out]; exact Nat.le_of_lt HL1.out⟩)
  have HB4 := hid (HB3.out.trans (hb4.mono HB3.out.size))
  have HNE := hid (show b0 ≠ b1 by rw [HE0.out, HE1.out]; have := HL1.out; omega)
  clear hb4 HS13 HS23
  rename_i Kx hKx
  refine hKx _ _ ?_
  clear hKx
  refine bd_row (by rfl) 67 #[(0, .tmp 9), (1, .tmp 10)] (by rfl) _ (by simp [Act.eval]) _ (built_s ρ.cs ρ.cs HLR.out HLR.out) ?_
  refine bd_row (by rfl) 69 #[(0, .tmp 8), (1, .tmp 11)] (by rfl) _ (by simp [Act.eval, Act.put]) _ (built_p b0 b1 ρ.cs ρ.cs HLR.out HLR.out) ?_
  have HSP0 : Hid ((Tryd.prog.info? 69).map (·.size) = some (pc b0 b1 ρ.cs ρ.cs 0).length) := by rw [pc_length _ _ _ _ _ HLR.out HLR.out]; exact hid Tryd.sizePair
  refine al_row (by rfl) 69 (by rfl) _ HZ.out ?_
  refine st_new (by rfl) 69 (.tmp 3) (.tmp 12) (by rfl) (pc b0 b1 ρ.cs ρ.cs 0) (by rfl) (by rfl) _ _ HSP0.out (by rw [List.size_toArray, zp_length]; exact (pc_length _ _ _ _ _ HLR.out HLR.out).symm) (pc_one _ _ _ _ _ HA0.out.one HA1.out.one) ?_
  have hbw := below_walk w4 (.cells (pc b0 b1 ρ.cs ρ.cs 0).toArray 69)
  have HQ5 := hid (⟨⟨hp_new w4 _, HLR.out, HLR.out⟩, HA0.out.below hbw, HA1.out.below hbw, HNE.out, by omega, HB4.out.trans (hbw.mono HB4.out.size), HB4.out.size⟩ : Pl w w4.heap.size b0 b1 ρ ρ 0 (w4.alloc (.cells (pc b0 b1 ρ.cs ρ.cs 0).toArray 69)))
  clear hbw HA0 HA1
  generalize w4.alloc (.cells (pc b0 b1 ρ.cs ρ.cs 0).toArray 69) = w5 at HQ5 ⊢
  obtain ⟨pp, HPP⟩ : ∃ g, Hid (g = w4.heap.size) := ⟨_, rfl⟩
  rw [← HPP.out] at HQ5 ⊢
  have c0 := HQ5.out.pb.c0
  have c1 := HQ5.out.pb.c1
  go_wp2
  clear c0 c1
  go_loopw [4, 5] (fun ok i wr => ∃ (k b0 b1 : Nat) (σ τ : S5) (m : Nat), k ≤ n ∧ i = .int .i64 k ∧ ok = .bool true ∧ Pl w pp b0 b1 σ τ m wr) (fun _ i _ => n - (intOf i).toNat)
  case atStart => exact ⟨0, b0, b1, ρ, ρ, 0, by omega, rfl, rfl, HQ5.out⟩
  case round =>
    obtain ⟨k, b0, b1, σ, τ, m, hk, rfl, rfl, hQ⟩ := hrel
    clear HQ5 HSP0 HRC HLR HNE
    have HQ := hid hQ
    have hm2 := hQ.lt
    clear hQ
    obtain ⟨W, HWW⟩ : ∃ W : World, Hid (W = wr) := ⟨_, rfl⟩
    rw [← HWW.out] at HQ ⊢
    by_cases hlt : k < n
    · obtain ⟨g, o, rfl, hglt, d, ao, kk, cc, pss, hrg, hls, hpl, hfl⟩ : ∃ g o, aa = some ⟨g, o, none⟩ ∧ g < w.heap.size ∧ ∃ (d : Int) (ao : Option Addr) (kk cc : Nat) (pss : List (List UInt8)), w.rangeAt g (o + k * 2) [.int .i64 d, .slice ao kk cc] ∧ Lists (· < w.heap.size) w (.slice ao kk cc) pss ∧ pss.length ≤ 1048576 ∧ (fl pss).length ≤ 1048576 := by
        rcases HV.out with ⟨_, _, _, h0⟩ | ⟨g, o, c', hv', hg', hx⟩
        · omega
        · injection hv' with e1
          exact ⟨g, o, e1, hg', hx k hlt⟩
      have HLS := hid hls
      have HPL := hid hpl
      have HFL := hid hfl
      have HRG := hid hrg
      have q1 : (k : Int) < (n : Int) := by omega
      rcases (show m = 0 ∨ m = 1 by omega) with rfl | rfl
      · clear hls hpl hfl hm2
        go_upto_region 6 with fail
        obtain ⟨X, HXE⟩ : ∃ X : World, Hid (X = { W with drawn := W.drawn + 1 }) := ⟨_, rfl⟩
        have HQX := hid (show Pl w pp b0 b1 σ τ 0 X by rw [HXE.out]; exact HQ.out.below (below_drew' W))
        refine wp_noPanic (wp_region_any (by kernel_rfl) ?_)
        rw [show ({ W with drawn := W.drawn + 1 } : World) = X from HXE.out.symm]
        have HPX : Hid (Pb X pp b0 b1 σ.cs τ.cs 0) := HQX.out.pb
        have HSP : Hid ((Tryd.prog.info? 69).map (·.size) = some (pc b0 b1 σ.cs τ.cs 0).length) := by rw [pc_length _ _ _ _ _ HPX.out.l0 HPX.out.l1]; exact hid Tryd.sizePair
        have HRO := hid (show X.rangeAt g (o + k * 2) [.int .i64 d, .slice ao kk cc] from range_low hrg HQX.out.bel hglt)
        have hu1 := Tryd.underlying69
        have hu2 := Tryd.underlying73
        refine any_yield 1 _ (.slice (some ⟨g, o, none⟩) n c) (by rfl) (by rfl) (by kernel_rfl) (by kernel_rfl) (by kernel_rfl) (fun _ => by rfl) ?_
        refine any_yield 2 _ (.int .i64 k) (by rfl) (by rfl) (by kernel_rfl) (by kernel_rfl) (by kernel_rfl) (fun _ => by rfl) ?_
        refine any_yield 3 _ (.pointer (some ⟨g, o + k * 2, none⟩)) (by rfl) (by rfl) (by kernel_rfl) (by kernel_rfl) (by kernel_rfl) (fun _ => by go_simp) ?_
        refine any_two_loads 0 4 _ _ (by rfl) (by rfl) (by rfl) (by rfl) (by kernel_rfl) (by kernel_rfl) (by kernel_rfl) (by decide) 69 (.tmp 3) (by rfl) pp 0 (pc b0 b1 σ.cs τ.cs 0) _ HPX.out.whole hu1 rfl HSP.out 73 (.tmp 36) (by rfl) g (o + k * 2) [.int .i64 d, .slice ao kk cc] _ HRO.out hu2 rfl (by kernel_rfl) (by kernel_rfl) (by kernel_rfl) (by kernel_rfl) (by kernel_rfl) (by kernel_rfl) ?_
        simp only [Act.put, List.getElem_toArray, List.getElem_cons_zero, List.getElem_cons_succ, List.setIfInBounds_toArray, List.set_cons_succ, List.set_cons_zero]
        refine any_one 5 _ (by rfl) (by kernel_rfl) (fun K hK => ?_)
        clear hu1 hu2
        go_simp
        refine (calls0_any w X b0 b1 σ τ d ao kk cc pss HT.out HR.out HQX.out.bel HQX.out.a0 HQX.out.a1 HQX.out.ne HLS.out HPL.out HFL.out).mono ?_
        rintro e Y ⟨c0, c1, σ2, τ2, n2, rfl, hA0, hA1, hne2, hn2, hbY, hgY⟩
        have HOLD := hid (HQX.out.good HQX.out.a0.hg hgY)
        have HA0 := hid hA0
        have HA1 := hid hA1
        have HN2 := hid hn2
        have HNE2 := hid hne2
        have HBY := hid hbY
        clear hA0 hA1 hne2 hn2 hbY hgY
        obtain ⟨PN, HPN⟩ : ∃ PN, Hid (PN = pc c0 c1 σ2.cs τ2.cs (n2 : Int)) := ⟨_, rfl⟩
        rw [← HPN.out]
        have HLN := hid (show PN.length = 23 by rw [HPN.out]; exact pc_length _ _ _ _ _ HA0.out.cs HA1.out.cs)
        have HON := hid (show ∀ v ∈ PN, v.oneCell' = true by rw [HPN.out]; exact pc_one _ _ _ _ _ HA0.out.one HA1.out.one)
        have HSN : Hid ((Tryd.prog.info? 69).map (·.size) = some PN.length) := by rw [HLN.out]; exact hid Tryd.sizePair
        go_wp2_with fail
        refine hK.out _ _ ?_
        clear hK K
        refine any_yield 6 _ (.tuple #[.agg PN.toArray, .bool true]) (by rfl) (by rfl) (by kernel_rfl) (by kernel_rfl) (by kernel_rfl) (fun _ => by rfl) ?_
        simp only [Act.put, List.getElem_toArray, List.getElem_cons_zero, List.getElem_cons_succ, List.setIfInBounds_toArray, List.set_cons_succ, List.set_cons_zero]
        refine any_yield 7 _ (.agg PN.toArray) (by rfl) (by rfl) (by kernel_rfl) (by kernel_rfl) (by kernel_rfl) (fun _ => by rfl) ?_
        simp only [Act.put, List.getElem_toArray, List.getElem_cons_zero, List.getElem_cons_succ, List.setIfInBounds_toArray, List.set_cons_succ, List.set_cons_zero]
        refine any_yield 8 _ (.bool true) (by rfl) (by rfl) (by kernel_rfl) (by kernel_rfl) (by kernel_rfl) (fun _ => by rfl) ?_
        simp only [Act.put, List.getElem_toArray, List.getElem_cons_zero, List.getElem_cons_succ, List.setIfInBounds_toArray, List.set_cons_succ, List.set_cons_zero]
        refine any_one 9 _ (by rfl) (by kernel_rfl) (fun K hK => ?_)
        refine step_store_row (by rfl) 69 (.tmp 3) (.tmp 39) (by rfl) pp PN (by rfl) (by rfl) _ _ HOLD.out HSN.out (by rw [List.size_toArray, HLN.out]; exact pc_length _ _ _ _ _ HPX.out.l0 HPX.out.l1) HON.out ?_
        intro Z hZ
        rw [HPN.out] at hZ
        have HQZ := hid (Pl.next HA0.out HA1.out HNE2.out HN2.out HBY.out HQX.out.lo HOLD.out hZ)
        clear hZ
        refine hK.out _ _ ?_
        clear hK K
        simp only [Act.put, List.getElem_toArray, List.getElem_cons_zero, List.getElem_cons_succ]
        refine any_yield 10 _ (.bool true) (by rfl) (by rfl) (by kernel_rfl) (by kernel_rfl) (by kernel_rfl) (fun _ => by rfl) ?_
        simp only [Act.put, List.getElem_toArray, List.getElem_cons_zero, List.getElem_cons_succ, List.setIfInBounds_toArray, List.set_cons_succ, List.set_cons_zero]
        refine any_done (by kernel_rfl) ?_ _
        go_wp2
        exact ⟨⟨k + 1, c0, c1, σ2, τ2, n2, by omega, by simp, rfl, HQZ.out⟩, by simp [intOf]; omega⟩
      · clear hls hpl hfl hm2
        go_upto_region 6 with fail
        obtain ⟨X, HXE⟩ : ∃ X : World, Hid (X = { W with drawn := W.drawn + 1 }) := ⟨_, rfl⟩
        have HQX := hid (show Pl w pp b0 b1 σ τ 1 X by rw [HXE.out]; exact HQ.out.below (below_drew' W))
        refine wp_noPanic (wp_region_any (by kernel_rfl) ?_)
        rw [show ({ W with drawn := W.drawn + 1 } : World) = X from HXE.out.symm]
        have HPX : Hid (Pb X pp b0 b1 σ.cs τ.cs 1) := HQX.out.pb
        have HSP : Hid ((Tryd.prog.info? 69).map (·.size) = some (pc b0 b1 σ.cs τ.cs 1).length) := by rw [pc_length _ _ _ _ _ HPX.out.l0 HPX.out.l1]; exact hid Tryd.sizePair
        have HRO := hid (show X.rangeAt g (o + k * 2) [.int .i64 d, .slice ao kk cc] from range_low hrg HQX.out.bel hglt)
        have hu1 := Tryd.underlying69
        have hu2 := Tryd.underlying73
        refine any_yield 1 _ (.slice (some ⟨g, o, none⟩) n c) (by rfl) (by rfl) (by kernel_rfl) (by kernel_rfl) (by kernel_rfl) (fun _ => by rfl) ?_
        refine any_yield 2 _ (.int .i64 k) (by rfl) (by rfl) (by kernel_rfl) (by kernel_rfl) (by kernel_rfl) (fun _ => by rfl) ?_
        refine any_yield 3 _ (.pointer (some ⟨g, o + k * 2, none⟩)) (by rfl) (by rfl) (by kernel_rfl) (by kernel_rfl) (by kernel_rfl) (fun _ => by go_simp) ?_
        refine any_two_loads 0 4 _ _ (by rfl) (by rfl) (by rfl) (by rfl) (by kernel_rfl) (by kernel_rfl) (by kernel_rfl) (by decide) 69 (.tmp 3) (by rfl) pp 0 (pc b0 b1 σ.cs τ.cs 1) _ HPX.out.whole hu1 rfl HSP.out 73 (.tmp 36) (by rfl) g (o + k * 2) [.int .i64 d, .slice ao kk cc] _ HRO.out hu2 rfl (by kernel_rfl) (by kernel_rfl) (by kernel_rfl) (by kernel_rfl) (by kernel_rfl) (by kernel_rfl) ?_
        simp only [Act.put, List.getElem_toArray, List.getElem_cons_zero, List.getElem_cons_succ, List.setIfInBounds_toArray, List.set_cons_succ, List.set_cons_zero]
        refine any_one 5 _ (by rfl) (by kernel_rfl) (fun K hK => ?_)
        clear hu1 hu2
        go_simp
        refine (calls1_any w X b0 b1 σ τ d ao kk cc pss HT.out HR.out HQX.out.bel HQX.out.a0 HQX.out.a1 HQX.out.ne HLS.out HPL.out HFL.out).mono ?_
        rintro e Y ⟨c0, c1, σ2, τ2, n2, rfl, hA0, hA1, hne2, hn2, hbY, hgY⟩
        have HOLD := hid (HQX.out.good HQX.out.a1.hg hgY)
        have HA0 := hid hA0
        have HA1 := hid hA1
        have HN2 := hid hn2
        have HNE2 := hid hne2
        have HBY := hid hbY
        clear hA0 hA1 hne2 hn2 hbY hgY
        obtain ⟨PN, HPN⟩ : ∃ PN, Hid (PN = pc c0 c1 σ2.cs τ2.cs (n2 : Int)) := ⟨_, rfl⟩
        rw [← HPN.out]
        have HLN := hid (show PN.length = 23 by rw [HPN.out]; exact pc_length _ _ _ _ _ HA0.out.cs HA1.out.cs)
        have HON := hid (show ∀ v ∈ PN, v.oneCell' = true by rw [HPN.out]; exact pc_one _ _ _ _ _ HA0.out.one HA1.out.one)
        have HSN : Hid ((Tryd.prog.info? 69).map (·.size) = some PN.length) := by rw [HLN.out]; exact hid Tryd.sizePair
        go_wp2_with fail
        refine hK.out _ _ ?_
        clear hK K
        refine any_yield 6 _ (.tuple #[.agg PN.toArray, .bool true]) (by rfl) (by rfl) (by kernel_rfl) (by kernel_rfl) (by kernel_rfl) (fun _ => by rfl) ?_
        simp only [Act.put, List.getElem_toArray, List.getElem_cons_zero, List.getElem_cons_succ, List.setIfInBounds_toArray, List.set_cons_succ, List.set_cons_zero]
        refine any_yield 7 _ (.agg PN.toArray) (by rfl) (by rfl) (by kernel_rfl) (by kernel_rfl) (by kernel_rfl) (fun _ => by rfl) ?_
        simp only [Act.put, List.getElem_toArray, List.getElem_cons_zero, List.getElem_cons_succ, List.setIfInBounds_toArray, List.set_cons_succ, List.set_cons_zero]
        refine any_yield 8 _ (.bool true) (by rfl) (by rfl) (by kernel_rfl) (by kernel_rfl) (by kernel_rfl) (fun _ => by rfl) ?_
        simp only [Act.put, List.getElem_toArray, List.getElem_cons_zero, List.getElem_cons_succ, List.setIfInBounds_toArray, List.set_cons_succ, List.set_cons_zero]
        refine any_one 9 _ (by rfl) (by kernel_rfl) (fun K hK => ?_)
        refine step_store_row (by rfl) 69 (.tmp 3) (.tmp 39) (by rfl) pp PN (by rfl) (by rfl) _ _ HOLD.out HSN.out (by rw [List.size_toArray, HLN.out]; exact pc_length _ _ _ _ _ HPX.out.l0 HPX.out.l1) HON.out ?_
        intro Z hZ
        rw [HPN.out] at hZ
        have HQZ := hid (Pl.next HA0.out HA1.out HNE2.out HN2.out HBY.out HQX.out.lo HOLD.out hZ)
        clear hZ
        refine hK.out _ _ ?_
        clear hK K
        simp only [Act.put, List.getElem_toArray, List.getElem_cons_zero, List.getElem_cons_succ]
        refine any_yield 10 _ (.bool true) (by rfl) (by rfl) (by kernel_rfl) (by kernel_rfl) (by kernel_rfl) (fun _ => by rfl) ?_
        simp only [Act.put, List.getElem_toArray, List.getElem_cons_zero, List.getElem_cons_succ, List.setIfInBounds_toArray, List.set_cons_succ, List.set_cons_zero]
        refine any_done (by kernel_rfl) ?_ _
        go_wp2
        exact ⟨⟨k + 1, c0, c1, σ2, τ2, n2, by omega, by simp, rfl, HQZ.out⟩, by simp [intOf]; omega⟩
    · have q1 : ¬ (k : Int) < (n : Int) := by omega
      go_upto_region 7 with fail
      have HSPx : Hid ((Tryd.prog.info? 69).map (·.size) = some (pc b0 b1 σ.cs τ.cs (m : Int)).length) := by rw [pc_length _ _ _ _ _ HQ.out.pb.l0 HQ.out.pb.l1]; exact hid Tryd.sizePair
      go_wp2_with (first
        | (refine unguard (by rfl) ?_; refine ld_row (by rfl) 69 (.tmp 3) (by rfl) pp (by rfl) _ 69 HQ.out.pb.blk _ Tryd.underlying69 rfl HSPx.out ?_))
      refine (tells_any W w.heap.size b0 b1 σ τ m (HT.out.below HQ.out.bel) (HR.out.below HQ.out.bel) HQ.out.a0 HQ.out.a1).mono ?_
      rintro e w8 ⟨rfl, hb8⟩
      have HB8 := hid (HQ.out.bel.trans (hb8.mono HQ.out.bel.size))
      clear hb8
      go_wp2_with fail
      refine (awake_any _ (HT.out.below HB8.out)).mono ?_
      rintro e w9 ⟨rfl, hb9⟩
      have HB9 := hid (HB8.out.trans (hb9.mono HB8.out.size))
      clear hb9
      go_wp2
      go_ret
      exact ⟨rfl, HB9.out⟩

end Go.Proofs.YticmdmnjajjpbaaDoor
