/- calls: a call of both, where the first one is meant. -/
import Derived.Test.YticmdmnjajjpbabDoorSCallB
namespace Go.Proofs.YticmdmnjajjpbabDoor
open Go.RowKit

set_option maxRecDepth 100000 in
set_option maxHeartbeats 8000000 in
theorem calls0_any (w0 w : World) (b0 b1 : Nat) (σ τ : S5) (dd : Int) (ao : Option Addr) (nn c : Nat) (pss : List (List UInt8)) (hT : Tabs w0) (hR : TabR w0) (hB : Below w0.heap.size w0 w) (h0 : At w w0.heap.size b0 σ) (h1 : At w w0.heap.size b1 τ) (hne : b0 ≠ b1)
    (hv : Lists (· < w0.heap.size) w0 (.slice ao nn c) pss) (hn : pss.length ≤ 1048576) (hN : (fl pss).length ≤ 1048576) :
    Calls Tryd.prog 18 #[.agg (pc b0 b1 σ.cs τ.cs 0).toArray, .agg #[.int .i64 dd, .slice ao nn c]] w fun e w' => Good w0 w b0 e w' := by
  have HT := hid hT
  have HR := hid hR
  have HV := hid hv
  have HNN := hid hN
  have HN1 := hid hn
  have HNE := hid hne
  obtain ⟨zz, sz⟩ := zero_of_info (P := Tryd.prog) (t := 27) (v := .agg z10.toArray) (n := 10) (by kernel_rfl)
  have HZ := hid zz
  clear zz sz
  obtain ⟨zz, sz⟩ := zero_of_info (P := Tryd.prog) (t := 43) (v := .agg zp.toArray) (n := 23) (by kernel_rfl)
  clear sz
  have H3 := hid (hp_three w (.cells (pc b0 b1 σ.cs τ.cs 0).toArray 43) (.cells #[.int .i64 dd, .slice ao nn c] 49) (.cells zp.toArray 43))
  have HBW := hid ((below_walk2 w (.cells (pc b0 b1 σ.cs τ.cs 0).toArray 43) (.cells #[.int .i64 dd, .slice ao nn c] 49)).alloc (by simp; omega) (.cells zp.toArray 43))
  have H0 := hid (h0.below HBW.out)
  have H1 := hid (h1.below HBW.out)
  have HB1 := hid (hB.trans (HBW.out.mono hB.size))
  have HK1 := hid (below_gb HBW.out (some b0))
  have HWB := hid hB.size
  have HL0 := hid h0.cs
  have HL1 := hid h1.cs
  have HSZ : Hid ((Tryd.prog.info? 27).map (·.size) = some σ.cs.length) := by rw [h0.cs]; exact hid Tryd.sizeState
  have HSP : Hid ((Tryd.prog.info? 43).map (·.size) = some (pc b0 b1 σ.cs τ.cs 0).length) := by rw [pc_length _ _ _ _ _ h0.cs h1.cs]; exact hid Tryd.sizePair
  have HS3 := hid (show (((w.alloc (.cells (pc b0 b1 σ.cs τ.cs 0).toArray 43)).alloc (.cells #[.int .i64 dd, .slice ao nn c] 49)).alloc (.cells zp.toArray 43)).heap.size = w.heap.size + 1 + 1 + 1 by simp)
  obtain ⟨a1, c1, hv1⟩ := lists_sh hv
  obtain ⟨rfl, rfl, rfl⟩ : ao = a1 ∧ nn = pss.length ∧ c = c1 := by injection hv1 with h1 h2 h3; exact ⟨h1, h2, h3⟩
  clear hT hR hB h0 h1 hv hn hN hv1 hne
  go_enter Tryd.func18, Tryd.ntmps18
  go_upto_region 1 with fail
  clear zz
  generalize ((w.alloc (.cells (pc b0 b1 σ.cs τ.cs 0).toArray 43)).alloc (.cells #[.int .i64 dd, .slice ao pss.length c] 49)).alloc (.cells zp.toArray 43) = w1 at H3 HBW H0 H1 HB1 HK1 HS3 ⊢
  obtain ⟨p, HPE⟩ : ∃ p, Hid (p = w.heap.size) := ⟨_, rfl⟩
  rw [← HPE.out] at H3 HS3 ⊢
  have HP1 := hid (⟨H3.out.1, HL0.out, HL1.out⟩ : Pb w1 p b0 b1 σ.cs τ.cs 0)
  have HP2 := hid (HP1.out.below (below_drew' w1))
  refine wp_noPanic (wp_region_held_drew (S := fun W => Pb W p b0 b1 σ.cs τ.cs 0) (by kernel_rfl) HP2.out ?_)
  intro hHeld
  refine wpAnyH_take (i := 0) (v := (.pointer (some ⟨p, 22, none⟩))) rfl (by kernel_rfl) (by kernel_rfl) (by kernel_rfl) (fun _ _ _ h => h) (Or.inl ⟨by rfl, fun W _ => by go_simp⟩) hHeld ?_
  simp only [Act.put, List.getElem_toArray, List.getElem_cons_zero, List.setIfInBounds_toArray, List.set_cons_succ, List.set_cons_zero]
  refine wpAnyH_take (i := 1) (v := (.int .i64 0)) rfl (by kernel_rfl) (by kernel_rfl) (by kernel_rfl) (fun _ _ _ h => h) (Or.inl ⟨by rfl, fun W hW => by have hcell := Pb.cn hW; clear hW; go_simp⟩) hHeld ?_
  simp only [Act.put, List.getElem_toArray, List.getElem_cons_zero, List.getElem_cons_succ, List.setIfInBounds_toArray, List.set_cons_succ, List.set_cons_zero]
  refine wpAnyH_take (i := 2) (v := (.pointer (some ⟨p, 0, none⟩))) rfl (by kernel_rfl) (by kernel_rfl) (by kernel_rfl) (fun _ _ _ h => h) (Or.inl ⟨by rfl, fun W _ => by go_simp⟩) hHeld ?_
  simp only [Act.put, List.getElem_toArray, List.getElem_cons_zero, List.getElem_cons_succ, List.setIfInBounds_toArray, List.set_cons_succ, List.set_cons_zero]
  refine wpAnyH_take (i := 3) (v := (.pointer (some ⟨p, 0, none⟩))) rfl (by kernel_rfl) (by kernel_rfl) (by kernel_rfl) (fun _ _ _ h => h) (Or.inl ⟨by rfl, fun W _ => by go_simp⟩) hHeld ?_
  simp only [Act.put, List.getElem_toArray, List.getElem_cons_zero, List.getElem_cons_succ, List.setIfInBounds_toArray, List.set_cons_succ, List.set_cons_zero]
  refine wpAnyH_take (i := 4) (v := (.pointer (some ⟨b0, 0, none⟩))) rfl (by kernel_rfl) (by kernel_rfl) (by kernel_rfl) (fun _ _ _ h => h) (Or.inl ⟨by rfl, fun W hW => by have hcell := Pb.c0 hW; clear hW; go_simp⟩) hHeld ?_
  simp only [Act.put, List.getElem_toArray, List.getElem_cons_zero, List.getElem_cons_succ, List.setIfInBounds_toArray, List.set_cons_succ, List.set_cons_zero]
  refine wpAnyH_take (i := 5) (v := (.pointer (some ⟨p, 22, none⟩))) rfl (by kernel_rfl) (by kernel_rfl) (by kernel_rfl) (fun _ _ _ h => h) (Or.inl ⟨by rfl, fun W _ => by go_simp⟩) hHeld ?_
  simp only [Act.put, List.getElem_toArray, List.getElem_cons_zero, List.getElem_cons_succ, List.setIfInBounds_toArray, List.set_cons_succ, List.set_cons_zero]
  refine wpAnyH_take (i := 6) (v := (.int .i64 0)) rfl (by kernel_rfl) (by kernel_rfl) (by kernel_rfl) (fun _ _ _ h => h) (Or.inl ⟨by rfl, fun W hW => by have hcell := Pb.cn hW; clear hW; go_simp⟩) hHeld ?_
  simp only [Act.put, List.getElem_toArray, List.getElem_cons_zero, List.getElem_cons_succ, List.setIfInBounds_toArray, List.set_cons_succ, List.set_cons_zero]
  refine wpAnyH_take (i := 7) (v := (.pointer (some ⟨p, 2, none⟩))) rfl (by kernel_rfl) (by kernel_rfl) (by kernel_rfl) (fun _ _ _ h => h) (Or.inl ⟨by rfl, fun W _ => by go_simp⟩) hHeld ?_
  simp only [Act.put, List.getElem_toArray, List.getElem_cons_zero, List.getElem_cons_succ, List.setIfInBounds_toArray, List.set_cons_succ, List.set_cons_zero]
  refine wpAnyH_take (i := 8) (v := (.pointer (some ⟨p, 2, none⟩))) rfl (by kernel_rfl) (by kernel_rfl) (by kernel_rfl) (fun _ _ _ h => h) (Or.inl ⟨by rfl, fun W _ => by go_simp⟩) hHeld ?_
  simp only [Act.put, List.getElem_toArray, List.getElem_cons_zero, List.getElem_cons_succ, List.setIfInBounds_toArray, List.set_cons_succ, List.set_cons_zero]
  refine wpAnyH_take (i := 9) (v := (.agg σ.cs.toArray)) rfl (by kernel_rfl) (by kernel_rfl) (by kernel_rfl) (fun _ _ _ h => h) (yieldsIf_load_mid (by rfl) 27 (.tmp 20) rfl p 2 rfl σ.cs _ (fun W hW => Pb.r0 hW) Tryd.underlying27 rfl HSZ.out) hHeld ?_
  simp only [Act.put, List.getElem_toArray, List.getElem_cons_zero, List.getElem_cons_succ, List.setIfInBounds_toArray, List.set_cons_succ, List.set_cons_zero]
  refine wpAnyH_ready (rs := [10]) (by kernel_rfl) (by simp) ?_
  refine AllReadyH.cons rfl (fun K hK => ?_) AllReadyH.nil
  refine step_alloc_row (by rfl) 27 (by rfl) _ HZ.out ?_
  have hbz := below_walk w1.drew (.cells z10.toArray 27)
  have HP3 := hid (HP2.out.below hbz)
  have HZB := hid (hp_new w1.drew (.cells z10.toArray 27))
  have HBZ := hid (show Below w1.heap.size w1 (w1.drew.alloc (.cells z10.toArray 27)) from ⟨hbz.os, hbz.tape, hbz.output, hbz.size, hbz.block⟩)
  clear hbz
  generalize w1.drew.alloc (.cells z10.toArray 27) = w2 at HP3 HZB HBZ ⊢
  have HS4 : Hid (w1.drew.heap.size = p + 1 + 1 + 1) := HS3
  rw [HS4.out] at HZB ⊢
  refine hK.out _ _ HP3.out (fun hHeld => ?_)
  clear hK K
  simp only [Act.put, List.getElem_toArray, List.getElem_cons_zero, List.getElem_cons_succ, List.setIfInBounds_toArray, List.set_cons_succ, List.set_cons_zero]
  refine wpAnyH_take (i := 11) (v := (.pointer (some ⟨b0, 0, none⟩))) rfl (by kernel_rfl) (by kernel_rfl) (by kernel_rfl) (fun _ _ _ h => h) (Or.inl ⟨by rfl, fun W _ => by go_simp⟩) hHeld ?_
  simp only [Act.put, List.getElem_toArray, List.getElem_cons_zero, List.getElem_cons_succ, List.setIfInBounds_toArray, List.set_cons_succ, List.set_cons_zero]
  refine wpAnyH_ready (rs := [12]) (by kernel_rfl) (by simp) ?_
  refine AllReadyH.cons rfl (fun K hK => ?_) AllReadyH.nil
  refine step_store_row (by rfl) 27 (.tmp 7) (.tmp 21) (by rfl) (p + 1 + 1 + 1) σ.cs (by rfl) (by rfl) _ _ HZB.out HSZ.out (by rw [List.size_toArray, HL0.out]; rfl) H0.out.one ?_
  intro w3 hw3
  have HW3 := hid hw3
  have HP4 := hid (HP3.out.grown hw3.grown (by simp; omega))
  clear hw3
  refine hK.out _ _ HP4.out (fun hHeld => ?_)
  clear hK K
  simp only [Act.put, List.getElem_toArray, List.getElem_cons_zero, List.getElem_cons_succ]
  refine wpAnyH_done (by kernel_rfl) ?_ _
  simp only [noPanic]
  clear hHeld
  have hx0 := H0.out.below HBZ.out
  have hx1 := H1.out.below HBZ.out
  have HC := hid (⟨HP4.out, (HW3.out.grown.block (p + 1) (by have := (HBZ.out.block _ (hp_lt H3.out.2.1)).trans H3.out.2.1; exact hp_lt this) (by simp)).trans ((HBZ.out.block _ (hp_lt H3.out.2.1)).trans H3.out.2.1), (HW3.out.grown.block (p + 1 + 1) (by have := (HBZ.out.block _ (hp_lt H3.out.2.2)).trans H3.out.2.2; exact hp_lt this) (by simp)).trans ((HBZ.out.block _ (hp_lt H3.out.2.2)).trans H3.out.2.2), HW3.out.blk, hx0.typ HZB.out (by decide) (by decide) HW3.out.grown, hx1.typ HZB.out (by decide) (by decide) HW3.out.grown⟩ : Cl w0.heap.size p b0 b1 σ τ 0 dd (.slice ao pss.length c) σ w3)
  have HPB := hid (show w0.heap.size ≤ p + 1 + 1 + 1 by have h1 := HB1.out.size; have h2 := HS3.out; omega)
  have HB3 := hid ((HB1.out.trans (HBZ.out.mono HB1.out.size)).grown HW3.out.grown (Nat.le_trans HB1.out.size HBZ.out.size) (by intro k hk; cases hk; exact HPB.out))
  have HK3 := hid (gb_then (gb_trans HK1.out (below_gb HBZ.out _)) HW3.out.grown (fun j hj => Or.inl (by cases hj; have := HPE.out; omega)))
  clear hx0 hx1 HW3 HP4 HP3 HZB HBZ HP2 HP1 H3 HBW H0 H1 HB1 HS3
  have HPW := hid (show w0.heap.size ≤ p by rw [HPE.out]; exact HWB.out)
  have cd := HC.out.od
  have eqd := of_eq (sumP σ.H σ.buf σ.N) (sumP_length _ _ _)
  obtain ⟨D, HD⟩ : ∃ D, Hid (D = u8V (sumP σ.H σ.buf σ.N)) := ⟨_, rfl⟩
  rw [← HD.out] at eqd
  by_cases hd0 : dd = 0
  · subst hd0
    have cp := HC.out.op
    go_upto_region 4 with fail
    clear cd
    go_wp2_with fail
    refine (parts_any (fun k => k < w0.heap.size) w3 _ pss (HV.out.below HB3.out) HN1.out).mono ?_
    rintro e w4 ⟨v1, rfl, us, hp⟩
    have HLA := hid (hp.above (fun j hj => Nat.le_trans (fl_each pss j hj) (Nat.le_trans HNN.out (by omega))))
    have HC4 := hid (HC.out.below hp.bel)
    have HB4 := hid (HB3.out.trans (hp.bel.mono HB3.out.size))
    have HK4 := hid (gb_trans HK3.out (below_gb hp.bel _))
    have HLTc := hid (show b0 < w3.heap.size from HC.out.a0.hg.lt)
    have HLTp := hid (show p < w3.heap.size from HC.out.pb.lt)
    clear hp cp
    obtain ⟨a1, k1, hv1⟩ := lists_sh HLA.out
    subst hv1
    by_cases hfit : σ.N + (fl pss).length ≤ 2305843009213693951
    · go_wp2_with fail
      refine (write_ok w4 b0 σ.H σ.buf σ.N _ pss (HT.out.below HB4.out) HC4.out.a0.hg (HLA.out.imp (fun k hk => by have := HLTc.out; omega)) (by have := HN1.out; omega) hfit).mono ?_
      rintro e w5 ⟨rfl, hst, _, hg⟩
      have HC5 := hid (HC4.out.s.grown hg (Ne.symm (hg_other HC4.out.a0.hg HC4.out.pb.blk (by decide))) (Ne.symm (hg_other HC4.out.a0.hg HC4.out.ob (by decide))) (Ne.symm (hg_other HC4.out.a0.hg HC4.out.sb (by decide))))
      have HZ5 := hid ((hg.block _ (hp_lt HC4.out.zb) (by simpa using hg_other HC4.out.a0.hg HC4.out.zb (by decide))).trans HC4.out.zb)
      have HA5 := hid (HC4.out.a1.other HC4.out.a0.hg hg HNE.out)
      have HG5 := hid hst.hg
      have HO5 := hid (HC4.out.a0.ow.kept hg (Or.inr (own_hash HC4.out.a0.ow HC4.out.a0.hg)))
      have HL5 := hid (HLA.out.keep hg (fun k hk => by have := HLTc.out; omega))
      have HB5 := hid (HB4.out.grown hg HB4.out.size (by intro k hk; cases hk; exact HC4.out.a0.lo))
      have HK5 := hid (gb_trans HK4.out hg)
      clear hst hg
      have cp := HC5.out.op
      go_upto_region 6 with fail
      refine wp_region_list ?_
      show wpList _ _ _ (_ :: _) _ _
      refine ld_row (by rfl) 27 (.tmp 7) (by rfl) (p + 1 + 1 + 1) (by rfl) _ 27 HC5.out.sb _ Tryd.underlying27 rfl HSZ.out ?_
      go_wp2_with fail
      refine (rwrite_ok (fun k => k < w0.heap.size) w5 σ.H σ.v σ.buf σ.N _ pss HC4.out.a0.hl (HR.out.below HB5.out) (HO5.out.src (by have := HC4.out.a0.len; omega)) HC4.out.a0.len (HV.out.below HB5.out) HN1.out HNN.out hfit).mono ?_
      rintro e w6 ⟨v6, rfl, ho6, hb6⟩
      obtain ⟨ρ, HRH⟩ : ∃ ρ : S5, Hid (ρ = ⟨(absorb (σ.H, σ.buf) (fl pss)).1, v6, (absorb (σ.H, σ.buf) (fl pss)).2, σ.N + (fl pss).length⟩) := ⟨_, rfl⟩
      have HG6 := hid (show Hg w6 b0 ρ.H ρ.buf ρ.N by rw [HRH.out]; exact HG5.out.below hb6)
      have HOW6 := hid (show OwnB w6 0 ρ.v ρ.buf by rw [HRH.out]; exact ho6.le (Nat.zero_le _))
      have HHL := hid (show ρ.H.length = 8 by rw [HRH.out]; exact absorb_H _ _ HC4.out.a0.hl)
      have HLE := hid (show ρ.N ≤ 2305843009213693951 by rw [HRH.out]; exact hfit)
      rw [show scells (absorb (σ.H, σ.buf) (fl pss)).1 v6 ((σ.N + (fl pss).length : Nat) : Int) = ρ.cs by rw [HRH.out]; rfl]
      have HC6 := hid (HC5.out.below hb6)
      have HZ6 := hid ((hb6.block _ (hp_lt HZ5.out)).trans HZ5.out)
      have HA6 := hid (HA5.out.below hb6)
      have HL6 := hid (HL5.out.below hb6)
      have HB6 := hid (HB5.out.trans (hb6.mono HB5.out.size))
      have HK6 := hid (gb_trans HK5.out (below_gb hb6 _))
      have HLO := hid HC4.out.a0.lo
      clear hb6 cp
      have HLR := hid (show ρ.cs.length = 10 from scells_length _ _ _ HHL.out)
      have HOR := hid (show ∀ v ∈ ρ.cs, v.oneCell' = true from scells_one _ _ _ HOW6.out.one)
      have HSR : Hid ((Tryd.prog.info? 27).map (·.size) = some ρ.cs.length) := by rw [HLR.out]; exact hid Tryd.sizeState
      rename_i Kx hKx
      refine hKx _ _ ?_
      clear hKx
      refine mv_row (by rfl) (.tmp 36) (by rfl) (.tuple #[.agg ρ.cs.toArray, .int .i64 0]) (by rfl) ?_
      refine ex_row (by rfl) (.tmp 32) 0 (by rfl) _ (by rfl) (.agg ρ.cs.toArray) rfl ?_
      refine ex_row (by rfl) (.tmp 32) 1 (by rfl) _ (by rfl) (.int .i64 0) rfl ?_
      refine al_row (by rfl) 27 (by rfl) _ HZ.out ?_
      refine st_new (by rfl) 27 (.tmp 10) (.tmp 37) (by rfl) ρ.cs (by rfl) (by rfl) _ _ HSR.out (by rw [List.size_toArray, HLR.out]; rfl) HOR.out ?_
      have hbw := below_walk w6 (.cells ρ.cs.toArray 27)
      have HN7 := hid (hp_new w6 (.cells ρ.cs.toArray 27))
      have HC7 := hid (HC6.out.below hbw)
      have HZ7 := hid ((hbw.block _ (hp_lt HZ6.out)).trans HZ6.out)
      have HA7 := hid (HA6.out.below hbw)
      have HL7 := hid (HL6.out.below hbw)
      have HG7 := hid (HG6.out.below hbw)
      have HOW7 := hid (HOW6.out.below hbw)
      have HB7 := hid (HB6.out.trans (hbw.mono HB6.out.size))
      have HK7 := hid (gb_trans HK6.out (below_gb hbw _))
      clear hbw
      generalize w6.alloc (.cells ρ.cs.toArray 27) = w7 at HN7 HC7 HZ7 HA7 HL7 HG7 HOW7 HB7 HK7 ⊢
      obtain ⟨sn, HSN⟩ : ∃ g, Hid (g = w6.heap.size) := ⟨_, rfl⟩
      rw [← HSN.out] at HN7 ⊢
      have c22 := HC7.out.pb.cn
      have HTH := hid (show w7.there p 2 ρ.cs.toArray.size by rw [List.size_toArray, HLR.out]; exact HC7.out.pb.there 2 10 (by omega))
      have HSA : Hid ((Tryd.prog.info? 27).map (·.size) = some ρ.cs.toArray.size) := by rw [List.size_toArray]; exact HSR
      have HOA := hid (all_oneCell_toArray HOR.out)
      go_upto_region 8 with (first
        | (refine ld_row (by rfl) 27 (.tmp 10) (by rfl) sn (by rfl) _ 27 HN7.out _ Tryd.underlying27 rfl HSR.out ?_)
        | (refine wpList_store_mid (by rfl) 27 (.tmp 43) (.tmp 41) (by rfl) p 2 ρ.cs.toArray (by rfl) (by rfl) HTH.out HSA.out HOA.out ?_))
      clear c22
      have hps := HC7.out.pb.setS0 ρ.cs HLR.out
      have HC8 := hid (⟨hps.1, (hps.2.block _ (hp_lt HC7.out.ob) (by intro e; injection e with e; omega)).trans HC7.out.ob, (hps.2.block _ (hp_lt HC7.out.sb) (by intro e; injection e with e; omega)).trans HC7.out.sb⟩ : Cs p b0 b1 ρ.cs τ.cs 0 0 (.slice ao pss.length c) σ (w7.setCells p 2 ρ.cs))
      have HZ8 := hid ((hps.2.block _ (hp_lt HZ7.out) (by intro e; injection e with e; omega)).trans HZ7.out)
      have HA8 := hid (HA7.out.typ HC7.out.pb.blk (by decide) (by decide) hps.2)
      have HAT8 := hid ((⟨HG7.out, HOW7.out, HLE.out, HHL.out, HLO.out⟩ : At w7 w0.heap.size b0 ρ).typ HC7.out.pb.blk (by decide) (by decide) hps.2)
      have HL8 := hid (HL7.out.keep hps.2 (fun k hk => by have := HLTp.out; omega))
      have HB8 := hid (HB7.out.grown hps.2 HB7.out.size (by intro k hk; cases hk; exact HPW.out))
      have HK8 := hid (gb_then HK7.out hps.2 (fun j hj => Or.inl (by cases hj; show w.heap.size ≤ p; have := HPE.out; omega)))
      clear hps
      generalize w7.setCells p 2 ρ.cs = w8 at HC8 HZ8 HA8 HAT8 HL8 HB8 HK8 ⊢
      have HSPx : Hid ((Tryd.prog.info? 43).map (·.size) = some (pc b0 b1 ρ.cs τ.cs 0).length) := by rw [pc_length _ _ _ _ _ HC8.out.pb.l0 HC8.out.pb.l1]; exact hid Tryd.sizePair
      have hdr := below_drew' w8
      have HC9 := hid (HC8.out.below hdr)
      have HZ9 := hid ((hdr.block _ (hp_lt HZ8.out)).trans HZ8.out)
      have HA9 := hid (HA8.out.below hdr)
      have HAT9 := hid (HAT8.out.below hdr)
      have HL9 := hid (HL8.out.below hdr)
      have HB9 := hid (HB8.out.trans (hdr.mono HB8.out.size))
      have HK9 := hid (gb_trans HK8.out (below_gb hdr _))
      clear hdr
      refine wp_noPanic (wp_region_held_drew (S := fun W => Cs p b0 b1 ρ.cs τ.cs 0 0 (.slice ao pss.length c) σ W) (by kernel_rfl) HC9.out ?_)
      intro hHeld
      refine wpAnyH_take (i := 0) (v := (.agg (pc b0 b1 ρ.cs τ.cs 0).toArray)) rfl (by kernel_rfl) (by kernel_rfl) (by kernel_rfl) (fun _ _ _ h => h) (yieldsIf_load_mid (by rfl) 43 (.tmp 2) rfl p 0 rfl (pc b0 b1 ρ.cs τ.cs 0) _ (fun W hW => Pb.whole hW.pb) Tryd.underlying43 rfl HSPx.out) hHeld ?_
      simp only [Act.put, List.getElem_toArray, List.getElem_cons_zero, List.setIfInBounds_toArray, List.set_cons_succ, List.set_cons_zero]
      refine wpAnyH_take (i := 1) (v := (.int .i64 0)) rfl (by kernel_rfl) (by kernel_rfl) (by kernel_rfl) (fun _ _ _ h => h) (Or.inl ⟨by rfl, fun W _ => by go_simp⟩) hHeld ?_
      simp only [Act.put, List.getElem_toArray, List.getElem_cons_zero, List.getElem_cons_succ, List.setIfInBounds_toArray, List.set_cons_succ, List.set_cons_zero]
      refine wpAnyH_take (i := 3) (v := (.int .i64 0)) rfl (by kernel_rfl) (by kernel_rfl) (by kernel_rfl) (fun _ _ _ h => h) (Or.inl ⟨by rfl, fun W _ => by go_simp⟩) hHeld ?_
      simp only [Act.put, List.getElem_toArray, List.getElem_cons_zero, List.getElem_cons_succ, List.setIfInBounds_toArray, List.set_cons_succ, List.set_cons_zero]
      refine wpAnyH_ready (rs := [2]) (by kernel_rfl) (by simp) ?_
      refine AllReadyH.cons rfl (fun K hK => ?_) AllReadyH.nil
      go_simp
      refine (num_any _ 0).mono ?_
      rintro e v2 ⟨rfl, h0⟩
      subst h0
      go_wp2_with fail
      refine hK.out _ _ HC9.out (fun hHeld => ?_)
      clear hK K
      refine wpAnyH_take (i := 4) (v := (.bool true)) rfl (by kernel_rfl) (by kernel_rfl) (by kernel_rfl) (fun _ _ _ h => h) (Or.inl ⟨by rfl, fun W _ => by go_simp⟩) hHeld ?_
      simp only [Act.put, List.getElem_toArray, List.getElem_cons_zero, List.getElem_cons_succ, List.setIfInBounds_toArray, List.set_cons_succ, List.set_cons_zero]
      refine wpAnyH_take (i := 5) (v := (.bool true)) rfl (by kernel_rfl) (by kernel_rfl) (by kernel_rfl) (fun _ _ _ h => h) (Or.inl ⟨by rfl, fun W _ => by go_simp⟩) hHeld ?_
      simp only [Act.put, List.getElem_toArray, List.getElem_cons_zero, List.getElem_cons_succ, List.setIfInBounds_toArray, List.set_cons_succ, List.set_cons_zero]
      refine wpAnyH_take (i := 6) (v := (.slice a1 pss.length k1)) rfl (by kernel_rfl) (by kernel_rfl) (by kernel_rfl) (fun _ _ _ h => h) (Or.inl ⟨by rfl, fun W _ => by go_simp⟩) hHeld ?_
      simp only [Act.put, List.getElem_toArray, List.getElem_cons_zero, List.getElem_cons_succ, List.setIfInBounds_toArray, List.set_cons_succ, List.set_cons_zero]
      refine wpAnyH_take (i := 7) (v := (.pointer (some ⟨p + 1, 1, none⟩))) rfl (by kernel_rfl) (by kernel_rfl) (by kernel_rfl) (fun _ _ _ h => h) (Or.inl ⟨by rfl, fun W _ => by go_simp⟩) hHeld ?_
      simp only [Act.put, List.getElem_toArray, List.getElem_cons_zero, List.getElem_cons_succ, List.setIfInBounds_toArray, List.set_cons_succ, List.set_cons_zero]
      refine wpAnyH_take (i := 8) (v := (.slice ao pss.length c)) rfl (by kernel_rfl) (by kernel_rfl) (by kernel_rfl) (fun _ _ _ h => h) (Or.inl ⟨by rfl, fun W hW => by have hcell := Cs.op hW; clear hW; go_simp⟩) hHeld ?_
      simp only [Act.put, List.getElem_toArray, List.getElem_cons_zero, List.getElem_cons_succ, List.setIfInBounds_toArray, List.set_cons_succ, List.set_cons_zero]
      refine wpAnyH_ready (rs := [9]) (by kernel_rfl) (by simp) ?_
      refine AllReadyH.cons rfl (fun K hK => ?_) AllReadyH.nil
      go_simp
      refine (same_parts _ (fun k => k < w0.heap.size) _ _ _ pss HL9.out (HV.out.below HB9.out) HN1.out).mono ?_
      rintro e v3 ⟨rfl, q3, hq3⟩
      have HC10 := hid (show Cs _ _ _ _ _ _ _ _ _ v3 by rw [hq3]; exact ⟨⟨HC9.out.pb.blk, HC9.out.pb.l0, HC9.out.pb.l1⟩, HC9.out.ob, HC9.out.sb⟩)
      have hdr := (⟨rfl, rfl, rfl, Nat.le_refl _, fun _ _ => rfl⟩ : Below w8.drew.heap.size w8.drew (w8.drew.drewN q3))
      rw [← hq3] at hdr
      have HZ10 := hid ((hdr.block _ (hp_lt HZ9.out)).trans HZ9.out)
      have HA10 := hid (HA9.out.below hdr)
      have HAT10 := hid (HAT9.out.below hdr)
      have HB10 := hid (HB9.out.trans (hdr.mono HB9.out.size))
      have HK10 := hid (gb_trans HK9.out (below_gb hdr _))
      clear hdr hq3
      go_wp2_with fail
      refine hK.out _ _ HC10.out (fun hHeld => ?_)
      clear hK K
      refine wpAnyH_take (i := 10) (v := (.bool true)) rfl (by kernel_rfl) (by kernel_rfl) (by kernel_rfl) (fun _ _ _ h => h) (Or.inl ⟨by rfl, fun W _ => by go_simp⟩) hHeld ?_
      simp only [Act.put, List.getElem_toArray, List.getElem_cons_zero, List.getElem_cons_succ, List.setIfInBounds_toArray, List.set_cons_succ, List.set_cons_zero]
      refine wpAnyH_ready (rs := [11]) (by kernel_rfl) (by simp) ?_
      refine AllReadyH.cons rfl (fun K hK => ?_) AllReadyH.nil
      refine step_store_row (by rfl) 43 (.tmp 4) (.tmp 44) (by rfl) (p + 1 + 1) (pc b0 b1 ρ.cs τ.cs 0) (by rfl) (by rfl) _ _ HZ10.out HSPx.out (by rw [List.size_toArray, zp_length]; exact (pc_length _ _ _ _ _ HC10.out.pb.l0 HC10.out.pb.l1).symm) (pc_one _ _ _ _ _ HOR.out HA10.out.one) ?_
      intro wz hwz
      have HWZ := hid hwz
      have HCZ := hid (HC10.out.grown hwz.grown (by omega) (by omega) (by omega))
      clear hwz
      refine hK.out _ _ HCZ.out (fun hHeld => ?_)
      clear hK K
      simp only [Act.put, List.getElem_toArray, List.getElem_cons_zero, List.getElem_cons_succ]
      refine wpAnyH_take (i := 12) (v := (.bool true)) rfl (by kernel_rfl) (by kernel_rfl) (by kernel_rfl) (fun _ _ _ h => h) (Or.inl ⟨by rfl, fun W _ => by go_simp⟩) hHeld ?_
      simp only [Act.put, List.getElem_toArray, List.getElem_cons_zero, List.getElem_cons_succ, List.setIfInBounds_toArray, List.set_cons_succ, List.set_cons_zero]
      refine wpAnyH_done (by kernel_rfl) ?_ _
      simp only [noPanic]
      clear hHeld
      go_wp2_with fail
      refine ret_row2 4 5 43 rfl (p + 1 + 1) rfl (pc b0 b1 ρ.cs τ.cs 0) 43 HWZ.out.blk _ Tryd.underlying43 rfl HSPx.out (.bool true) rfl rfl ⟨b0, b1, ρ, τ, 0, rfl, (HAT10.out).typ HZ10.out (by decide) (by decide) HWZ.out.grown, (HA10.out).typ HZ10.out (by decide) (by decide) HWZ.out.grown, HNE.out, by omega, (HB10.out).grown HWZ.out.grown (HB10.out).size (by intro k hk; cases hk; exact Nat.le_trans HPW.out (by omega)), gb_then HK10.out HWZ.out.grown (fun j hj => Or.inl (by cases hj; have := HPE.out; omega))⟩
    · go_wp2_with fail
      refine (write_long (fun k => w3.heap.size ≤ k) w4 b0 σ.H σ.buf σ.N _ pss HC4.out.a0.hg HLA.out (by have := HN1.out; omega) HC4.out.a0.le (by omega)).mono ?_
      rintro e w5 ⟨rfl, hw5⟩
      subst w5
      have HC5 := hid HC4.out.s
      have HZ5 := hid HC4.out.zb
      have HA5 := hid HC4.out.a1
      have HL5 := hid HLA.out
      have HB5 := hid HB4.out
      have HK5 := hid HK4.out
      have cp := HC5.out.op
      go_upto_region 6 with fail
      refine wp_region_list ?_
      show wpList _ _ _ (_ :: _) _ _
      refine ld_row (by rfl) 27 (.tmp 7) (by rfl) (p + 1 + 1 + 1) (by rfl) _ 27 HC5.out.sb _ Tryd.underlying27 rfl HSZ.out ?_
      go_wp2_with fail
      refine (rwrite_long (fun k => k < w0.heap.size) w4 σ.H σ.v σ.N _ pss HC4.out.a0.hl HC4.out.a0.ow.one (HV.out.below HB5.out) HN1.out HNN.out HC4.out.a0.le (by omega)).mono ?_
      rintro e w6 ⟨rfl, hb6⟩
      obtain ⟨ρ, HRH⟩ : ∃ ρ : S5, Hid (ρ = σ) := ⟨_, rfl⟩
      have HG6 := hid (show Hg w6 b0 ρ.H ρ.buf ρ.N by rw [HRH.out]; exact HC4.out.a0.hg.below hb6)
      have HOW6 := hid (show OwnB w6 0 ρ.v ρ.buf by rw [HRH.out]; exact HC4.out.a0.ow.below hb6)
      have HHL := hid (show ρ.H.length = 8 by rw [HRH.out]; exact HC4.out.a0.hl)
      have HLE := hid (show ρ.N ≤ 2305843009213693951 by rw [HRH.out]; exact HC4.out.a0.le)
      rw [show scells σ.H σ.v (σ.N : Int) = ρ.cs by rw [HRH.out]; rfl]
      have HC6 := hid (HC5.out.below hb6)
      have HZ6 := hid ((hb6.block _ (hp_lt HZ5.out)).trans HZ5.out)
      have HA6 := hid (HA5.out.below hb6)
      have HL6 := hid (HL5.out.below hb6)
      have HB6 := hid (HB5.out.trans (hb6.mono HB5.out.size))
      have HK6 := hid (gb_trans HK5.out (below_gb hb6 _))
      have HLO := hid HC4.out.a0.lo
      clear hb6 cp
      have HLR := hid (show ρ.cs.length = 10 from scells_length _ _ _ HHL.out)
      have HOR := hid (show ∀ v ∈ ρ.cs, v.oneCell' = true from scells_one _ _ _ HOW6.out.one)
      have HSR : Hid ((Tryd.prog.info? 27).map (·.size) = some ρ.cs.length) := by rw [HLR.out]; exact hid Tryd.sizeState
      rename_i Kx hKx
      refine hKx _ _ ?_
      clear hKx
      refine mv_row (by rfl) (.tmp 36) (by rfl) (.tuple #[.agg ρ.cs.toArray, .int .i64 21]) (by rfl) ?_
      refine ex_row (by rfl) (.tmp 32) 0 (by rfl) _ (by rfl) (.agg ρ.cs.toArray) rfl ?_
      refine ex_row (by rfl) (.tmp 32) 1 (by rfl) _ (by rfl) (.int .i64 21) rfl ?_
      refine al_row (by rfl) 27 (by rfl) _ HZ.out ?_
      refine st_new (by rfl) 27 (.tmp 10) (.tmp 37) (by rfl) ρ.cs (by rfl) (by rfl) _ _ HSR.out (by rw [List.size_toArray, HLR.out]; rfl) HOR.out ?_
      have hbw := below_walk w6 (.cells ρ.cs.toArray 27)
      have HN7 := hid (hp_new w6 (.cells ρ.cs.toArray 27))
      have HC7 := hid (HC6.out.below hbw)
      have HZ7 := hid ((hbw.block _ (hp_lt HZ6.out)).trans HZ6.out)
      have HA7 := hid (HA6.out.below hbw)
      have HL7 := hid (HL6.out.below hbw)
      have HG7 := hid (HG6.out.below hbw)
      have HOW7 := hid (HOW6.out.below hbw)
      have HB7 := hid (HB6.out.trans (hbw.mono HB6.out.size))
      have HK7 := hid (gb_trans HK6.out (below_gb hbw _))
      clear hbw
      generalize w6.alloc (.cells ρ.cs.toArray 27) = w7 at HN7 HC7 HZ7 HA7 HL7 HG7 HOW7 HB7 HK7 ⊢
      obtain ⟨sn, HSN⟩ : ∃ g, Hid (g = w6.heap.size) := ⟨_, rfl⟩
      rw [← HSN.out] at HN7 ⊢
      have c22 := HC7.out.pb.cn
      have HTH := hid (show w7.there p 2 ρ.cs.toArray.size by rw [List.size_toArray, HLR.out]; exact HC7.out.pb.there 2 10 (by omega))
      have HSA : Hid ((Tryd.prog.info? 27).map (·.size) = some ρ.cs.toArray.size) := by rw [List.size_toArray]; exact HSR
      have HOA := hid (all_oneCell_toArray HOR.out)
      go_upto_region 8 with (first
        | (refine ld_row (by rfl) 27 (.tmp 10) (by rfl) sn (by rfl) _ 27 HN7.out _ Tryd.underlying27 rfl HSR.out ?_)
        | (refine wpList_store_mid (by rfl) 27 (.tmp 43) (.tmp 41) (by rfl) p 2 ρ.cs.toArray (by rfl) (by rfl) HTH.out HSA.out HOA.out ?_))
      clear c22
      have hps := HC7.out.pb.setS0 ρ.cs HLR.out
      have HC8 := hid (⟨hps.1, (hps.2.block _ (hp_lt HC7.out.ob) (by intro e; injection e with e; omega)).trans HC7.out.ob, (hps.2.block _ (hp_lt HC7.out.sb) (by intro e; injection e with e; omega)).trans HC7.out.sb⟩ : Cs p b0 b1 ρ.cs τ.cs 0 0 (.slice ao pss.length c) σ (w7.setCells p 2 ρ.cs))
      have HZ8 := hid ((hps.2.block _ (hp_lt HZ7.out) (by intro e; injection e with e; omega)).trans HZ7.out)
      have HA8 := hid (HA7.out.typ HC7.out.pb.blk (by decide) (by decide) hps.2)
      have HAT8 := hid ((⟨HG7.out, HOW7.out, HLE.out, HHL.out, HLO.out⟩ : At w7 w0.heap.size b0 ρ).typ HC7.out.pb.blk (by decide) (by decide) hps.2)
      have HL8 := hid (HL7.out.keep hps.2 (fun k hk => by have := HLTp.out; omega))
      have HB8 := hid (HB7.out.grown hps.2 HB7.out.size (by intro k hk; cases hk; exact HPW.out))
      have HK8 := hid (gb_then HK7.out hps.2 (fun j hj => Or.inl (by cases hj; show w.heap.size ≤ p; have := HPE.out; omega)))
      clear hps
      generalize w7.setCells p 2 ρ.cs = w8 at HC8 HZ8 HA8 HAT8 HL8 HB8 HK8 ⊢
      have HSPx : Hid ((Tryd.prog.info? 43).map (·.size) = some (pc b0 b1 ρ.cs τ.cs 0).length) := by rw [pc_length _ _ _ _ _ HC8.out.pb.l0 HC8.out.pb.l1]; exact hid Tryd.sizePair
      have hdr := below_drew' w8
      have HC9 := hid (HC8.out.below hdr)
      have HZ9 := hid ((hdr.block _ (hp_lt HZ8.out)).trans HZ8.out)
      have HA9 := hid (HA8.out.below hdr)
      have HAT9 := hid (HAT8.out.below hdr)
      have HL9 := hid (HL8.out.below hdr)
      have HB9 := hid (HB8.out.trans (hdr.mono HB8.out.size))
      have HK9 := hid (gb_trans HK8.out (below_gb hdr _))
      clear hdr
      refine wp_noPanic (wp_region_held_drew (S := fun W => Cs p b0 b1 ρ.cs τ.cs 0 0 (.slice ao pss.length c) σ W) (by kernel_rfl) HC9.out ?_)
      intro hHeld
      refine wpAnyH_take (i := 0) (v := (.agg (pc b0 b1 ρ.cs τ.cs 0).toArray)) rfl (by kernel_rfl) (by kernel_rfl) (by kernel_rfl) (fun _ _ _ h => h) (yieldsIf_load_mid (by rfl) 43 (.tmp 2) rfl p 0 rfl (pc b0 b1 ρ.cs τ.cs 0) _ (fun W hW => Pb.whole hW.pb) Tryd.underlying43 rfl HSPx.out) hHeld ?_
      simp only [Act.put, List.getElem_toArray, List.getElem_cons_zero, List.setIfInBounds_toArray, List.set_cons_succ, List.set_cons_zero]
      refine wpAnyH_take (i := 1) (v := (.int .i64 21)) rfl (by kernel_rfl) (by kernel_rfl) (by kernel_rfl) (fun _ _ _ h => h) (Or.inl ⟨by rfl, fun W _ => by go_simp⟩) hHeld ?_
      simp only [Act.put, List.getElem_toArray, List.getElem_cons_zero, List.getElem_cons_succ, List.setIfInBounds_toArray, List.set_cons_succ, List.set_cons_zero]
      refine wpAnyH_take (i := 3) (v := (.int .i64 21)) rfl (by kernel_rfl) (by kernel_rfl) (by kernel_rfl) (fun _ _ _ h => h) (Or.inl ⟨by rfl, fun W _ => by go_simp⟩) hHeld ?_
      simp only [Act.put, List.getElem_toArray, List.getElem_cons_zero, List.getElem_cons_succ, List.setIfInBounds_toArray, List.set_cons_succ, List.set_cons_zero]
      refine wpAnyH_ready (rs := [2]) (by kernel_rfl) (by simp) ?_
      refine AllReadyH.cons rfl (fun K hK => ?_) AllReadyH.nil
      go_simp
      refine (num_any _ 21).mono ?_
      rintro e v2 ⟨rfl, h0⟩
      subst h0
      go_wp2_with fail
      refine hK.out _ _ HC9.out (fun hHeld => ?_)
      clear hK K
      refine wpAnyH_take (i := 4) (v := (.bool true)) rfl (by kernel_rfl) (by kernel_rfl) (by kernel_rfl) (fun _ _ _ h => h) (Or.inl ⟨by rfl, fun W _ => by go_simp⟩) hHeld ?_
      simp only [Act.put, List.getElem_toArray, List.getElem_cons_zero, List.getElem_cons_succ, List.setIfInBounds_toArray, List.set_cons_succ, List.set_cons_zero]
      refine wpAnyH_take (i := 5) (v := (.bool true)) rfl (by kernel_rfl) (by kernel_rfl) (by kernel_rfl) (fun _ _ _ h => h) (Or.inl ⟨by rfl, fun W _ => by go_simp⟩) hHeld ?_
      simp only [Act.put, List.getElem_toArray, List.getElem_cons_zero, List.getElem_cons_succ, List.setIfInBounds_toArray, List.set_cons_succ, List.set_cons_zero]
      refine wpAnyH_take (i := 6) (v := (.slice a1 pss.length k1)) rfl (by kernel_rfl) (by kernel_rfl) (by kernel_rfl) (fun _ _ _ h => h) (Or.inl ⟨by rfl, fun W _ => by go_simp⟩) hHeld ?_
      simp only [Act.put, List.getElem_toArray, List.getElem_cons_zero, List.getElem_cons_succ, List.setIfInBounds_toArray, List.set_cons_succ, List.set_cons_zero]
      refine wpAnyH_take (i := 7) (v := (.pointer (some ⟨p + 1, 1, none⟩))) rfl (by kernel_rfl) (by kernel_rfl) (by kernel_rfl) (fun _ _ _ h => h) (Or.inl ⟨by rfl, fun W _ => by go_simp⟩) hHeld ?_
      simp only [Act.put, List.getElem_toArray, List.getElem_cons_zero, List.getElem_cons_succ, List.setIfInBounds_toArray, List.set_cons_succ, List.set_cons_zero]
      refine wpAnyH_take (i := 8) (v := (.slice ao pss.length c)) rfl (by kernel_rfl) (by kernel_rfl) (by kernel_rfl) (fun _ _ _ h => h) (Or.inl ⟨by rfl, fun W hW => by have hcell := Cs.op hW; clear hW; go_simp⟩) hHeld ?_
      simp only [Act.put, List.getElem_toArray, List.getElem_cons_zero, List.getElem_cons_succ, List.setIfInBounds_toArray, List.set_cons_succ, List.set_cons_zero]
      refine wpAnyH_ready (rs := [9]) (by kernel_rfl) (by simp) ?_
      refine AllReadyH.cons rfl (fun K hK => ?_) AllReadyH.nil
      go_simp
      refine (same_parts _ (fun k => k < w0.heap.size) _ _ _ pss HL9.out (HV.out.below HB9.out) HN1.out).mono ?_
      rintro e v3 ⟨rfl, q3, hq3⟩
      have HC10 := hid (show Cs _ _ _ _ _ _ _ _ _ v3 by rw [hq3]; exact ⟨⟨HC9.out.pb.blk, HC9.out.pb.l0, HC9.out.pb.l1⟩, HC9.out.ob, HC9.out.sb⟩)
      have hdr := (⟨rfl, rfl, rfl, Nat.le_refl _, fun _ _ => rfl⟩ : Below w8.drew.heap.size w8.drew (w8.drew.drewN q3))
      rw [← hq3] at hdr
      have HZ10 := hid ((hdr.block _ (hp_lt HZ9.out)).trans HZ9.out)
      have HA10 := hid (HA9.out.below hdr)
      have HAT10 := hid (HAT9.out.below hdr)
      have HB10 := hid (HB9.out.trans (hdr.mono HB9.out.size))
      have HK10 := hid (gb_trans HK9.out (below_gb hdr _))
      clear hdr hq3
      go_wp2_with fail
      refine hK.out _ _ HC10.out (fun hHeld => ?_)
      clear hK K
      refine wpAnyH_take (i := 10) (v := (.bool true)) rfl (by kernel_rfl) (by kernel_rfl) (by kernel_rfl) (fun _ _ _ h => h) (Or.inl ⟨by rfl, fun W _ => by go_simp⟩) hHeld ?_
      simp only [Act.put, List.getElem_toArray, List.getElem_cons_zero, List.getElem_cons_succ, List.setIfInBounds_toArray, List.set_cons_succ, List.set_cons_zero]
      refine wpAnyH_ready (rs := [11]) (by kernel_rfl) (by simp) ?_
      refine AllReadyH.cons rfl (fun K hK => ?_) AllReadyH.nil
      refine step_store_row (by rfl) 43 (.tmp 4) (.tmp 44) (by rfl) (p + 1 + 1) (pc b0 b1 ρ.cs τ.cs 0) (by rfl) (by rfl) _ _ HZ10.out HSPx.out (by rw [List.size_toArray, zp_length]; exact (pc_length _ _ _ _ _ HC10.out.pb.l0 HC10.out.pb.l1).symm) (pc_one _ _ _ _ _ HOR.out HA10.out.one) ?_
      intro wz hwz
      have HWZ := hid hwz
      have HCZ := hid (HC10.out.grown hwz.grown (by omega) (by omega) (by omega))
      clear hwz
      refine hK.out _ _ HCZ.out (fun hHeld => ?_)
      clear hK K
      simp only [Act.put, List.getElem_toArray, List.getElem_cons_zero, List.getElem_cons_succ]
      refine wpAnyH_take (i := 12) (v := (.bool true)) rfl (by kernel_rfl) (by kernel_rfl) (by kernel_rfl) (fun _ _ _ h => h) (Or.inl ⟨by rfl, fun W _ => by go_simp⟩) hHeld ?_
      simp only [Act.put, List.getElem_toArray, List.getElem_cons_zero, List.getElem_cons_succ, List.setIfInBounds_toArray, List.set_cons_succ, List.set_cons_zero]
      refine wpAnyH_done (by kernel_rfl) ?_ _
      simp only [noPanic]
      clear hHeld
      go_wp2_with fail
      refine ret_row2 4 5 43 rfl (p + 1 + 1) rfl (pc b0 b1 ρ.cs τ.cs 0) 43 HWZ.out.blk _ Tryd.underlying43 rfl HSPx.out (.bool true) rfl rfl ⟨b0, b1, ρ, τ, 0, rfl, (HAT10.out).typ HZ10.out (by decide) (by decide) HWZ.out.grown, (HA10.out).typ HZ10.out (by decide) (by decide) HWZ.out.grown, HNE.out, by omega, (HB10.out).grown HWZ.out.grown (HB10.out).size (by intro k hk; cases hk; exact Nat.le_trans HPW.out (by omega)), gb_then HK10.out HWZ.out.grown (fun j hj => Or.inl (by cases hj; have := HPE.out; omega))⟩

  have q0 : (dd == 0) = false := by simpa using hd0
  by_cases hd1 : dd = 1
  · subst hd1
    go_upto_region 10 with fail
    clear cd
    have HC4 := hid (HC.out.below (below_drew' w3))
    have HB4 := hid (HB3.out.trans ((below_drew' w3).mono HB3.out.size))
    have HK4 := hid (gb_trans HK3.out (below_gb (below_drew' w3) _))
    refine wp_noPanic (wp_region_held_drew (S := fun W => Cs p b0 b1 σ.cs τ.cs 0 1 (.slice ao pss.length c) σ W) (by kernel_rfl) HC4.out.s ?_)
    intro hHeld
    refine wpAnyH_take (i := 0) (v := (.agg (pc b0 b1 σ.cs τ.cs 0).toArray)) rfl (by kernel_rfl) (by kernel_rfl) (by kernel_rfl) (fun _ _ _ h => h) (yieldsIf_load_mid (by rfl) 43 (.tmp 2) rfl p 0 rfl (pc b0 b1 σ.cs τ.cs 0) _ (fun W hW => Pb.whole hW.pb) Tryd.underlying43 rfl HSP.out) hHeld ?_
    simp only [Act.put, List.getElem_toArray, List.getElem_cons_zero, List.setIfInBounds_toArray, List.set_cons_succ, List.set_cons_zero]
    refine wpAnyH_take (i := 1) (v := (.pointer (some ⟨b0, 0, none⟩))) rfl (by kernel_rfl) (by kernel_rfl) (by kernel_rfl) (fun _ _ _ h => h) (Or.inl ⟨by rfl, fun W _ => by go_simp⟩) hHeld ?_
    simp only [Act.put, List.getElem_toArray, List.getElem_cons_zero, List.getElem_cons_succ, List.setIfInBounds_toArray, List.set_cons_succ, List.set_cons_zero]
    refine wpAnyH_take (i := 3) (v := (.agg σ.cs.toArray)) rfl (by kernel_rfl) (by kernel_rfl) (by kernel_rfl) (fun _ _ _ h => h) (yieldsIf_load_mid (by rfl) 27 (.tmp 7) rfl (p + 1 + 1 + 1) 0 rfl σ.cs _ (fun W hW => Cs.sr hW) Tryd.underlying27 rfl HSZ.out) hHeld ?_
    simp only [Act.put, List.getElem_toArray, List.getElem_cons_zero, List.getElem_cons_succ, List.setIfInBounds_toArray, List.set_cons_succ, List.set_cons_zero]
    refine wpAnyH_ready (rs := [2]) (by kernel_rfl) (by simp) ?_
    refine AllReadyH.cons rfl (fun K hK => ?_) AllReadyH.nil
    go_simp
    refine (sum_any _ b0 _ _ _ (HT.out.below HB4.out) HC4.out.a0.hg HC4.out.a0.le).mono ?_
    rintro e v1 ⟨rfl, hb⟩
    rw [← HD.out]
    have HC5 := hid (HC4.out.below hb)
    have HB5 := hid (HB4.out.trans (hb.mono HB4.out.size))
    have HK5 := hid (gb_trans HK4.out (below_gb hb _))
    clear hb
    go_wp2_with fail
    refine hK.out _ _ HC5.out.s (fun hHeld => ?_)
    clear hK K
    refine wpAnyH_ready (rs := [4]) (by kernel_rfl) (by simp) ?_
    refine AllReadyH.cons rfl (fun K hK => ?_) AllReadyH.nil
    go_simp
    refine (rsum_any _ σ.H σ.v σ.buf σ.N HC5.out.a0.hl (HR.out.below HB5.out) HC5.out.a0.src HC5.out.a0.len HC5.out.a0.le).mono ?_
    rintro e v2 ⟨rfl, hb⟩
    rw [← HD.out]
    have HC6 := hid (HC5.out.below hb)
    have HB6 := hid (HB5.out.trans (hb.mono HB5.out.size))
    have HK6 := hid (gb_trans HK5.out (below_gb hb _))
    have HC6s := hid HC6.out.s
    clear hb
    go_wp2_with fail
    refine hK.out _ _ HC6.out.s (fun hHeld => ?_)
    clear hK K
    refine wpAnyH_take (i := 5) (v := (.bool true)) rfl (by kernel_rfl) (by kernel_rfl) (by kernel_rfl) (fun _ _ _ h => h) (Or.inl ⟨by rfl, fun W _ => by have hfact := eqd; go_simp; first | done | simp [hfact]⟩) hHeld ?_
    simp only [Act.put, List.getElem_toArray, List.getElem_cons_zero, List.getElem_cons_succ, List.setIfInBounds_toArray, List.set_cons_succ, List.set_cons_zero]
    refine wpAnyH_ready (rs := [6]) (by kernel_rfl) (by simp) ?_
    refine AllReadyH.cons rfl (fun K hK => ?_) AllReadyH.nil
    refine step_store_row (by rfl) 43 (.tmp 4) (.tmp 57) (by rfl) (p + 1 + 1) (pc b0 b1 σ.cs τ.cs 0) (by rfl) (by rfl) _ _ HC6.out.zb HSP.out (by rw [List.size_toArray, zp_length]; exact (pc_length _ _ _ _ _ HC6s.out.pb.l0 HC6s.out.pb.l1).symm) (pc_one _ _ _ _ _ HC.out.a0.one HC.out.a1.one) ?_
    intro wz hwz
    have HWZ := hid hwz
    have HCZ := hid (HC6s.out.grown hwz.grown (by omega) (by omega) (by omega))
    clear hwz
    refine hK.out _ _ HCZ.out (fun hHeld => ?_)
    clear hK K
    simp only [Act.put, List.getElem_toArray, List.getElem_cons_zero, List.getElem_cons_succ]
    refine wpAnyH_take (i := 7) (v := (.bool true)) rfl (by kernel_rfl) (by kernel_rfl) (by kernel_rfl) (fun _ _ _ h => h) (Or.inl ⟨by rfl, fun W _ => by go_simp⟩) hHeld ?_
    simp only [Act.put, List.getElem_toArray, List.getElem_cons_zero, List.getElem_cons_succ, List.setIfInBounds_toArray, List.set_cons_succ, List.set_cons_zero]
    refine wpAnyH_done (by kernel_rfl) ?_ _
    simp only [noPanic]
    clear hHeld
    go_wp2_with fail
    refine ret_row2 4 5 43 rfl (p + 1 + 1) rfl (pc b0 b1 σ.cs τ.cs 0) 43 HWZ.out.blk _ Tryd.underlying43 rfl HSP.out (.bool true) rfl rfl ⟨b0, b1, σ, τ, 0, rfl, (HC6.out.a0).typ HC6.out.zb (by decide) (by decide) HWZ.out.grown, (HC6.out.a1).typ HC6.out.zb (by decide) (by decide) HWZ.out.grown, HNE.out, by omega, (HB6.out).grown HWZ.out.grown (HB6.out).size (by intro k hk; cases hk; exact Nat.le_trans HPW.out (by omega)), gb_then HK6.out HWZ.out.grown (fun j hj => Or.inl (by cases hj; have := HPE.out; omega))⟩
  have q1 : (dd == 1) = false := by simpa using hd1
  by_cases hd2 : dd = 2
  · subst hd2
    go_upto_region 12 with fail
    clear cd
    have HC4 := hid (HC.out.below (below_drew' w3))
    have HB4 := hid (HB3.out.trans ((below_drew' w3).mono HB3.out.size))
    have HK4 := hid (gb_trans HK3.out (below_gb (below_drew' w3) _))
    refine wp_noPanic (wp_region_held_drew (S := fun W => Cs p b0 b1 σ.cs τ.cs 0 2 (.slice ao pss.length c) σ W) (by kernel_rfl) HC4.out.s ?_)
    intro hHeld
    refine wpAnyH_take (i := 0) (v := (.agg (pc b0 b1 σ.cs τ.cs 0).toArray)) rfl (by kernel_rfl) (by kernel_rfl) (by kernel_rfl) (fun _ _ _ h => h) (yieldsIf_load_mid (by rfl) 43 (.tmp 2) rfl p 0 rfl (pc b0 b1 σ.cs τ.cs 0) _ (fun W hW => Pb.whole hW.pb) Tryd.underlying43 rfl HSP.out) hHeld ?_
    simp only [Act.put, List.getElem_toArray, List.getElem_cons_zero, List.setIfInBounds_toArray, List.set_cons_succ, List.set_cons_zero]
    refine wpAnyH_take (i := 1) (v := (.pointer (some ⟨b0, 0, none⟩))) rfl (by kernel_rfl) (by kernel_rfl) (by kernel_rfl) (fun _ _ _ h => h) (Or.inl ⟨by rfl, fun W _ => by go_simp⟩) hHeld ?_
    simp only [Act.put, List.getElem_toArray, List.getElem_cons_zero, List.getElem_cons_succ, List.setIfInBounds_toArray, List.set_cons_succ, List.set_cons_zero]
    refine wpAnyH_take (i := 3) (v := (.agg σ.cs.toArray)) rfl (by kernel_rfl) (by kernel_rfl) (by kernel_rfl) (fun _ _ _ h => h) (yieldsIf_load_mid (by rfl) 27 (.tmp 7) rfl (p + 1 + 1 + 1) 0 rfl σ.cs _ (fun W hW => Cs.sr hW) Tryd.underlying27 rfl HSZ.out) hHeld ?_
    simp only [Act.put, List.getElem_toArray, List.getElem_cons_zero, List.getElem_cons_succ, List.setIfInBounds_toArray, List.set_cons_succ, List.set_cons_zero]
    refine wpAnyH_ready (rs := [2]) (by kernel_rfl) (by simp) ?_
    refine AllReadyH.cons rfl (fun K hK => ?_) AllReadyH.nil
    go_simp
    refine (state_any _ b0 _ _ _ (HT.out.below HB4.out) HC4.out.a0.hg).mono ?_
    rintro e v1 ⟨vs, rfl, hos, hb⟩
    have HC5 := hid (HC4.out.below hb)
    have HB5 := hid (HB4.out.trans (hb.mono HB4.out.size))
    have HK5 := hid (gb_trans HK4.out (below_gb hb _))
    have HO5 := hid (hos.src (by have := HC4.out.a0.len; omega))
    clear hb hos
    go_wp2_with fail
    refine hK.out _ _ HC5.out.s (fun hHeld => ?_)
    clear hK K
    refine wpAnyH_ready (rs := [4]) (by kernel_rfl) (by simp) ?_
    refine AllReadyH.cons rfl (fun K hK => ?_) AllReadyH.nil
    go_simp
    refine (same_state _ σ.H σ.N vs σ.v σ.buf HC5.out.a0.hl HO5.out HC5.out.a0.src).mono ?_
    rintro e v2 ⟨rfl, hb⟩
    have HC6 := hid (HC5.out.below hb)
    have HB6 := hid (HB5.out.trans (hb.mono HB5.out.size))
    have HK6 := hid (gb_trans HK5.out (below_gb hb _))
    have HC6s := hid HC6.out.s
    clear hb
    go_wp2_with fail
    refine hK.out _ _ HC6.out.s (fun hHeld => ?_)
    clear hK K
    refine wpAnyH_ready (rs := [5]) (by kernel_rfl) (by simp) ?_
    refine AllReadyH.cons rfl (fun K hK => ?_) AllReadyH.nil
    refine step_store_row (by rfl) 43 (.tmp 4) (.tmp 65) (by rfl) (p + 1 + 1) (pc b0 b1 σ.cs τ.cs 0) (by rfl) (by rfl) _ _ HC6.out.zb HSP.out (by rw [List.size_toArray, zp_length]; exact (pc_length _ _ _ _ _ HC6s.out.pb.l0 HC6s.out.pb.l1).symm) (pc_one _ _ _ _ _ HC.out.a0.one HC.out.a1.one) ?_
    intro wz hwz
    have HWZ := hid hwz
    have HCZ := hid (HC6s.out.grown hwz.grown (by omega) (by omega) (by omega))
    clear hwz
    refine hK.out _ _ HCZ.out (fun hHeld => ?_)
    clear hK K
    simp only [Act.put, List.getElem_toArray, List.getElem_cons_zero, List.getElem_cons_succ]
    refine wpAnyH_take (i := 6) (v := (.bool true)) rfl (by kernel_rfl) (by kernel_rfl) (by kernel_rfl) (fun _ _ _ h => h) (Or.inl ⟨by rfl, fun W _ => by go_simp⟩) hHeld ?_
    simp only [Act.put, List.getElem_toArray, List.getElem_cons_zero, List.getElem_cons_succ, List.setIfInBounds_toArray, List.set_cons_succ, List.set_cons_zero]
    refine wpAnyH_done (by kernel_rfl) ?_ _
    simp only [noPanic]
    clear hHeld
    go_wp2_with fail
    refine ret_row2 4 5 43 rfl (p + 1 + 1) rfl (pc b0 b1 σ.cs τ.cs 0) 43 HWZ.out.blk _ Tryd.underlying43 rfl HSP.out (.bool true) rfl rfl ⟨b0, b1, σ, τ, 0, rfl, (HC6.out.a0).typ HC6.out.zb (by decide) (by decide) HWZ.out.grown, (HC6.out.a1).typ HC6.out.zb (by decide) (by decide) HWZ.out.grown, HNE.out, by omega, (HB6.out).grown HWZ.out.grown (HB6.out).size (by intro k hk; cases hk; exact Nat.le_trans HPW.out (by omega)), gb_then HK6.out HWZ.out.grown (fun j hj => Or.inl (by cases hj; have := HPE.out; omega))⟩
  have q2 : (dd == 2) = false := by simpa using hd2
  by_cases hd3 : dd = 3
  · subst hd3
    go_upto_region 14 with fail
    clear cd
    go_wp2_with fail
    refine (reset_any w3 b0 _ _ _ (HT.out.below HB3.out) HC.out.a0.hg).mono ?_
    rintro e w4 ⟨rfl, hst, _, hg⟩
    have HST4 := hid hst
    have HC4 := hid (HC.out.s.grown hg (Ne.symm (hg_other HC.out.a0.hg HC.out.pb.blk (by decide))) (Ne.symm (hg_other HC.out.a0.hg HC.out.ob (by decide))) (Ne.symm (hg_other HC.out.a0.hg HC.out.sb (by decide))))
    have HZ4 := hid ((hg.block _ (hp_lt HC.out.zb) (by simpa using hg_other HC.out.a0.hg HC.out.zb (by decide))).trans HC.out.zb)
    have HA4 := hid (HC.out.a1.other HC.out.a0.hg hg HNE.out)
    have HB4 := hid (HB3.out.grown hg HB3.out.size (by intro k hk; cases hk; exact HC.out.a0.lo))
    have HK4 := hid (gb_trans HK3.out hg)
    have HLO := hid HC.out.a0.lo
    clear hst hg
    obtain ⟨ρ, HRH⟩ : ∃ ρ : S5, Hid (ρ = ⟨Hs, .slice none 0 0, [], 0⟩) := ⟨_, rfl⟩
    have HLR := hid (show ρ.cs.length = 10 by rw [HRH.out]; exact scells_length _ _ _ Hs_length)
    have HOR := hid (show ∀ v ∈ ρ.cs, v.oneCell' = true by rw [HRH.out]; exact scells_one _ _ _ rfl)
    have HSR : Hid ((Tryd.prog.info? 27).map (·.size) = some ρ.cs.length) := by rw [HLR.out]; exact hid Tryd.sizeState
    go_upto_region 15 with fail
    have hdr := below_drew' w4
    have HC5 := hid (HC4.out.below hdr)
    have HZ5 := hid ((hdr.block _ (hp_lt HZ4.out)).trans HZ4.out)
    have HA5 := hid (HA4.out.below hdr)
    have HST5 := hid (HST4.out.below hdr)
    have HB5 := hid (HB4.out.trans (hdr.mono HB4.out.size))
    have HK5 := hid (gb_trans HK4.out (below_gb hdr _))
    clear hdr
    refine wp_noPanic (wp_region_held_drew (S := fun W => W.cell? ⟨p, 22, none⟩ = some (.int .i64 0)) (by kernel_rfl) HC5.out.pb.cn ?_)
    intro hHeld
    refine wpAnyH_take (i := 0) (v := (.pointer (some ⟨p, 22, none⟩))) rfl (by kernel_rfl) (by kernel_rfl) (by kernel_rfl) (fun _ _ _ h => h) (Or.inl ⟨by rfl, fun W _ => by go_simp⟩) hHeld ?_
    simp only [Act.put, List.getElem_toArray, List.getElem_cons_zero, List.setIfInBounds_toArray, List.set_cons_succ, List.set_cons_zero]
    refine wpAnyH_take (i := 1) (v := (.int .i64 0)) rfl (by kernel_rfl) (by kernel_rfl) (by kernel_rfl) (fun _ _ _ h => h) (Or.inl ⟨by rfl, fun W hW => by have hcell := hW; clear hW; go_simp⟩) hHeld ?_
    simp only [Act.put, List.getElem_toArray, List.getElem_cons_zero, List.getElem_cons_succ, List.setIfInBounds_toArray, List.set_cons_succ, List.set_cons_zero]
    refine wpAnyH_take (i := 3) (v := (.pointer (some ⟨p, 2, none⟩))) rfl (by kernel_rfl) (by kernel_rfl) (by kernel_rfl) (fun _ _ _ h => h) (Or.inl ⟨by rfl, fun W _ => by go_simp⟩) hHeld ?_
    simp only [Act.put, List.getElem_toArray, List.getElem_cons_zero, List.getElem_cons_succ, List.setIfInBounds_toArray, List.set_cons_succ, List.set_cons_zero]
    refine wpAnyH_ready (rs := [2]) (by kernel_rfl) (by simp) ?_
    refine AllReadyH.cons rfl (fun K hK => ?_) AllReadyH.nil
    go_simp
    refine (rnew_any _).mono ?_
    rintro e v1 ⟨rfl, hb⟩
    rw [show scells Hs (.slice none 0 0) 0 = ρ.cs by rw [HRH.out]; rfl]
    have HC6 := hid (HC5.out.below hb)
    have HZ6 := hid ((hb.block _ (hp_lt HZ5.out)).trans HZ5.out)
    have HA6 := hid (HA5.out.below hb)
    have HST6 := hid (HST5.out.below hb)
    have HB6 := hid (HB5.out.trans (hb.mono HB5.out.size))
    have HK6 := hid (gb_trans HK5.out (below_gb hb _))
    clear hb
    go_wp2_with fail
    refine hK.out _ _ HC6.out.pb.cn (fun hHeld => ?_)
    clear hK K
    refine wpAnyH_take (i := 4) (v := (.pointer (some ⟨p, 2, none⟩))) rfl (by kernel_rfl) (by kernel_rfl) (by kernel_rfl) (fun _ _ _ h => h) (Or.inl ⟨by rfl, fun W _ => by go_simp⟩) hHeld ?_
    simp only [Act.put, List.getElem_toArray, List.getElem_cons_zero, List.getElem_cons_succ, List.setIfInBounds_toArray, List.set_cons_succ, List.set_cons_zero]
    refine wpAnyH_ready (rs := [5]) (by kernel_rfl) (by simp) ?_
    refine AllReadyH.cons rfl (fun K hK => ?_) AllReadyH.nil
    refine step_store_mid (by rfl) 27 (.tmp 78) (.tmp 76) (by rfl) p 2 ρ.cs (by rfl) (by rfl) (by rw [HLR.out]; exact HC6.out.pb.there 2 10 (by omega)) HSR.out HOR.out ?_
    have hps := HC6.out.pb.setS0 ρ.cs HLR.out
    have HP7 := hid hps.1
    have HZ7 := hid ((hps.2.block _ (hp_lt HZ6.out) (by intro e; injection e with e; omega)).trans HZ6.out)
    have HA7 := hid (HA6.out.typ HC6.out.pb.blk (by decide) (by decide) hps.2)
    have HST7 := hid (HST6.out.hg.grown hps.2 (by simpa using hg_other HST6.out.hg HC6.out.pb.blk (by decide)))
    have HB7 := hid (HB6.out.grown hps.2 HB6.out.size (by intro k hk; cases hk; exact HPW.out))
    have HK7 := hid (gb_then HK6.out hps.2 (fun j hj => Or.inl (by cases hj; show w.heap.size ≤ p; have := HPE.out; omega)))
    clear hps
    generalize v1.setCells p 2 ρ.cs = w7 at HP7 HZ7 HA7 HST7 HB7 HK7 ⊢
    refine hK.out _ _ HP7.out.cn (fun hHeld => ?_)
    clear hK K
    simp only [Act.put, List.getElem_toArray, List.getElem_cons_zero, List.getElem_cons_succ]
    refine wpAnyH_done (by kernel_rfl) ?_ _
    simp only [noPanic]
    clear hHeld
    have HAT := hid (show At w7 w0.heap.size b0 ρ by rw [HRH.out]; exact ⟨HST7.out, OwnB.nil _ _, by simp, Hs_length, HLO.out⟩)
    go_upto_region 22 with fail
    have HSPx : Hid ((Tryd.prog.info? 43).map (·.size) = some (pc b0 b1 ρ.cs τ.cs 0).length) := by rw [pc_length _ _ _ _ _ HP7.out.l0 HP7.out.l1]; exact hid Tryd.sizePair
    refine wp_region_list ?_
    show wpList _ _ _ (_ :: _) _ _
    refine ld_row (by rfl) 43 (.tmp 2) (by rfl) p (by rfl) _ 43 HP7.out.blk _ Tryd.underlying43 rfl HSPx.out ?_
    refine st_row (by rfl) 43 (.tmp 4) (.tmp 108) (by rfl) (p + 1 + 1) (pc b0 b1 ρ.cs τ.cs 0) (by rfl) (by rfl) 43 _ HZ7.out HSPx.out (by rw [List.size_toArray, zp_length]; exact (pc_length _ _ _ _ _ HP7.out.l0 HP7.out.l1).symm) (pc_one _ _ _ _ _ HOR.out HC.out.a1.one) ?_
    intro wz hwz
    have HWZ := hid hwz
    clear hwz
    go_wp2
    refine ret_row2 4 5 43 rfl (p + 1 + 1) rfl (pc b0 b1 ρ.cs τ.cs 0) 43 HWZ.out.blk _ Tryd.underlying43 rfl HSPx.out (.bool true) rfl rfl ⟨b0, b1, ρ, τ, 0, rfl, (HAT.out).typ HZ7.out (by decide) (by decide) HWZ.out.grown, (HA7.out).typ HZ7.out (by decide) (by decide) HWZ.out.grown, HNE.out, by omega, (HB7.out).grown HWZ.out.grown (HB7.out).size (by intro k hk; cases hk; exact Nat.le_trans HPW.out (by omega)), gb_then HK7.out HWZ.out.grown (fun j hj => Or.inl (by cases hj; have := HPE.out; omega))⟩
  have q3 : (dd == 3) = false := by simpa using hd3
  by_cases hd4 : dd = 4
  · subst hd4
    go_upto_region 17 with fail
    clear cd
    have hdr := below_drew' w3
    have HC4 := hid (HC.out.below hdr)
    have HB4 := hid (HB3.out.trans (hdr.mono HB3.out.size))
    have HK4 := hid (gb_trans HK3.out (below_gb hdr _))
    clear hdr
    refine wp_noPanic (wp_region_held_drew (S := fun W => W.cell? ⟨p, 22, none⟩ = some (.int .i64 0)) (by kernel_rfl) HC4.out.pb.cn ?_)
    intro hHeld
    refine wpAnyH_take (i := 0) (v := (.pointer (some ⟨p, 22, none⟩))) rfl (by kernel_rfl) (by kernel_rfl) (by kernel_rfl) (fun _ _ _ h => h) (Or.inl ⟨by rfl, fun W _ => by go_simp⟩) hHeld ?_
    simp only [Act.put, List.getElem_toArray, List.getElem_cons_zero, List.setIfInBounds_toArray, List.set_cons_succ, List.set_cons_zero]
    refine wpAnyH_take (i := 1) (v := (.int .i64 0)) rfl (by kernel_rfl) (by kernel_rfl) (by kernel_rfl) (fun _ _ _ h => h) (Or.inl ⟨by rfl, fun W hW => by have hcell := hW; clear hW; go_simp⟩) hHeld ?_
    simp only [Act.put, List.getElem_toArray, List.getElem_cons_zero, List.getElem_cons_succ, List.setIfInBounds_toArray, List.set_cons_succ, List.set_cons_zero]
    refine wpAnyH_take (i := 2) (v := (.int .i64 1)) rfl (by kernel_rfl) (by kernel_rfl) (by kernel_rfl) (fun _ _ _ h => h) (Or.inl ⟨by rfl, fun W _ => by go_simp <;> decide⟩) hHeld ?_
    simp only [Act.put, List.getElem_toArray, List.getElem_cons_zero, List.getElem_cons_succ, List.setIfInBounds_toArray, List.set_cons_succ, List.set_cons_zero]
    refine wpAnyH_take (i := 3) (v := (.pointer (some ⟨b0, 0, none⟩))) rfl (by kernel_rfl) (by kernel_rfl) (by kernel_rfl) (fun _ _ _ h => h) (Or.inl ⟨by rfl, fun W _ => by go_simp⟩) hHeld ?_
    simp only [Act.put, List.getElem_toArray, List.getElem_cons_zero, List.getElem_cons_succ, List.setIfInBounds_toArray, List.set_cons_succ, List.set_cons_zero]
    refine wpAnyH_take (i := 5) (v := (.pointer (some ⟨p, 0, none⟩))) rfl (by kernel_rfl) (by kernel_rfl) (by kernel_rfl) (fun _ _ _ h => h) (Or.inl ⟨by rfl, fun W _ => by go_simp⟩) hHeld ?_
    simp only [Act.put, List.getElem_toArray, List.getElem_cons_zero, List.getElem_cons_succ, List.setIfInBounds_toArray, List.set_cons_succ, List.set_cons_zero]
    refine wpAnyH_ready (rs := [4]) (by kernel_rfl) (by simp) ?_
    refine AllReadyH.cons rfl (fun K hK => ?_) AllReadyH.nil
    go_simp
    refine (clone_any _ b0 _ _ _ (HT.out.below HB4.out) HC4.out.a0.hg).mono ?_
    rintro e v1 ⟨rfl, hgk, hb⟩
    have HC5 := hid (HC4.out.below hb)
    have HB5 := hid (HB4.out.trans (hb.mono HB4.out.size))
    have HK5 := hid (gb_trans HK4.out (below_gb hb _))
    have HGK := hid hgk
    have HKN := hid (show b0 ≠ w3.drew.heap.size by have := HC4.out.a0.hg.lt; omega)
    have HKL := hid (show w0.heap.size ≤ w3.drew.heap.size from HB4.out.size)
    clear hgk hb
    obtain ⟨bk, HBK⟩ : ∃ g, Hid (g = w3.drew.heap.size) := ⟨_, rfl⟩
    rw [← HBK.out] at HGK HKN HKL ⊢
    go_wp2_with fail
    refine hK.out _ _ HC5.out.pb.cn (fun hHeld => ?_)
    clear hK K
    refine wpAnyH_take (i := 6) (v := (.pointer (some ⟨p, 1, none⟩))) rfl (by kernel_rfl) (by kernel_rfl) (by kernel_rfl) (fun _ _ _ h => h) (Or.inl ⟨by rfl, fun W _ => by go_simp⟩) hHeld ?_
    simp only [Act.put, List.getElem_toArray, List.getElem_cons_zero, List.getElem_cons_succ, List.setIfInBounds_toArray, List.set_cons_succ, List.set_cons_zero]
    refine wpAnyH_ready (rs := [7]) (by kernel_rfl) (by simp) ?_
    refine AllReadyH.cons rfl (fun K hK => ?_) AllReadyH.nil
    have cpm := HC5.out.pb.c1
    have fpm := HC5.out.pb.fz 1
    go_simp
    have hgs := gb_set v1 ⟨p, 1, none⟩ (.pointer (some ⟨bk, 0, none⟩))
    have HP6 := hid (HC5.out.pb.setP1 bk)
    have HZ6 := hid ((hgs.block _ (hp_lt HC5.out.zb) (fun e => absurd (show p + 1 + 1 = p from Option.some.inj e) (by omega))).trans HC5.out.zb)
    have HS6 := hid ((hgs.block _ (hp_lt HC5.out.sb) (fun e => absurd (show p + 1 + 1 + 1 = p from Option.some.inj e) (by omega))).trans HC5.out.sb)
    have HA6 := hid (HC5.out.a0.typ HC5.out.pb.blk (by decide) (by decide) hgs)
    have HGK6 := hid (HGK.out.grown hgs (by simpa using hg_other HGK.out HC5.out.pb.blk (by decide)))
    have HB6 := hid (HB5.out.grown hgs HB5.out.size (by intro k hk; cases hk; exact HPW.out))
    have HK6 := hid (gb_then HK5.out hgs (fun j hj => Or.inl (by cases hj; show w.heap.size ≤ p; have := HPE.out; omega)))
    clear hgs cpm fpm
    generalize v1.setCell ⟨p, 1, none⟩ (.pointer (some ⟨bk, 0, none⟩)) = w6 at HP6 HZ6 HS6 HA6 HGK6 HB6 HK6 ⊢
    refine hK.out _ _ HP6.out.cn (fun hHeld => ?_)
    clear hK K
    refine wpAnyH_done (by kernel_rfl) ?_ _
    simp only [noPanic]
    clear hHeld
    have HAK := hid (⟨HGK6.out, HA6.out.ow, HA6.out.le, HA6.out.hl, HKL.out⟩ : At w6 w0.heap.size bk σ)
    have c22 := HP6.out.cn
    have hThere := HP6.out.there 12 10 (by omega)
    have HTH := hid (show w6.there p 12 σ.cs.toArray.size by rw [List.size_toArray, HA6.out.cs]; exact hThere)
    have HSA : Hid ((Tryd.prog.info? 27).map (·.size) = some σ.cs.toArray.size) := by rw [List.size_toArray]; exact HSZ
    have HOA := hid (all_oneCell_toArray HA6.out.one)
    clear hThere
    go_upto_region 19 with (first
      | (refine ld_row (by rfl) 27 (.tmp 7) (by rfl) (p + 1 + 1 + 1) (by rfl) _ 27 HS6.out _ Tryd.underlying27 rfl HSZ.out ?_)
      | (refine wpList_store_mid (by rfl) 27 (.tmp 93) (.tmp 91) (by rfl) p 12 σ.cs.toArray (by rfl) (by rfl) HTH.out HSA.out HOA.out ?_))
    clear c22
    have hps := HP6.out.setS1 σ.cs HA6.out.cs
    have HP7 := hid hps.1
    have HZ7 := hid ((hps.2.block _ (hp_lt HZ6.out) (by intro e; injection e with e; omega)).trans HZ6.out)
    have HA7 := hid (HA6.out.typ HP6.out.blk (by decide) (by decide) hps.2)
    have HAK7 := hid (HAK.out.typ HP6.out.blk (by decide) (by decide) hps.2)
    have HB7 := hid (HB6.out.grown hps.2 HB6.out.size (by intro k hk; cases hk; exact HPW.out))
    have HK7 := hid (gb_then HK6.out hps.2 (fun j hj => Or.inl (by cases hj; show w.heap.size ≤ p; have := HPE.out; omega)))
    clear hps
    generalize w6.setCells p 12 σ.cs = w7 at HP7 HZ7 HA7 HAK7 HB7 HK7 ⊢
    have HSPx : Hid ((Tryd.prog.info? 43).map (·.size) = some (pc b0 bk σ.cs σ.cs 0).length) := by rw [pc_length _ _ _ _ _ HP7.out.l0 HP7.out.l1]; exact hid Tryd.sizePair
    have hdr := below_drew' w7
    have HP8 := hid (HP7.out.below hdr)
    have HZ8 := hid ((hdr.block _ (hp_lt HZ7.out)).trans HZ7.out)
    have HA8 := hid (HA7.out.below hdr)
    have HAK8 := hid (HAK7.out.below hdr)
    have HB8 := hid (HB7.out.trans (hdr.mono HB7.out.size))
    have HK8 := hid (gb_trans HK7.out (below_gb hdr _))
    clear hdr
    refine wp_noPanic (wp_region_held_drew (S := fun W => Pb W p b0 bk σ.cs σ.cs 0) (by kernel_rfl) HP8.out ?_)
    intro hHeld
    refine wpAnyH_take (i := 0) (v := (.agg (pc b0 bk σ.cs σ.cs 0).toArray)) rfl (by kernel_rfl) (by kernel_rfl) (by kernel_rfl) (fun _ _ _ h => h) (yieldsIf_load_mid (by rfl) 43 (.tmp 2) rfl p 0 rfl (pc b0 bk σ.cs σ.cs 0) _ (fun W hW => Pb.whole hW) Tryd.underlying43 rfl HSPx.out) hHeld ?_
    simp only [Act.put, List.getElem_toArray, List.getElem_cons_zero, List.setIfInBounds_toArray, List.set_cons_succ, List.set_cons_zero]
    refine wpAnyH_take (i := 1) (v := (.pointer (some ⟨p, 22, none⟩))) rfl (by kernel_rfl) (by kernel_rfl) (by kernel_rfl) (fun _ _ _ h => h) (Or.inl ⟨by rfl, fun W _ => by go_simp⟩) hHeld ?_
    simp only [Act.put, List.getElem_toArray, List.getElem_cons_zero, List.getElem_cons_succ, List.setIfInBounds_toArray, List.set_cons_succ, List.set_cons_zero]
    refine wpAnyH_take (i := 2) (v := (.int .i64 0)) rfl (by kernel_rfl) (by kernel_rfl) (by kernel_rfl) (fun _ _ _ h => h) (Or.inl ⟨by rfl, fun W hW => by have hcell := Pb.cn hW; clear hW; go_simp⟩) hHeld ?_
    simp only [Act.put, List.getElem_toArray, List.getElem_cons_zero, List.getElem_cons_succ, List.setIfInBounds_toArray, List.set_cons_succ, List.set_cons_zero]
    refine wpAnyH_take (i := 3) (v := (.int .i64 1)) rfl (by kernel_rfl) (by kernel_rfl) (by kernel_rfl) (fun _ _ _ h => h) (Or.inl ⟨by rfl, fun W _ => by go_simp <;> decide⟩) hHeld ?_
    simp only [Act.put, List.getElem_toArray, List.getElem_cons_zero, List.getElem_cons_succ, List.setIfInBounds_toArray, List.set_cons_succ, List.set_cons_zero]
    refine wpAnyH_take (i := 4) (v := (.pointer (some ⟨p, 0, none⟩))) rfl (by kernel_rfl) (by kernel_rfl) (by kernel_rfl) (fun _ _ _ h => h) (Or.inl ⟨by rfl, fun W _ => by go_simp⟩) hHeld ?_
    simp only [Act.put, List.getElem_toArray, List.getElem_cons_zero, List.getElem_cons_succ, List.setIfInBounds_toArray, List.set_cons_succ, List.set_cons_zero]
    refine wpAnyH_take (i := 5) (v := (.pointer (some ⟨p, 1, none⟩))) rfl (by kernel_rfl) (by kernel_rfl) (by kernel_rfl) (fun _ _ _ h => h) (Or.inl ⟨by rfl, fun W _ => by go_simp⟩) hHeld ?_
    simp only [Act.put, List.getElem_toArray, List.getElem_cons_zero, List.getElem_cons_succ, List.setIfInBounds_toArray, List.set_cons_succ, List.set_cons_zero]
    refine wpAnyH_take (i := 6) (v := (.pointer (some ⟨bk, 0, none⟩))) rfl (by kernel_rfl) (by kernel_rfl) (by kernel_rfl) (fun _ _ _ h => h) (Or.inl ⟨by rfl, fun W hW => by have hcell := Pb.c1 hW; clear hW; go_simp⟩) hHeld ?_
    simp only [Act.put, List.getElem_toArray, List.getElem_cons_zero, List.getElem_cons_succ, List.setIfInBounds_toArray, List.set_cons_succ, List.set_cons_zero]
    refine wpAnyH_take (i := 7) (v := (.bool true)) rfl (by kernel_rfl) (by kernel_rfl) (by kernel_rfl) (fun _ _ _ h => h) (Or.inl ⟨by rfl, fun W _ => by go_simp⟩) hHeld ?_
    simp only [Act.put, List.getElem_toArray, List.getElem_cons_zero, List.getElem_cons_succ, List.setIfInBounds_toArray, List.set_cons_succ, List.set_cons_zero]
    refine wpAnyH_ready (rs := [8]) (by kernel_rfl) (by simp) ?_
    refine AllReadyH.cons rfl (fun K hK => ?_) AllReadyH.nil
    refine step_store_row (by rfl) 43 (.tmp 4) (.tmp 94) (by rfl) (p + 1 + 1) (pc b0 bk σ.cs σ.cs 0) (by rfl) (by rfl) _ _ HZ8.out HSPx.out (by rw [List.size_toArray, zp_length]; exact (pc_length _ _ _ _ _ HP8.out.l0 HP8.out.l1).symm) (pc_one _ _ _ _ _ HA8.out.one HA8.out.one) ?_
    intro wz hwz
    have HWZ := hid hwz
    have HPZ := hid (HP8.out.grown hwz.grown (by simp; omega))
    clear hwz
    refine hK.out _ _ HPZ.out (fun hHeld => ?_)
    clear hK K
    simp only [Act.put, List.getElem_toArray, List.getElem_cons_zero, List.getElem_cons_succ]
    refine wpAnyH_take (i := 9) (v := (.bool true)) rfl (by kernel_rfl) (by kernel_rfl) (by kernel_rfl) (fun _ _ _ h => h) (Or.inl ⟨by rfl, fun W _ => by go_simp⟩) hHeld ?_
    simp only [Act.put, List.getElem_toArray, List.getElem_cons_zero, List.getElem_cons_succ, List.setIfInBounds_toArray, List.set_cons_succ, List.set_cons_zero]
    refine wpAnyH_done (by kernel_rfl) ?_ _
    simp only [noPanic]
    clear hHeld
    go_wp2_with fail
    refine ret_row2 4 5 43 rfl (p + 1 + 1) rfl (pc b0 bk σ.cs σ.cs 0) 43 HWZ.out.blk _ Tryd.underlying43 rfl HSPx.out (.bool true) rfl rfl ⟨b0, bk, σ, σ, 0, rfl, (HA8.out).typ HZ8.out (by decide) (by decide) HWZ.out.grown, (HAK8.out).typ HZ8.out (by decide) (by decide) HWZ.out.grown, HKN.out, by omega, (HB8.out).grown HWZ.out.grown (HB8.out).size (by intro k hk; cases hk; exact Nat.le_trans HPW.out (by omega)), gb_then HK8.out HWZ.out.grown (fun j hj => Or.inl (by cases hj; have := HPE.out; omega))⟩
  have q4 : (dd == 4) = false := by simpa using hd4
  by_cases hd5 : dd = 5
  · subst hd5
    have c22 := HC.out.pb.cn
    have f22 := HC.out.pb.fz 22
    go_upto_region 22 with fail
    clear cd c22 f22
    have hgs := gb_set w3 ⟨p, 22, none⟩ (.int .i64 1)
    have HP4 := hid (HC.out.pb.setN 1)
    have HZ4 := hid ((hgs.block _ (hp_lt HC.out.zb) (fun e => absurd (show p + 1 + 1 = p from Option.some.inj e) (by omega))).trans HC.out.zb)
    have HX4 := hid (HC.out.a0.typ HC.out.pb.blk (by decide) (by decide) hgs)
    have HY4 := hid (HC.out.a1.typ HC.out.pb.blk (by decide) (by decide) hgs)
    have HB4 := hid (HB3.out.grown hgs HB3.out.size (by intro k hk; cases hk; exact HPW.out))
    have HK4 := hid (gb_then HK3.out hgs (fun j hj => Or.inl (by cases hj; show w.heap.size ≤ p; have := HPE.out; omega)))
    clear hgs
    generalize w3.setCell ⟨p, 22, none⟩ (.int .i64 1) = w4 at HP4 HZ4 HX4 HY4 HB4 HK4 ⊢
    have HSPx : Hid ((Tryd.prog.info? 43).map (·.size) = some (pc b0 b1 σ.cs τ.cs 1).length) := by rw [pc_length _ _ _ _ _ HP4.out.l0 HP4.out.l1]; exact hid Tryd.sizePair
    refine wp_region_list ?_
    show wpList _ _ _ (_ :: _) _ _
    refine ld_row (by rfl) 43 (.tmp 2) (by rfl) p (by rfl) _ 43 HP4.out.blk _ Tryd.underlying43 rfl HSPx.out ?_
    refine st_row (by rfl) 43 (.tmp 4) (.tmp 108) (by rfl) (p + 1 + 1) (pc b0 b1 σ.cs τ.cs 1) (by rfl) (by rfl) 43 _ HZ4.out HSPx.out (by rw [List.size_toArray, zp_length]; exact (pc_length _ _ _ _ _ HP4.out.l0 HP4.out.l1).symm) (pc_one _ _ _ _ _ HX4.out.one HY4.out.one) ?_
    intro wz hwz
    have HWZ := hid hwz
    clear hwz
    go_wp2
    refine ret_row2 4 5 43 rfl (p + 1 + 1) rfl (pc b0 b1 σ.cs τ.cs 1) 43 HWZ.out.blk _ Tryd.underlying43 rfl HSPx.out (.bool true) rfl rfl ⟨b0, b1, σ, τ, 1, rfl, (HX4.out).typ HZ4.out (by decide) (by decide) HWZ.out.grown, (HY4.out).typ HZ4.out (by decide) (by decide) HWZ.out.grown, HNE.out, by omega, (HB4.out).grown HWZ.out.grown (HB4.out).size (by intro k hk; cases hk; exact Nat.le_trans HPW.out (by omega)), gb_then HK4.out HWZ.out.grown (fun j hj => Or.inl (by cases hj; have := HPE.out; omega))⟩
  have q5 : (dd == 5) = false := by simpa using hd5
  go_upto_region 22 with fail
  clear cd
  have HSPx : Hid ((Tryd.prog.info? 43).map (·.size) = some (pc b0 b1 σ.cs τ.cs 0).length) := by rw [pc_length _ _ _ _ _ HC.out.pb.l0 HC.out.pb.l1]; exact hid Tryd.sizePair
  refine wp_region_list ?_
  show wpList _ _ _ (_ :: _) _ _
  refine ld_row (by rfl) 43 (.tmp 2) (by rfl) p (by rfl) _ 43 HC.out.pb.blk _ Tryd.underlying43 rfl HSPx.out ?_
  refine st_row (by rfl) 43 (.tmp 4) (.tmp 108) (by rfl) (p + 1 + 1) (pc b0 b1 σ.cs τ.cs 0) (by rfl) (by rfl) 43 _ HC.out.zb HSPx.out (by rw [List.size_toArray, zp_length]; exact (pc_length _ _ _ _ _ HC.out.pb.l0 HC.out.pb.l1).symm) (pc_one _ _ _ _ _ HC.out.a0.one HC.out.a1.one) ?_
  intro wz hwz
  have HWZ := hid hwz
  clear hwz
  go_wp2
  refine ret_row2 4 5 43 rfl (p + 1 + 1) rfl (pc b0 b1 σ.cs τ.cs 0) 43 HWZ.out.blk _ Tryd.underlying43 rfl HSPx.out (.bool true) rfl rfl ⟨b0, b1, σ, τ, 0, rfl, (HC.out.a0).typ HC.out.zb (by decide) (by decide) HWZ.out.grown, (HC.out.a1).typ HC.out.zb (by decide) (by decide) HWZ.out.grown, HNE.out, by omega, (HB3.out).grown HWZ.out.grown (HB3.out).size (by intro k hk; cases hk; exact Nat.le_trans HPW.out (by omega)), gb_then HK3.out HWZ.out.grown (fun j hj => Or.inl (by cases hj; have := HPE.out; omega))⟩

end Go.Proofs.YticmdmnjajjpbabDoor
