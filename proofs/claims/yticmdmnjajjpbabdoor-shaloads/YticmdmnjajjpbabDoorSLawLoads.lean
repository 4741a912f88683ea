/- ShaLoads answers true. -/
import Derived.Test.YticmdmnjajjpbabDoorSPlayB
import Derived.Test.YticmdmnjajjpbabDoorSLoad3
namespace Go.Proofs.YticmdmnjajjpbabDoor
open Go.RowKit

theorem range_low {w W : World} {g o : Nat} {cs : List Value} (h : w.rangeAt g o cs) (hb : Below w.heap.size w W) (hg : g < w.heap.size) : W.rangeAt g o cs := fun j v hv => by
  rw [hb.cell (p := ⟨g, o + j, none⟩) hg]
  exact h j v hv
theorem Sb.all {w : World} {b : Nat} {H : List Int} {vb : Value} {N : Int} (h : Sb w b H vb N) : w.rangeAt b 0 (scells H vb N) := fun j v hv => by
  rw [Nat.zero_add, cell_of_row _ _ j _ _ _ h.blk]
  simpa using hv
theorem own_put {w : World} {base : Nat} {ao : Option Addr} {n c : Nat} {bs : List UInt8} (h : OwnB w base (.slice ao n c) bs) (k : Nat) (hk : k < bs.length) (m : UInt8) :
    ∃ g, ao = some ⟨g, 0, none⟩ ∧ base ≤ g ∧ g < w.heap.size ∧ w.cell? ⟨g, k, none⟩ = some (.int .u8 (bs.getD k 0).toNat) ∧ w.frozen? ⟨g, k, none⟩ = false ∧ OwnB (w.setCell ⟨g, k, none⟩ (.int .u8 m.toNat)) base (.slice ao n c) (bs.set k m) := by
  rcases h.forms with ⟨h0, h1⟩ | ⟨g, cap, hv, h1, h2, _, _, h3, h4⟩
  · rw [h1] at hk; simp at hk
  · injection hv with e1 e2 e3
    subst e1
    exact ⟨g, rfl, h1, h2, h4 k hk, h3 k, h.setAt k m⟩

/-- what lies in memory while the copy is written over -/
structure Ld (w : World) (ps pi b : Nat) (H : List Int) (sv vi : Value) (buf : List UInt8) (N : Nat) (B : List UInt8) (W : World) : Prop where
  s : Sb W ps H sv N
  i : Sb W pi H vi N
  o : OwnB W w.heap.size vi B
  h : Hst W b H buf N
  bel : Below w.heap.size w W
theorem Ld.below {w : World} {ps pi b : Nat} {H : List Int} {sv vi : Value} {buf : List UInt8} {N : Nat} {B : List UInt8} {W W' : World} (h : Ld w ps pi b H sv vi buf N B W) (hb : Below W.heap.size W W') : Ld w ps pi b H sv vi buf N B W' :=
  ⟨h.s.below hb, h.i.below hb, h.o.below hb, h.h.below hb, h.bel.trans (hb.mono h.bel.size)⟩
theorem Ld.put {w : World} {ps pi b g n c k : Nat} {H : List Int} {sv : Value} {buf : List UInt8} {N : Nat} {B X : List UInt8} {W : World} {u : Value} (h : Ld w ps pi b H sv (.slice (some ⟨g, 0, none⟩) n c) buf N B W) (hg : w.heap.size ≤ g) (ho : OwnB (W.setCell ⟨g, k, none⟩ u) w.heap.size (.slice (some ⟨g, 0, none⟩) n c) X) :
    Ld w ps pi b H sv (.slice (some ⟨g, 0, none⟩) n c) buf N X (W.setCell ⟨g, k, none⟩ u) := by
  have hgb := gb_set W ⟨g, k, none⟩ u
  refine ⟨h.s.grown hgb (fun e => own_other h.o h.s.blk (by decide) (by simpa [Value.ownBlock] using e)), h.i.grown hgb (fun e => own_other h.o h.i.blk (by decide) (by simpa [Value.ownBlock] using e)), ho, h.h.grown hgb (fun e => own_hash h.o h.h.hg (by simpa [Value.ownBlock] using e)), h.bel.grown hgb h.bel.size (by intro q hq; cases hq; exact hg)⟩

set_option maxRecDepth 100000 in
set_option maxHeartbeats 16000000 in
theorem loads_any (w : World) (H : List Int) (sa : Option Addr) (sn sk : Nat) (buf : List UInt8) (N : Nat) (v : Value) (n : Nat) (hT : Tabs w) (hR : TabR w) (hH : H.length = 8) (hs : Src w (.slice sa sn sk) buf) (hN64 : N < 18446744073709551616) (hv : OpsL w v n) (hn : n ≤ 1048576) :
    Calls Tryd.prog 3 #[.agg (scells H (.slice sa sn sk) N).toArray, v] w fun e w' => e = .returned (.bool true) ∧ Below w.heap.size w w' := by
  have HT := hid hT
  have HR := hid hR
  have HV := hid hv
  have HH := hid hH
  have HN64 := hid hN64
  obtain ⟨aa, c, rfl⟩ := hv.shape
  obtain ⟨zz, sz⟩ := zero_of_info (P := Tryd.prog) (t := 43) (v := .agg zp.toArray) (n := 23) (by kernel_rfl)
  have HZ := hid zz
  clear zz sz
  obtain ⟨zz, sz⟩ := zero_of_info (P := Tryd.prog) (t := 27) (v := .agg z10.toArray) (n := 10) (by kernel_rfl)
  have HZS := hid zz
  clear zz sz
  obtain ⟨sv, HSV⟩ : ∃ sv, Hid (sv = Value.slice sa sn sk) := ⟨_, rfl⟩
  rw [← HSV.out] at hs ⊢
  have HS := hid hs
  have HSO := hid (show sv.oneCell' = true by rw [HSV.out]; rfl)
  have HB0 := hid (below_walk w (.cells (scells H sv N).toArray 27))
  have HS0 := hid (⟨hp_new w _, hH⟩ : Sb (w.alloc (.cells (scells H sv N).toArray 27)) w.heap.size H sv N)
  have HSZ : Hid ((Tryd.prog.info? 27).map (·.size) = some (scells H sv N).length) := by rw [scells_length _ _ _ hH]; exact hid Tryd.sizeState
  clear hT hR hv hH hs hN64
  go_enter Tryd.func3, Tryd.ntmps3
  go_upto_region 1 with fail
  generalize w.alloc (.cells (scells H sv N).toArray 27) = w0 at HB0 HS0 ⊢
  obtain ⟨ps, HPS⟩ : ∃ p, Hid (p = w.heap.size) := ⟨_, rfl⟩
  rw [← HPS.out] at HS0 ⊢
  refine wp_region_list ?_
  show wpList _ _ _ (_ :: _) _ _
  refine ld_row (by rfl) 27 (.tmp 2) (by rfl) ps (by rfl) _ 27 HS0.out.blk _ Tryd.underlying27 rfl HSZ.out ?_
  go_wp2_with fail
  refine (rcopy_any w0 H sv buf N HH.out (HS.out.below HB0.out)).mono ?_
  rintro e w1 ⟨vi, rfl, ho1, hb1⟩
  have HO1 := hid (ho1.le HB0.out.size)
  have HS1 := hid (HS0.out.below hb1)
  have HB1 := hid (HB0.out.trans (hb1.mono HB0.out.size))
  clear ho1 hb1 HS0 HB0
  obtain ⟨L, HLB⟩ : ∃ L, Hid (L = buf.length) := ⟨_, rfl⟩
  have hLs : L ≤ 140737488355327 := by rw [HLB.out]; exact HS.out.1
  obtain ⟨ia, ik, hvi⟩ := HO1.out.shape
  rw [← HLB.out] at hvi
  subst hvi
  have HSI : Hid ((Tryd.prog.info? 27).map (·.size) = some (scells H (.slice ia L ik) N).length) := by rw [scells_length _ _ _ HH.out]; exact hid Tryd.sizeState
  rename_i Kx hKx
  refine hKx _ _ ?_
  clear hKx
  refine al_row (by rfl) 27 (by rfl) _ HZS.out ?_
  refine st_new (by rfl) 27 (.tmp 5) (.tmp 14) (by rfl) (scells H (.slice ia L ik) N) (by rfl) (by rfl) _ _ HSI.out (by rw [List.size_toArray, scells_length _ _ _ HH.out]; rfl) (scells_one _ _ _ rfl) ?_
  have hbw := below_walk w1 (.cells (scells H (.slice ia L ik) N).toArray 27)
  have HI2 := hid (⟨hp_new w1 _, HH.out⟩ : Sb (w1.alloc (.cells (scells H (.slice ia L ik) N).toArray 27)) w1.heap.size H (.slice ia L ik) N)
  have HO2 := hid (HO1.out.below hbw)
  have HS2 := hid (HS1.out.below hbw)
  have HB2 := hid (HB1.out.trans (hbw.mono HB1.out.size))
  clear hbw HO1 HS1 HB1
  generalize w1.alloc (.cells (scells H (.slice ia L ik) N).toArray 27) = w2 at HI2 HO2 HS2 HB2 ⊢
  obtain ⟨pi, HPI⟩ : ∃ p, Hid (p = w1.heap.size) := ⟨_, rfl⟩
  rw [← HPI.out] at HI2 ⊢
  go_upto_region 2 with fail
  refine wp_region_list ?_
  show wpList _ _ _ (_ :: _) _ _
  refine ld_row (by rfl) 27 (.tmp 5) (by rfl) pi (by rfl) _ 27 HI2.out.blk _ Tryd.underlying27 rfl HSI.out ?_
  go_wp2_with fail
  by_cases hmb : mayBe buf N
  · have HMB := hid hmb
    clear hmb
    refine (load_ok w2 H _ buf N HH.out HMB.out.1 HMB.out.2 (HO2.out.src (by rw [← HLB.out]; exact hLs)) (HT.out.below HB2.out)).mono ?_
    rintro e w3 ⟨rfl, hst, hb3⟩
    have HLO := hid (show w.heap.size ≤ w2.heap.size + 1 by have := HB2.out.size; omega)
    have HD3 := hid (⟨HS2.out.below hb3, HI2.out.below hb3, HO2.out.below hb3, hst, HB2.out.trans (hb3.mono HB2.out.size)⟩ : Ld w ps pi (w2.heap.size + 1) H sv (.slice ia L ik) buf N buf w3)
    clear hst hb3 HS2 HI2 HO2 HB2
    obtain ⟨b, HBE⟩ : ∃ b, Hid (b = w2.heap.size + 1) := ⟨_, rfl⟩
    rw [← HBE.out] at HD3 HLO ⊢
    go_upto_region 3 with fail
    refine wp_region_list ?_
    show wpList _ _ _ (_ :: _) _ _
    refine ld_row (by rfl) 27 (.tmp 2) (by rfl) ps (by rfl) _ 27 HD3.out.s.blk _ Tryd.underlying27 rfl HSZ.out ?_
    go_wp2_with fail
    refine (rload_ok w3 H sv buf N HH.out HMB.out (HS.out.below HD3.out.bel)).mono ?_
    rintro e w4 ⟨rfl, hb4⟩
    have HD4 := hid (HD3.out.below hb4)
    clear hb4 HD3
    have HNU := hid (fun W => num_any W 0)
    go_wp2_with (first
      | (go_at_call 12; refine (HNU.out _).mono ?_; rintro e w' ⟨rfl, hw⟩; subst w')
      | (refine unguard (by rfl) ?_; refine ld_row (by rfl) 27 (.tmp 5) (by rfl) pi (by rfl) _ 27 HD4.out.i.blk _ Tryd.underlying27 rfl HSI.out ?_)
      | (refine unguard (by rfl) ?_; refine ld_row (by rfl) 27 (.tmp 2) (by rfl) ps (by rfl) _ 27 HD4.out.s.blk _ Tryd.underlying27 rfl HSZ.out ?_))
    refine (same_state w4 H N _ sv buf HH.out (HD4.out.o.src (by rw [← HLB.out]; exact hLs)) (HS.out.below HD4.out.bel)).mono ?_
    rintro e w5 ⟨rfl, hb5⟩
    have HD5 := hid (HD4.out.below hb5)
    clear hb5 HD4
    go_upto_region 8 with fail
    go_wp2_with fail
    go_loopw [9] (fun i wr => ∃ (k : Nat) (B : List UInt8), k ≤ L ∧ i = .int .i64 k ∧ B.length = L ∧ Ld w ps pi b H sv (.slice ia L ik) buf N B wr) (fun i _ => L - (intOf i).toNat)
    case atStart => exact ⟨0, buf, by omega, rfl, HLB.out.symm, HD5.out⟩
    case round =>
      obtain ⟨k, B, hk, rfl, hBl, hD⟩ := hrel
      clear HD5
      have HD := hid hD
      have HBl := hid hBl
      have c8 := hD.i.c8
      clear hD hBl
      by_cases hlt : k < L
      · have q2 : (k : Int) < (L : Int) := by omega
        obtain ⟨g, hag, hg1, hg2, hcell, hfz, hset⟩ := own_put HD.out.o k (by rw [HBl.out]; exact hlt) 77
        subst hag
        have HSET := hid (HD.out.put hg1 hset)
        have HBN := hid (show (B.set k 77).length = L by rw [List.length_set]; exact HBl.out)
        generalize (B.getD k 0).toNat = x at hcell
        clear hset
        go_wp2
        exact ⟨⟨k + 1, B.set k 77, by omega, by simp, HBN.out, HSET.out⟩, by simp [intOf]; omega⟩
      · have q2 : ¬ (k : Int) < (L : Int) := by omega
        obtain ⟨W, HWW⟩ : ∃ W : World, Hid (W = wr) := ⟨_, rfl⟩
        rw [← HWW.out] at c8 HD ⊢
        go_upto_region 12 with fail
        clear c8
        have HX := hid (HD.out.below (below_drew' W))
        clear HD
        refine wp_noPanic (wp_region_held_drew (S := fun W => Sb W ps H sv N) (by kernel_rfl) HX.out.s ?_)
        intro hHeld
        refine wpAnyH_take (i := 0) (v := (.pointer (some ⟨b, 0, none⟩))) rfl (by kernel_rfl) (by kernel_rfl) (by kernel_rfl) (fun _ _ _ h => h) (Or.inl ⟨by rfl, fun W _ => by go_simp⟩) hHeld ?_
        simp only [Act.put, List.getElem_toArray, List.getElem_cons_zero, List.setIfInBounds_toArray, List.set_cons_succ, List.set_cons_zero]
        refine wpAnyH_take (i := 3) (v := (.agg (scells H sv N).toArray)) rfl (by kernel_rfl) (by kernel_rfl) (by kernel_rfl) (fun _ _ _ h => h) (yieldsIf_load_mid (by rfl) 27 (.tmp 2) rfl ps 0 rfl (scells H sv N) _ (fun W hW => Sb.all hW) Tryd.underlying27 rfl HSZ.out) hHeld ?_
        simp only [Act.put, List.getElem_toArray, List.getElem_cons_zero, List.getElem_cons_succ, List.setIfInBounds_toArray, List.set_cons_succ, List.set_cons_zero]
        refine wpAnyH_ready (rs := [1, 8]) (by kernel_rfl) (by simp) ?_
        refine AllReadyH.cons rfl (fun K hK => ?_) (AllReadyH.cons rfl (fun K hK => ?_) AllReadyH.nil)
        · go_simp
          refine (new_any _ (HT.out.below HX.out.bel)).mono ?_
          rintro e u1 ⟨rfl, hu⟩
          have hnh := new_hst (HT.out.below HX.out.bel)
          have hbu := below_walk W.drew (.cells (hcells Hs (zeros 64) 0 true).toArray 74)
          rw [← hu] at hnh hbu
          have HBNE := hid (show b ≠ W.drew.heap.size by have := HX.out.h.lt; omega)
          have HBNL := hid (show w.heap.size ≤ W.drew.heap.size from HX.out.bel.size)
          have HX2 := hid (HX.out.below hbu)
          have HN3 := hid hnh
          clear hu hbu hnh
          obtain ⟨bn, HBNQ⟩ : ∃ g, Hid (g = W.drew.heap.size) := ⟨_, rfl⟩
          rw [← HBNQ.out] at HN3 HBNE HBNL ⊢
          go_wp2_with fail
          refine hK.out _ _ HX2.out.s (fun hHeld => ?_)
          clear hK K
          refine wpAnyH_take (i := 2) (v := (.agg #[.pointer (some ⟨b, 0, none⟩), .pointer (some ⟨bn, 0, none⟩)])) rfl (by kernel_rfl) (by kernel_rfl) (by kernel_rfl) (fun _ _ _ h => h) (yields_build (by rfl) 39 #[(0, .tmp 53), (1, .tmp 54)] (by rfl) [(0, .pointer (some ⟨b, 0, none⟩)), (1, .pointer (some ⟨bn, 0, none⟩))] (by simp [Act.eval]) _ (built_h b bn)) hHeld ?_
          simp only [Act.put, List.getElem_toArray, List.getElem_cons_zero, List.getElem_cons_succ, List.setIfInBounds_toArray, List.set_cons_succ, List.set_cons_zero]
          refine wpAnyH_ready (rs := [4, 8]) (by kernel_rfl) (by simp) ?_
          refine AllReadyH.cons rfl (fun K hK => ?_) (AllReadyH.cons rfl (fun K hK => ?_) AllReadyH.nil)
          · go_simp
            refine (rcopy_any _ H sv buf N HH.out (HS.out.below HX2.out.bel)).mono ?_
            rintro e u4 ⟨vc, rfl, hoc, hbu⟩
            have HX5 := hid (HX2.out.below hbu)
            have HN6 := hid (HN3.out.below hbu)
            have HO7 := hid (hoc.le (Nat.zero_le _))
            clear hoc hbu
            obtain ⟨ρ, HRH⟩ : ∃ ρ : S5, Hid (ρ = ⟨H, vc, buf, N⟩) := ⟨_, rfl⟩
            have HLR := hid (show ρ.cs.length = 10 by rw [HRH.out]; exact scells_length _ _ _ HH.out)
            rw [show scells H vc (N : Int) = ρ.cs by rw [HRH.out]; rfl]
            go_wp2_with fail
            refine hK.out _ _ HX5.out.s (fun hHeld => ?_)
            clear hK K
            refine wpAnyH_ready (rs := [5, 8]) (by kernel_rfl) (by simp) ?_
            refine AllReadyH.cons rfl (fun K hK => ?_) (AllReadyH.cons rfl (fun K hK => ?_) AllReadyH.nil)
            · go_simp
              refine (rnew_any _).mono ?_
              rintro e u8 ⟨rfl, hbu⟩
              have HX9 := hid (HX5.out.below hbu)
              have HN10 := hid (HN6.out.below hbu)
              have HO11 := hid (HO7.out.below hbu)
              clear hbu
              obtain ⟨ν, HNV⟩ : ∃ ν : S5, Hid (ν = ⟨Hs, .slice none 0 0, [], 0⟩) := ⟨_, rfl⟩
              have HLN := hid (show ν.cs.length = 10 by rw [HNV.out]; exact scells_length _ _ _ Hs_length)
              rw [show scells Hs (.slice none 0 0) 0 = ν.cs by rw [HNV.out]; rfl]
              go_wp2_with fail
              refine hK.out _ _ HX9.out.s (fun hHeld => ?_)
              clear hK K
              refine wpAnyH_take (i := 6) (v := (.agg (ρ.cs ++ ν.cs).toArray)) rfl (by kernel_rfl) (by kernel_rfl) (by kernel_rfl) (fun _ _ _ h => h) (yields_build (by rfl) 41 #[(0, .tmp 57), (1, .tmp 58)] (by rfl) [(0, .agg ρ.cs.toArray), (1, .agg ν.cs.toArray)] (by simp [Act.eval]) _ (built_s ρ.cs ν.cs HLR.out HLN.out)) hHeld ?_
              simp only [Act.put, List.getElem_toArray, List.getElem_cons_zero, List.getElem_cons_succ, List.setIfInBounds_toArray, List.set_cons_succ, List.set_cons_zero]
              refine wpAnyH_take (i := 7) (v := (.agg (pc b bn ρ.cs ν.cs 0).toArray)) rfl (by kernel_rfl) (by kernel_rfl) (by kernel_rfl) (fun _ _ _ h => h) (yields_build (by rfl) 43 #[(0, .tmp 55), (1, .tmp 59)] (by rfl) [(0, .agg #[.pointer (some ⟨b, 0, none⟩), .pointer (some ⟨bn, 0, none⟩)]), (1, .agg (ρ.cs ++ ν.cs).toArray)] (by simp [Act.eval]) _ (built_p b bn ρ.cs ν.cs HLR.out HLN.out)) hHeld ?_
              simp only [Act.put, List.getElem_toArray, List.getElem_cons_zero, List.getElem_cons_succ, List.setIfInBounds_toArray, List.set_cons_succ, List.set_cons_zero]
              refine wpAnyH_ready (rs := [8]) (by kernel_rfl) (by simp) ?_
              refine AllReadyH.cons rfl (fun K hK => ?_) AllReadyH.nil
              refine step_alloc_row (by rfl) 43 (by rfl) _ HZ.out ?_
              have hbz := below_walk u8 (.cells zp.toArray 43)
              have HX12 := hid (HX9.out.below hbz)
              have HN13 := hid (HN10.out.below hbz)
              have HO14 := hid (HO11.out.below hbz)
              have HZ15 := hid (hp_new u8 (.cells zp.toArray 43))
              have HPNE := hid (show ps ≠ u8.heap.size by have := HX9.out.s.lt; omega)
              have HPLO := hid (show w.heap.size ≤ u8.heap.size from HX9.out.bel.size)
              clear hbz
              generalize u8.alloc (.cells zp.toArray 43) = z16 at HX12 HN13 HO14 HZ15 ⊢
              obtain ⟨pp, HPPE⟩ : ∃ g, Hid (g = u8.heap.size) := ⟨_, rfl⟩
              rw [← HPPE.out] at HZ15 HPNE HPLO ⊢
              refine hK.out _ _ HX12.out.s (fun hHeld => ?_)
              clear hK K
              simp only [Act.put, List.getElem_toArray, List.getElem_cons_zero, List.getElem_cons_succ, List.setIfInBounds_toArray, List.set_cons_succ, List.set_cons_zero]
              have HSPf : Hid ((Tryd.prog.info? 43).map (·.size) = some (pc b bn ρ.cs ν.cs 0).length) := by rw [pc_length _ _ _ _ _ HLR.out HLN.out]; exact hid Tryd.sizePair
              have HAT0 := hid (show At z16 w.heap.size b ρ by rw [HRH.out]; exact ⟨HX12.out.h.hg, HO14.out, HMB.out.1, HH.out, HLO.out⟩)
              have HAT1 := hid (show At z16 w.heap.size bn ν by rw [HNV.out]; exact ⟨HN13.out.hg, OwnB.nil _ _, by simp, Hs_length, HBNL.out⟩)
              refine wpAnyH_ready (rs := [9]) (by kernel_rfl) (by simp) ?_
              refine AllReadyH.cons rfl (fun K hK => ?_) AllReadyH.nil
              refine step_store_row (by rfl) 43 (.tmp 10) (.tmp 60) (by rfl) pp (pc b bn ρ.cs ν.cs 0) (by rfl) (by rfl) _ _ HZ15.out HSPf.out (by rw [List.size_toArray, zp_length]; exact (pc_length _ _ _ _ _ HLR.out HLN.out).symm) (pc_one _ _ _ _ _ HAT0.out.one HAT1.out.one) ?_
              intro Wf17 hWf
              have HQf : Hid (Pl w pp b bn ρ ν 0 Wf17) := Pl.next HAT0.out HAT1.out HBNE.out (by omega) HX12.out.bel HPLO.out HZ15.out hWf
              have HSf := hid (HX12.out.s.grown hWf.grown (by simpa using Ne.symm HPNE.out))
              clear hWf
              refine hK.out _ _ HSf.out (fun hHeld => ?_)
              clear hK K
              simp only [Act.put, List.getElem_toArray, List.getElem_cons_zero, List.getElem_cons_succ]
              refine wpAnyH_done (by kernel_rfl) ?_ _
              simp only [noPanic]
              clear hHeld HSf HSPf HAT0 HAT1
              have c1 := HQf.out.pb.c1
              have HSP0 : Hid ((Tryd.prog.info? 43).map (·.size) = some (pc b bn ρ.cs ν.cs 0).length) := by rw [pc_length _ _ _ _ _ HQf.out.pb.l0 HQf.out.pb.l1]; exact hid Tryd.sizePair
              have HBK : Hid (Wf17.heap[pp]? = some (.cells (pc b bn ρ.cs ν.cs 0).toArray 43 (0, 0))) := HQf.out.pb.blk
              go_upto_region 13 with fail
              go_wp2_with (first
                | (refine unguard (by rfl) ?_; refine ld_row (by rfl) 43 (.tmp 10) (by rfl) pp (by rfl) _ 43 HBK.out _ Tryd.underlying43 rfl HSP0.out ?_))
              refine (tells_any Wf17 w.heap.size b bn ρ ν 0 (HT.out.below HQf.out.bel) (HR.out.below HQf.out.bel) HQf.out.a0 HQf.out.a1).mono ?_
              rintro e w8 ⟨rfl, hb8⟩
              have HQ8 := hid (HQf.out.below hb8)
              clear hb8 c1
              go_wp2
              go_loopw [11, 12] (fun ok i wr => ∃ (k b0 b1 : Nat) (σ τ : S5) (m : Nat), k ≤ n ∧ i = .int .i64 k ∧ ok = .bool true ∧ Pl w pp b0 b1 σ τ m wr) (fun _ i _ => n - (intOf i).toNat)
              case atStart => exact ⟨0, b, bn, ρ, ν, 0, by omega, rfl, rfl, HQ8.out⟩
              case round =>
                obtain ⟨k, b0, b1, σ, τ, m, hk, rfl, rfl, hQ⟩ := hrel
                clear HQ8 HSP0 HBK HQf
                have HQ := hid hQ
                have hm2 := hQ.lt
                clear hQ
                obtain ⟨W, HWW⟩ : ∃ W : World, Hid (W = wr) := ⟨_, rfl⟩
                rw [← HWW.out] at HQ ⊢
                by_cases hlt : k < n
                · obtain ⟨g, o, rfl, hglt, d, ao, kk, cc, pss, hrg, hls, hpl, hfl⟩ : ∃ g o, aa = some ⟨g, o, none⟩ ∧ g < w.heap.size ∧ ∃ (d : Int) (ao : Option Addr) (kk cc : Nat) (pss : List (List UInt8)), w.rangeAt g (o + k * 2) [.int .i64 d, .slice ao kk cc] ∧ Lists (· < w.heap.size) w (.slice ao kk cc) pss ∧ pss.length ≤ 1048576 ∧ (fl pss).length ≤ 1048576 := by
                    rcases HV.out with ⟨_, _, _, h0⟩ | ⟨g, o, c', hv', hg', hx⟩
                    · omega
                    · injection hv' with e1
                      exact ⟨g, o, e1, hg', hx k hlt⟩
                  have HLS := hid hls
                  have HPL := hid hpl
                  have HFL := hid hfl
                  have HRG := hid hrg
                  have q1 : (k : Int) < (n : Int) := by omega
                  rcases (show m = 0 ∨ m = 1 by omega) with rfl | rfl
                  · clear hls hpl hfl hm2
                    go_upto_region 17 with fail
                    obtain ⟨X, HXE⟩ : ∃ X : World, Hid (X = { W with drawn := W.drawn + 1 }) := ⟨_, rfl⟩
                    have HQX := hid (show Pl w pp b0 b1 σ τ 0 X by rw [HXE.out]; exact HQ.out.below (below_drew' W))
                    refine wp_noPanic (wp_region_any (by kernel_rfl) ?_)
                    rw [show ({ W with drawn := W.drawn + 1 } : World) = X from HXE.out.symm]
                    have HPX : Hid (Pb X pp b0 b1 σ.cs τ.cs 0) := HQX.out.pb
                    have HSP : Hid ((Tryd.prog.info? 43).map (·.size) = some (pc b0 b1 σ.cs τ.cs 0).length) := by rw [pc_length _ _ _ _ _ HPX.out.l0 HPX.out.l1]; exact hid Tryd.sizePair
                    have HRO := hid (show X.rangeAt g (o + k * 2) [.int .i64 d, .slice ao kk cc] from range_low hrg HQX.out.bel hglt)
                    have hu1 := Tryd.underlying43
                    have hu2 := Tryd.underlying49
                    refine any_yield 1 _ (.slice (some ⟨g, o, none⟩) n c) (by rfl) (by rfl) (by kernel_rfl) (by kernel_rfl) (by kernel_rfl) (fun _ => by rfl) ?_
                    refine any_yield 2 _ (.int .i64 k) (by rfl) (by rfl) (by kernel_rfl) (by kernel_rfl) (by kernel_rfl) (fun _ => by rfl) ?_
                    refine any_yield 3 _ (.pointer (some ⟨g, o + k * 2, none⟩)) (by rfl) (by rfl) (by kernel_rfl) (by kernel_rfl) (by kernel_rfl) (fun _ => by go_simp) ?_
                    refine any_two_loads 0 4 _ _ (by rfl) (by rfl) (by rfl) (by rfl) (by kernel_rfl) (by kernel_rfl) (by kernel_rfl) (by decide) 43 (.tmp 10) (by rfl) pp 0 (pc b0 b1 σ.cs τ.cs 0) _ HPX.out.whole hu1 rfl HSP.out 49 (.tmp 82) (by rfl) g (o + k * 2) [.int .i64 d, .slice ao kk cc] _ HRO.out hu2 rfl (by kernel_rfl) (by kernel_rfl) (by kernel_rfl) (by kernel_rfl) (by kernel_rfl) (by kernel_rfl) ?_
                    simp only [Act.put, List.getElem_toArray, List.getElem_cons_zero, List.getElem_cons_succ, List.setIfInBounds_toArray, List.set_cons_succ, List.set_cons_zero]
                    refine any_one 5 _ (by rfl) (by kernel_rfl) (fun K hK => ?_)
                    clear hu1 hu2
                    go_simp
                    refine (calls0_any w X b0 b1 σ τ d ao kk cc pss HT.out HR.out HQX.out.bel HQX.out.a0 HQX.out.a1 HQX.out.ne HLS.out HPL.out HFL.out).mono ?_
                    rintro e Y ⟨c0, c1, σ2, τ2, n2, rfl, hA0, hA1, hne2, hn2, hbY, hgY⟩
                    have HOLD := hid (HQX.out.good HQX.out.a0.hg hgY)
                    have HA0 := hid hA0
                    have HA1 := hid hA1
                    have HN2 := hid hn2
                    have HNE2 := hid hne2
                    have HBY := hid hbY
                    clear hA0 hA1 hne2 hn2 hbY hgY
                    obtain ⟨PN, HPN⟩ : ∃ PN, Hid (PN = pc c0 c1 σ2.cs τ2.cs (n2 : Int)) := ⟨_, rfl⟩
                    rw [← HPN.out]
                    have HLN := hid (show PN.length = 23 by rw [HPN.out]; exact pc_length _ _ _ _ _ HA0.out.cs HA1.out.cs)
                    have HON := hid (show ∀ v ∈ PN, v.oneCell' = true by rw [HPN.out]; exact pc_one _ _ _ _ _ HA0.out.one HA1.out.one)
                    have HSN : Hid ((Tryd.prog.info? 43).map (·.size) = some PN.length) := by rw [HLN.out]; exact hid Tryd.sizePair
                    go_wp2_with fail
                    refine hK.out _ _ ?_
                    clear hK K
                    refine any_yield 6 _ (.tuple #[.agg PN.toArray, .bool true]) (by rfl) (by rfl) (by kernel_rfl) (by kernel_rfl) (by kernel_rfl) (fun _ => by rfl) ?_
                    simp only [Act.put, List.getElem_toArray, List.getElem_cons_zero, List.getElem_cons_succ, List.setIfInBounds_toArray, List.set_cons_succ, List.set_cons_zero]
                    refine any_yield 7 _ (.agg PN.toArray) (by rfl) (by rfl) (by kernel_rfl) (by kernel_rfl) (by kernel_rfl) (fun _ => by rfl) ?_
                    simp only [Act.put, List.getElem_toArray, List.getElem_cons_zero, List.getElem_cons_succ, List.setIfInBounds_toArray, List.set_cons_succ, List.set_cons_zero]
                    refine any_yield 8 _ (.bool true) (by rfl) (by rfl) (by kernel_rfl) (by kernel_rfl) (by kernel_rfl) (fun _ => by rfl) ?_
                    simp only [Act.put, List.getElem_toArray, List.getElem_cons_zero, List.getElem_cons_succ, List.setIfInBounds_toArray, List.set_cons_succ, List.set_cons_zero]
                    refine any_one 9 _ (by rfl) (by kernel_rfl) (fun K hK => ?_)
                    refine step_store_row (by rfl) 43 (.tmp 10) (.tmp 85) (by rfl) pp PN (by rfl) (by rfl) _ _ HOLD.out HSN.out (by rw [List.size_toArray, HLN.out]; exact pc_length _ _ _ _ _ HPX.out.l0 HPX.out.l1) HON.out ?_
                    intro Z hZ
                    rw [HPN.out] at hZ
                    have HQZ := hid (Pl.next HA0.out HA1.out HNE2.out HN2.out HBY.out HQX.out.lo HOLD.out hZ)
                    clear hZ
                    refine hK.out _ _ ?_
                    clear hK K
                    simp only [Act.put, List.getElem_toArray, List.getElem_cons_zero, List.getElem_cons_succ]
                    refine any_yield 10 _ (.bool true) (by rfl) (by rfl) (by kernel_rfl) (by kernel_rfl) (by kernel_rfl) (fun _ => by rfl) ?_
                    simp only [Act.put, List.getElem_toArray, List.getElem_cons_zero, List.getElem_cons_succ, List.setIfInBounds_toArray, List.set_cons_succ, List.set_cons_zero]
                    refine any_done (by kernel_rfl) ?_ _
                    go_wp2
                    exact ⟨⟨k + 1, c0, c1, σ2, τ2, n2, by omega, by simp, rfl, HQZ.out⟩, by simp [intOf]; omega⟩
                  · clear hls hpl hfl hm2
                    go_upto_region 17 with fail
                    obtain ⟨X, HXE⟩ : ∃ X : World, Hid (X = { W with drawn := W.drawn + 1 }) := ⟨_, rfl⟩
                    have HQX := hid (show Pl w pp b0 b1 σ τ 1 X by rw [HXE.out]; exact HQ.out.below (below_drew' W))
                    refine wp_noPanic (wp_region_any (by kernel_rfl) ?_)
                    rw [show ({ W with drawn := W.drawn + 1 } : World) = X from HXE.out.symm]
                    have HPX : Hid (Pb X pp b0 b1 σ.cs τ.cs 1) := HQX.out.pb
                    have HSP : Hid ((Tryd.prog.info? 43).map (·.size) = some (pc b0 b1 σ.cs τ.cs 1).length) := by rw [pc_length _ _ _ _ _ HPX.out.l0 HPX.out.l1]; exact hid Tryd.sizePair
                    have HRO := hid (show X.rangeAt g (o + k * 2) [.int .i64 d, .slice ao kk cc] from range_low hrg HQX.out.bel hglt)
                    have hu1 := Tryd.underlying43
                    have hu2 := Tryd.underlying49
                    refine any_yield 1 _ (.slice (some ⟨g, o, none⟩) n c) (by rfl) (by rfl) (by kernel_rfl) (by kernel_rfl) (by kernel_rfl) (fun _ => by rfl) ?_
                    refine any_yield 2 _ (.int .i64 k) (by rfl) (by rfl) (by kernel_rfl) (by kernel_rfl) (by kernel_rfl) (fun _ => by rfl) ?_
                    refine any_yield 3 _ (.pointer (some ⟨g, o + k * 2, none⟩)) (by rfl) (by rfl) (by kernel_rfl) (by kernel_rfl) (by kernel_rfl) (fun _ => by go_simp) ?_
                    refine any_two_loads 0 4 _ _ (by rfl) (by rfl) (by rfl) (by rfl) (by kernel_rfl) (by kernel_rfl) (by kernel_rfl) (by decide) 43 (.tmp 10) (by rfl) pp 0 (pc b0 b1 σ.cs τ.cs 1) _ HPX.out.whole hu1 rfl HSP.out 49 (.tmp 82) (by rfl) g (o + k * 2) [.int .i64 d, .slice ao kk cc] _ HRO.out hu2 rfl (by kernel_rfl) (by kernel_rfl) (by kernel_rfl) (by kernel_rfl) (by kernel_rfl) (by kernel_rfl) ?_
                    simp only [Act.put, List.getElem_toArray, List.getElem_cons_zero, List.getElem_cons_succ, List.setIfInBounds_toArray, List.set_cons_succ, List.set_cons_zero]
                    refine any_one 5 _ (by rfl) (by kernel_rfl) (fun K hK => ?_)
                    clear hu1 hu2
                    go_simp
                    refine (calls1_any w X b0 b1 σ τ d ao kk cc pss HT.out HR.out HQX.out.bel HQX.out.a0 HQX.out.a1 HQX.out.ne HLS.out HPL.out HFL.out).mono ?_
                    rintro e Y ⟨c0, c1, σ2, τ2, n2, rfl, hA0, hA1, hne2, hn2, hbY, hgY⟩
                    have HOLD := hid (HQX.out.good HQX.out.a1.hg hgY)
                    have HA0 := hid hA0
                    have HA1 := hid hA1
                    have HN2 := hid hn2
                    have HNE2 := hid hne2
                    have HBY := hid hbY
                    clear hA0 hA1 hne2 hn2 hbY hgY
                    obtain ⟨PN, HPN⟩ : ∃ PN, Hid (PN = pc c0 c1 σ2.cs τ2.cs (n2 : Int)) := ⟨_, rfl⟩
                    rw [← HPN.out]
                    have HLN := hid (show PN.length = 23 by rw [HPN.out]; exact pc_length _ _ _ _ _ HA0.out.cs HA1.out.cs)
                    have HON := hid (show ∀ v ∈ PN, v.oneCell' = true by rw [HPN.out]; exact pc_one _ _ _ _ _ HA0.out.one HA1.out.one)
                    have HSN : Hid ((Tryd.prog.info? 43).map (·.size) = some PN.length) := by rw [HLN.out]; exact hid Tryd.sizePair
                    go_wp2_with fail
                    refine hK.out _ _ ?_
                    clear hK K
                    refine any_yield 6 _ (.tuple #[.agg PN.toArray, .bool true]) (by rfl) (by rfl) (by kernel_rfl) (by kernel_rfl) (by kernel_rfl) (fun _ => by rfl) ?_
                    simp only [Act.put, List.getElem_toArray, List.getElem_cons_zero, List.getElem_cons_succ, List.setIfInBounds_toArray, List.set_cons_succ, List.set_cons_zero]
                    refine any_yield 7 _ (.agg PN.toArray) (by rfl) (by rfl) (by kernel_rfl) (by kernel_rfl) (by kernel_rfl) (fun _ => by rfl) ?_
                    simp only [Act.put, List.getElem_toArray, List.getElem_cons_zero, List.getElem_cons_succ, List.setIfInBounds_toArray, List.set_cons_succ, List.set_cons_zero]
                    refine any_yield 8 _ (.bool true) (by rfl) (by rfl) (by kernel_rfl) (by kernel_rfl) (by kernel_rfl) (fun _ => by rfl) ?_
                    simp only [Act.put, List.getElem_toArray, List.getElem_cons_zero, List.getElem_cons_succ, List.setIfInBounds_toArray, List.set_cons_succ, List.set_cons_zero]
                    refine any_one 9 _ (by rfl) (by kernel_rfl) (fun K hK => ?_)
                    refine step_store_row (by rfl) 43 (.tmp 10) (.tmp 85) (by rfl) pp PN (by rfl) (by rfl) _ _ HOLD.out HSN.out (by rw [List.size_toArray, HLN.out]; exact pc_length _ _ _ _ _ HPX.out.l0 HPX.out.l1) HON.out ?_
                    intro Z hZ
                    rw [HPN.out] at hZ
                    have HQZ := hid (Pl.next HA0.out HA1.out HNE2.out HN2.out HBY.out HQX.out.lo HOLD.out hZ)
                    clear hZ
                    refine hK.out _ _ ?_
                    clear hK K
                    simp only [Act.put, List.getElem_toArray, List.getElem_cons_zero, List.getElem_cons_succ]
                    refine any_yield 10 _ (.bool true) (by rfl) (by rfl) (by kernel_rfl) (by kernel_rfl) (by kernel_rfl) (fun _ => by rfl) ?_
                    simp only [Act.put, List.getElem_toArray, List.getElem_cons_zero, List.getElem_cons_succ, List.setIfInBounds_toArray, List.set_cons_succ, List.set_cons_zero]
                    refine any_done (by kernel_rfl) ?_ _
                    go_wp2
                    exact ⟨⟨k + 1, c0, c1, σ2, τ2, n2, by omega, by simp, rfl, HQZ.out⟩, by simp [intOf]; omega⟩
                · have q1 : ¬ (k : Int) < (n : Int) := by omega
                  go_upto_region 18 with fail
                  have HSPx : Hid ((Tryd.prog.info? 43).map (·.size) = some (pc b0 b1 σ.cs τ.cs (m : Int)).length) := by rw [pc_length _ _ _ _ _ HQ.out.pb.l0 HQ.out.pb.l1]; exact hid Tryd.sizePair
                  go_wp2_with (first
                    | (refine unguard (by rfl) ?_; refine ld_row (by rfl) 43 (.tmp 10) (by rfl) pp (by rfl) _ 43 HQ.out.pb.blk _ Tryd.underlying43 rfl HSPx.out ?_))
                  refine (tells_any W w.heap.size b0 b1 σ τ m (HT.out.below HQ.out.bel) (HR.out.below HQ.out.bel) HQ.out.a0 HQ.out.a1).mono ?_
                  rintro e w8 ⟨rfl, hb8⟩
                  have HB8 := hid (HQ.out.bel.trans (hb8.mono HQ.out.bel.size))
                  clear hb8
                  go_wp2
                  go_ret
                  exact ⟨rfl, HB8.out⟩
            · refine step_alloc_row (by rfl) 43 (by rfl) _ HZ.out ?_
              have hbz := below_walk u4 (.cells zp.toArray 43)
              have HX18 := hid (HX5.out.below hbz)
              have HN19 := hid (HN6.out.below hbz)
              have HO20 := hid (HO7.out.below hbz)
              have HZ21 := hid (hp_new u4 (.cells zp.toArray 43))
              have HPNE := hid (show ps ≠ u4.heap.size by have := HX5.out.s.lt; omega)
              have HPLO := hid (show w.heap.size ≤ u4.heap.size from HX5.out.bel.size)
              clear hbz
              generalize u4.alloc (.cells zp.toArray 43) = z22 at HX18 HN19 HO20 HZ21 ⊢
              obtain ⟨pp, HPPE⟩ : ∃ g, Hid (g = u4.heap.size) := ⟨_, rfl⟩
              rw [← HPPE.out] at HZ21 HPNE HPLO ⊢
              refine hK.out _ _ HX18.out.s (fun hHeld => ?_)
              clear hK K
              simp only [Act.put, List.getElem_toArray, List.getElem_cons_zero, List.getElem_cons_succ, List.setIfInBounds_toArray, List.set_cons_succ, List.set_cons_zero]
              refine wpAnyH_ready (rs := [5]) (by kernel_rfl) (by simp) ?_
              refine AllReadyH.cons rfl (fun K hK => ?_) AllReadyH.nil
              go_simp
              refine (rnew_any _).mono ?_
              rintro e u23 ⟨rfl, hbu⟩
              have HX24 := hid (HX18.out.below hbu)
              have HN25 := hid (HN19.out.below hbu)
              have HO26 := hid (HO20.out.below hbu)
              have HZ27 := hid ((hbu.block _ (hp_lt HZ21.out)).trans HZ21.out)
              clear hbu
              obtain ⟨ν, HNV⟩ : ∃ ν : S5, Hid (ν = ⟨Hs, .slice none 0 0, [], 0⟩) := ⟨_, rfl⟩
              have HLN := hid (show ν.cs.length = 10 by rw [HNV.out]; exact scells_length _ _ _ Hs_length)
              rw [show scells Hs (.slice none 0 0) 0 = ν.cs by rw [HNV.out]; rfl]
              go_wp2_with fail
              refine hK.out _ _ HX24.out.s (fun hHeld => ?_)
              clear hK K
              refine wpAnyH_take (i := 6) (v := (.agg (ρ.cs ++ ν.cs).toArray)) rfl (by kernel_rfl) (by kernel_rfl) (by kernel_rfl) (fun _ _ _ h => h) (yields_build (by rfl) 41 #[(0, .tmp 57), (1, .tmp 58)] (by rfl) [(0, .agg ρ.cs.toArray), (1, .agg ν.cs.toArray)] (by simp [Act.eval]) _ (built_s ρ.cs ν.cs HLR.out HLN.out)) hHeld ?_
              simp only [Act.put, List.getElem_toArray, List.getElem_cons_zero, List.getElem_cons_succ, List.setIfInBounds_toArray, List.set_cons_succ, List.set_cons_zero]
              refine wpAnyH_take (i := 7) (v := (.agg (pc b bn ρ.cs ν.cs 0).toArray)) rfl (by kernel_rfl) (by kernel_rfl) (by kernel_rfl) (fun _ _ _ h => h) (yields_build (by rfl) 43 #[(0, .tmp 55), (1, .tmp 59)] (by rfl) [(0, .agg #[.pointer (some ⟨b, 0, none⟩), .pointer (some ⟨bn, 0, none⟩)]), (1, .agg (ρ.cs ++ ν.cs).toArray)] (by simp [Act.eval]) _ (built_p b bn ρ.cs ν.cs HLR.out HLN.out)) hHeld ?_
              simp only [Act.put, List.getElem_toArray, List.getElem_cons_zero, List.getElem_cons_succ, List.setIfInBounds_toArray, List.set_cons_succ, List.set_cons_zero]
              have HSPf : Hid ((Tryd.prog.info? 43).map (·.size) = some (pc b bn ρ.cs ν.cs 0).length) := by rw [pc_length _ _ _ _ _ HLR.out HLN.out]; exact hid Tryd.sizePair
              have HAT0 := hid (show At u23 w.heap.size b ρ by rw [HRH.out]; exact ⟨HX24.out.h.hg, HO26.out, HMB.out.1, HH.out, HLO.out⟩)
              have HAT1 := hid (show At u23 w.heap.size bn ν by rw [HNV.out]; exact ⟨HN25.out.hg, OwnB.nil _ _, by simp, Hs_length, HBNL.out⟩)
              refine wpAnyH_ready (rs := [9]) (by kernel_rfl) (by simp) ?_
              refine AllReadyH.cons rfl (fun K hK => ?_) AllReadyH.nil
              refine step_store_row (by rfl) 43 (.tmp 10) (.tmp 60) (by rfl) pp (pc b bn ρ.cs ν.cs 0) (by rfl) (by rfl) _ _ HZ27.out HSPf.out (by rw [List.size_toArray, zp_length]; exact (pc_length _ _ _ _ _ HLR.out HLN.out).symm) (pc_one _ _ _ _ _ HAT0.out.one HAT1.out.one) ?_
              intro Wf28 hWf
              have HQf : Hid (Pl w pp b bn ρ ν 0 Wf28) := Pl.next HAT0.out HAT1.out HBNE.out (by omega) HX24.out.bel HPLO.out HZ27.out hWf
              have HSf := hid (HX24.out.s.grown hWf.grown (by simpa using Ne.symm HPNE.out))
              clear hWf
              refine hK.out _ _ HSf.out (fun hHeld => ?_)
              clear hK K
              simp only [Act.put, List.getElem_toArray, List.getElem_cons_zero, List.getElem_cons_succ]
              refine wpAnyH_done (by kernel_rfl) ?_ _
              simp only [noPanic]
              clear hHeld HSf HSPf HAT0 HAT1
              have c1 := HQf.out.pb.c1
              have HSP0 : Hid ((Tryd.prog.info? 43).map (·.size) = some (pc b bn ρ.cs ν.cs 0).length) := by rw [pc_length _ _ _ _ _ HQf.out.pb.l0 HQf.out.pb.l1]; exact hid Tryd.sizePair
              have HBK : Hid (Wf28.heap[pp]? = some (.cells (pc b bn ρ.cs ν.cs 0).toArray 43 (0, 0))) := HQf.out.pb.blk
              go_upto_region 13 with fail
              go_wp2_with (first
                | (refine unguard (by rfl) ?_; refine ld_row (by rfl) 43 (.tmp 10) (by rfl) pp (by rfl) _ 43 HBK.out _ Tryd.underlying43 rfl HSP0.out ?_))
              refine (tells_any Wf28 w.heap.size b bn ρ ν 0 (HT.out.below HQf.out.bel) (HR.out.below HQf.out.bel) HQf.out.a0 HQf.out.a1).mono ?_
              rintro e w8 ⟨rfl, hb8⟩
              have HQ8 := hid (HQf.out.below hb8)
              clear hb8 c1
              go_wp2
              go_loopw [11, 12] (fun ok i wr => ∃ (k b0 b1 : Nat) (σ τ : S5) (m : Nat), k ≤ n ∧ i = .int .i64 k ∧ ok = .bool true ∧ Pl w pp b0 b1 σ τ m wr) (fun _ i _ => n - (intOf i).toNat)
              case atStart => exact ⟨0, b, bn, ρ, ν, 0, by omega, rfl, rfl, HQ8.out⟩
              case round =>
                obtain ⟨k, b0, b1, σ, τ, m, hk, rfl, rfl, hQ⟩ := hrel
                clear HQ8 HSP0 HBK HQf
                have HQ := hid hQ
                have hm2 := hQ.lt
                clear hQ
                obtain ⟨W, HWW⟩ : ∃ W : World, Hid (W = wr) := ⟨_, rfl⟩
                rw [← HWW.out] at HQ ⊢
                by_cases hlt : k < n
                · obtain ⟨g, o, rfl, hglt, d, ao, kk, cc, pss, hrg, hls, hpl, hfl⟩ : ∃ g o, aa = some ⟨g, o, none⟩ ∧ g < w.heap.size ∧ ∃ (d : Int) (ao : Option Addr) (kk cc : Nat) (pss : List (List UInt8)), w.rangeAt g (o + k * 2) [.int .i64 d, .slice ao kk cc] ∧ Lists (· < w.heap.size) w (.slice ao kk cc) pss ∧ pss.length ≤ 1048576 ∧ (fl pss).length ≤ 1048576 := by
                    rcases HV.out with ⟨_, _, _, h0⟩ | ⟨g, o, c', hv', hg', hx⟩
                    · omega
                    · injection hv' with e1
                      exact ⟨g, o, e1, hg', hx k hlt⟩
                  have HLS := hid hls
                  have HPL := hid hpl
                  have HFL := hid hfl
                  have HRG := hid hrg
                  have q1 : (k : Int) < (n : Int) := by omega
                  rcases (show m = 0 ∨ m = 1 by omega) with rfl | rfl
                  · clear hls hpl hfl hm2
                    go_upto_region 17 with fail
                    obtain ⟨X, HXE⟩ : ∃ X : World, Hid (X = { W with drawn := W.drawn + 1 }) := ⟨_, rfl⟩
                    have HQX := hid (show Pl w pp b0 b1 σ τ 0 X by rw [HXE.out]; exact HQ.out.below (below_drew' W))
                    refine wp_noPanic (wp_region_any (by kernel_rfl) ?_)
                    rw [show ({ W with drawn := W.drawn + 1 } : World) = X from HXE.out.symm]
                    have HPX : Hid (Pb X pp b0 b1 σ.cs τ.cs 0) := HQX.out.pb
                    have HSP : Hid ((Tryd.prog.info? 43).map (·.size) = some (pc b0 b1 σ.cs τ.cs 0).length) := by rw [pc_length _ _ _ _ _ HPX.out.l0 HPX.out.l1]; exact hid Tryd.sizePair
                    have HRO := hid (show X.rangeAt g (o + k * 2) [.int .i64 d, .slice ao kk cc] from range_low hrg HQX.out.bel hglt)
                    have hu1 := Tryd.underlying43
                    have hu2 := Tryd.underlying49
                    refine any_yield 1 _ (.slice (some ⟨g, o, none⟩) n c) (by rfl) (by rfl) (by kernel_rfl) (by kernel_rfl) (by kernel_rfl) (fun _ => by rfl) ?_
                    refine any_yield 2 _ (.int .i64 k) (by rfl) (by rfl) (by kernel_rfl) (by kernel_rfl) (by kernel_rfl) (fun _ => by rfl) ?_
                    refine any_yield 3 _ (.pointer (some ⟨g, o + k * 2, none⟩)) (by rfl) (by rfl) (by kernel_rfl) (by kernel_rfl) (by kernel_rfl) (fun _ => by go_simp) ?_
                    refine any_two_loads 0 4 _ _ (by rfl) (by rfl) (by rfl) (by rfl) (by kernel_rfl) (by kernel_rfl) (by kernel_rfl) (by decide) 43 (.tmp 10) (by rfl) pp 0 (pc b0 b1 σ.cs τ.cs 0) _ HPX.out.whole hu1 rfl HSP.out 49 (.tmp 82) (by rfl) g (o + k * 2) [.int .i64 d, .slice ao kk cc] _ HRO.out hu2 rfl (by kernel_rfl) (by kernel_rfl) (by kernel_rfl) (by kernel_rfl) (by kernel_rfl) (by kernel_rfl) ?_
                    simp only [Act.put, List.getElem_toArray, List.getElem_cons_zero, List.getElem_cons_succ, List.setIfInBounds_toArray, List.set_cons_succ, List.set_cons_zero]
                    refine any_one 5 _ (by rfl) (by kernel_rfl) (fun K hK => ?_)
                    clear hu1 hu2
                    go_simp
                    refine (calls0_any w X b0 b1 σ τ d ao kk cc pss HT.out HR.out HQX.out.bel HQX.out.a0 HQX.out.a1 HQX.out.ne HLS.out HPL.out HFL.out).mono ?_
                    rintro e Y ⟨c0, c1, σ2, τ2, n2, rfl, hA0, hA1, hne2, hn2, hbY, hgY⟩
                    have HOLD := hid (HQX.out.good HQX.out.a0.hg hgY)
                    have HA0 := hid hA0
                    have HA1 := hid hA1
                    have HN2 := hid hn2
                    have HNE2 := hid hne2
                    have HBY := hid hbY
                    clear hA0 hA1 hne2 hn2 hbY hgY
                    obtain ⟨PN, HPN⟩ : ∃ PN, Hid (PN = pc c0 c1 σ2.cs τ2.cs (n2 : Int)) := ⟨_, rfl⟩
                    rw [← HPN.out]
                    have HLN := hid (show PN.length = 23 by rw [HPN.out]; exact pc_length _ _ _ _ _ HA0.out.cs HA1.out.cs)
                    have HON := hid (show ∀ v ∈ PN, v.oneCell' = true by rw [HPN.out]; exact pc_one _ _ _ _ _ HA0.out.one HA1.out.one)
                    have HSN : Hid ((Tryd.prog.info? 43).map (·.size) = some PN.length) := by rw [HLN.out]; exact hid Tryd.sizePair
                    go_wp2_with fail
                    refine hK.out _ _ ?_
                    clear hK K
                    refine any_yield 6 _ (.tuple #[.agg PN.toArray, .bool true]) (by rfl) (by rfl) (by kernel_rfl) (by kernel_rfl) (by kernel_rfl) (fun _ => by rfl) ?_
                    simp only [Act.put, List.getElem_toArray, List.getElem_cons_zero, List.getElem_cons_succ, List.setIfInBounds_toArray, List.set_cons_succ, List.set_cons_zero]
                    refine any_yield 7 _ (.agg PN.toArray) (by rfl) (by rfl) (by kernel_rfl) (by kernel_rfl) (by kernel_rfl) (fun _ => by rfl) ?_
                    simp only [Act.put, List.getElem_toArray, List.getElem_cons_zero, List.getElem_cons_succ, List.setIfInBounds_toArray, List.set_cons_succ, List.set_cons_zero]
                    refine any_yield 8 _ (.bool true) (by rfl) (by rfl) (by kernel_rfl) (by kernel_rfl) (by kernel_rfl) (fun _ => by rfl) ?_
                    simp only [Act.put, List.getElem_toArray, List.getElem_cons_zero, List.getElem_cons_succ, List.setIfInBounds_toArray, List.set_cons_succ, List.set_cons_zero]
                    refine any_one 9 _ (by rfl) (by kernel_rfl) (fun K hK => ?_)
                    refine step_store_row (by rfl) 43 (.tmp 10) (.tmp 85) (by rfl) pp PN (by rfl) (by rfl) _ _ HOLD.out HSN.out (by rw [List.size_toArray, HLN.out]; exact pc_length _ _ _ _ _ HPX.out.l0 HPX.out.l1) HON.out ?_
                    intro Z hZ
                    rw [HPN.out] at hZ
                    have HQZ := hid (Pl.next HA0.out HA1.out HNE2.out HN2.out HBY.out HQX.out.lo HOLD.out hZ)
                    clear hZ
                    refine hK.out _ _ ?_
                    clear hK K
                    simp only [Act.put, List.getElem_toArray, List.getElem_cons_zero, List.getElem_cons_succ]
                    refine any_yield 10 _ (.bool true) (by rfl) (by rfl) (by kernel_rfl) (by kernel_rfl) (by kernel_rfl) (fun _ => by rfl) ?_
                    simp only [Act.put, List.getElem_toArray, List.getElem_cons_zero, List.getElem_cons_succ, List.setIfInBounds_toArray, List.set_cons_succ, List.set_cons_zero]
                    refine any_done (by kernel_rfl) ?_ _
                    go_wp2
                    exact ⟨⟨k + 1, c0, c1, σ2, τ2, n2, by omega, by simp, rfl, HQZ.out⟩, by simp [intOf]; omega⟩
                  · clear hls hpl hfl hm2
                    go_upto_region 17 with fail
                    obtain ⟨X, HXE⟩ : ∃ X : World, Hid (X = { W with drawn := W.drawn + 1 }) := ⟨_, rfl⟩
                    have HQX := hid (show Pl w pp b0 b1 σ τ 1 X by rw [HXE.out]; exact HQ.out.below (below_drew' W))
                    refine wp_noPanic (wp_region_any (by kernel_rfl) ?_)
                    rw [show ({ W with drawn := W.drawn + 1 } : World) = X from HXE.out.symm]
                    have HPX : Hid (Pb X pp b0 b1 σ.cs τ.cs 1) := HQX.out.pb
                    have HSP : Hid ((Tryd.prog.info? 43).map (·.size) = some (pc b0 b1 σ.cs τ.cs 1).length) := by rw [pc_length _ _ _ _ _ HPX.out.l0 HPX.out.l1]; exact hid Tryd.sizePair
                    have HRO := hid (show X.rangeAt g (o + k * 2) [.int .i64 d, .slice ao kk cc] from range_low hrg HQX.out.bel hglt)
                    have hu1 := Tryd.underlying43
                    have hu2 := Tryd.underlying49
                    refine any_yield 1 _ (.slice (some ⟨g, o, none⟩) n c) (by rfl) (by rfl) (by kernel_rfl) (by kernel_rfl) (by kernel_rfl) (fun _ => by rfl) ?_
                    refine any_yield 2 _ (.int .i64 k) (by rfl) (by rfl) (by kernel_rfl) (by kernel_rfl) (by kernel_rfl) (fun _ => by rfl) ?_
                    refine any_yield 3 _ (.pointer (some ⟨g, o + k * 2, none⟩)) (by rfl) (by rfl) (by kernel_rfl) (by kernel_rfl) (by kernel_rfl) (fun _ => by go_simp) ?_
                    refine any_two_loads 0 4 _ _ (by rfl) (by rfl) (by rfl) (by rfl) (by kernel_rfl) (by kernel_rfl) (by kernel_rfl) (by decide) 43 (.tmp 10) (by rfl) pp 0 (pc b0 b1 σ.cs τ.cs 1) _ HPX.out.whole hu1 rfl HSP.out 49 (.tmp 82) (by rfl) g (o + k * 2) [.int .i64 d, .slice ao kk cc] _ HRO.out hu2 rfl (by kernel_rfl) (by kernel_rfl) (by kernel_rfl) (by kernel_rfl) (by kernel_rfl) (by kernel_rfl) ?_
                    simp only [Act.put, List.getElem_toArray, List.getElem_cons_zero, List.getElem_cons_succ, List.setIfInBounds_toArray, List.set_cons_succ, List.set_cons_zero]
                    refine any_one 5 _ (by rfl) (by kernel_rfl) (fun K hK => ?_)
                    clear hu1 hu2
                    go_simp
                    refine (calls1_any w X b0 b1 σ τ d ao kk cc pss HT.out HR.out HQX.out.bel HQX.out.a0 HQX.out.a1 HQX.out.ne HLS.out HPL.out HFL.out).mono ?_
                    rintro e Y ⟨c0, c1, σ2, τ2, n2, rfl, hA0, hA1, hne2, hn2, hbY, hgY⟩
                    have HOLD := hid (HQX.out.good HQX.out.a1.hg hgY)
                    have HA0 := hid hA0
                    have HA1 := hid hA1
                    have HN2 := hid hn2
                    have HNE2 := hid hne2
                    have HBY := hid hbY
                    clear hA0 hA1 hne2 hn2 hbY hgY
                    obtain ⟨PN, HPN⟩ : ∃ PN, Hid (PN = pc c0 c1 σ2.cs τ2.cs (n2 : Int)) := ⟨_, rfl⟩
                    rw [← HPN.out]
                    have HLN := hid (show PN.length = 23 by rw [HPN.out]; exact pc_length _ _ _ _ _ HA0.out.cs HA1.out.cs)
                    have HON := hid (show ∀ v ∈ PN, v.oneCell' = true by rw [HPN.out]; exact pc_one _ _ _ _ _ HA0.out.one HA1.out.one)
                    have HSN : Hid ((Tryd.prog.info? 43).map (·.size) = some PN.length) := by rw [HLN.out]; exact hid Tryd.sizePair
                    go_wp2_with fail
                    refine hK.out _ _ ?_
                    clear hK K
                    refine any_yield 6 _ (.tuple #[.agg PN.toArray, .bool true]) (by rfl) (by rfl) (by kernel_rfl) (by kernel_rfl) (by kernel_rfl) (fun _ => by rfl) ?_
                    simp only [Act.put, List.getElem_toArray, List.getElem_cons_zero, List.getElem_cons_succ, List.setIfInBounds_toArray, List.set_cons_succ, List.set_cons_zero]
                    refine any_yield 7 _ (.agg PN.toArray) (by rfl) (by rfl) (by kernel_rfl) (by kernel_rfl) (by kernel_rfl) (fun _ => by rfl) ?_
                    simp only [Act.put, List.getElem_toArray, List.getElem_cons_zero, List.getElem_cons_succ, List.setIfInBounds_toArray, List.set_cons_succ, List.set_cons_zero]
                    refine any_yield 8 _ (.bool true) (by rfl) (by rfl) (by kernel_rfl) (by kernel_rfl) (by kernel_rfl) (fun _ => by rfl) ?_
                    simp only [Act.put, List.getElem_toArray, List.getElem_cons_zero, List.getElem_cons_succ, List.setIfInBounds_toArray, List.set_cons_succ, List.set_cons_zero]
                    refine any_one 9 _ (by rfl) (by kernel_rfl) (fun K hK => ?_)
                    refine step_store_row (by rfl) 43 (.tmp 10) (.tmp 85) (by rfl) pp PN (by rfl) (by rfl) _ _ HOLD.out HSN.out (by rw [List.size_toArray, HLN.out]; exact pc_length _ _ _ _ _ HPX.out.l0 HPX.out.l1) HON.out ?_
                    intro Z hZ
                    rw [HPN.out] at hZ
                    have HQZ := hid (Pl.next HA0.out HA1.out HNE2.out HN2.out HBY.out HQX.out.lo HOLD.out hZ)
                    clear hZ
                    refine hK.out _ _ ?_
                    clear hK K
                    simp only [Act.put, List.getElem_toArray, List.getElem_cons_zero, List.getElem_cons_succ]
                    refine any_yield 10 _ (.bool true) (by rfl) (by rfl) (by kernel_rfl) (by kernel_rfl) (by kernel_rfl) (fun _ => by rfl) ?_
                    simp only [Act.put, List.getElem_toArray, List.getElem_cons_zero, List.getElem_cons_succ, List.setIfInBounds_toArray, List.set_cons_succ, List.set_cons_zero]
                    refine any_done (by kernel_rfl) ?_ _
                    go_wp2
                    exact ⟨⟨k + 1, c0, c1, σ2, τ2, n2, by omega, by simp, rfl, HQZ.out⟩, by simp [intOf]; omega⟩
                · have q1 : ¬ (k : Int) < (n : Int) := by omega
                  go_upto_region 18 with fail
                  have HSPx : Hid ((Tryd.prog.info? 43).map (·.size) = some (pc b0 b1 σ.cs τ.cs (m : Int)).length) := by rw [pc_length _ _ _ _ _ HQ.out.pb.l0 HQ.out.pb.l1]; exact hid Tryd.sizePair
                  go_wp2_with (first
                    | (refine unguard (by rfl) ?_; refine ld_row (by rfl) 43 (.tmp 10) (by rfl) pp (by rfl) _ 43 HQ.out.pb.blk _ Tryd.underlying43 rfl HSPx.out ?_))
                  refine (tells_any W w.heap.size b0 b1 σ τ m (HT.out.below HQ.out.bel) (HR.out.below HQ.out.bel) HQ.out.a0 HQ.out.a1).mono ?_
                  rintro e w8 ⟨rfl, hb8⟩
                  have HB8 := hid (HQ.out.bel.trans (hb8.mono HQ.out.bel.size))
                  clear hb8
                  go_wp2
                  go_ret
                  exact ⟨rfl, HB8.out⟩
          · refine step_alloc_row (by rfl) 43 (by rfl) _ HZ.out ?_
            have hbz := below_walk u1 (.cells zp.toArray 43)
            have HX29 := hid (HX2.out.below hbz)
            have HN30 := hid (HN3.out.below hbz)
            have HZ31 := hid (hp_new u1 (.cells zp.toArray 43))
            have HPNE := hid (show ps ≠ u1.heap.size by have := HX2.out.s.lt; omega)
            have HPLO := hid (show w.heap.size ≤ u1.heap.size from HX2.out.bel.size)
            clear hbz
            generalize u1.alloc (.cells zp.toArray 43) = z32 at HX29 HN30 HZ31 ⊢
            obtain ⟨pp, HPPE⟩ : ∃ g, Hid (g = u1.heap.size) := ⟨_, rfl⟩
            rw [← HPPE.out] at HZ31 HPNE HPLO ⊢
            refine hK.out _ _ HX29.out.s (fun hHeld => ?_)
            clear hK K
            simp only [Act.put, List.getElem_toArray, List.getElem_cons_zero, List.getElem_cons_succ, List.setIfInBounds_toArray, List.set_cons_succ, List.set_cons_zero]
            refine wpAnyH_ready (rs := [4]) (by kernel_rfl) (by simp) ?_
            refine AllReadyH.cons rfl (fun K hK => ?_) AllReadyH.nil
            go_simp
            refine (rcopy_any _ H sv buf N HH.out (HS.out.below HX29.out.bel)).mono ?_
            rintro e u33 ⟨vc, rfl, hoc, hbu⟩
            have HX34 := hid (HX29.out.below hbu)
            have HN35 := hid (HN30.out.below hbu)
            have HZ36 := hid ((hbu.block _ (hp_lt HZ31.out)).trans HZ31.out)
            have HO37 := hid (hoc.le (Nat.zero_le _))
            clear hoc hbu
            obtain ⟨ρ, HRH⟩ : ∃ ρ : S5, Hid (ρ = ⟨H, vc, buf, N⟩) := ⟨_, rfl⟩
            have HLR := hid (show ρ.cs.length = 10 by rw [HRH.out]; exact scells_length _ _ _ HH.out)
            rw [show scells H vc (N : Int) = ρ.cs by rw [HRH.out]; rfl]
            go_wp2_with fail
            refine hK.out _ _ HX34.out.s (fun hHeld => ?_)
            clear hK K
            refine wpAnyH_ready (rs := [5]) (by kernel_rfl) (by simp) ?_
            refine AllReadyH.cons rfl (fun K hK => ?_) AllReadyH.nil
            go_simp
            refine (rnew_any _).mono ?_
            rintro e u38 ⟨rfl, hbu⟩
            have HX39 := hid (HX34.out.below hbu)
            have HN40 := hid (HN35.out.below hbu)
            have HZ41 := hid ((hbu.block _ (hp_lt HZ36.out)).trans HZ36.out)
            have HO42 := hid (HO37.out.below hbu)
            clear hbu
            obtain ⟨ν, HNV⟩ : ∃ ν : S5, Hid (ν = ⟨Hs, .slice none 0 0, [], 0⟩) := ⟨_, rfl⟩
            have HLN := hid (show ν.cs.length = 10 by rw [HNV.out]; exact scells_length _ _ _ Hs_length)
            rw [show scells Hs (.slice none 0 0) 0 = ν.cs by rw [HNV.out]; rfl]
            go_wp2_with fail
            refine hK.out _ _ HX39.out.s (fun hHeld => ?_)
            clear hK K
            refine wpAnyH_take (i := 6) (v := (.agg (ρ.cs ++ ν.cs).toArray)) rfl (by kernel_rfl) (by kernel_rfl) (by kernel_rfl) (fun _ _ _ h => h) (yields_build (by rfl) 41 #[(0, .tmp 57), (1, .tmp 58)] (by rfl) [(0, .agg ρ.cs.toArray), (1, .agg ν.cs.toArray)] (by simp [Act.eval]) _ (built_s ρ.cs ν.cs HLR.out HLN.out)) hHeld ?_
            simp only [Act.put, List.getElem_toArray, List.getElem_cons_zero, List.getElem_cons_succ, List.setIfInBounds_toArray, List.set_cons_succ, List.set_cons_zero]
            refine wpAnyH_take (i := 7) (v := (.agg (pc b bn ρ.cs ν.cs 0).toArray)) rfl (by kernel_rfl) (by kernel_rfl) (by kernel_rfl) (fun _ _ _ h => h) (yields_build (by rfl) 43 #[(0, .tmp 55), (1, .tmp 59)] (by rfl) [(0, .agg #[.pointer (some ⟨b, 0, none⟩), .pointer (some ⟨bn, 0, none⟩)]), (1, .agg (ρ.cs ++ ν.cs).toArray)] (by simp [Act.eval]) _ (built_p b bn ρ.cs ν.cs HLR.out HLN.out)) hHeld ?_
            simp only [Act.put, List.getElem_toArray, List.getElem_cons_zero, List.getElem_cons_succ, List.setIfInBounds_toArray, List.set_cons_succ, List.set_cons_zero]
            have HSPf : Hid ((Tryd.prog.info? 43).map (·.size) = some (pc b bn ρ.cs ν.cs 0).length) := by rw [pc_length _ _ _ _ _ HLR.out HLN.out]; exact hid Tryd.sizePair
            have HAT0 := hid (show At u38 w.heap.size b ρ by rw [HRH.out]; exact ⟨HX39.out.h.hg, HO42.out, HMB.out.1, HH.out, HLO.out⟩)
            have HAT1 := hid (show At u38 w.heap.size bn ν by rw [HNV.out]; exact ⟨HN40.out.hg, OwnB.nil _ _, by simp, Hs_length, HBNL.out⟩)
            refine wpAnyH_ready (rs := [9]) (by kernel_rfl) (by simp) ?_
            refine AllReadyH.cons rfl (fun K hK => ?_) AllReadyH.nil
            refine step_store_row (by rfl) 43 (.tmp 10) (.tmp 60) (by rfl) pp (pc b bn ρ.cs ν.cs 0) (by rfl) (by rfl) _ _ HZ41.out HSPf.out (by rw [List.size_toArray, zp_length]; exact (pc_length _ _ _ _ _ HLR.out HLN.out).symm) (pc_one _ _ _ _ _ HAT0.out.one HAT1.out.one) ?_
            intro Wf43 hWf
            have HQf : Hid (Pl w pp b bn ρ ν 0 Wf43) := Pl.next HAT0.out HAT1.out HBNE.out (by omega) HX39.out.bel HPLO.out HZ41.out hWf
            have HSf := hid (HX39.out.s.grown hWf.grown (by simpa using Ne.symm HPNE.out))
            clear hWf
            refine hK.out _ _ HSf.out (fun hHeld => ?_)
            clear hK K
            simp only [Act.put, List.getElem_toArray, List.getElem_cons_zero, List.getElem_cons_succ]
            refine wpAnyH_done (by kernel_rfl) ?_ _
            simp only [noPanic]
            clear hHeld HSf HSPf HAT0 HAT1
            have c1 := HQf.out.pb.c1
            have HSP0 : Hid ((Tryd.prog.info? 43).map (·.size) = some (pc b bn ρ.cs ν.cs 0).length) := by rw [pc_length _ _ _ _ _ HQf.out.pb.l0 HQf.out.pb.l1]; exact hid Tryd.sizePair
            have HBK : Hid (Wf43.heap[pp]? = some (.cells (pc b bn ρ.cs ν.cs 0).toArray 43 (0, 0))) := HQf.out.pb.blk
            go_upto_region 13 with fail
            go_wp2_with (first
              | (refine unguard (by rfl) ?_; refine ld_row (by rfl) 43 (.tmp 10) (by rfl) pp (by rfl) _ 43 HBK.out _ Tryd.underlying43 rfl HSP0.out ?_))
            refine (tells_any Wf43 w.heap.size b bn ρ ν 0 (HT.out.below HQf.out.bel) (HR.out.below HQf.out.bel) HQf.out.a0 HQf.out.a1).mono ?_
            rintro e w8 ⟨rfl, hb8⟩
            have HQ8 := hid (HQf.out.below hb8)
            clear hb8 c1
            go_wp2
            go_loopw [11, 12] (fun ok i wr => ∃ (k b0 b1 : Nat) (σ τ : S5) (m : Nat), k ≤ n ∧ i = .int .i64 k ∧ ok = .bool true ∧ Pl w pp b0 b1 σ τ m wr) (fun _ i _ => n - (intOf i).toNat)
            case atStart => exact ⟨0, b, bn, ρ, ν, 0, by omega, rfl, rfl, HQ8.out⟩
            case round =>
              obtain ⟨k, b0, b1, σ, τ, m, hk, rfl, rfl, hQ⟩ := hrel
              clear HQ8 HSP0 HBK HQf
              have HQ := hid hQ
              have hm2 := hQ.lt
              clear hQ
              obtain ⟨W, HWW⟩ : ∃ W : World, Hid (W = wr) := ⟨_, rfl⟩
              rw [← HWW.out] at HQ ⊢
              by_cases hlt : k < n
              · obtain ⟨g, o, rfl, hglt, d, ao, kk, cc, pss, hrg, hls, hpl, hfl⟩ : ∃ g o, aa = some ⟨g, o, none⟩ ∧ g < w.heap.size ∧ ∃ (d : Int) (ao : Option Addr) (kk cc : Nat) (pss : List (List UInt8)), w.rangeAt g (o + k * 2) [.int .i64 d, .slice ao kk cc] ∧ Lists (· < w.heap.size) w (.slice ao kk cc) pss ∧ pss.length ≤ 1048576 ∧ (fl pss).length ≤ 1048576 := by
                  rcases HV.out with ⟨_, _, _, h0⟩ | ⟨g, o, c', hv', hg', hx⟩
                  · omega
                  · injection hv' with e1
                    exact ⟨g, o, e1, hg', hx k hlt⟩
                have HLS := hid hls
                have HPL := hid hpl
                have HFL := hid hfl
                have HRG := hid hrg
                have q1 : (k : Int) < (n : Int) := by omega
                rcases (show m = 0 ∨ m = 1 by omega) with rfl | rfl
                · clear hls hpl hfl hm2
                  go_upto_region 17 with fail
                  obtain ⟨X, HXE⟩ : ∃ X : World, Hid (X = { W with drawn := W.drawn + 1 }) := ⟨_, rfl⟩
                  have HQX := hid (show Pl w pp b0 b1 σ τ 0 X by rw [HXE.out]; exact HQ.out.below (below_drew' W))
                  refine wp_noPanic (wp_region_any (by kernel_rfl) ?_)
                  rw [show ({ W with drawn := W.drawn + 1 } : World) = X from HXE.out.symm]
                  have HPX : Hid (Pb X pp b0 b1 σ.cs τ.cs 0) := HQX.out.pb
                  have HSP : Hid ((Tryd.prog.info? 43).map (·.size) = some (pc b0 b1 σ.cs τ.cs 0).length) := by rw [pc_length _ _ _ _ _ HPX.out.l0 HPX.out.l1]; exact hid Tryd.sizePair
                  have HRO := hid (show X.rangeAt g (o + k * 2) [.int .i64 d, .slice ao kk cc] from range_low hrg HQX.out.bel hglt)
                  have hu1 := Tryd.underlying43
                  have hu2 := Tryd.underlying49
                  refine any_yield 1 _ (.slice (some ⟨g, o, none⟩) n c) (by rfl) (by rfl) (by kernel_rfl) (by kernel_rfl) (by kernel_rfl) (fun _ => by rfl) ?_
                  refine any_yield 2 _ (.int .i64 k) (by rfl) (by rfl) (by kernel_rfl) (by kernel_rfl) (by kernel_rfl) (fun _ => by rfl) ?_
                  refine any_yield 3 _ (.pointer (some ⟨g, o + k * 2, none⟩)) (by rfl) (by rfl) (by kernel_rfl) (by kernel_rfl) (by kernel_rfl) (fun _ => by go_simp) ?_
                  refine any_two_loads 0 4 _ _ (by rfl) (by rfl) (by rfl) (by rfl) (by kernel_rfl) (by kernel_rfl) (by kernel_rfl) (by decide) 43 (.tmp 10) (by rfl) pp 0 (pc b0 b1 σ.cs τ.cs 0) _ HPX.out.whole hu1 rfl HSP.out 49 (.tmp 82) (by rfl) g (o + k * 2) [.int .i64 d, .slice ao kk cc] _ HRO.out hu2 rfl (by kernel_rfl) (by kernel_rfl) (by kernel_rfl) (by kernel_rfl) (by kernel_rfl) (by kernel_rfl) ?_
                  simp only [Act.put, List.getElem_toArray, List.getElem_cons_zero, List.getElem_cons_succ, List.setIfInBounds_toArray, List.set_cons_succ, List.set_cons_zero]
                  refine any_one 5 _ (by rfl) (by kernel_rfl) (fun K hK => ?_)
                  clear hu1 hu2
                  go_simp
                  refine (calls0_any w X b0 b1 σ τ d ao kk cc pss HT.out HR.out HQX.out.bel HQX.out.a0 HQX.out.a1 HQX.out.ne HLS.out HPL.out HFL.out).mono ?_
                  rintro e Y ⟨c0, c1, σ2, τ2, n2, rfl, hA0, hA1, hne2, hn2, hbY, hgY⟩
                  have HOLD := hid (HQX.out.good HQX.out.a0.hg hgY)
                  have HA0 := hid hA0
                  have HA1 := hid hA1
                  have HN2 := hid hn2
                  have HNE2 := hid hne2
                  have HBY := hid hbY
                  clear hA0 hA1 hne2 hn2 hbY hgY
                  obtain ⟨PN, HPN⟩ : ∃ PN, Hid (PN = pc c0 c1 σ2.cs τ2.cs (n2 : Int)) := ⟨_, rfl⟩
                  rw [← HPN.out]
                  have HLN := hid (show PN.length = 23 by rw [HPN.out]; exact pc_length _ _ _ _ _ HA0.out.cs HA1.out.cs)
                  have HON := hid (show ∀ v ∈ PN, v.oneCell' = true by rw [HPN.out]; exact pc_one _ _ _ _ _ HA0.out.one HA1.out.one)
                  have HSN : Hid ((Tryd.prog.info? 43).map (·.size) = some PN.length) := by rw [HLN.out]; exact hid Tryd.sizePair
                  go_wp2_with fail
                  refine hK.out _ _ ?_
                  clear hK K
                  refine any_yield 6 _ (.tuple #[.agg PN.toArray, .bool true]) (by rfl) (by rfl) (by kernel_rfl) (by kernel_rfl) (by kernel_rfl) (fun _ => by rfl) ?_
                  simp only [Act.put, List.getElem_toArray, List.getElem_cons_zero, List.getElem_cons_succ, List.setIfInBounds_toArray, List.set_cons_succ, List.set_cons_zero]
                  refine any_yield 7 _ (.agg PN.toArray) (by rfl) (by rfl) (by kernel_rfl) (by kernel_rfl) (by kernel_rfl) (fun _ => by rfl) ?_
                  simp only [Act.put, List.getElem_toArray, List.getElem_cons_zero, List.getElem_cons_succ, List.setIfInBounds_toArray, List.set_cons_succ, List.set_cons_zero]
                  refine any_yield 8 _ (.bool true) (by rfl) (by rfl) (by kernel_rfl) (by kernel_rfl) (by kernel_rfl) (fun _ => by rfl) ?_
                  simp only [Act.put, List.getElem_toArray, List.getElem_cons_zero, List.getElem_cons_succ, List.setIfInBounds_toArray, List.set_cons_succ, List.set_cons_zero]
                  refine any_one 9 _ (by rfl) (by kernel_rfl) (fun K hK => ?_)
                  refine step_store_row (by rfl) 43 (.tmp 10) (.tmp 85) (by rfl) pp PN (by rfl) (by rfl) _ _ HOLD.out HSN.out (by rw [List.size_toArray, HLN.out]; exact pc_length _ _ _ _ _ HPX.out.l0 HPX.out.l1) HON.out ?_
                  intro Z hZ
                  rw [HPN.out] at hZ
                  have HQZ := hid (Pl.next HA0.out HA1.out HNE2.out HN2.out HBY.out HQX.out.lo HOLD.out hZ)
                  clear hZ
                  refine hK.out _ _ ?_
                  clear hK K
                  simp only [Act.put, List.getElem_toArray, List.getElem_cons_zero, List.getElem_cons_succ]
                  refine any_yield 10 _ (.bool true) (by rfl) (by rfl) (by kernel_rfl) (by kernel_rfl) (by kernel_rfl) (fun _ => by rfl) ?_
                  simp only [Act.put, List.getElem_toArray, List.getElem_cons_zero, List.getElem_cons_succ, List.setIfInBounds_toArray, List.set_cons_succ, List.set_cons_zero]
                  refine any_done (by kernel_rfl) ?_ _
                  go_wp2
                  exact ⟨⟨k + 1, c0, c1, σ2, τ2, n2, by omega, by simp, rfl, HQZ.out⟩, by simp [intOf]; omega⟩
                · clear hls hpl hfl hm2
                  go_upto_region 17 with fail
                  obtain ⟨X, HXE⟩ : ∃ X : World, Hid (X = { W with drawn := W.drawn + 1 }) := ⟨_, rfl⟩
                  have HQX := hid (show Pl w pp b0 b1 σ τ 1 X by rw [HXE.out]; exact HQ.out.below (below_drew' W))
                  refine wp_noPanic (wp_region_any (by kernel_rfl) ?_)
                  rw [show ({ W with drawn := W.drawn + 1 } : World) = X from HXE.out.symm]
                  have HPX : Hid (Pb X pp b0 b1 σ.cs τ.cs 1) := HQX.out.pb
                  have HSP : Hid ((Tryd.prog.info? 43).map (·.size) = some (pc b0 b1 σ.cs τ.cs 1).length) := by rw [pc_length _ _ _ _ _ HPX.out.l0 HPX.out.l1]; exact hid Tryd.sizePair
                  have HRO := hid (show X.rangeAt g (o + k * 2) [.int .i64 d, .slice ao kk cc] from range_low hrg HQX.out.bel hglt)
                  have hu1 := Tryd.underlying43
                  have hu2 := Tryd.underlying49
                  refine any_yield 1 _ (.slice (some ⟨g, o, none⟩) n c) (by rfl) (by rfl) (by kernel_rfl) (by kernel_rfl) (by kernel_rfl) (fun _ => by rfl) ?_
                  refine any_yield 2 _ (.int .i64 k) (by rfl) (by rfl) (by kernel_rfl) (by kernel_rfl) (by kernel_rfl) (fun _ => by rfl) ?_
                  refine any_yield 3 _ (.pointer (some ⟨g, o + k * 2, none⟩)) (by rfl) (by rfl) (by kernel_rfl) (by kernel_rfl) (by kernel_rfl) (fun _ => by go_simp) ?_
                  refine any_two_loads 0 4 _ _ (by rfl) (by rfl) (by rfl) (by rfl) (by kernel_rfl) (by kernel_rfl) (by kernel_rfl) (by decide) 43 (.tmp 10) (by rfl) pp 0 (pc b0 b1 σ.cs τ.cs 1) _ HPX.out.whole hu1 rfl HSP.out 49 (.tmp 82) (by rfl) g (o + k * 2) [.int .i64 d, .slice ao kk cc] _ HRO.out hu2 rfl (by kernel_rfl) (by kernel_rfl) (by kernel_rfl) (by kernel_rfl) (by kernel_rfl) (by kernel_rfl) ?_
                  simp only [Act.put, List.getElem_toArray, List.getElem_cons_zero, List.getElem_cons_succ, List.setIfInBounds_toArray, List.set_cons_succ, List.set_cons_zero]
                  refine any_one 5 _ (by rfl) (by kernel_rfl) (fun K hK => ?_)
                  clear hu1 hu2
                  go_simp
                  refine (calls1_any w X b0 b1 σ τ d ao kk cc pss HT.out HR.out HQX.out.bel HQX.out.a0 HQX.out.a1 HQX.out.ne HLS.out HPL.out HFL.out).mono ?_
                  rintro e Y ⟨c0, c1, σ2, τ2, n2, rfl, hA0, hA1, hne2, hn2, hbY, hgY⟩
                  have HOLD := hid (HQX.out.good HQX.out.a1.hg hgY)
                  have HA0 := hid hA0
                  have HA1 := hid hA1
                  have HN2 := hid hn2
                  have HNE2 := hid hne2
                  have HBY := hid hbY
                  clear hA0 hA1 hne2 hn2 hbY hgY
                  obtain ⟨PN, HPN⟩ : ∃ PN, Hid (PN = pc c0 c1 σ2.cs τ2.cs (n2 : Int)) := ⟨_, rfl⟩
                  rw [← HPN.out]
                  have HLN := hid (show PN.length = 23 by rw [HPN.out]; exact pc_length _ _ _ _ _ HA0.out.cs HA1.out.cs)
                  have HON := hid (show ∀ v ∈ PN, v.oneCell' = true by rw [HPN.out]; exact pc_one _ _ _ _ _ HA0.out.one HA1.out.one)
                  have HSN : Hid ((Tryd.prog.info? 43).map (·.size) = some PN.length) := by rw [HLN.out]; exact hid Tryd.sizePair
                  go_wp2_with fail
                  refine hK.out _ _ ?_
                  clear hK K
                  refine any_yield 6 _ (.tuple #[.agg PN.toArray, .bool true]) (by rfl) (by rfl) (by kernel_rfl) (by kernel_rfl) (by kernel_rfl) (fun _ => by rfl) ?_
                  simp only [Act.put, List.getElem_toArray, List.getElem_cons_zero, List.getElem_cons_succ, List.setIfInBounds_toArray, List.set_cons_succ, List.set_cons_zero]
                  refine any_yield 7 _ (.agg PN.toArray) (by rfl) (by rfl) (by kernel_rfl) (by kernel_rfl) (by kernel_rfl) (fun _ => by rfl) ?_
                  simp only [Act.put, List.getElem_toArray, List.getElem_cons_zero, List.getElem_cons_succ, List.setIfInBounds_toArray, List.set_cons_succ, List.set_cons_zero]
                  refine any_yield 8 _ (.bool true) (by rfl) (by rfl) (by kernel_rfl) (by kernel_rfl) (by kernel_rfl) (fun _ => by rfl) ?_
                  simp only [Act.put, List.getElem_toArray, List.getElem_cons_zero, List.getElem_cons_succ, List.setIfInBounds_toArray, List.set_cons_succ, List.set_cons_zero]
                  refine any_one 9 _ (by rfl) (by kernel_rfl) (fun K hK => ?_)
                  refine step_store_row (by rfl) 43 (.tmp 10) (.tmp 85) (by rfl) pp PN (by rfl) (by rfl) _ _ HOLD.out HSN.out (by rw [List.size_toArray, HLN.out]; exact pc_length _ _ _ _ _ HPX.out.l0 HPX.out.l1) HON.out ?_
                  intro Z hZ
                  rw [HPN.out] at hZ
                  have HQZ := hid (Pl.next HA0.out HA1.out HNE2.out HN2.out HBY.out HQX.out.lo HOLD.out hZ)
                  clear hZ
                  refine hK.out _ _ ?_
                  clear hK K
                  simp only [Act.put, List.getElem_toArray, List.getElem_cons_zero, List.getElem_cons_succ]
                  refine any_yield 10 _ (.bool true) (by rfl) (by rfl) (by kernel_rfl) (by kernel_rfl) (by kernel_rfl) (fun _ => by rfl) ?_
                  simp only [Act.put, List.getElem_toArray, List.getElem_cons_zero, List.getElem_cons_succ, List.setIfInBounds_toArray, List.set_cons_succ, List.set_cons_zero]
                  refine any_done (by kernel_rfl) ?_ _
                  go_wp2
                  exact ⟨⟨k + 1, c0, c1, σ2, τ2, n2, by omega, by simp, rfl, HQZ.out⟩, by simp [intOf]; omega⟩
              · have q1 : ¬ (k : Int) < (n : Int) := by omega
                go_upto_region 18 with fail
                have HSPx : Hid ((Tryd.prog.info? 43).map (·.size) = some (pc b0 b1 σ.cs τ.cs (m : Int)).length) := by rw [pc_length _ _ _ _ _ HQ.out.pb.l0 HQ.out.pb.l1]; exact hid Tryd.sizePair
                go_wp2_with (first
                  | (refine unguard (by rfl) ?_; refine ld_row (by rfl) 43 (.tmp 10) (by rfl) pp (by rfl) _ 43 HQ.out.pb.blk _ Tryd.underlying43 rfl HSPx.out ?_))
                refine (tells_any W w.heap.size b0 b1 σ τ m (HT.out.below HQ.out.bel) (HR.out.below HQ.out.bel) HQ.out.a0 HQ.out.a1).mono ?_
                rintro e w8 ⟨rfl, hb8⟩
                have HB8 := hid (HQ.out.bel.trans (hb8.mono HQ.out.bel.size))
                clear hb8
                go_wp2
                go_ret
                exact ⟨rfl, HB8.out⟩
        · refine step_alloc_row (by rfl) 43 (by rfl) _ HZ.out ?_
          have hbz := below_walk W.drew (.cells zp.toArray 43)
          have HX44 := hid (HX.out.below hbz)
          have HZ45 := hid (hp_new W.drew (.cells zp.toArray 43))
          have HPNE := hid (show ps ≠ W.drew.heap.size by have := HX.out.s.lt; omega)
          have HPLO := hid (show w.heap.size ≤ W.drew.heap.size from HX.out.bel.size)
          clear hbz
          generalize W.drew.alloc (.cells zp.toArray 43) = z46 at HX44 HZ45 ⊢
          obtain ⟨pp, HPPE⟩ : ∃ g, Hid (g = W.drew.heap.size) := ⟨_, rfl⟩
          rw [← HPPE.out] at HZ45 HPNE HPLO ⊢
          refine hK.out _ _ HX44.out.s (fun hHeld => ?_)
          clear hK K
          simp only [Act.put, List.getElem_toArray, List.getElem_cons_zero, List.getElem_cons_succ, List.setIfInBounds_toArray, List.set_cons_succ, List.set_cons_zero]
          refine wpAnyH_ready (rs := [1]) (by kernel_rfl) (by simp) ?_
          refine AllReadyH.cons rfl (fun K hK => ?_) AllReadyH.nil
          go_simp
          refine (new_any _ (HT.out.below HX44.out.bel)).mono ?_
          rintro e u47 ⟨rfl, hu⟩
          have hnh := new_hst (HT.out.below HX44.out.bel)
          have hbu := below_walk z46 (.cells (hcells Hs (zeros 64) 0 true).toArray 74)
          rw [← hu] at hnh hbu
          have HBNE := hid (show b ≠ z46.heap.size by have := HX44.out.h.lt; omega)
          have HBNL := hid (show w.heap.size ≤ z46.heap.size from HX44.out.bel.size)
          have HX48 := hid (HX44.out.below hbu)
          have HZ49 := hid ((hbu.block _ (hp_lt HZ45.out)).trans HZ45.out)
          have HN50 := hid hnh
          clear hu hbu hnh
          obtain ⟨bn, HBNQ⟩ : ∃ g, Hid (g = z46.heap.size) := ⟨_, rfl⟩
          rw [← HBNQ.out] at HN50 HBNE HBNL ⊢
          go_wp2_with fail
          refine hK.out _ _ HX48.out.s (fun hHeld => ?_)
          clear hK K
          refine wpAnyH_take (i := 2) (v := (.agg #[.pointer (some ⟨b, 0, none⟩), .pointer (some ⟨bn, 0, none⟩)])) rfl (by kernel_rfl) (by kernel_rfl) (by kernel_rfl) (fun _ _ _ h => h) (yields_build (by rfl) 39 #[(0, .tmp 53), (1, .tmp 54)] (by rfl) [(0, .pointer (some ⟨b, 0, none⟩)), (1, .pointer (some ⟨bn, 0, none⟩))] (by simp [Act.eval]) _ (built_h b bn)) hHeld ?_
          simp only [Act.put, List.getElem_toArray, List.getElem_cons_zero, List.getElem_cons_succ, List.setIfInBounds_toArray, List.set_cons_succ, List.set_cons_zero]
          refine wpAnyH_ready (rs := [4]) (by kernel_rfl) (by simp) ?_
          refine AllReadyH.cons rfl (fun K hK => ?_) AllReadyH.nil
          go_simp
          refine (rcopy_any _ H sv buf N HH.out (HS.out.below HX48.out.bel)).mono ?_
          rintro e u51 ⟨vc, rfl, hoc, hbu⟩
          have HX52 := hid (HX48.out.below hbu)
          have HZ53 := hid ((hbu.block _ (hp_lt HZ49.out)).trans HZ49.out)
          have HN54 := hid (HN50.out.below hbu)
          have HO55 := hid (hoc.le (Nat.zero_le _))
          clear hoc hbu
          obtain ⟨ρ, HRH⟩ : ∃ ρ : S5, Hid (ρ = ⟨H, vc, buf, N⟩) := ⟨_, rfl⟩
          have HLR := hid (show ρ.cs.length = 10 by rw [HRH.out]; exact scells_length _ _ _ HH.out)
          rw [show scells H vc (N : Int) = ρ.cs by rw [HRH.out]; rfl]
          go_wp2_with fail
          refine hK.out _ _ HX52.out.s (fun hHeld => ?_)
          clear hK K
          refine wpAnyH_ready (rs := [5]) (by kernel_rfl) (by simp) ?_
          refine AllReadyH.cons rfl (fun K hK => ?_) AllReadyH.nil
          go_simp
          refine (rnew_any _).mono ?_
          rintro e u56 ⟨rfl, hbu⟩
          have HX57 := hid (HX52.out.below hbu)
          have HZ58 := hid ((hbu.block _ (hp_lt HZ53.out)).trans HZ53.out)
          have HN59 := hid (HN54.out.below hbu)
          have HO60 := hid (HO55.out.below hbu)
          clear hbu
          obtain ⟨ν, HNV⟩ : ∃ ν : S5, Hid (ν = ⟨Hs, .slice none 0 0, [], 0⟩) := ⟨_, rfl⟩
          have HLN := hid (show ν.cs.length = 10 by rw [HNV.out]; exact scells_length _ _ _ Hs_length)
          rw [show scells Hs (.slice none 0 0) 0 = ν.cs by rw [HNV.out]; rfl]
          go_wp2_with fail
          refine hK.out _ _ HX57.out.s (fun hHeld => ?_)
          clear hK K
          refine wpAnyH_take (i := 6) (v := (.agg (ρ.cs ++ ν.cs).toArray)) rfl (by kernel_rfl) (by kernel_rfl) (by kernel_rfl) (fun _ _ _ h => h) (yields_build (by rfl) 41 #[(0, .tmp 57), (1, .tmp 58)] (by rfl) [(0, .agg ρ.cs.toArray), (1, .agg ν.cs.toArray)] (by simp [Act.eval]) _ (built_s ρ.cs ν.cs HLR.out HLN.out)) hHeld ?_
          simp only [Act.put, List.getElem_toArray, List.getElem_cons_zero, List.getElem_cons_succ, List.setIfInBounds_toArray, List.set_cons_succ, List.set_cons_zero]
          refine wpAnyH_take (i := 7) (v := (.agg (pc b bn ρ.cs ν.cs 0).toArray)) rfl (by kernel_rfl) (by kernel_rfl) (by kernel_rfl) (fun _ _ _ h => h) (yields_build (by rfl) 43 #[(0, .tmp 55), (1, .tmp 59)] (by rfl) [(0, .agg #[.pointer (some ⟨b, 0, none⟩), .pointer (some ⟨bn, 0, none⟩)]), (1, .agg (ρ.cs ++ ν.cs).toArray)] (by simp [Act.eval]) _ (built_p b bn ρ.cs ν.cs HLR.out HLN.out)) hHeld ?_
          simp only [Act.put, List.getElem_toArray, List.getElem_cons_zero, List.getElem_cons_succ, List.setIfInBounds_toArray, List.set_cons_succ, List.set_cons_zero]
          have HSPf : Hid ((Tryd.prog.info? 43).map (·.size) = some (pc b bn ρ.cs ν.cs 0).length) := by rw [pc_length _ _ _ _ _ HLR.out HLN.out]; exact hid Tryd.sizePair
          have HAT0 := hid (show At u56 w.heap.size b ρ by rw [HRH.out]; exact ⟨HX57.out.h.hg, HO60.out, HMB.out.1, HH.out, HLO.out⟩)
          have HAT1 := hid (show At u56 w.heap.size bn ν by rw [HNV.out]; exact ⟨HN59.out.hg, OwnB.nil _ _, by simp, Hs_length, HBNL.out⟩)
          refine wpAnyH_ready (rs := [9]) (by kernel_rfl) (by simp) ?_
          refine AllReadyH.cons rfl (fun K hK => ?_) AllReadyH.nil
          refine step_store_row (by rfl) 43 (.tmp 10) (.tmp 60) (by rfl) pp (pc b bn ρ.cs ν.cs 0) (by rfl) (by rfl) _ _ HZ58.out HSPf.out (by rw [List.size_toArray, zp_length]; exact (pc_length _ _ _ _ _ HLR.out HLN.out).symm) (pc_one _ _ _ _ _ HAT0.out.one HAT1.out.one) ?_
          intro Wf61 hWf
          have HQf : Hid (Pl w pp b bn ρ ν 0 Wf61) := Pl.next HAT0.out HAT1.out HBNE.out (by omega) HX57.out.bel HPLO.out HZ58.out hWf
          have HSf := hid (HX57.out.s.grown hWf.grown (by simpa using Ne.symm HPNE.out))
          clear hWf
          refine hK.out _ _ HSf.out (fun hHeld => ?_)
          clear hK K
          simp only [Act.put, List.getElem_toArray, List.getElem_cons_zero, List.getElem_cons_succ]
          refine wpAnyH_done (by kernel_rfl) ?_ _
          simp only [noPanic]
          clear hHeld HSf HSPf HAT0 HAT1
          have c1 := HQf.out.pb.c1
          have HSP0 : Hid ((Tryd.prog.info? 43).map (·.size) = some (pc b bn ρ.cs ν.cs 0).length) := by rw [pc_length _ _ _ _ _ HQf.out.pb.l0 HQf.out.pb.l1]; exact hid Tryd.sizePair
          have HBK : Hid (Wf61.heap[pp]? = some (.cells (pc b bn ρ.cs ν.cs 0).toArray 43 (0, 0))) := HQf.out.pb.blk
          go_upto_region 13 with fail
          go_wp2_with (first
            | (refine unguard (by rfl) ?_; refine ld_row (by rfl) 43 (.tmp 10) (by rfl) pp (by rfl) _ 43 HBK.out _ Tryd.underlying43 rfl HSP0.out ?_))
          refine (tells_any Wf61 w.heap.size b bn ρ ν 0 (HT.out.below HQf.out.bel) (HR.out.below HQf.out.bel) HQf.out.a0 HQf.out.a1).mono ?_
          rintro e w8 ⟨rfl, hb8⟩
          have HQ8 := hid (HQf.out.below hb8)
          clear hb8 c1
          go_wp2
          go_loopw [11, 12] (fun ok i wr => ∃ (k b0 b1 : Nat) (σ τ : S5) (m : Nat), k ≤ n ∧ i = .int .i64 k ∧ ok = .bool true ∧ Pl w pp b0 b1 σ τ m wr) (fun _ i _ => n - (intOf i).toNat)
          case atStart => exact ⟨0, b, bn, ρ, ν, 0, by omega, rfl, rfl, HQ8.out⟩
          case round =>
            obtain ⟨k, b0, b1, σ, τ, m, hk, rfl, rfl, hQ⟩ := hrel
            clear HQ8 HSP0 HBK HQf
            have HQ := hid hQ
            have hm2 := hQ.lt
            clear hQ
            obtain ⟨W, HWW⟩ : ∃ W : World, Hid (W = wr) := ⟨_, rfl⟩
            rw [← HWW.out] at HQ ⊢
            by_cases hlt : k < n
            · obtain ⟨g, o, rfl, hglt, d, ao, kk, cc, pss, hrg, hls, hpl, hfl⟩ : ∃ g o, aa = some ⟨g, o, none⟩ ∧ g < w.heap.size ∧ ∃ (d : Int) (ao : Option Addr) (kk cc : Nat) (pss : List (List UInt8)), w.rangeAt g (o + k * 2) [.int .i64 d, .slice ao kk cc] ∧ Lists (· < w.heap.size) w (.slice ao kk cc) pss ∧ pss.length ≤ 1048576 ∧ (fl pss).length ≤ 1048576 := by
                rcases HV.out with ⟨_, _, _, h0⟩ | ⟨g, o, c', hv', hg', hx⟩
                · omega
                · injection hv' with e1
                  exact ⟨g, o, e1, hg', hx k hlt⟩
              have HLS := hid hls
              have HPL := hid hpl
              have HFL := hid hfl
              have HRG := hid hrg
              have q1 : (k : Int) < (n : Int) := by omega
              rcases (show m = 0 ∨ m = 1 by omega) with rfl | rfl
              · clear hls hpl hfl hm2
                go_upto_region 17 with fail
                obtain ⟨X, HXE⟩ : ∃ X : World, Hid (X = { W with drawn := W.drawn + 1 }) := ⟨_, rfl⟩
                have HQX := hid (show Pl w pp b0 b1 σ τ 0 X by rw [HXE.out]; exact HQ.out.below (below_drew' W))
                refine wp_noPanic (wp_region_any (by kernel_rfl) ?_)
                rw [show ({ W with drawn := W.drawn + 1 } : World) = X from HXE.out.symm]
                have HPX : Hid (Pb X pp b0 b1 σ.cs τ.cs 0) := HQX.out.pb
                have HSP : Hid ((Tryd.prog.info? 43).map (·.size) = some (pc b0 b1 σ.cs τ.cs 0).length) := by rw [pc_length _ _ _ _ _ HPX.out.l0 HPX.out.l1]; exact hid Tryd.sizePair
                have HRO := hid (show X.rangeAt g (o + k * 2) [.int .i64 d, .slice ao kk cc] from range_low hrg HQX.out.bel hglt)
                have hu1 := Tryd.underlying43
                have hu2 := Tryd.underlying49
                refine any_yield 1 _ (.slice (some ⟨g, o, none⟩) n c) (by rfl) (by rfl) (by kernel_rfl) (by kernel_rfl) (by kernel_rfl) (fun _ => by rfl) ?_
                refine any_yield 2 _ (.int .i64 k) (by rfl) (by rfl) (by kernel_rfl) (by kernel_rfl) (by kernel_rfl) (fun _ => by rfl) ?_
                refine any_yield 3 _ (.pointer (some ⟨g, o + k * 2, none⟩)) (by rfl) (by rfl) (by kernel_rfl) (by kernel_rfl) (by kernel_rfl) (fun _ => by go_simp) ?_
                refine any_two_loads 0 4 _ _ (by rfl) (by rfl) (by rfl) (by rfl) (by kernel_rfl) (by kernel_rfl) (by kernel_rfl) (by decide) 43 (.tmp 10) (by rfl) pp 0 (pc b0 b1 σ.cs τ.cs 0) _ HPX.out.whole hu1 rfl HSP.out 49 (.tmp 82) (by rfl) g (o + k * 2) [.int .i64 d, .slice ao kk cc] _ HRO.out hu2 rfl (by kernel_rfl) (by kernel_rfl) (by kernel_rfl) (by kernel_rfl) (by kernel_rfl) (by kernel_rfl) ?_
                simp only [Act.put, List.getElem_toArray, List.getElem_cons_zero, List.getElem_cons_succ, List.setIfInBounds_toArray, List.set_cons_succ, List.set_cons_zero]
                refine any_one 5 _ (by rfl) (by kernel_rfl) (fun K hK => ?_)
                clear hu1 hu2
                go_simp
                refine (calls0_any w X b0 b1 σ τ d ao kk cc pss HT.out HR.out HQX.out.bel HQX.out.a0 HQX.out.a1 HQX.out.ne HLS.out HPL.out HFL.out).mono ?_
                rintro e Y ⟨c0, c1, σ2, τ2, n2, rfl, hA0, hA1, hne2, hn2, hbY, hgY⟩
                have HOLD := hid (HQX.out.good HQX.out.a0.hg hgY)
                have HA0 := hid hA0
                have HA1 := hid hA1
                have HN2 := hid hn2
                have HNE2 := hid hne2
                have HBY := hid hbY
                clear hA0 hA1 hne2 hn2 hbY hgY
                obtain ⟨PN, HPN⟩ : ∃ PN, Hid (PN = pc c0 c1 σ2.cs τ2.cs (n2 : Int)) := ⟨_, rfl⟩
                rw [← HPN.out]
                have HLN := hid (show PN.length = 23 by rw [HPN.out]; exact pc_length _ _ _ _ _ HA0.out.cs HA1.out.cs)
                have HON := hid (show ∀ v ∈ PN, v.oneCell' = true by rw [HPN.out]; exact pc_one _ _ _ _ _ HA0.out.one HA1.out.one)
                have HSN : Hid ((Tryd.prog.info? 43).map (·.size) = some PN.length) := by rw [HLN.out]; exact hid Tryd.sizePair
                go_wp2_with fail
                refine hK.out _ _ ?_
                clear hK K
                refine any_yield 6 _ (.tuple #[.agg PN.toArray, .bool true]) (by rfl) (by rfl) (by kernel_rfl) (by kernel_rfl) (by kernel_rfl) (fun _ => by rfl) ?_
                simp only [Act.put, List.getElem_toArray, List.getElem_cons_zero, List.getElem_cons_succ, List.setIfInBounds_toArray, List.set_cons_succ, List.set_cons_zero]
                refine any_yield 7 _ (.agg PN.toArray) (by rfl) (by rfl) (by kernel_rfl) (by kernel_rfl) (by kernel_rfl) (fun _ => by rfl) ?_
                simp only [Act.put, List.getElem_toArray, List.getElem_cons_zero, List.getElem_cons_succ, List.setIfInBounds_toArray, List.set_cons_succ, List.set_cons_zero]
                refine any_yield 8 _ (.bool true) (by rfl) (by rfl) (by kernel_rfl) (by kernel_rfl) (by kernel_rfl) (fun _ => by rfl) ?_
                simp only [Act.put, List.getElem_toArray, List.getElem_cons_zero, List.getElem_cons_succ, List.setIfInBounds_toArray, List.set_cons_succ, List.set_cons_zero]
                refine any_one 9 _ (by rfl) (by kernel_rfl) (fun K hK => ?_)
                refine step_store_row (by rfl) 43 (.tmp 10) (.tmp 85) (by rfl) pp PN (by rfl) (by rfl) _ _ HOLD.out HSN.out (by rw [List.size_toArray, HLN.out]; exact pc_length _ _ _ _ _ HPX.out.l0 HPX.out.l1) HON.out ?_
                intro Z hZ
                rw [HPN.out] at hZ
                have HQZ := hid (Pl.next HA0.out HA1.out HNE2.out HN2.out HBY.out HQX.out.lo HOLD.out hZ)
                clear hZ
                refine hK.out _ _ ?_
                clear hK K
                simp only [Act.put, List.getElem_toArray, List.getElem_cons_zero, List.getElem_cons_succ]
                refine any_yield 10 _ (.bool true) (by rfl) (by rfl) (by kernel_rfl) (by kernel_rfl) (by kernel_rfl) (fun _ => by rfl) ?_
                simp only [Act.put, List.getElem_toArray, List.getElem_cons_zero, List.getElem_cons_succ, List.setIfInBounds_toArray, List.set_cons_succ, List.set_cons_zero]
                refine any_done (by kernel_rfl) ?_ _
                go_wp2
                exact ⟨⟨k + 1, c0, c1, σ2, τ2, n2, by omega, by simp, rfl, HQZ.out⟩, by simp [intOf]; omega⟩
              · clear hls hpl hfl hm2
                go_upto_region 17 with fail
                obtain ⟨X, HXE⟩ : ∃ X : World, Hid (X = { W with drawn := W.drawn + 1 }) := ⟨_, rfl⟩
                have HQX := hid (show Pl w pp b0 b1 σ τ 1 X by rw [HXE.out]; exact HQ.out.below (below_drew' W))
                refine wp_noPanic (wp_region_any (by kernel_rfl) ?_)
                rw [show ({ W with drawn := W.drawn + 1 } : World) = X from HXE.out.symm]
                have HPX : Hid (Pb X pp b0 b1 σ.cs τ.cs 1) := HQX.out.pb
                have HSP : Hid ((Tryd.prog.info? 43).map (·.size) = some (pc b0 b1 σ.cs τ.cs 1).length) := by rw [pc_length _ _ _ _ _ HPX.out.l0 HPX.out.l1]; exact hid Tryd.sizePair
                have HRO := hid (show X.rangeAt g (o + k * 2) [.int .i64 d, .slice ao kk cc] from range_low hrg HQX.out.bel hglt)
                have hu1 := Tryd.underlying43
                have hu2 := Tryd.underlying49
                refine any_yield 1 _ (.slice (some ⟨g, o, none⟩) n c) (by rfl) (by rfl) (by kernel_rfl) (by kernel_rfl) (by kernel_rfl) (fun _ => by rfl) ?_
                refine any_yield 2 _ (.int .i64 k) (by rfl) (by rfl) (by kernel_rfl) (by kernel_rfl) (by kernel_rfl) (fun _ => by rfl) ?_
                refine any_yield 3 _ (.pointer (some ⟨g, o + k * 2, none⟩)) (by rfl) (by rfl) (by kernel_rfl) (by kernel_rfl) (by kernel_rfl) (fun _ => by go_simp) ?_
                refine any_two_loads 0 4 _ _ (by rfl) (by rfl) (by rfl) (by rfl) (by kernel_rfl) (by kernel_rfl) (by kernel_rfl) (by decide) 43 (.tmp 10) (by rfl) pp 0 (pc b0 b1 σ.cs τ.cs 1) _ HPX.out.whole hu1 rfl HSP.out 49 (.tmp 82) (by rfl) g (o + k * 2) [.int .i64 d, .slice ao kk cc] _ HRO.out hu2 rfl (by kernel_rfl) (by kernel_rfl) (by kernel_rfl) (by kernel_rfl) (by kernel_rfl) (by kernel_rfl) ?_
                simp only [Act.put, List.getElem_toArray, List.getElem_cons_zero, List.getElem_cons_succ, List.setIfInBounds_toArray, List.set_cons_succ, List.set_cons_zero]
                refine any_one 5 _ (by rfl) (by kernel_rfl) (fun K hK => ?_)
                clear hu1 hu2
                go_simp
                refine (calls1_any w X b0 b1 σ τ d ao kk cc pss HT.out HR.out HQX.out.bel HQX.out.a0 HQX.out.a1 HQX.out.ne HLS.out HPL.out HFL.out).mono ?_
                rintro e Y ⟨c0, c1, σ2, τ2, n2, rfl, hA0, hA1, hne2, hn2, hbY, hgY⟩
                have HOLD := hid (HQX.out.good HQX.out.a1.hg hgY)
                have HA0 := hid hA0
                have HA1 := hid hA1
                have HN2 := hid hn2
                have HNE2 := hid hne2
                have HBY := hid hbY
                clear hA0 hA1 hne2 hn2 hbY hgY
                obtain ⟨PN, HPN⟩ : ∃ PN, Hid (PN = pc c0 c1 σ2.cs τ2.cs (n2 : Int)) := ⟨_, rfl⟩
                rw [← HPN.out]
                have HLN := hid (show PN.length = 23 by rw [HPN.out]; exact pc_length _ _ _ _ _ HA0.out.cs HA1.out.cs)
                have HON := hid (show ∀ v ∈ PN, v.oneCell' = true by rw [HPN.out]; exact pc_one _ _ _ _ _ HA0.out.one HA1.out.one)
                have HSN : Hid ((Tryd.prog.info? 43).map (·.size) = some PN.length) := by rw [HLN.out]; exact hid Tryd.sizePair
                go_wp2_with fail
                refine hK.out _ _ ?_
                clear hK K
                refine any_yield 6 _ (.tuple #[.agg PN.toArray, .bool true]) (by rfl) (by rfl) (by kernel_rfl) (by kernel_rfl) (by kernel_rfl) (fun _ => by rfl) ?_
                simp only [Act.put, List.getElem_toArray, List.getElem_cons_zero, List.getElem_cons_succ, List.setIfInBounds_toArray, List.set_cons_succ, List.set_cons_zero]
                refine any_yield 7 _ (.agg PN.toArray) (by rfl) (by rfl) (by kernel_rfl) (by kernel_rfl) (by kernel_rfl) (fun _ => by rfl) ?_
                simp only [Act.put, List.getElem_toArray, List.getElem_cons_zero, List.getElem_cons_succ, List.setIfInBounds_toArray, List.set_cons_succ, List.set_cons_zero]
                refine any_yield 8 _ (.bool true) (by rfl) (by rfl) (by kernel_rfl) (by kernel_rfl) (by kernel_rfl) (fun _ => by rfl) ?_
                simp only [Act.put, List.getElem_toArray, List.getElem_cons_zero, List.getElem_cons_succ, List.setIfInBounds_toArray, List.set_cons_succ, List.set_cons_zero]
                refine any_one 9 _ (by rfl) (by kernel_rfl) (fun K hK => ?_)
                refine step_store_row (by rfl) 43 (.tmp 10) (.tmp 85) (by rfl) pp PN (by rfl) (by rfl) _ _ HOLD.out HSN.out (by rw [List.size_toArray, HLN.out]; exact pc_length _ _ _ _ _ HPX.out.l0 HPX.out.l1) HON.out ?_
                intro Z hZ
                rw [HPN.out] at hZ
                have HQZ := hid (Pl.next HA0.out HA1.out HNE2.out HN2.out HBY.out HQX.out.lo HOLD.out hZ)
                clear hZ
                refine hK.out _ _ ?_
                clear hK K
                simp only [Act.put, List.getElem_toArray, List.getElem_cons_zero, List.getElem_cons_succ]
                refine any_yield 10 _ (.bool true) (by rfl) (by rfl) (by kernel_rfl) (by kernel_rfl) (by kernel_rfl) (fun _ => by rfl) ?_
                simp only [Act.put, List.getElem_toArray, List.getElem_cons_zero, List.getElem_cons_succ, List.setIfInBounds_toArray, List.set_cons_succ, List.set_cons_zero]
                refine any_done (by kernel_rfl) ?_ _
                go_wp2
                exact ⟨⟨k + 1, c0, c1, σ2, τ2, n2, by omega, by simp, rfl, HQZ.out⟩, by simp [intOf]; omega⟩
            · have q1 : ¬ (k : Int) < (n : Int) := by omega
              go_upto_region 18 with fail
              have HSPx : Hid ((Tryd.prog.info? 43).map (·.size) = some (pc b0 b1 σ.cs τ.cs (m : Int)).length) := by rw [pc_length _ _ _ _ _ HQ.out.pb.l0 HQ.out.pb.l1]; exact hid Tryd.sizePair
              go_wp2_with (first
                | (refine unguard (by rfl) ?_; refine ld_row (by rfl) 43 (.tmp 10) (by rfl) pp (by rfl) _ 43 HQ.out.pb.blk _ Tryd.underlying43 rfl HSPx.out ?_))
              refine (tells_any W w.heap.size b0 b1 σ τ m (HT.out.below HQ.out.bel) (HR.out.below HQ.out.bel) HQ.out.a0 HQ.out.a1).mono ?_
              rintro e w8 ⟨rfl, hb8⟩
              have HB8 := hid (HQ.out.bel.trans (hb8.mono HQ.out.bel.size))
              clear hb8
              go_wp2
              go_ret
              exact ⟨rfl, HB8.out⟩
  · have HMB := hid hmb
    clear hmb
    refine (load_bad w2 H _ buf N HH.out HN64.out HMB.out (HO2.out.src (by rw [← HLB.out]; exact hLs))).mono ?_
    rintro e w3 ⟨rfl, hb3⟩
    have HS3 := hid (HS2.out.below hb3)
    have HI3 := hid (HI2.out.below hb3)
    have HO3 := hid (HO2.out.below hb3)
    have HB3 := hid (HB2.out.trans (hb3.mono HB2.out.size))
    clear hb3 HS2 HI2 HO2 HB2
    go_upto_region 3 with fail
    refine wp_region_list ?_
    show wpList _ _ _ (_ :: _) _ _
    refine ld_row (by rfl) 27 (.tmp 2) (by rfl) ps (by rfl) _ 27 HS3.out.blk _ Tryd.underlying27 rfl HSZ.out ?_
    go_wp2_with fail
    refine (rload_bad w3 H sv buf N HH.out HN64.out HMB.out (HS.out.below HB3.out)).mono ?_
    rintro e w4 ⟨rfl, hb4⟩
    have HS4 := hid (HS3.out.below hb4)
    have HI4 := hid (HI3.out.below hb4)
    have HO4 := hid (HO3.out.below hb4)
    have HB4 := hid (HB3.out.trans (hb4.mono HB3.out.size))
    clear hb4 HS3 HI3 HO3 HB3
    have HNU := hid (fun W => num_any W 20)
    go_wp2_with (first
      | (go_at_call 12; refine (HNU.out _).mono ?_; rintro e w' ⟨rfl, hw⟩; subst w')
      | (refine unguard (by rfl) ?_; refine ld_row (by rfl) 27 (.tmp 5) (by rfl) pi (by rfl) _ 27 HI4.out.blk _ Tryd.underlying27 rfl HSI.out ?_)
      | (refine unguard (by rfl) ?_; refine ld_row (by rfl) 27 (.tmp 2) (by rfl) ps (by rfl) _ 27 HS4.out.blk _ Tryd.underlying27 rfl HSZ.out ?_))
    refine (same_state w4 H N _ sv buf HH.out (HO4.out.src (by rw [← HLB.out]; exact hLs)) (HS.out.below HB4.out)).mono ?_
    rintro e w5 ⟨rfl, hb5⟩
    have HB5 := hid (HB4.out.trans (hb5.mono HB4.out.size))
    clear hb5
    go_wp2_with fail
    refine (awake_any _ (HT.out.below HB5.out)).mono ?_
    rintro e w6 ⟨rfl, hb6⟩
    have HB6 := hid (HB5.out.trans (hb6.mono HB5.out.size))
    clear hb6
    go_wp2
    go_ret
    exact ⟨rfl, HB6.out⟩

end Go.Proofs.YticmdmnjajjpbabDoor
