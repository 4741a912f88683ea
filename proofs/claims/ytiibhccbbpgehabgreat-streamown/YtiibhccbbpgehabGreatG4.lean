/- Contracts and pure facts that the proof needs, joined. -/
import Derived.Test.YtiibhccbbpgehabGreatG3
import Derived.Test.YtiibhccbbpgehabGreatG1
import Derived.Laws.AppendOwnNone

/- readFrame, where the kind that is read is 1. -/
namespace Go.Proofs.YtiibhccbbpgehabGreat
open Go.RowKit Go.BigFrame

set_option maxRecDepth 100000 in
set_option maxHeartbeats 8000000 in
theorem readFrame_1 (v0 : Value) (bs : List UInt8) (head N : Nat) (w : World) (hs : Src w v0 bs) (hbl : bs.length ≤ 1099511627776) (hu : uS bs (0, 0, 0) = (N, head, 0, 0)) (hK : (oS bs 6 (head, 0, 0)).1 = 1) :
    Calls Tryz.prog 79 #[v0] w fun e w' => ∃ va, e = .returned (.tuple #[.agg (fcells (frameP bs head).1 va).toArray, .agg #[.int .i64 (frameP bs head).2.1, .int .i64 (frameP bs head).2.2]]) ∧ WOwnS w' w.heap.size va (frameP bs head).1.args ∧ Below w.heap.size w w' := by
  obtain ⟨va0, c0, rfl⟩ := src_shape hs
  obtain ⟨L0, HL0⟩ : ∃ n, Hid (bs.length = n) := ⟨_, rfl⟩
  obtain ⟨A, HAA⟩ : ∃ n, Hid (w.heap.size = n) := ⟨_, rfl⟩
  have HB0 := hid (below_walk2 w (.cells (fcells zF nS).toArray 65) (.cells #[.int .i64 0, .int .i64 0] 30))
  have HNB := hid (hp_two w (.cells (fcells zF nS).toArray 65) (.cells #[.int .i64 0, .int .i64 0] 30))
  have HZ : Hid ((w.alloc (.cells (fcells zF nS).toArray 65)).heap.size = w.heap.size + 1) := hid (by simp)
  have HZ2 : Hid (((w.alloc (.cells (fcells zF nS).toArray 65)).alloc (.cells #[.int .i64 0, .int .i64 0] 30)).heap.size = w.heap.size + 2) := hid (by simp)
  have HNR := hid (newReader_any _ bs _ (hs.below HB0.out))
  have HU := hid hu
  have HK := hid hK
  have HBL := hid hbl
  clear hs hbl hu hK
  go_enter Tryz.func79, Tryz.ntmps79
  go_upto_region 1 with (refine al_row (by rfl) 65 (by rfl) _ zeroFrame ?_)
  try rw [HZ.out]
  generalize (w.alloc (.cells (fcells zF nS).toArray 65)).alloc (.cells #[.int .i64 0, .int .i64 0] 30) = w0 at HB0 HNB HZ2 HNR ⊢
  rw [HAA.out] at HNB HZ2 ⊢
  have HR1 := hid HNB.out.1
  have HR2 := hid HNB.out.2
  clear HNB HZ
  go_wp2_with fail
  refine HNR.out.mono ?_
  rintro e w1 ⟨rb, v, rfl, hr1, hb1⟩
  obtain ⟨b, HBb⟩ : ∃ b, Hid (w1.heap.size = b) := ⟨_, rfl⟩
  have HLb : Hid (A + 2 ≤ b) := hid (by have := hb1.size; have := HZ2.out; have := HBb.out; omega)
  have HLr : Hid (A + 2 ≤ rb) := hid (by have := hr1.lo; have := HZ2.out; omega)
  have HLrb : Hid (rb < b) := hid (by have := hr1.lt; have := HBb.out; omega)
  have HAW := hid (below_walk w1 (.cells #[.pointer (some ⟨rb, 0, none⟩), .int .i64 0, .int .i64 0] 148))
  have HFD := hid (show Fd (w1.alloc (.cells #[.pointer (some ⟨rb, 0, none⟩), .int .i64 0, .int .i64 0] 148)) w0.heap.size b rb v bs (0, 0, 0) from ⟨0, 0, 0, 0, 0, hr1.below HAW.out, HBb.out ▸ hp_new w1 _, by have := HLrb.out; omega, fun e => by have := (hr1.own.lt _ e).2; have := HBb.out; omega, by have := hb1.size; have := HBb.out; omega, Or.inl ⟨rfl, rfl⟩⟩)
  have HR1a := hid (bel_keep HAW.out (bel_keep hb1 HR1.out))
  have HR2a := hid (bel_keep HAW.out (bel_keep hb1 HR2.out))
  have HB1 := hid (below_then (below_then HB0.out hb1) HAW.out)
  clear hr1 hb1 HR1 HR2 HB0 HNR HAW
  go_upto_region 2 with fail
  rw [HBb.out]
  generalize w1.alloc (.cells #[.pointer (some ⟨rb, 0, none⟩), .int .i64 0, .int .i64 0] 148) = w2 at HFD HR1a HR2a HB1 ⊢
  have p2 := HFD.out.ptr
  go_wp2_with fail
  refine (fd_uint HFD.out).mono ?_
  rintro e w3 ⟨rfl, hf3, hg3⟩
  rw [HU.out] at hf3
  have HF3 := hid (show Fd w3 w0.heap.size b rb v bs (head, 0, 0) from hf3)
  have HR1b := hid (gb_keep hg3 HR1a.out (by have := HLr.out; omega))
  have HR2b := hid (gb_keep hg3 HR2a.out (by have := HLr.out; omega))
  have HB3 := hid (Below.of_gb HB1.out hg3 (by have := HLr.out; have := HAA.out; omega))
  clear hf3 hg3 p2 HFD HR1a HR2a HB1
  have p3 := HF3.out.ptr
  go_wp2_with fail
  refine (fd_at HF3.out).mono ?_
  rintro e w4 ⟨A4, rfl, hw4, hA4⟩
  have hw4 := hw4.symm
  subst hw4
  obtain rfl : A4 = head := hA4 rfl
  clear hA4 p3
  go_wp2_with fail
  refine (fd_some w0.heap.size b rb v bs (A4, 0, 0) 6 w3 (by omega) HF3.out).mono ?_
  rintro e w5 ⟨rfl, hf5, hg5⟩
  rw [show ((oS bs 6 (A4, 0, 0)).1 : Int) = 1 by rw [HK.out]; rfl]
  have HF5 := hid hf5
  have HR1c := hid (hg5.keep HR1b.out (by have := HLb.out; omega) (by have := HLr.out; omega))
  have HR2c := hid (hg5.keep HR2b.out (by have := HLb.out; omega) (by have := HLr.out; omega))
  have HB5 := hid (hg5.below HB3.out (by have := HLb.out; have := HAA.out; omega) (by have := HLr.out; have := HAA.out; omega))
  clear hf5 hg5 HF3 HR1b HR2b HB3
  go_upto_region 5 with (first
    | (refine bd_row (by rfl) 65 #[(0, .tmp 25)] (by rfl) _ (by simp [Act.eval]) _ built_k1 ?_)
    | (refine al_row (by rfl) 65 (by rfl) _ zeroFrame ?_)
    | (refine st_new (by rfl) 65 _ _ (by rfl) (fcells (kF 1) nS) (by rfl) (by rfl) 65 _ (frame_size (kF 1) nS rfl) rfl (fcells_one (kF 1) nS rfl) ?_))
  have HW5 := hid (below_walk w5 (.cells (fcells (kF 1) nS).toArray 65))
  have HF6 := hid (HF5.out.below HW5.out)
  have HR1d := hid (bel_keep HW5.out HR1c.out)
  have HR2d := hid (bel_keep HW5.out HR2c.out)
  have HB6 := hid (below_then HB5.out HW5.out)
  have HFb := hid (hp_new w5 (.cells (fcells (kF 1) nS).toArray 65))
  have HLf0 : Hid (b < w5.heap.size) := hid HF5.out.lt.1
  have HVO0 := hid HF5.out.own
  obtain ⟨fb, HFBe⟩ : ∃ b, Hid (w5.heap.size = b) := ⟨_, rfl⟩
  rw [HFBe.out] at HFb HLf0 HVO0 ⊢
  have HVO : Hid (∀ k, v.ownBlock = some k → k < fb) := hid HVO0.out
  generalize w5.alloc (.cells (fcells (kF 1) nS).toArray 65) = w6 at HF6 HR1d HR2d HB6 HFb ⊢
  clear HF5 HR1c HR2c HB5 HW5
  have x0 : w6.cell? ⟨fb, 0, none⟩ = some (.int .i64 1) := (Fb.of HFb.out rfl).k
  go_wp2_with fail
  refine (kindOf_1 w6).mono ?_
  rintro e w7 ⟨rfl, hb7⟩
  have HF7 := hid (HF6.out.below hb7)
  have HR1e := hid (bel_keep hb7 HR1d.out)
  have HR2e := hid (bel_keep hb7 HR2d.out)
  have HB7 := hid (below_then HB6.out hb7)
  have HFc := hid (bel_keep hb7 HFb.out)
  clear hb7 HF6 HR1d HR2d HB6 HFb x0
  go_upto_region 6 with (first
    | (refine al_row (by rfl) 153 (by rfl) _ zeroKind ?_)
    | (refine st_new (by rfl) 153 _ _ (by rfl) k1 (by rfl) (by rfl) 153 _ kindSize rfl (kOf_one 1) ?_))
  have HW7 := hid (below_walk w7 (.cells (k1).toArray 153))
  have HF8 := hid (HF7.out.below HW7.out)
  have HR1 := hid (bel_keep HW7.out HR1e.out)
  have HR2 := hid (bel_keep HW7.out HR2e.out)
  have HB8 := hid (below_then HB7.out HW7.out)
  have HFd := hid (bel_keep HW7.out HFc.out)
  have HKb := hid (hp_new w7 (.cells (k1).toArray 153))
  have HLk : Hid (fb < w7.heap.size) := hid (hp_lt HFc.out)
  obtain ⟨kb, HKBe⟩ : ∃ b, Hid (w7.heap.size = b) := ⟨_, rfl⟩
  rw [HKBe.out] at HKb HLk ⊢
  generalize w7.alloc (.cells (k1).toArray 153) = w8 at HF8 HR1 HR2 HB8 HFd HKb ⊢
  clear HF7 HR1e HR2e HB7 HFc HW7 HZ2 HFBe HKBe
  have y4 : w8.cell? ⟨kb, 4, none⟩ = some (.func (.func 105) #[] #[]) := by rw [cell_of_row w8 kb 4 _ _ _ HKb.out]; rfl
  go_wp2_with (refine ld_row (by rfl) 65 (.tmp 6) (by rfl) fb (by rfl) (fcells (kF 1) nS) 65 HFd.out _ Tryz.underlying65 rfl (frame_size (kF 1) nS rfl) ?_)
  refine (readHello_any w0.heap.size b rb v bs (oS bs 6 (A4, 0, 0)).2 w8 HBL.out HF8.out).mono ?_
  rintro e w9 ⟨va, rfl, hoa, hf9, hg9⟩
  have HLb8 : Hid (b < w8.heap.size) := hid HF8.out.lt.1
  have HLr8 : Hid (rb < w8.heap.size) := hid HF8.out.lt.2.1
  have HLk8 : Hid (kb < w8.heap.size) := hid (hp_lt HKb.out)
  have HS9 : Hid (w8.heap.size ≤ w9.heap.size) := hid hg9.size
  have HOA := hid hoa
  have HF9 := hid hf9
  have HR1f := hid (hg9.keep HR1.out (by have := HLb.out; omega) (by have := HLr.out; omega))
  have HR2f := hid (hg9.keep HR2.out (by have := HLb.out; omega) (by have := HLr.out; omega))
  have HB9 := hid (hg9.below HB8.out (by have := HLb.out; have := HAA.out; omega) (by have := HLr.out; have := HAA.out; omega))
  have HFe := hid (hg9.keep HFd.out (by have := HLf0.out; omega) (by have := HLf0.out; have := HLrb.out; omega))
  have HKc := hid (hg9.keep HKb.out (by have := HLk.out; have := HLf0.out; omega) (by have := HLk.out; have := HLf0.out; have := HLrb.out; omega))
  have HTL := hid (show (fieldsP bs 1 (oS bs 6 (A4, 0, 0)).2).1.tool.length = 32 from fieldsP_tool bs 1 (oS bs 6 (A4, 0, 0)).2)
  obtain ⟨aV, cV, eV⟩ := wowns_shape hoa
  have HSZ := hid (frame_size (fieldsP bs 1 (oS bs 6 (A4, 0, 0)).2).1 va HTL.out)
  have HON := hid (fcells_one (fieldsP bs 1 (oS bs 6 (A4, 0, 0)).2).1 va (by rw [eV]; rfl))
  have HOS := hid (show (fcells (kF 1) nS).toArray.size = (fcells (fieldsP bs 1 (oS bs 6 (A4, 0, 0)).2).1 va).length by rw [fcells_length _ _ HTL.out]; rfl)
  obtain ⟨FF, HFF⟩ : ∃ L, Hid (fcells (fieldsP bs 1 (oS bs 6 (A4, 0, 0)).2).1 va = L) := ⟨_, rfl⟩
  rw [HFF.out] at HSZ HON HOS ⊢
  have HFV : Hid (∀ k, v.ownBlock = some k → k < fb) := hid (fun k hk => by have := HVO.out k hk; omega)
  clear hoa hf9 hg9 HF8 HR1 HR2 HB8 HFd HKb y4 eV
  go_upto_region 9 with (refine st_row (by rfl) 65 _ _ (by rfl) fb FF (by rfl) (by rfl) 65 _ HFe.out HSZ.out HOS.out HON.out ?_; intro w10 hw10)
  have HF10 := hid (HF9.out.far hw10.grown (by have := HLf0.out; omega) (by have := HLf0.out; have := HLrb.out; omega) (fun k hk => by have := HFV.out k hk; omega))
  have HR1g := hid (gb_keep hw10.grown HR1f.out (by have := HLf0.out; have := HLb.out; omega))
  have HR2g := hid (gb_keep hw10.grown HR2f.out (by have := HLf0.out; have := HLb.out; omega))
  have HKd := hid (gb_keep hw10.grown HKc.out (by have := HLk.out; omega))
  have HB10 := hid (Below.of_gb HB9.out hw10.grown (by have := HLf0.out; have := HLb.out; have := HAA.out; omega))
  have HFf := hid hw10.blk
  have HOA2 := hid (WOwnS.far HOA.out hw10.grown (fun j e => by injection e with e; have := HLk.out; have := HLk8.out; omega))
  have HS10 : Hid (w8.heap.size ≤ w10.heap.size) := hid (by have := hw10.size; have := HS9.out; omega)
  clear hw10 HF9 HR1f HR2f HKc HB9 HFe HOA HOS HS9
  go_wp2_with fail
  refine (fd_end w0.heap.size b rb v bs _ w10 HF10.out).mono ?_
  rintro e w11 ⟨rfl, hg11⟩
  have HR1h := hid (hg11.keep HR1g.out (by have := HLb.out; omega) (by have := HLr.out; omega))
  have HR2h := hid (hg11.keep HR2g.out (by have := HLb.out; omega) (by have := HLr.out; omega))
  have HB11 := hid (hg11.below HB10.out (by have := HLb.out; have := HAA.out; omega) (by have := HLr.out; have := HAA.out; omega))
  have HFg := hid (hg11.keep HFf.out (by have := HLf0.out; omega) (by have := HLf0.out; have := HLrb.out; omega))
  have HKe := hid (hg11.keep HKd.out (by have := HLk.out; have := HLf0.out; omega) (by have := HLk.out; have := HLf0.out; have := HLrb.out; omega))
  have HOA3 := hid (wowns_g2 HOA2.out hg11 HLb8.out HLr8.out)
  have HS11 : Hid (w8.heap.size ≤ w11.heap.size) := hid (by have := hg11.size; have := HS10.out; omega)
  obtain ⟨E1, HE1⟩ : ∃ x, Hid ((eS bs (fieldsP bs 1 (oS bs 6 (A4, 0, 0)).2).2).1 = x) := ⟨_, rfl⟩
  obtain ⟨E2, HE2⟩ : ∃ x, Hid ((eS bs (fieldsP bs 1 (oS bs 6 (A4, 0, 0)).2).2).2 = x) := ⟨_, rfl⟩
  rw [HE1.out, HE2.out]
  clear hg11 HF10 HR1g HR2g HB10 HFf HKd HOA2 HS10
  go_upto_region 10 with fail
  have HWT := hid (below_walk w11 (.cells #[.int .i64 E1, .int .i64 E2] 30))
  have HR1i := hid (bel_keep HWT.out HR1h.out)
  have HR2i := hid (bel_keep HWT.out HR2h.out)
  have HB12 := hid (below_then HB11.out HWT.out)
  have HFh := hid (bel_keep HWT.out HFg.out)
  have HKf := hid (bel_keep HWT.out HKe.out)
  have HOA4 := hid (HOA3.out.alloc (.cells #[.int .i64 E1, .int .i64 E2] 30))
  have HTB0 := hid (hp_new w11 (.cells #[.int .i64 E1, .int .i64 E2] 30))
  have HLt0 : Hid (kb < w11.heap.size) := hid (hp_lt HKe.out)
  obtain ⟨tb, HTBe⟩ : ∃ b, Hid (w11.heap.size = b) := ⟨_, rfl⟩
  rw [HTBe.out] at HTB0 HLt0 ⊢
  generalize w11.alloc (.cells #[.int .i64 E1, .int .i64 E2] 30) = w12 at HR1i HR2i HB12 HFh HKf HOA4 HTB0 ⊢
  have HLt : Hid (A + 2 ≤ tb) := hid (by have := HLt0.out; have := HLk.out; have := HLf0.out; have := HLb.out; omega)
  have HL8t : Hid (w8.heap.size ≤ tb) := hid (by have := HS11.out; have := HTBe.out; omega)
  clear HR1h HR2h HB11 HFg HKe HOA3 HWT HTBe HS11
  have t0 : w12.cell? ⟨tb, 0, none⟩ = some (.int .i64 E1) := by simp [World.cell?, HTB0.out]
  have t1 : w12.cell? ⟨tb, 1, none⟩ = some (.int .i64 E2) := by simp [World.cell?, HTB0.out]
  have f0 := row_fz HTB0.out 0
  have f1 := row_fz HTB0.out 1
  by_cases hE : E1 = 0
  · obtain ⟨M, HM⟩ : ∃ M, Hid (mayF (fieldsP bs 1 (oS bs 6 (A4, 0, 0)).2).1 = M) := ⟨_, rfl⟩
    have HST := hid (wowns_strs HOA4.out)
    have HMN : Hid ((fieldsP bs 1 (oS bs 6 (A4, 0, 0)).2).1.args.length ≤ 9223372036854775807) := hid (wowns_len HOA4.out)
    have HMAY := hid (show Calls Tryz.prog 103 #[.agg FF.toArray] w12 fun e w' => e = .returned (.bool M) ∧ Below w12.heap.size w12 w' by
      rw [← HM.out, mayF_1 _ (fieldsP_kind bs 1 (oS bs 6 (A4, 0, 0)).2 (by omega)), ← HFF.out]
      exact mayHello_any (fieldsP bs 1 (oS bs 6 (A4, 0, 0)).2).1 va w12 HTL.out)
    subst hE
    have y2 : w12.cell? ⟨kb, 2, none⟩ = some (.func (.func 103) #[] #[]) := by rw [cell_of_row w12 kb 2 _ _ _ HKf.out]; rfl
    have HRG := hid (range_row HFh.out)
    clear HST HMN
    go_wp2_with (refine ld_gd (by rfl) 65 (.tmp 6) (by rfl) fb 0 (by rfl) FF _ HRG.out Tryz.underlying65 rfl HSZ.out ?_)
    refine HMAY.out.mono ?_
    rintro e w13 ⟨rfl, hb13⟩
    have HR1z := hid (bel_keep hb13 HR1i.out)
    have HR2z := hid (bel_keep hb13 HR2i.out)
    have HBz := hid (below_then HB12.out hb13)
    have HFz := hid (bel_keep hb13 HFh.out)
    have HTBz := hid (bel_keep hb13 HTB0.out)
    have HOAz := hid (WOwnS.far HOA4.out (below_gb hb13 none) (fun j e => by cases e))
    clear hb13 HR1i HR2i HB12 HFh HTB0 HKf HOA4 HMAY HRG y2 t0 t1 f0 f1
    have t0 : w13.cell? ⟨tb, 0, none⟩ = some (.int .i64 0) := by simp [World.cell?, HTBz.out]
    have t1 : w13.cell? ⟨tb, 1, none⟩ = some (.int .i64 E2) := by simp [World.cell?, HTBz.out]
    have f0 := row_fz HTBz.out 0
    have f1 := row_fz HTBz.out 1
    cases M with
    | true =>
      as_aux_lemma =>
        have HFP := hid (frameP_ok bs A4 1 HK.out (by omega) HE1.out HM.out)
        go_wp2_with (first
          | (refine ld_row (by rfl) 65 (.tmp 6) (by rfl) fb (by rfl) FF 65 HFz.out _ Tryz.underlying65 rfl HSZ.out ?_)
          | (refine bd_row (by rfl) 30 #[] (by rfl) _ (by simp [Act.eval]) _ built_fz ?_)
          | (refine st_row (by rfl) 65 _ _ (by rfl) A FF (by rfl) (by rfl) 65 _ HR1z.out HSZ.out (by rw [← HFF.out, fcells_length _ _ HTL.out]; rfl) HON.out ?_; intro w14 hw14)
          | (refine st_row (by rfl) 30 _ _ (by rfl) (A + 1) [Value.int .i64 0, .int .i64 0] (by rfl) (by rfl) 30 _ (gb_keep hw14.grown HR2z.out (by omega)) faultSize rfl (fault_one _ _) ?_; intro w15 hw15))
        refine ret_cc 2 3 65 30 rfl A rfl (A + 1) rfl FF 65 (gb_keep hw15.grown hw14.blk (by omega)) _ Tryz.underlying65 rfl HSZ.out _ 30 hw15.blk _ Tryz.underlying30 rfl faultSize rfl ?_
        rw [HFP.out]
        refine ⟨va, by rw [← HFF.out]; rfl, ?_, Below.of_gb (Below.of_gb HBz.out hw14.grown (by have := HAA.out; omega)) hw15.grown (by have := HAA.out; omega)⟩
        exact (WOwnS.far (WOwnS.far HOAz.out hw14.grown (fun j e => by injection e with e; have := HLk8.out; have := HLk.out; have := HLf0.out; have := HLb.out; omega)) hw15.grown (fun j e => by injection e with e; have := HLk8.out; have := HLk.out; have := HLf0.out; have := HLb.out; omega)).le (by have := HLk8.out; have := HLk.out; have := HLf0.out; have := HLb.out; have := HAA.out; omega)
    | false =>
      as_aux_lemma =>
        have HFP := hid (frameP_may bs A4 1 HK.out (by omega) HE1.out HM.out)
        go_upto_region 12 with (first
          | (refine bd_row (by rfl) 30 #[(0, .const (.int .i64 70)), (1, .tmp 55)] (by rfl) _ (by simp [Act.eval]) _ (built_ft 70 (A4 : Int)) ?_)
          | (refine st_row (by rfl) 30 _ _ (by rfl) tb [Value.int .i64 70, .int .i64 (A4 : Int)] (by rfl) (by rfl) 30 _ HTBz.out faultSize rfl (fault_one _ _) ?_; intro w14 hw14))
        have HTB := hid hw14.blk
        have HR1y := hid (gb_keep hw14.grown HR1z.out (by have := HLt.out; omega))
        have HR2y := hid (gb_keep hw14.grown HR2z.out (by have := HLt.out; omega))
        have HBy := hid (Below.of_gb HBz.out hw14.grown (by have := HLt.out; have := HAA.out; omega))
        clear hw14 HR1z HR2z HBz t0 t1 f0 f1
        have HR1z := hid HR1y.out
        have HR2z := hid HR2y.out
        have HBz := hid HBy.out
        have t0 : w14.cell? ⟨tb, 0, none⟩ = some (.int .i64 70) := by simp [World.cell?, HTB.out]
        go_upto_region 13 with fail
        have HTBc := hid HTB.out
        refine wp_noPanic (wp_region_held_drew (S := fun W => W.heap[tb]? = some (.cells [Value.int .i64 70, .int .i64 (A4 : Int)].toArray 30 (0, 0))) (by kernel_rfl) HTBc.out ?_)
        intro hHeld
        refine wpAnyH_take (i := 0) (v := .agg (fcells zF nS).toArray) rfl (by kernel_rfl) (by kernel_rfl) (by kernel_rfl) (fun _ _ _ h => h) (yields_build (by rfl) 65 #[] (by rfl) _ (by simp [Act.eval]) _ built_zf) hHeld ?_
        simp only [Act.put, List.getElem_toArray, List.getElem_cons_zero, List.setIfInBounds_toArray, List.set_cons_succ, List.set_cons_zero]
        refine wpAnyH_take (i := 1) (v := .agg [Value.int .i64 70, .int .i64 (A4 : Int)].toArray) rfl (by kernel_rfl) (by kernel_rfl) (by kernel_rfl) (fun _ _ _ h => h) (yieldsIf_load_mid (by rfl) 30 (.tmp 9) rfl tb 0 rfl [Value.int .i64 70, .int .i64 (A4 : Int)] _ (fun W hW => range_row hW) Tryz.underlying30 rfl faultSize) hHeld ?_
        simp only [Act.put, List.getElem_toArray, List.getElem_cons_zero, List.getElem_cons_succ, List.setIfInBounds_toArray, List.set_cons_succ, List.set_cons_zero]
        obtain ⟨wx, HWX⟩ : ∃ x, Hid (w14.drew = x) := ⟨_, rfl⟩
        have HR1x := hid (show w14.drew.heap[A]? = _ from HR1z.out)
        have HR2x := hid (show w14.drew.heap[A + 1]? = _ from HR2z.out)
        have HTBx := hid (show w14.drew.heap[tb]? = some (.cells [Value.int .i64 70, .int .i64 (A4 : Int)].toArray 30 (0, 0)) from HTB.out)
        have HBx := hid (show Below w.heap.size w w14.drew from below_tr HBz.out ⟨rfl, rfl, rfl, Nat.le_refl _, fun _ _ => rfl⟩)
        rw [HWX.out] at hHeld HR1x HR2x HTBx HBx ⊢
        refine wpAnyH_ready (rs := [2]) (by kernel_rfl) (by simp) ?_
        refine AllReadyH.cons rfl (fun K9 hK9 => ?_) AllReadyH.nil
        refine step_store_row (by rfl) 65 _ _ (by rfl) A (fcells zF nS) (by rfl) (by rfl) 65 _ HR1x.out (frame_size zF nS rfl) rfl (fcells_one zF nS rfl) ?_
        intro wy hwy
        refine hK9.out _ _ (gb_keep hwy.grown HTBx.out (by have := HLt.out; omega)) (fun hHeld => ?_)
        clear hK9 K9
        try simp only [Act.put, List.getElem_toArray, List.getElem_cons_zero, List.getElem_cons_succ]
        refine wpAnyH_ready (rs := [3]) (by kernel_rfl) (by simp) ?_
        refine AllReadyH.cons rfl (fun K9 hK9 => ?_) AllReadyH.nil
        refine step_store_row (by rfl) 30 _ _ (by rfl) (A + 1) [Value.int .i64 70, .int .i64 (A4 : Int)] (by rfl) (by rfl) 30 _ (gb_keep hwy.grown HR2x.out (by omega)) faultSize rfl (fault_one _ _) ?_
        intro wz hwz
        refine hK9.out _ _ (gb_keep hwz.grown (gb_keep hwy.grown HTBx.out (by have := HLt.out; omega)) (by have := HLt.out; omega)) (fun hHeld => ?_)
        clear hK9 K9
        try simp only [Act.put, List.getElem_toArray, List.getElem_cons_zero, List.getElem_cons_succ]
        refine wpAnyH_done (by kernel_rfl) ?_ _
        simp only [noPanic]
        clear hHeld
        go_wp2
        refine ret_cc 2 3 65 30 rfl A rfl (A + 1) rfl (fcells zF nS) 65 (gb_keep hwz.grown hwy.blk (by omega)) _ Tryz.underlying65 rfl (frame_size zF nS rfl) _ 30 hwz.blk _ Tryz.underlying30 rfl faultSize rfl ?_
        rw [HFP.out]
        refine ⟨nS, rfl, World.ownsRow_nil _ _ _ _, ?_⟩
        exact Below.of_gb (Below.of_gb HBx.out hwy.grown (by have := HAA.out; omega)) hwz.grown (by have := HAA.out; omega)

  · as_aux_lemma =>
      have q1 : (E1 == 0) = false := by simpa using hE
      have q2 : (E1 != 0) = true := by simpa using hE
      have HFP := hid (show frameP bs A4 = (zF, E1, E2) by
        rw [frameP_bad bs A4 1 HK.out (by omega) (show (eS bs (fieldsP bs 1 (oS bs 6 (A4, 0, 0)).2).2).1 ≠ 0 by rw [HE1.out]; exact hE), ← HE1.out, ← HE2.out]; rfl)
      have HR1z := hid HR1i.out
      have HR2z := hid HR2i.out
      have HBz := hid HB12.out
      have HTB := hid (show w12.heap[tb]? = some (.cells [Value.int .i64 E1, .int .i64 E2].toArray 30 (0, 0)) from HTB0.out)
      clear hE
      go_upto_region 13 with fail
      have HTBc := hid HTB.out
      refine wp_noPanic (wp_region_held_drew (S := fun W => W.heap[tb]? = some (.cells [Value.int .i64 E1, .int .i64 E2].toArray 30 (0, 0))) (by kernel_rfl) HTBc.out ?_)
      intro hHeld
      refine wpAnyH_take (i := 0) (v := .agg (fcells zF nS).toArray) rfl (by kernel_rfl) (by kernel_rfl) (by kernel_rfl) (fun _ _ _ h => h) (yields_build (by rfl) 65 #[] (by rfl) _ (by simp [Act.eval]) _ built_zf) hHeld ?_
      simp only [Act.put, List.getElem_toArray, List.getElem_cons_zero, List.setIfInBounds_toArray, List.set_cons_succ, List.set_cons_zero]
      refine wpAnyH_take (i := 1) (v := .agg [Value.int .i64 E1, .int .i64 E2].toArray) rfl (by kernel_rfl) (by kernel_rfl) (by kernel_rfl) (fun _ _ _ h => h) (yieldsIf_load_mid (by rfl) 30 (.tmp 9) rfl tb 0 rfl [Value.int .i64 E1, .int .i64 E2] _ (fun W hW => range_row hW) Tryz.underlying30 rfl faultSize) hHeld ?_
      simp only [Act.put, List.getElem_toArray, List.getElem_cons_zero, List.getElem_cons_succ, List.setIfInBounds_toArray, List.set_cons_succ, List.set_cons_zero]
      obtain ⟨wx, HWX⟩ : ∃ x, Hid (w12.drew = x) := ⟨_, rfl⟩
      have HR1x := hid (show w12.drew.heap[A]? = _ from HR1z.out)
      have HR2x := hid (show w12.drew.heap[A + 1]? = _ from HR2z.out)
      have HTBx := hid (show w12.drew.heap[tb]? = some (.cells [Value.int .i64 E1, .int .i64 E2].toArray 30 (0, 0)) from HTB.out)
      have HBx := hid (show Below w.heap.size w w12.drew from below_tr HBz.out ⟨rfl, rfl, rfl, Nat.le_refl _, fun _ _ => rfl⟩)
      rw [HWX.out] at hHeld HR1x HR2x HTBx HBx ⊢
      refine wpAnyH_ready (rs := [2]) (by kernel_rfl) (by simp) ?_
      refine AllReadyH.cons rfl (fun K9 hK9 => ?_) AllReadyH.nil
      refine step_store_row (by rfl) 65 _ _ (by rfl) A (fcells zF nS) (by rfl) (by rfl) 65 _ HR1x.out (frame_size zF nS rfl) rfl (fcells_one zF nS rfl) ?_
      intro wy hwy
      refine hK9.out _ _ (gb_keep hwy.grown HTBx.out (by have := HLt.out; omega)) (fun hHeld => ?_)
      clear hK9 K9
      try simp only [Act.put, List.getElem_toArray, List.getElem_cons_zero, List.getElem_cons_succ]
      refine wpAnyH_ready (rs := [3]) (by kernel_rfl) (by simp) ?_
      refine AllReadyH.cons rfl (fun K9 hK9 => ?_) AllReadyH.nil
      refine step_store_row (by rfl) 30 _ _ (by rfl) (A + 1) [Value.int .i64 E1, .int .i64 E2] (by rfl) (by rfl) 30 _ (gb_keep hwy.grown HR2x.out (by omega)) faultSize rfl (fault_one _ _) ?_
      intro wz hwz
      refine hK9.out _ _ (gb_keep hwz.grown (gb_keep hwy.grown HTBx.out (by have := HLt.out; omega)) (by have := HLt.out; omega)) (fun hHeld => ?_)
      clear hK9 K9
      try simp only [Act.put, List.getElem_toArray, List.getElem_cons_zero, List.getElem_cons_succ]
      refine wpAnyH_done (by kernel_rfl) ?_ _
      simp only [noPanic]
      clear hHeld
      go_wp2
      refine ret_cc 2 3 65 30 rfl A rfl (A + 1) rfl (fcells zF nS) 65 (gb_keep hwz.grown hwy.blk (by omega)) _ Tryz.underlying65 rfl (frame_size zF nS rfl) _ 30 hwz.blk _ Tryz.underlying30 rfl faultSize rfl ?_
      rw [HFP.out]
      refine ⟨nS, rfl, World.ownsRow_nil _ _ _ _, ?_⟩
      exact Below.of_gb (Below.of_gb HBx.out hwy.grown (by have := HAA.out; omega)) hwz.grown (by have := HAA.out; omega)

end Go.Proofs.YtiibhccbbpgehabGreat

/- readFrame, where the kind that is read is 2. -/
namespace Go.Proofs.YtiibhccbbpgehabGreat
open Go.RowKit Go.BigFrame

set_option maxRecDepth 100000 in
set_option maxHeartbeats 8000000 in
theorem readFrame_2 (v0 : Value) (bs : List UInt8) (head N : Nat) (w : World) (hs : Src w v0 bs) (hbl : bs.length ≤ 1099511627776) (hu : uS bs (0, 0, 0) = (N, head, 0, 0)) (hK : (oS bs 6 (head, 0, 0)).1 = 2) :
    Calls Tryz.prog 79 #[v0] w fun e w' => ∃ va, e = .returned (.tuple #[.agg (fcells (frameP bs head).1 va).toArray, .agg #[.int .i64 (frameP bs head).2.1, .int .i64 (frameP bs head).2.2]]) ∧ WOwnS w' w.heap.size va (frameP bs head).1.args ∧ Below w.heap.size w w' := by
  obtain ⟨va0, c0, rfl⟩ := src_shape hs
  obtain ⟨L0, HL0⟩ : ∃ n, Hid (bs.length = n) := ⟨_, rfl⟩
  obtain ⟨A, HAA⟩ : ∃ n, Hid (w.heap.size = n) := ⟨_, rfl⟩
  have HB0 := hid (below_walk2 w (.cells (fcells zF nS).toArray 65) (.cells #[.int .i64 0, .int .i64 0] 30))
  have HNB := hid (hp_two w (.cells (fcells zF nS).toArray 65) (.cells #[.int .i64 0, .int .i64 0] 30))
  have HZ : Hid ((w.alloc (.cells (fcells zF nS).toArray 65)).heap.size = w.heap.size + 1) := hid (by simp)
  have HZ2 : Hid (((w.alloc (.cells (fcells zF nS).toArray 65)).alloc (.cells #[.int .i64 0, .int .i64 0] 30)).heap.size = w.heap.size + 2) := hid (by simp)
  have HNR := hid (newReader_any _ bs _ (hs.below HB0.out))
  have HU := hid hu
  have HK := hid hK
  have HBL := hid hbl
  clear hs hbl hu hK
  go_enter Tryz.func79, Tryz.ntmps79
  go_upto_region 1 with (refine al_row (by rfl) 65 (by rfl) _ zeroFrame ?_)
  try rw [HZ.out]
  generalize (w.alloc (.cells (fcells zF nS).toArray 65)).alloc (.cells #[.int .i64 0, .int .i64 0] 30) = w0 at HB0 HNB HZ2 HNR ⊢
  rw [HAA.out] at HNB HZ2 ⊢
  have HR1 := hid HNB.out.1
  have HR2 := hid HNB.out.2
  clear HNB HZ
  go_wp2_with fail
  refine HNR.out.mono ?_
  rintro e w1 ⟨rb, v, rfl, hr1, hb1⟩
  obtain ⟨b, HBb⟩ : ∃ b, Hid (w1.heap.size = b) := ⟨_, rfl⟩
  have HLb : Hid (A + 2 ≤ b) := hid (by have := hb1.size; have := HZ2.out; have := HBb.out; omega)
  have HLr : Hid (A + 2 ≤ rb) := hid (by have := hr1.lo; have := HZ2.out; omega)
  have HLrb : Hid (rb < b) := hid (by have := hr1.lt; have := HBb.out; omega)
  have HAW := hid (below_walk w1 (.cells #[.pointer (some ⟨rb, 0, none⟩), .int .i64 0, .int .i64 0] 148))
  have HFD := hid (show Fd (w1.alloc (.cells #[.pointer (some ⟨rb, 0, none⟩), .int .i64 0, .int .i64 0] 148)) w0.heap.size b rb v bs (0, 0, 0) from ⟨0, 0, 0, 0, 0, hr1.below HAW.out, HBb.out ▸ hp_new w1 _, by have := HLrb.out; omega, fun e => by have := (hr1.own.lt _ e).2; have := HBb.out; omega, by have := hb1.size; have := HBb.out; omega, Or.inl ⟨rfl, rfl⟩⟩)
  have HR1a := hid (bel_keep HAW.out (bel_keep hb1 HR1.out))
  have HR2a := hid (bel_keep HAW.out (bel_keep hb1 HR2.out))
  have HB1 := hid (below_then (below_then HB0.out hb1) HAW.out)
  clear hr1 hb1 HR1 HR2 HB0 HNR HAW
  go_upto_region 2 with fail
  rw [HBb.out]
  generalize w1.alloc (.cells #[.pointer (some ⟨rb, 0, none⟩), .int .i64 0, .int .i64 0] 148) = w2 at HFD HR1a HR2a HB1 ⊢
  have p2 := HFD.out.ptr
  go_wp2_with fail
  refine (fd_uint HFD.out).mono ?_
  rintro e w3 ⟨rfl, hf3, hg3⟩
  rw [HU.out] at hf3
  have HF3 := hid (show Fd w3 w0.heap.size b rb v bs (head, 0, 0) from hf3)
  have HR1b := hid (gb_keep hg3 HR1a.out (by have := HLr.out; omega))
  have HR2b := hid (gb_keep hg3 HR2a.out (by have := HLr.out; omega))
  have HB3 := hid (Below.of_gb HB1.out hg3 (by have := HLr.out; have := HAA.out; omega))
  clear hf3 hg3 p2 HFD HR1a HR2a HB1
  have p3 := HF3.out.ptr
  go_wp2_with fail
  refine (fd_at HF3.out).mono ?_
  rintro e w4 ⟨A4, rfl, hw4, hA4⟩
  have hw4 := hw4.symm
  subst hw4
  obtain rfl : A4 = head := hA4 rfl
  clear hA4 p3
  go_wp2_with fail
  refine (fd_some w0.heap.size b rb v bs (A4, 0, 0) 6 w3 (by omega) HF3.out).mono ?_
  rintro e w5 ⟨rfl, hf5, hg5⟩
  rw [show ((oS bs 6 (A4, 0, 0)).1 : Int) = 2 by rw [HK.out]; rfl]
  have HF5 := hid hf5
  have HR1c := hid (hg5.keep HR1b.out (by have := HLb.out; omega) (by have := HLr.out; omega))
  have HR2c := hid (hg5.keep HR2b.out (by have := HLb.out; omega) (by have := HLr.out; omega))
  have HB5 := hid (hg5.below HB3.out (by have := HLb.out; have := HAA.out; omega) (by have := HLr.out; have := HAA.out; omega))
  clear hf5 hg5 HF3 HR1b HR2b HB3
  go_upto_region 5 with (first
    | (refine bd_row (by rfl) 65 #[(0, .tmp 25)] (by rfl) _ (by simp [Act.eval]) _ built_k2 ?_)
    | (refine al_row (by rfl) 65 (by rfl) _ zeroFrame ?_)
    | (refine st_new (by rfl) 65 _ _ (by rfl) (fcells (kF 2) nS) (by rfl) (by rfl) 65 _ (frame_size (kF 2) nS rfl) rfl (fcells_one (kF 2) nS rfl) ?_))
  have HW5 := hid (below_walk w5 (.cells (fcells (kF 2) nS).toArray 65))
  have HF6 := hid (HF5.out.below HW5.out)
  have HR1d := hid (bel_keep HW5.out HR1c.out)
  have HR2d := hid (bel_keep HW5.out HR2c.out)
  have HB6 := hid (below_then HB5.out HW5.out)
  have HFb := hid (hp_new w5 (.cells (fcells (kF 2) nS).toArray 65))
  have HLf0 : Hid (b < w5.heap.size) := hid HF5.out.lt.1
  have HVO0 := hid HF5.out.own
  obtain ⟨fb, HFBe⟩ : ∃ b, Hid (w5.heap.size = b) := ⟨_, rfl⟩
  rw [HFBe.out] at HFb HLf0 HVO0 ⊢
  have HVO : Hid (∀ k, v.ownBlock = some k → k < fb) := hid HVO0.out
  generalize w5.alloc (.cells (fcells (kF 2) nS).toArray 65) = w6 at HF6 HR1d HR2d HB6 HFb ⊢
  clear HF5 HR1c HR2c HB5 HW5
  have x0 : w6.cell? ⟨fb, 0, none⟩ = some (.int .i64 2) := (Fb.of HFb.out rfl).k
  go_wp2_with fail
  refine (kindOf_2 w6).mono ?_
  rintro e w7 ⟨rfl, hb7⟩
  have HF7 := hid (HF6.out.below hb7)
  have HR1e := hid (bel_keep hb7 HR1d.out)
  have HR2e := hid (bel_keep hb7 HR2d.out)
  have HB7 := hid (below_then HB6.out hb7)
  have HFc := hid (bel_keep hb7 HFb.out)
  clear hb7 HF6 HR1d HR2d HB6 HFb x0
  go_upto_region 6 with (first
    | (refine al_row (by rfl) 153 (by rfl) _ zeroKind ?_)
    | (refine st_new (by rfl) 153 _ _ (by rfl) k2 (by rfl) (by rfl) 153 _ kindSize rfl (kOf_one 2) ?_))
  have HW7 := hid (below_walk w7 (.cells (k2).toArray 153))
  have HF8 := hid (HF7.out.below HW7.out)
  have HR1 := hid (bel_keep HW7.out HR1e.out)
  have HR2 := hid (bel_keep HW7.out HR2e.out)
  have HB8 := hid (below_then HB7.out HW7.out)
  have HFd := hid (bel_keep HW7.out HFc.out)
  have HKb := hid (hp_new w7 (.cells (k2).toArray 153))
  have HLk : Hid (fb < w7.heap.size) := hid (hp_lt HFc.out)
  obtain ⟨kb, HKBe⟩ : ∃ b, Hid (w7.heap.size = b) := ⟨_, rfl⟩
  rw [HKBe.out] at HKb HLk ⊢
  generalize w7.alloc (.cells (k2).toArray 153) = w8 at HF8 HR1 HR2 HB8 HFd HKb ⊢
  clear HF7 HR1e HR2e HB7 HFc HW7 HZ2 HFBe HKBe
  have y4 : w8.cell? ⟨kb, 4, none⟩ = some (.func (.func 109) #[] #[]) := by rw [cell_of_row w8 kb 4 _ _ _ HKb.out]; rfl
  go_wp2_with (refine ld_row (by rfl) 65 (.tmp 6) (by rfl) fb (by rfl) (fcells (kF 2) nS) 65 HFd.out _ Tryz.underlying65 rfl (frame_size (kF 2) nS rfl) ?_)
  refine (readRequest_any w0.heap.size b rb v bs (oS bs 6 (A4, 0, 0)).2 w8 HBL.out HF8.out).mono ?_
  rintro e w9 ⟨va, rfl, hoa, hf9, hg9⟩
  have HLb8 : Hid (b < w8.heap.size) := hid HF8.out.lt.1
  have HLr8 : Hid (rb < w8.heap.size) := hid HF8.out.lt.2.1
  have HLk8 : Hid (kb < w8.heap.size) := hid (hp_lt HKb.out)
  have HS9 : Hid (w8.heap.size ≤ w9.heap.size) := hid hg9.size
  have HOA := hid hoa
  have HF9 := hid hf9
  have HR1f := hid (hg9.keep HR1.out (by have := HLb.out; omega) (by have := HLr.out; omega))
  have HR2f := hid (hg9.keep HR2.out (by have := HLb.out; omega) (by have := HLr.out; omega))
  have HB9 := hid (hg9.below HB8.out (by have := HLb.out; have := HAA.out; omega) (by have := HLr.out; have := HAA.out; omega))
  have HFe := hid (hg9.keep HFd.out (by have := HLf0.out; omega) (by have := HLf0.out; have := HLrb.out; omega))
  have HKc := hid (hg9.keep HKb.out (by have := HLk.out; have := HLf0.out; omega) (by have := HLk.out; have := HLf0.out; have := HLrb.out; omega))
  have HTL := hid (show (fieldsP bs 2 (oS bs 6 (A4, 0, 0)).2).1.tool.length = 32 from fieldsP_tool bs 2 (oS bs 6 (A4, 0, 0)).2)
  obtain ⟨aV, cV, eV⟩ := wowns_shape hoa
  have HSZ := hid (frame_size (fieldsP bs 2 (oS bs 6 (A4, 0, 0)).2).1 va HTL.out)
  have HON := hid (fcells_one (fieldsP bs 2 (oS bs 6 (A4, 0, 0)).2).1 va (by rw [eV]; rfl))
  have HOS := hid (show (fcells (kF 2) nS).toArray.size = (fcells (fieldsP bs 2 (oS bs 6 (A4, 0, 0)).2).1 va).length by rw [fcells_length _ _ HTL.out]; rfl)
  obtain ⟨FF, HFF⟩ : ∃ L, Hid (fcells (fieldsP bs 2 (oS bs 6 (A4, 0, 0)).2).1 va = L) := ⟨_, rfl⟩
  rw [HFF.out] at HSZ HON HOS ⊢
  have HFV : Hid (∀ k, v.ownBlock = some k → k < fb) := hid (fun k hk => by have := HVO.out k hk; omega)
  clear hoa hf9 hg9 HF8 HR1 HR2 HB8 HFd HKb y4 eV
  go_upto_region 9 with (refine st_row (by rfl) 65 _ _ (by rfl) fb FF (by rfl) (by rfl) 65 _ HFe.out HSZ.out HOS.out HON.out ?_; intro w10 hw10)
  have HF10 := hid (HF9.out.far hw10.grown (by have := HLf0.out; omega) (by have := HLf0.out; have := HLrb.out; omega) (fun k hk => by have := HFV.out k hk; omega))
  have HR1g := hid (gb_keep hw10.grown HR1f.out (by have := HLf0.out; have := HLb.out; omega))
  have HR2g := hid (gb_keep hw10.grown HR2f.out (by have := HLf0.out; have := HLb.out; omega))
  have HKd := hid (gb_keep hw10.grown HKc.out (by have := HLk.out; omega))
  have HB10 := hid (Below.of_gb HB9.out hw10.grown (by have := HLf0.out; have := HLb.out; have := HAA.out; omega))
  have HFf := hid hw10.blk
  have HOA2 := hid (WOwnS.far HOA.out hw10.grown (fun j e => by injection e with e; have := HLk.out; have := HLk8.out; omega))
  have HS10 : Hid (w8.heap.size ≤ w10.heap.size) := hid (by have := hw10.size; have := HS9.out; omega)
  clear hw10 HF9 HR1f HR2f HKc HB9 HFe HOA HOS HS9
  go_wp2_with fail
  refine (fd_end w0.heap.size b rb v bs _ w10 HF10.out).mono ?_
  rintro e w11 ⟨rfl, hg11⟩
  have HR1h := hid (hg11.keep HR1g.out (by have := HLb.out; omega) (by have := HLr.out; omega))
  have HR2h := hid (hg11.keep HR2g.out (by have := HLb.out; omega) (by have := HLr.out; omega))
  have HB11 := hid (hg11.below HB10.out (by have := HLb.out; have := HAA.out; omega) (by have := HLr.out; have := HAA.out; omega))
  have HFg := hid (hg11.keep HFf.out (by have := HLf0.out; omega) (by have := HLf0.out; have := HLrb.out; omega))
  have HKe := hid (hg11.keep HKd.out (by have := HLk.out; have := HLf0.out; omega) (by have := HLk.out; have := HLf0.out; have := HLrb.out; omega))
  have HOA3 := hid (wowns_g2 HOA2.out hg11 HLb8.out HLr8.out)
  have HS11 : Hid (w8.heap.size ≤ w11.heap.size) := hid (by have := hg11.size; have := HS10.out; omega)
  obtain ⟨E1, HE1⟩ : ∃ x, Hid ((eS bs (fieldsP bs 2 (oS bs 6 (A4, 0, 0)).2).2).1 = x) := ⟨_, rfl⟩
  obtain ⟨E2, HE2⟩ : ∃ x, Hid ((eS bs (fieldsP bs 2 (oS bs 6 (A4, 0, 0)).2).2).2 = x) := ⟨_, rfl⟩
  rw [HE1.out, HE2.out]
  clear hg11 HF10 HR1g HR2g HB10 HFf HKd HOA2 HS10
  go_upto_region 10 with fail
  have HWT := hid (below_walk w11 (.cells #[.int .i64 E1, .int .i64 E2] 30))
  have HR1i := hid (bel_keep HWT.out HR1h.out)
  have HR2i := hid (bel_keep HWT.out HR2h.out)
  have HB12 := hid (below_then HB11.out HWT.out)
  have HFh := hid (bel_keep HWT.out HFg.out)
  have HKf := hid (bel_keep HWT.out HKe.out)
  have HOA4 := hid (HOA3.out.alloc (.cells #[.int .i64 E1, .int .i64 E2] 30))
  have HTB0 := hid (hp_new w11 (.cells #[.int .i64 E1, .int .i64 E2] 30))
  have HLt0 : Hid (kb < w11.heap.size) := hid (hp_lt HKe.out)
  obtain ⟨tb, HTBe⟩ : ∃ b, Hid (w11.heap.size = b) := ⟨_, rfl⟩
  rw [HTBe.out] at HTB0 HLt0 ⊢
  generalize w11.alloc (.cells #[.int .i64 E1, .int .i64 E2] 30) = w12 at HR1i HR2i HB12 HFh HKf HOA4 HTB0 ⊢
  have HLt : Hid (A + 2 ≤ tb) := hid (by have := HLt0.out; have := HLk.out; have := HLf0.out; have := HLb.out; omega)
  have HL8t : Hid (w8.heap.size ≤ tb) := hid (by have := HS11.out; have := HTBe.out; omega)
  clear HR1h HR2h HB11 HFg HKe HOA3 HWT HTBe HS11
  have t0 : w12.cell? ⟨tb, 0, none⟩ = some (.int .i64 E1) := by simp [World.cell?, HTB0.out]
  have t1 : w12.cell? ⟨tb, 1, none⟩ = some (.int .i64 E2) := by simp [World.cell?, HTB0.out]
  have f0 := row_fz HTB0.out 0
  have f1 := row_fz HTB0.out 1
  by_cases hE : E1 = 0
  · obtain ⟨M, HM⟩ : ∃ M, Hid (mayF (fieldsP bs 2 (oS bs 6 (A4, 0, 0)).2).1 = M) := ⟨_, rfl⟩
    have HST := hid (wowns_strs HOA4.out)
    have HMN : Hid ((fieldsP bs 2 (oS bs 6 (A4, 0, 0)).2).1.args.length ≤ 9223372036854775807) := hid (wowns_len HOA4.out)
    have HMAY := hid (show Calls Tryz.prog 107 #[.agg FF.toArray] w12 fun e w' => e = .returned (.bool M) ∧ Below w12.heap.size w12 w' by
      rw [← HM.out, mayF_2 _ (fieldsP_kind bs 2 (oS bs 6 (A4, 0, 0)).2 (by omega)), ← HFF.out]
      exact mayRequest_any (fieldsP bs 2 (oS bs 6 (A4, 0, 0)).2).1 va w12 HTL.out HST.out HMN.out)
    subst hE
    have y2 : w12.cell? ⟨kb, 2, none⟩ = some (.func (.func 107) #[] #[]) := by rw [cell_of_row w12 kb 2 _ _ _ HKf.out]; rfl
    have HRG := hid (range_row HFh.out)
    clear HST HMN
    go_wp2_with (refine ld_gd (by rfl) 65 (.tmp 6) (by rfl) fb 0 (by rfl) FF _ HRG.out Tryz.underlying65 rfl HSZ.out ?_)
    refine HMAY.out.mono ?_
    rintro e w13 ⟨rfl, hb13⟩
    have HR1z := hid (bel_keep hb13 HR1i.out)
    have HR2z := hid (bel_keep hb13 HR2i.out)
    have HBz := hid (below_then HB12.out hb13)
    have HFz := hid (bel_keep hb13 HFh.out)
    have HTBz := hid (bel_keep hb13 HTB0.out)
    have HOAz := hid (WOwnS.far HOA4.out (below_gb hb13 none) (fun j e => by cases e))
    clear hb13 HR1i HR2i HB12 HFh HTB0 HKf HOA4 HMAY HRG y2 t0 t1 f0 f1
    have t0 : w13.cell? ⟨tb, 0, none⟩ = some (.int .i64 0) := by simp [World.cell?, HTBz.out]
    have t1 : w13.cell? ⟨tb, 1, none⟩ = some (.int .i64 E2) := by simp [World.cell?, HTBz.out]
    have f0 := row_fz HTBz.out 0
    have f1 := row_fz HTBz.out 1
    cases M with
    | true =>
      as_aux_lemma =>
        have HFP := hid (frameP_ok bs A4 2 HK.out (by omega) HE1.out HM.out)
        go_wp2_with (first
          | (refine ld_row (by rfl) 65 (.tmp 6) (by rfl) fb (by rfl) FF 65 HFz.out _ Tryz.underlying65 rfl HSZ.out ?_)
          | (refine bd_row (by rfl) 30 #[] (by rfl) _ (by simp [Act.eval]) _ built_fz ?_)
          | (refine st_row (by rfl) 65 _ _ (by rfl) A FF (by rfl) (by rfl) 65 _ HR1z.out HSZ.out (by rw [← HFF.out, fcells_length _ _ HTL.out]; rfl) HON.out ?_; intro w14 hw14)
          | (refine st_row (by rfl) 30 _ _ (by rfl) (A + 1) [Value.int .i64 0, .int .i64 0] (by rfl) (by rfl) 30 _ (gb_keep hw14.grown HR2z.out (by omega)) faultSize rfl (fault_one _ _) ?_; intro w15 hw15))
        refine ret_cc 2 3 65 30 rfl A rfl (A + 1) rfl FF 65 (gb_keep hw15.grown hw14.blk (by omega)) _ Tryz.underlying65 rfl HSZ.out _ 30 hw15.blk _ Tryz.underlying30 rfl faultSize rfl ?_
        rw [HFP.out]
        refine ⟨va, by rw [← HFF.out]; rfl, ?_, Below.of_gb (Below.of_gb HBz.out hw14.grown (by have := HAA.out; omega)) hw15.grown (by have := HAA.out; omega)⟩
        exact (WOwnS.far (WOwnS.far HOAz.out hw14.grown (fun j e => by injection e with e; have := HLk8.out; have := HLk.out; have := HLf0.out; have := HLb.out; omega)) hw15.grown (fun j e => by injection e with e; have := HLk8.out; have := HLk.out; have := HLf0.out; have := HLb.out; omega)).le (by have := HLk8.out; have := HLk.out; have := HLf0.out; have := HLb.out; have := HAA.out; omega)
    | false =>
      as_aux_lemma =>
        have HFP := hid (frameP_may bs A4 2 HK.out (by omega) HE1.out HM.out)
        go_upto_region 12 with (first
          | (refine bd_row (by rfl) 30 #[(0, .const (.int .i64 70)), (1, .tmp 55)] (by rfl) _ (by simp [Act.eval]) _ (built_ft 70 (A4 : Int)) ?_)
          | (refine st_row (by rfl) 30 _ _ (by rfl) tb [Value.int .i64 70, .int .i64 (A4 : Int)] (by rfl) (by rfl) 30 _ HTBz.out faultSize rfl (fault_one _ _) ?_; intro w14 hw14))
        have HTB := hid hw14.blk
        have HR1y := hid (gb_keep hw14.grown HR1z.out (by have := HLt.out; omega))
        have HR2y := hid (gb_keep hw14.grown HR2z.out (by have := HLt.out; omega))
        have HBy := hid (Below.of_gb HBz.out hw14.grown (by have := HLt.out; have := HAA.out; omega))
        clear hw14 HR1z HR2z HBz t0 t1 f0 f1
        have HR1z := hid HR1y.out
        have HR2z := hid HR2y.out
        have HBz := hid HBy.out
        have t0 : w14.cell? ⟨tb, 0, none⟩ = some (.int .i64 70) := by simp [World.cell?, HTB.out]
        go_upto_region 13 with fail
        have HTBc := hid HTB.out
        refine wp_noPanic (wp_region_held_drew (S := fun W => W.heap[tb]? = some (.cells [Value.int .i64 70, .int .i64 (A4 : Int)].toArray 30 (0, 0))) (by kernel_rfl) HTBc.out ?_)
        intro hHeld
        refine wpAnyH_take (i := 0) (v := .agg (fcells zF nS).toArray) rfl (by kernel_rfl) (by kernel_rfl) (by kernel_rfl) (fun _ _ _ h => h) (yields_build (by rfl) 65 #[] (by rfl) _ (by simp [Act.eval]) _ built_zf) hHeld ?_
        simp only [Act.put, List.getElem_toArray, List.getElem_cons_zero, List.setIfInBounds_toArray, List.set_cons_succ, List.set_cons_zero]
        refine wpAnyH_take (i := 1) (v := .agg [Value.int .i64 70, .int .i64 (A4 : Int)].toArray) rfl (by kernel_rfl) (by kernel_rfl) (by kernel_rfl) (fun _ _ _ h => h) (yieldsIf_load_mid (by rfl) 30 (.tmp 9) rfl tb 0 rfl [Value.int .i64 70, .int .i64 (A4 : Int)] _ (fun W hW => range_row hW) Tryz.underlying30 rfl faultSize) hHeld ?_
        simp only [Act.put, List.getElem_toArray, List.getElem_cons_zero, List.getElem_cons_succ, List.setIfInBounds_toArray, List.set_cons_succ, List.set_cons_zero]
        obtain ⟨wx, HWX⟩ : ∃ x, Hid (w14.drew = x) := ⟨_, rfl⟩
        have HR1x := hid (show w14.drew.heap[A]? = _ from HR1z.out)
        have HR2x := hid (show w14.drew.heap[A + 1]? = _ from HR2z.out)
        have HTBx := hid (show w14.drew.heap[tb]? = some (.cells [Value.int .i64 70, .int .i64 (A4 : Int)].toArray 30 (0, 0)) from HTB.out)
        have HBx := hid (show Below w.heap.size w w14.drew from below_tr HBz.out ⟨rfl, rfl, rfl, Nat.le_refl _, fun _ _ => rfl⟩)
        rw [HWX.out] at hHeld HR1x HR2x HTBx HBx ⊢
        refine wpAnyH_ready (rs := [2]) (by kernel_rfl) (by simp) ?_
        refine AllReadyH.cons rfl (fun K9 hK9 => ?_) AllReadyH.nil
        refine step_store_row (by rfl) 65 _ _ (by rfl) A (fcells zF nS) (by rfl) (by rfl) 65 _ HR1x.out (frame_size zF nS rfl) rfl (fcells_one zF nS rfl) ?_
        intro wy hwy
        refine hK9.out _ _ (gb_keep hwy.grown HTBx.out (by have := HLt.out; omega)) (fun hHeld => ?_)
        clear hK9 K9
        try simp only [Act.put, List.getElem_toArray, List.getElem_cons_zero, List.getElem_cons_succ]
        refine wpAnyH_ready (rs := [3]) (by kernel_rfl) (by simp) ?_
        refine AllReadyH.cons rfl (fun K9 hK9 => ?_) AllReadyH.nil
        refine step_store_row (by rfl) 30 _ _ (by rfl) (A + 1) [Value.int .i64 70, .int .i64 (A4 : Int)] (by rfl) (by rfl) 30 _ (gb_keep hwy.grown HR2x.out (by omega)) faultSize rfl (fault_one _ _) ?_
        intro wz hwz
        refine hK9.out _ _ (gb_keep hwz.grown (gb_keep hwy.grown HTBx.out (by have := HLt.out; omega)) (by have := HLt.out; omega)) (fun hHeld => ?_)
        clear hK9 K9
        try simp only [Act.put, List.getElem_toArray, List.getElem_cons_zero, List.getElem_cons_succ]
        refine wpAnyH_done (by kernel_rfl) ?_ _
        simp only [noPanic]
        clear hHeld
        go_wp2
        refine ret_cc 2 3 65 30 rfl A rfl (A + 1) rfl (fcells zF nS) 65 (gb_keep hwz.grown hwy.blk (by omega)) _ Tryz.underlying65 rfl (frame_size zF nS rfl) _ 30 hwz.blk _ Tryz.underlying30 rfl faultSize rfl ?_
        rw [HFP.out]
        refine ⟨nS, rfl, World.ownsRow_nil _ _ _ _, ?_⟩
        exact Below.of_gb (Below.of_gb HBx.out hwy.grown (by have := HAA.out; omega)) hwz.grown (by have := HAA.out; omega)

  · as_aux_lemma =>
      have q1 : (E1 == 0) = false := by simpa using hE
      have q2 : (E1 != 0) = true := by simpa using hE
      have HFP := hid (show frameP bs A4 = (zF, E1, E2) by
        rw [frameP_bad bs A4 2 HK.out (by omega) (show (eS bs (fieldsP bs 2 (oS bs 6 (A4, 0, 0)).2).2).1 ≠ 0 by rw [HE1.out]; exact hE), ← HE1.out, ← HE2.out]; rfl)
      have HR1z := hid HR1i.out
      have HR2z := hid HR2i.out
      have HBz := hid HB12.out
      have HTB := hid (show w12.heap[tb]? = some (.cells [Value.int .i64 E1, .int .i64 E2].toArray 30 (0, 0)) from HTB0.out)
      clear hE
      go_upto_region 13 with fail
      have HTBc := hid HTB.out
      refine wp_noPanic (wp_region_held_drew (S := fun W => W.heap[tb]? = some (.cells [Value.int .i64 E1, .int .i64 E2].toArray 30 (0, 0))) (by kernel_rfl) HTBc.out ?_)
      intro hHeld
      refine wpAnyH_take (i := 0) (v := .agg (fcells zF nS).toArray) rfl (by kernel_rfl) (by kernel_rfl) (by kernel_rfl) (fun _ _ _ h => h) (yields_build (by rfl) 65 #[] (by rfl) _ (by simp [Act.eval]) _ built_zf) hHeld ?_
      simp only [Act.put, List.getElem_toArray, List.getElem_cons_zero, List.setIfInBounds_toArray, List.set_cons_succ, List.set_cons_zero]
      refine wpAnyH_take (i := 1) (v := .agg [Value.int .i64 E1, .int .i64 E2].toArray) rfl (by kernel_rfl) (by kernel_rfl) (by kernel_rfl) (fun _ _ _ h => h) (yieldsIf_load_mid (by rfl) 30 (.tmp 9) rfl tb 0 rfl [Value.int .i64 E1, .int .i64 E2] _ (fun W hW => range_row hW) Tryz.underlying30 rfl faultSize) hHeld ?_
      simp only [Act.put, List.getElem_toArray, List.getElem_cons_zero, List.getElem_cons_succ, List.setIfInBounds_toArray, List.set_cons_succ, List.set_cons_zero]
      obtain ⟨wx, HWX⟩ : ∃ x, Hid (w12.drew = x) := ⟨_, rfl⟩
      have HR1x := hid (show w12.drew.heap[A]? = _ from HR1z.out)
      have HR2x := hid (show w12.drew.heap[A + 1]? = _ from HR2z.out)
      have HTBx := hid (show w12.drew.heap[tb]? = some (.cells [Value.int .i64 E1, .int .i64 E2].toArray 30 (0, 0)) from HTB.out)
      have HBx := hid (show Below w.heap.size w w12.drew from below_tr HBz.out ⟨rfl, rfl, rfl, Nat.le_refl _, fun _ _ => rfl⟩)
      rw [HWX.out] at hHeld HR1x HR2x HTBx HBx ⊢
      refine wpAnyH_ready (rs := [2]) (by kernel_rfl) (by simp) ?_
      refine AllReadyH.cons rfl (fun K9 hK9 => ?_) AllReadyH.nil
      refine step_store_row (by rfl) 65 _ _ (by rfl) A (fcells zF nS) (by rfl) (by rfl) 65 _ HR1x.out (frame_size zF nS rfl) rfl (fcells_one zF nS rfl) ?_
      intro wy hwy
      refine hK9.out _ _ (gb_keep hwy.grown HTBx.out (by have := HLt.out; omega)) (fun hHeld => ?_)
      clear hK9 K9
      try simp only [Act.put, List.getElem_toArray, List.getElem_cons_zero, List.getElem_cons_succ]
      refine wpAnyH_ready (rs := [3]) (by kernel_rfl) (by simp) ?_
      refine AllReadyH.cons rfl (fun K9 hK9 => ?_) AllReadyH.nil
      refine step_store_row (by rfl) 30 _ _ (by rfl) (A + 1) [Value.int .i64 E1, .int .i64 E2] (by rfl) (by rfl) 30 _ (gb_keep hwy.grown HR2x.out (by omega)) faultSize rfl (fault_one _ _) ?_
      intro wz hwz
      refine hK9.out _ _ (gb_keep hwz.grown (gb_keep hwy.grown HTBx.out (by have := HLt.out; omega)) (by have := HLt.out; omega)) (fun hHeld => ?_)
      clear hK9 K9
      try simp only [Act.put, List.getElem_toArray, List.getElem_cons_zero, List.getElem_cons_succ]
      refine wpAnyH_done (by kernel_rfl) ?_ _
      simp only [noPanic]
      clear hHeld
      go_wp2
      refine ret_cc 2 3 65 30 rfl A rfl (A + 1) rfl (fcells zF nS) 65 (gb_keep hwz.grown hwy.blk (by omega)) _ Tryz.underlying65 rfl (frame_size zF nS rfl) _ 30 hwz.blk _ Tryz.underlying30 rfl faultSize rfl ?_
      rw [HFP.out]
      refine ⟨nS, rfl, World.ownsRow_nil _ _ _ _, ?_⟩
      exact Below.of_gb (Below.of_gb HBx.out hwy.grown (by have := HAA.out; omega)) hwz.grown (by have := HAA.out; omega)

end Go.Proofs.YtiibhccbbpgehabGreat

/- readFrame, where the kind that is read is 3. -/
namespace Go.Proofs.YtiibhccbbpgehabGreat
open Go.RowKit Go.BigFrame

set_option maxRecDepth 100000 in
set_option maxHeartbeats 8000000 in
theorem readFrame_3 (v0 : Value) (bs : List UInt8) (head N : Nat) (w : World) (hs : Src w v0 bs) (hbl : bs.length ≤ 1099511627776) (hu : uS bs (0, 0, 0) = (N, head, 0, 0)) (hK : (oS bs 6 (head, 0, 0)).1 = 3) :
    Calls Tryz.prog 79 #[v0] w fun e w' => ∃ va, e = .returned (.tuple #[.agg (fcells (frameP bs head).1 va).toArray, .agg #[.int .i64 (frameP bs head).2.1, .int .i64 (frameP bs head).2.2]]) ∧ WOwnS w' w.heap.size va (frameP bs head).1.args ∧ Below w.heap.size w w' := by
  obtain ⟨va0, c0, rfl⟩ := src_shape hs
  obtain ⟨L0, HL0⟩ : ∃ n, Hid (bs.length = n) := ⟨_, rfl⟩
  obtain ⟨A, HAA⟩ : ∃ n, Hid (w.heap.size = n) := ⟨_, rfl⟩
  have HB0 := hid (below_walk2 w (.cells (fcells zF nS).toArray 65) (.cells #[.int .i64 0, .int .i64 0] 30))
  have HNB := hid (hp_two w (.cells (fcells zF nS).toArray 65) (.cells #[.int .i64 0, .int .i64 0] 30))
  have HZ : Hid ((w.alloc (.cells (fcells zF nS).toArray 65)).heap.size = w.heap.size + 1) := hid (by simp)
  have HZ2 : Hid (((w.alloc (.cells (fcells zF nS).toArray 65)).alloc (.cells #[.int .i64 0, .int .i64 0] 30)).heap.size = w.heap.size + 2) := hid (by simp)
  have HNR := hid (newReader_any _ bs _ (hs.below HB0.out))
  have HU := hid hu
  have HK := hid hK
  have HBL := hid hbl
  clear hs hbl hu hK
  go_enter Tryz.func79, Tryz.ntmps79
  go_upto_region 1 with (refine al_row (by rfl) 65 (by rfl) _ zeroFrame ?_)
  try rw [HZ.out]
  generalize (w.alloc (.cells (fcells zF nS).toArray 65)).alloc (.cells #[.int .i64 0, .int .i64 0] 30) = w0 at HB0 HNB HZ2 HNR ⊢
  rw [HAA.out] at HNB HZ2 ⊢
  have HR1 := hid HNB.out.1
  have HR2 := hid HNB.out.2
  clear HNB HZ
  go_wp2_with fail
  refine HNR.out.mono ?_
  rintro e w1 ⟨rb, v, rfl, hr1, hb1⟩
  obtain ⟨b, HBb⟩ : ∃ b, Hid (w1.heap.size = b) := ⟨_, rfl⟩
  have HLb : Hid (A + 2 ≤ b) := hid (by have := hb1.size; have := HZ2.out; have := HBb.out; omega)
  have HLr : Hid (A + 2 ≤ rb) := hid (by have := hr1.lo; have := HZ2.out; omega)
  have HLrb : Hid (rb < b) := hid (by have := hr1.lt; have := HBb.out; omega)
  have HAW := hid (below_walk w1 (.cells #[.pointer (some ⟨rb, 0, none⟩), .int .i64 0, .int .i64 0] 148))
  have HFD := hid (show Fd (w1.alloc (.cells #[.pointer (some ⟨rb, 0, none⟩), .int .i64 0, .int .i64 0] 148)) w0.heap.size b rb v bs (0, 0, 0) from ⟨0, 0, 0, 0, 0, hr1.below HAW.out, HBb.out ▸ hp_new w1 _, by have := HLrb.out; omega, fun e => by have := (hr1.own.lt _ e).2; have := HBb.out; omega, by have := hb1.size; have := HBb.out; omega, Or.inl ⟨rfl, rfl⟩⟩)
  have HR1a := hid (bel_keep HAW.out (bel_keep hb1 HR1.out))
  have HR2a := hid (bel_keep HAW.out (bel_keep hb1 HR2.out))
  have HB1 := hid (below_then (below_then HB0.out hb1) HAW.out)
  clear hr1 hb1 HR1 HR2 HB0 HNR HAW
  go_upto_region 2 with fail
  rw [HBb.out]
  generalize w1.alloc (.cells #[.pointer (some ⟨rb, 0, none⟩), .int .i64 0, .int .i64 0] 148) = w2 at HFD HR1a HR2a HB1 ⊢
  have p2 := HFD.out.ptr
  go_wp2_with fail
  refine (fd_uint HFD.out).mono ?_
  rintro e w3 ⟨rfl, hf3, hg3⟩
  rw [HU.out] at hf3
  have HF3 := hid (show Fd w3 w0.heap.size b rb v bs (head, 0, 0) from hf3)
  have HR1b := hid (gb_keep hg3 HR1a.out (by have := HLr.out; omega))
  have HR2b := hid (gb_keep hg3 HR2a.out (by have := HLr.out; omega))
  have HB3 := hid (Below.of_gb HB1.out hg3 (by have := HLr.out; have := HAA.out; omega))
  clear hf3 hg3 p2 HFD HR1a HR2a HB1
  have p3 := HF3.out.ptr
  go_wp2_with fail
  refine (fd_at HF3.out).mono ?_
  rintro e w4 ⟨A4, rfl, hw4, hA4⟩
  have hw4 := hw4.symm
  subst hw4
  obtain rfl : A4 = head := hA4 rfl
  clear hA4 p3
  go_wp2_with fail
  refine (fd_some w0.heap.size b rb v bs (A4, 0, 0) 6 w3 (by omega) HF3.out).mono ?_
  rintro e w5 ⟨rfl, hf5, hg5⟩
  rw [show ((oS bs 6 (A4, 0, 0)).1 : Int) = 3 by rw [HK.out]; rfl]
  have HF5 := hid hf5
  have HR1c := hid (hg5.keep HR1b.out (by have := HLb.out; omega) (by have := HLr.out; omega))
  have HR2c := hid (hg5.keep HR2b.out (by have := HLb.out; omega) (by have := HLr.out; omega))
  have HB5 := hid (hg5.below HB3.out (by have := HLb.out; have := HAA.out; omega) (by have := HLr.out; have := HAA.out; omega))
  clear hf5 hg5 HF3 HR1b HR2b HB3
  go_upto_region 5 with (first
    | (refine bd_row (by rfl) 65 #[(0, .tmp 25)] (by rfl) _ (by simp [Act.eval]) _ built_k3 ?_)
    | (refine al_row (by rfl) 65 (by rfl) _ zeroFrame ?_)
    | (refine st_new (by rfl) 65 _ _ (by rfl) (fcells (kF 3) nS) (by rfl) (by rfl) 65 _ (frame_size (kF 3) nS rfl) rfl (fcells_one (kF 3) nS rfl) ?_))
  have HW5 := hid (below_walk w5 (.cells (fcells (kF 3) nS).toArray 65))
  have HF6 := hid (HF5.out.below HW5.out)
  have HR1d := hid (bel_keep HW5.out HR1c.out)
  have HR2d := hid (bel_keep HW5.out HR2c.out)
  have HB6 := hid (below_then HB5.out HW5.out)
  have HFb := hid (hp_new w5 (.cells (fcells (kF 3) nS).toArray 65))
  have HLf0 : Hid (b < w5.heap.size) := hid HF5.out.lt.1
  have HVO0 := hid HF5.out.own
  obtain ⟨fb, HFBe⟩ : ∃ b, Hid (w5.heap.size = b) := ⟨_, rfl⟩
  rw [HFBe.out] at HFb HLf0 HVO0 ⊢
  have HVO : Hid (∀ k, v.ownBlock = some k → k < fb) := hid HVO0.out
  generalize w5.alloc (.cells (fcells (kF 3) nS).toArray 65) = w6 at HF6 HR1d HR2d HB6 HFb ⊢
  clear HF5 HR1c HR2c HB5 HW5
  have x0 : w6.cell? ⟨fb, 0, none⟩ = some (.int .i64 3) := (Fb.of HFb.out rfl).k
  go_wp2_with fail
  refine (kindOf_3 w6).mono ?_
  rintro e w7 ⟨rfl, hb7⟩
  have HF7 := hid (HF6.out.below hb7)
  have HR1e := hid (bel_keep hb7 HR1d.out)
  have HR2e := hid (bel_keep hb7 HR2d.out)
  have HB7 := hid (below_then HB6.out hb7)
  have HFc := hid (bel_keep hb7 HFb.out)
  clear hb7 HF6 HR1d HR2d HB6 HFb x0
  go_upto_region 6 with (first
    | (refine al_row (by rfl) 153 (by rfl) _ zeroKind ?_)
    | (refine st_new (by rfl) 153 _ _ (by rfl) k3 (by rfl) (by rfl) 153 _ kindSize rfl (kOf_one 3) ?_))
  have HW7 := hid (below_walk w7 (.cells (k3).toArray 153))
  have HF8 := hid (HF7.out.below HW7.out)
  have HR1 := hid (bel_keep HW7.out HR1e.out)
  have HR2 := hid (bel_keep HW7.out HR2e.out)
  have HB8 := hid (below_then HB7.out HW7.out)
  have HFd := hid (bel_keep HW7.out HFc.out)
  have HKb := hid (hp_new w7 (.cells (k3).toArray 153))
  have HLk : Hid (fb < w7.heap.size) := hid (hp_lt HFc.out)
  obtain ⟨kb, HKBe⟩ : ∃ b, Hid (w7.heap.size = b) := ⟨_, rfl⟩
  rw [HKBe.out] at HKb HLk ⊢
  generalize w7.alloc (.cells (k3).toArray 153) = w8 at HF8 HR1 HR2 HB8 HFd HKb ⊢
  clear HF7 HR1e HR2e HB7 HFc HW7 HZ2 HFBe HKBe
  have y4 : w8.cell? ⟨kb, 4, none⟩ = some (.func (.func 113) #[] #[]) := by rw [cell_of_row w8 kb 4 _ _ _ HKb.out]; rfl
  go_wp2_with (refine ld_row (by rfl) 65 (.tmp 6) (by rfl) fb (by rfl) (fcells (kF 3) nS) 65 HFd.out _ Tryz.underlying65 rfl (frame_size (kF 3) nS rfl) ?_)
  refine (readResponse_any w0.heap.size b rb v bs (oS bs 6 (A4, 0, 0)).2 w8 HBL.out HF8.out).mono ?_
  rintro e w9 ⟨va, rfl, hoa, hf9, hg9⟩
  have HLb8 : Hid (b < w8.heap.size) := hid HF8.out.lt.1
  have HLr8 : Hid (rb < w8.heap.size) := hid HF8.out.lt.2.1
  have HLk8 : Hid (kb < w8.heap.size) := hid (hp_lt HKb.out)
  have HS9 : Hid (w8.heap.size ≤ w9.heap.size) := hid hg9.size
  have HOA := hid hoa
  have HF9 := hid hf9
  have HR1f := hid (hg9.keep HR1.out (by have := HLb.out; omega) (by have := HLr.out; omega))
  have HR2f := hid (hg9.keep HR2.out (by have := HLb.out; omega) (by have := HLr.out; omega))
  have HB9 := hid (hg9.below HB8.out (by have := HLb.out; have := HAA.out; omega) (by have := HLr.out; have := HAA.out; omega))
  have HFe := hid (hg9.keep HFd.out (by have := HLf0.out; omega) (by have := HLf0.out; have := HLrb.out; omega))
  have HKc := hid (hg9.keep HKb.out (by have := HLk.out; have := HLf0.out; omega) (by have := HLk.out; have := HLf0.out; have := HLrb.out; omega))
  have HTL := hid (show (fieldsP bs 3 (oS bs 6 (A4, 0, 0)).2).1.tool.length = 32 from fieldsP_tool bs 3 (oS bs 6 (A4, 0, 0)).2)
  obtain ⟨aV, cV, eV⟩ := wowns_shape hoa
  have HSZ := hid (frame_size (fieldsP bs 3 (oS bs 6 (A4, 0, 0)).2).1 va HTL.out)
  have HON := hid (fcells_one (fieldsP bs 3 (oS bs 6 (A4, 0, 0)).2).1 va (by rw [eV]; rfl))
  have HOS := hid (show (fcells (kF 3) nS).toArray.size = (fcells (fieldsP bs 3 (oS bs 6 (A4, 0, 0)).2).1 va).length by rw [fcells_length _ _ HTL.out]; rfl)
  obtain ⟨FF, HFF⟩ : ∃ L, Hid (fcells (fieldsP bs 3 (oS bs 6 (A4, 0, 0)).2).1 va = L) := ⟨_, rfl⟩
  rw [HFF.out] at HSZ HON HOS ⊢
  have HFV : Hid (∀ k, v.ownBlock = some k → k < fb) := hid (fun k hk => by have := HVO.out k hk; omega)
  clear hoa hf9 hg9 HF8 HR1 HR2 HB8 HFd HKb y4 eV
  go_upto_region 9 with (refine st_row (by rfl) 65 _ _ (by rfl) fb FF (by rfl) (by rfl) 65 _ HFe.out HSZ.out HOS.out HON.out ?_; intro w10 hw10)
  have HF10 := hid (HF9.out.far hw10.grown (by have := HLf0.out; omega) (by have := HLf0.out; have := HLrb.out; omega) (fun k hk => by have := HFV.out k hk; omega))
  have HR1g := hid (gb_keep hw10.grown HR1f.out (by have := HLf0.out; have := HLb.out; omega))
  have HR2g := hid (gb_keep hw10.grown HR2f.out (by have := HLf0.out; have := HLb.out; omega))
  have HKd := hid (gb_keep hw10.grown HKc.out (by have := HLk.out; omega))
  have HB10 := hid (Below.of_gb HB9.out hw10.grown (by have := HLf0.out; have := HLb.out; have := HAA.out; omega))
  have HFf := hid hw10.blk
  have HOA2 := hid (WOwnS.far HOA.out hw10.grown (fun j e => by injection e with e; have := HLk.out; have := HLk8.out; omega))
  have HS10 : Hid (w8.heap.size ≤ w10.heap.size) := hid (by have := hw10.size; have := HS9.out; omega)
  clear hw10 HF9 HR1f HR2f HKc HB9 HFe HOA HOS HS9
  go_wp2_with fail
  refine (fd_end w0.heap.size b rb v bs _ w10 HF10.out).mono ?_
  rintro e w11 ⟨rfl, hg11⟩
  have HR1h := hid (hg11.keep HR1g.out (by have := HLb.out; omega) (by have := HLr.out; omega))
  have HR2h := hid (hg11.keep HR2g.out (by have := HLb.out; omega) (by have := HLr.out; omega))
  have HB11 := hid (hg11.below HB10.out (by have := HLb.out; have := HAA.out; omega) (by have := HLr.out; have := HAA.out; omega))
  have HFg := hid (hg11.keep HFf.out (by have := HLf0.out; omega) (by have := HLf0.out; have := HLrb.out; omega))
  have HKe := hid (hg11.keep HKd.out (by have := HLk.out; have := HLf0.out; omega) (by have := HLk.out; have := HLf0.out; have := HLrb.out; omega))
  have HOA3 := hid (wowns_g2 HOA2.out hg11 HLb8.out HLr8.out)
  have HS11 : Hid (w8.heap.size ≤ w11.heap.size) := hid (by have := hg11.size; have := HS10.out; omega)
  obtain ⟨E1, HE1⟩ : ∃ x, Hid ((eS bs (fieldsP bs 3 (oS bs 6 (A4, 0, 0)).2).2).1 = x) := ⟨_, rfl⟩
  obtain ⟨E2, HE2⟩ : ∃ x, Hid ((eS bs (fieldsP bs 3 (oS bs 6 (A4, 0, 0)).2).2).2 = x) := ⟨_, rfl⟩
  rw [HE1.out, HE2.out]
  clear hg11 HF10 HR1g HR2g HB10 HFf HKd HOA2 HS10
  go_upto_region 10 with fail
  have HWT := hid (below_walk w11 (.cells #[.int .i64 E1, .int .i64 E2] 30))
  have HR1i := hid (bel_keep HWT.out HR1h.out)
  have HR2i := hid (bel_keep HWT.out HR2h.out)
  have HB12 := hid (below_then HB11.out HWT.out)
  have HFh := hid (bel_keep HWT.out HFg.out)
  have HKf := hid (bel_keep HWT.out HKe.out)
  have HOA4 := hid (HOA3.out.alloc (.cells #[.int .i64 E1, .int .i64 E2] 30))
  have HTB0 := hid (hp_new w11 (.cells #[.int .i64 E1, .int .i64 E2] 30))
  have HLt0 : Hid (kb < w11.heap.size) := hid (hp_lt HKe.out)
  obtain ⟨tb, HTBe⟩ : ∃ b, Hid (w11.heap.size = b) := ⟨_, rfl⟩
  rw [HTBe.out] at HTB0 HLt0 ⊢
  generalize w11.alloc (.cells #[.int .i64 E1, .int .i64 E2] 30) = w12 at HR1i HR2i HB12 HFh HKf HOA4 HTB0 ⊢
  have HLt : Hid (A + 2 ≤ tb) := hid (by have := HLt0.out; have := HLk.out; have := HLf0.out; have := HLb.out; omega)
  have HL8t : Hid (w8.heap.size ≤ tb) := hid (by have := HS11.out; have := HTBe.out; omega)
  clear HR1h HR2h HB11 HFg HKe HOA3 HWT HTBe HS11
  have t0 : w12.cell? ⟨tb, 0, none⟩ = some (.int .i64 E1) := by simp [World.cell?, HTB0.out]
  have t1 : w12.cell? ⟨tb, 1, none⟩ = some (.int .i64 E2) := by simp [World.cell?, HTB0.out]
  have f0 := row_fz HTB0.out 0
  have f1 := row_fz HTB0.out 1
  by_cases hE : E1 = 0
  · obtain ⟨M, HM⟩ : ∃ M, Hid (mayF (fieldsP bs 3 (oS bs 6 (A4, 0, 0)).2).1 = M) := ⟨_, rfl⟩
    have HST := hid (wowns_strs HOA4.out)
    have HMN : Hid ((fieldsP bs 3 (oS bs 6 (A4, 0, 0)).2).1.args.length ≤ 9223372036854775807) := hid (wowns_len HOA4.out)
    have HMAY := hid (show Calls Tryz.prog 111 #[.agg FF.toArray] w12 fun e w' => e = .returned (.bool M) ∧ Below w12.heap.size w12 w' by
      rw [← HM.out, mayF_3 _ (fieldsP_kind bs 3 (oS bs 6 (A4, 0, 0)).2 (by omega)), ← HFF.out]
      exact mayResponse_any (fieldsP bs 3 (oS bs 6 (A4, 0, 0)).2).1 va w12 HTL.out)
    subst hE
    have y2 : w12.cell? ⟨kb, 2, none⟩ = some (.func (.func 111) #[] #[]) := by rw [cell_of_row w12 kb 2 _ _ _ HKf.out]; rfl
    have HRG := hid (range_row HFh.out)
    clear HST HMN
    go_wp2_with (refine ld_gd (by rfl) 65 (.tmp 6) (by rfl) fb 0 (by rfl) FF _ HRG.out Tryz.underlying65 rfl HSZ.out ?_)
    refine HMAY.out.mono ?_
    rintro e w13 ⟨rfl, hb13⟩
    have HR1z := hid (bel_keep hb13 HR1i.out)
    have HR2z := hid (bel_keep hb13 HR2i.out)
    have HBz := hid (below_then HB12.out hb13)
    have HFz := hid (bel_keep hb13 HFh.out)
    have HTBz := hid (bel_keep hb13 HTB0.out)
    have HOAz := hid (WOwnS.far HOA4.out (below_gb hb13 none) (fun j e => by cases e))
    clear hb13 HR1i HR2i HB12 HFh HTB0 HKf HOA4 HMAY HRG y2 t0 t1 f0 f1
    have t0 : w13.cell? ⟨tb, 0, none⟩ = some (.int .i64 0) := by simp [World.cell?, HTBz.out]
    have t1 : w13.cell? ⟨tb, 1, none⟩ = some (.int .i64 E2) := by simp [World.cell?, HTBz.out]
    have f0 := row_fz HTBz.out 0
    have f1 := row_fz HTBz.out 1
    cases M with
    | true =>
      as_aux_lemma =>
        have HFP := hid (frameP_ok bs A4 3 HK.out (by omega) HE1.out HM.out)
        go_wp2_with (first
          | (refine ld_row (by rfl) 65 (.tmp 6) (by rfl) fb (by rfl) FF 65 HFz.out _ Tryz.underlying65 rfl HSZ.out ?_)
          | (refine bd_row (by rfl) 30 #[] (by rfl) _ (by simp [Act.eval]) _ built_fz ?_)
          | (refine st_row (by rfl) 65 _ _ (by rfl) A FF (by rfl) (by rfl) 65 _ HR1z.out HSZ.out (by rw [← HFF.out, fcells_length _ _ HTL.out]; rfl) HON.out ?_; intro w14 hw14)
          | (refine st_row (by rfl) 30 _ _ (by rfl) (A + 1) [Value.int .i64 0, .int .i64 0] (by rfl) (by rfl) 30 _ (gb_keep hw14.grown HR2z.out (by omega)) faultSize rfl (fault_one _ _) ?_; intro w15 hw15))
        refine ret_cc 2 3 65 30 rfl A rfl (A + 1) rfl FF 65 (gb_keep hw15.grown hw14.blk (by omega)) _ Tryz.underlying65 rfl HSZ.out _ 30 hw15.blk _ Tryz.underlying30 rfl faultSize rfl ?_
        rw [HFP.out]
        refine ⟨va, by rw [← HFF.out]; rfl, ?_, Below.of_gb (Below.of_gb HBz.out hw14.grown (by have := HAA.out; omega)) hw15.grown (by have := HAA.out; omega)⟩
        exact (WOwnS.far (WOwnS.far HOAz.out hw14.grown (fun j e => by injection e with e; have := HLk8.out; have := HLk.out; have := HLf0.out; have := HLb.out; omega)) hw15.grown (fun j e => by injection e with e; have := HLk8.out; have := HLk.out; have := HLf0.out; have := HLb.out; omega)).le (by have := HLk8.out; have := HLk.out; have := HLf0.out; have := HLb.out; have := HAA.out; omega)
    | false =>
      as_aux_lemma =>
        have HFP := hid (frameP_may bs A4 3 HK.out (by omega) HE1.out HM.out)
        go_upto_region 12 with (first
          | (refine bd_row (by rfl) 30 #[(0, .const (.int .i64 70)), (1, .tmp 55)] (by rfl) _ (by simp [Act.eval]) _ (built_ft 70 (A4 : Int)) ?_)
          | (refine st_row (by rfl) 30 _ _ (by rfl) tb [Value.int .i64 70, .int .i64 (A4 : Int)] (by rfl) (by rfl) 30 _ HTBz.out faultSize rfl (fault_one _ _) ?_; intro w14 hw14))
        have HTB := hid hw14.blk
        have HR1y := hid (gb_keep hw14.grown HR1z.out (by have := HLt.out; omega))
        have HR2y := hid (gb_keep hw14.grown HR2z.out (by have := HLt.out; omega))
        have HBy := hid (Below.of_gb HBz.out hw14.grown (by have := HLt.out; have := HAA.out; omega))
        clear hw14 HR1z HR2z HBz t0 t1 f0 f1
        have HR1z := hid HR1y.out
        have HR2z := hid HR2y.out
        have HBz := hid HBy.out
        have t0 : w14.cell? ⟨tb, 0, none⟩ = some (.int .i64 70) := by simp [World.cell?, HTB.out]
        go_upto_region 13 with fail
        have HTBc := hid HTB.out
        refine wp_noPanic (wp_region_held_drew (S := fun W => W.heap[tb]? = some (.cells [Value.int .i64 70, .int .i64 (A4 : Int)].toArray 30 (0, 0))) (by kernel_rfl) HTBc.out ?_)
        intro hHeld
        refine wpAnyH_take (i := 0) (v := .agg (fcells zF nS).toArray) rfl (by kernel_rfl) (by kernel_rfl) (by kernel_rfl) (fun _ _ _ h => h) (yields_build (by rfl) 65 #[] (by rfl) _ (by simp [Act.eval]) _ built_zf) hHeld ?_
        simp only [Act.put, List.getElem_toArray, List.getElem_cons_zero, List.setIfInBounds_toArray, List.set_cons_succ, List.set_cons_zero]
        refine wpAnyH_take (i := 1) (v := .agg [Value.int .i64 70, .int .i64 (A4 : Int)].toArray) rfl (by kernel_rfl) (by kernel_rfl) (by kernel_rfl) (fun _ _ _ h => h) (yieldsIf_load_mid (by rfl) 30 (.tmp 9) rfl tb 0 rfl [Value.int .i64 70, .int .i64 (A4 : Int)] _ (fun W hW => range_row hW) Tryz.underlying30 rfl faultSize) hHeld ?_
        simp only [Act.put, List.getElem_toArray, List.getElem_cons_zero, List.getElem_cons_succ, List.setIfInBounds_toArray, List.set_cons_succ, List.set_cons_zero]
        obtain ⟨wx, HWX⟩ : ∃ x, Hid (w14.drew = x) := ⟨_, rfl⟩
        have HR1x := hid (show w14.drew.heap[A]? = _ from HR1z.out)
        have HR2x := hid (show w14.drew.heap[A + 1]? = _ from HR2z.out)
        have HTBx := hid (show w14.drew.heap[tb]? = some (.cells [Value.int .i64 70, .int .i64 (A4 : Int)].toArray 30 (0, 0)) from HTB.out)
        have HBx := hid (show Below w.heap.size w w14.drew from below_tr HBz.out ⟨rfl, rfl, rfl, Nat.le_refl _, fun _ _ => rfl⟩)
        rw [HWX.out] at hHeld HR1x HR2x HTBx HBx ⊢
        refine wpAnyH_ready (rs := [2]) (by kernel_rfl) (by simp) ?_
        refine AllReadyH.cons rfl (fun K9 hK9 => ?_) AllReadyH.nil
        refine step_store_row (by rfl) 65 _ _ (by rfl) A (fcells zF nS) (by rfl) (by rfl) 65 _ HR1x.out (frame_size zF nS rfl) rfl (fcells_one zF nS rfl) ?_
        intro wy hwy
        refine hK9.out _ _ (gb_keep hwy.grown HTBx.out (by have := HLt.out; omega)) (fun hHeld => ?_)
        clear hK9 K9
        try simp only [Act.put, List.getElem_toArray, List.getElem_cons_zero, List.getElem_cons_succ]
        refine wpAnyH_ready (rs := [3]) (by kernel_rfl) (by simp) ?_
        refine AllReadyH.cons rfl (fun K9 hK9 => ?_) AllReadyH.nil
        refine step_store_row (by rfl) 30 _ _ (by rfl) (A + 1) [Value.int .i64 70, .int .i64 (A4 : Int)] (by rfl) (by rfl) 30 _ (gb_keep hwy.grown HR2x.out (by omega)) faultSize rfl (fault_one _ _) ?_
        intro wz hwz
        refine hK9.out _ _ (gb_keep hwz.grown (gb_keep hwy.grown HTBx.out (by have := HLt.out; omega)) (by have := HLt.out; omega)) (fun hHeld => ?_)
        clear hK9 K9
        try simp only [Act.put, List.getElem_toArray, List.getElem_cons_zero, List.getElem_cons_succ]
        refine wpAnyH_done (by kernel_rfl) ?_ _
        simp only [noPanic]
        clear hHeld
        go_wp2
        refine ret_cc 2 3 65 30 rfl A rfl (A + 1) rfl (fcells zF nS) 65 (gb_keep hwz.grown hwy.blk (by omega)) _ Tryz.underlying65 rfl (frame_size zF nS rfl) _ 30 hwz.blk _ Tryz.underlying30 rfl faultSize rfl ?_
        rw [HFP.out]
        refine ⟨nS, rfl, World.ownsRow_nil _ _ _ _, ?_⟩
        exact Below.of_gb (Below.of_gb HBx.out hwy.grown (by have := HAA.out; omega)) hwz.grown (by have := HAA.out; omega)

  · as_aux_lemma =>
      have q1 : (E1 == 0) = false := by simpa using hE
      have q2 : (E1 != 0) = true := by simpa using hE
      have HFP := hid (show frameP bs A4 = (zF, E1, E2) by
        rw [frameP_bad bs A4 3 HK.out (by omega) (show (eS bs (fieldsP bs 3 (oS bs 6 (A4, 0, 0)).2).2).1 ≠ 0 by rw [HE1.out]; exact hE), ← HE1.out, ← HE2.out]; rfl)
      have HR1z := hid HR1i.out
      have HR2z := hid HR2i.out
      have HBz := hid HB12.out
      have HTB := hid (show w12.heap[tb]? = some (.cells [Value.int .i64 E1, .int .i64 E2].toArray 30 (0, 0)) from HTB0.out)
      clear hE
      go_upto_region 13 with fail
      have HTBc := hid HTB.out
      refine wp_noPanic (wp_region_held_drew (S := fun W => W.heap[tb]? = some (.cells [Value.int .i64 E1, .int .i64 E2].toArray 30 (0, 0))) (by kernel_rfl) HTBc.out ?_)
      intro hHeld
      refine wpAnyH_take (i := 0) (v := .agg (fcells zF nS).toArray) rfl (by kernel_rfl) (by kernel_rfl) (by kernel_rfl) (fun _ _ _ h => h) (yields_build (by rfl) 65 #[] (by rfl) _ (by simp [Act.eval]) _ built_zf) hHeld ?_
      simp only [Act.put, List.getElem_toArray, List.getElem_cons_zero, List.setIfInBounds_toArray, List.set_cons_succ, List.set_cons_zero]
      refine wpAnyH_take (i := 1) (v := .agg [Value.int .i64 E1, .int .i64 E2].toArray) rfl (by kernel_rfl) (by kernel_rfl) (by kernel_rfl) (fun _ _ _ h => h) (yieldsIf_load_mid (by rfl) 30 (.tmp 9) rfl tb 0 rfl [Value.int .i64 E1, .int .i64 E2] _ (fun W hW => range_row hW) Tryz.underlying30 rfl faultSize) hHeld ?_
      simp only [Act.put, List.getElem_toArray, List.getElem_cons_zero, List.getElem_cons_succ, List.setIfInBounds_toArray, List.set_cons_succ, List.set_cons_zero]
      obtain ⟨wx, HWX⟩ : ∃ x, Hid (w12.drew = x) := ⟨_, rfl⟩
      have HR1x := hid (show w12.drew.heap[A]? = _ from HR1z.out)
      have HR2x := hid (show w12.drew.heap[A + 1]? = _ from HR2z.out)
      have HTBx := hid (show w12.drew.heap[tb]? = some (.cells [Value.int .i64 E1, .int .i64 E2].toArray 30 (0, 0)) from HTB.out)
      have HBx := hid (show Below w.heap.size w w12.drew from below_tr HBz.out ⟨rfl, rfl, rfl, Nat.le_refl _, fun _ _ => rfl⟩)
      rw [HWX.out] at hHeld HR1x HR2x HTBx HBx ⊢
      refine wpAnyH_ready (rs := [2]) (by kernel_rfl) (by simp) ?_
      refine AllReadyH.cons rfl (fun K9 hK9 => ?_) AllReadyH.nil
      refine step_store_row (by rfl) 65 _ _ (by rfl) A (fcells zF nS) (by rfl) (by rfl) 65 _ HR1x.out (frame_size zF nS rfl) rfl (fcells_one zF nS rfl) ?_
      intro wy hwy
      refine hK9.out _ _ (gb_keep hwy.grown HTBx.out (by have := HLt.out; omega)) (fun hHeld => ?_)
      clear hK9 K9
      try simp only [Act.put, List.getElem_toArray, List.getElem_cons_zero, List.getElem_cons_succ]
      refine wpAnyH_ready (rs := [3]) (by kernel_rfl) (by simp) ?_
      refine AllReadyH.cons rfl (fun K9 hK9 => ?_) AllReadyH.nil
      refine step_store_row (by rfl) 30 _ _ (by rfl) (A + 1) [Value.int .i64 E1, .int .i64 E2] (by rfl) (by rfl) 30 _ (gb_keep hwy.grown HR2x.out (by omega)) faultSize rfl (fault_one _ _) ?_
      intro wz hwz
      refine hK9.out _ _ (gb_keep hwz.grown (gb_keep hwy.grown HTBx.out (by have := HLt.out; omega)) (by have := HLt.out; omega)) (fun hHeld => ?_)
      clear hK9 K9
      try simp only [Act.put, List.getElem_toArray, List.getElem_cons_zero, List.getElem_cons_succ]
      refine wpAnyH_done (by kernel_rfl) ?_ _
      simp only [noPanic]
      clear hHeld
      go_wp2
      refine ret_cc 2 3 65 30 rfl A rfl (A + 1) rfl (fcells zF nS) 65 (gb_keep hwz.grown hwy.blk (by omega)) _ Tryz.underlying65 rfl (frame_size zF nS rfl) _ 30 hwz.blk _ Tryz.underlying30 rfl faultSize rfl ?_
      rw [HFP.out]
      refine ⟨nS, rfl, World.ownsRow_nil _ _ _ _, ?_⟩
      exact Below.of_gb (Below.of_gb HBx.out hwy.grown (by have := HAA.out; omega)) hwz.grown (by have := HAA.out; omega)

end Go.Proofs.YtiibhccbbpgehabGreat

/- readFrame, where the kind that is read is 4. -/
namespace Go.Proofs.YtiibhccbbpgehabGreat
open Go.RowKit Go.BigFrame

set_option maxRecDepth 100000 in
set_option maxHeartbeats 8000000 in
theorem readFrame_4 (v0 : Value) (bs : List UInt8) (head N : Nat) (w : World) (hs : Src w v0 bs) (hbl : bs.length ≤ 1099511627776) (hu : uS bs (0, 0, 0) = (N, head, 0, 0)) (hK : (oS bs 6 (head, 0, 0)).1 = 4) :
    Calls Tryz.prog 79 #[v0] w fun e w' => ∃ va, e = .returned (.tuple #[.agg (fcells (frameP bs head).1 va).toArray, .agg #[.int .i64 (frameP bs head).2.1, .int .i64 (frameP bs head).2.2]]) ∧ WOwnS w' w.heap.size va (frameP bs head).1.args ∧ Below w.heap.size w w' := by
  obtain ⟨va0, c0, rfl⟩ := src_shape hs
  obtain ⟨L0, HL0⟩ : ∃ n, Hid (bs.length = n) := ⟨_, rfl⟩
  obtain ⟨A, HAA⟩ : ∃ n, Hid (w.heap.size = n) := ⟨_, rfl⟩
  have HB0 := hid (below_walk2 w (.cells (fcells zF nS).toArray 65) (.cells #[.int .i64 0, .int .i64 0] 30))
  have HNB := hid (hp_two w (.cells (fcells zF nS).toArray 65) (.cells #[.int .i64 0, .int .i64 0] 30))
  have HZ : Hid ((w.alloc (.cells (fcells zF nS).toArray 65)).heap.size = w.heap.size + 1) := hid (by simp)
  have HZ2 : Hid (((w.alloc (.cells (fcells zF nS).toArray 65)).alloc (.cells #[.int .i64 0, .int .i64 0] 30)).heap.size = w.heap.size + 2) := hid (by simp)
  have HNR := hid (newReader_any _ bs _ (hs.below HB0.out))
  have HU := hid hu
  have HK := hid hK
  have HBL := hid hbl
  clear hs hbl hu hK
  go_enter Tryz.func79, Tryz.ntmps79
  go_upto_region 1 with (refine al_row (by rfl) 65 (by rfl) _ zeroFrame ?_)
  try rw [HZ.out]
  generalize (w.alloc (.cells (fcells zF nS).toArray 65)).alloc (.cells #[.int .i64 0, .int .i64 0] 30) = w0 at HB0 HNB HZ2 HNR ⊢
  rw [HAA.out] at HNB HZ2 ⊢
  have HR1 := hid HNB.out.1
  have HR2 := hid HNB.out.2
  clear HNB HZ
  go_wp2_with fail
  refine HNR.out.mono ?_
  rintro e w1 ⟨rb, v, rfl, hr1, hb1⟩
  obtain ⟨b, HBb⟩ : ∃ b, Hid (w1.heap.size = b) := ⟨_, rfl⟩
  have HLb : Hid (A + 2 ≤ b) := hid (by have := hb1.size; have := HZ2.out; have := HBb.out; omega)
  have HLr : Hid (A + 2 ≤ rb) := hid (by have := hr1.lo; have := HZ2.out; omega)
  have HLrb : Hid (rb < b) := hid (by have := hr1.lt; have := HBb.out; omega)
  have HAW := hid (below_walk w1 (.cells #[.pointer (some ⟨rb, 0, none⟩), .int .i64 0, .int .i64 0] 148))
  have HFD := hid (show Fd (w1.alloc (.cells #[.pointer (some ⟨rb, 0, none⟩), .int .i64 0, .int .i64 0] 148)) w0.heap.size b rb v bs (0, 0, 0) from ⟨0, 0, 0, 0, 0, hr1.below HAW.out, HBb.out ▸ hp_new w1 _, by have := HLrb.out; omega, fun e => by have := (hr1.own.lt _ e).2; have := HBb.out; omega, by have := hb1.size; have := HBb.out; omega, Or.inl ⟨rfl, rfl⟩⟩)
  have HR1a := hid (bel_keep HAW.out (bel_keep hb1 HR1.out))
  have HR2a := hid (bel_keep HAW.out (bel_keep hb1 HR2.out))
  have HB1 := hid (below_then (below_then HB0.out hb1) HAW.out)
  clear hr1 hb1 HR1 HR2 HB0 HNR HAW
  go_upto_region 2 with fail
  rw [HBb.out]
  generalize w1.alloc (.cells #[.pointer (some ⟨rb, 0, none⟩), .int .i64 0, .int .i64 0] 148) = w2 at HFD HR1a HR2a HB1 ⊢
  have p2 := HFD.out.ptr
  go_wp2_with fail
  refine (fd_uint HFD.out).mono ?_
  rintro e w3 ⟨rfl, hf3, hg3⟩
  rw [HU.out] at hf3
  have HF3 := hid (show Fd w3 w0.heap.size b rb v bs (head, 0, 0) from hf3)
  have HR1b := hid (gb_keep hg3 HR1a.out (by have := HLr.out; omega))
  have HR2b := hid (gb_keep hg3 HR2a.out (by have := HLr.out; omega))
  have HB3 := hid (Below.of_gb HB1.out hg3 (by have := HLr.out; have := HAA.out; omega))
  clear hf3 hg3 p2 HFD HR1a HR2a HB1
  have p3 := HF3.out.ptr
  go_wp2_with fail
  refine (fd_at HF3.out).mono ?_
  rintro e w4 ⟨A4, rfl, hw4, hA4⟩
  have hw4 := hw4.symm
  subst hw4
  obtain rfl : A4 = head := hA4 rfl
  clear hA4 p3
  go_wp2_with fail
  refine (fd_some w0.heap.size b rb v bs (A4, 0, 0) 6 w3 (by omega) HF3.out).mono ?_
  rintro e w5 ⟨rfl, hf5, hg5⟩
  rw [show ((oS bs 6 (A4, 0, 0)).1 : Int) = 4 by rw [HK.out]; rfl]
  have HF5 := hid hf5
  have HR1c := hid (hg5.keep HR1b.out (by have := HLb.out; omega) (by have := HLr.out; omega))
  have HR2c := hid (hg5.keep HR2b.out (by have := HLb.out; omega) (by have := HLr.out; omega))
  have HB5 := hid (hg5.below HB3.out (by have := HLb.out; have := HAA.out; omega) (by have := HLr.out; have := HAA.out; omega))
  clear hf5 hg5 HF3 HR1b HR2b HB3
  go_upto_region 5 with (first
    | (refine bd_row (by rfl) 65 #[(0, .tmp 25)] (by rfl) _ (by simp [Act.eval]) _ built_k4 ?_)
    | (refine al_row (by rfl) 65 (by rfl) _ zeroFrame ?_)
    | (refine st_new (by rfl) 65 _ _ (by rfl) (fcells (kF 4) nS) (by rfl) (by rfl) 65 _ (frame_size (kF 4) nS rfl) rfl (fcells_one (kF 4) nS rfl) ?_))
  have HW5 := hid (below_walk w5 (.cells (fcells (kF 4) nS).toArray 65))
  have HF6 := hid (HF5.out.below HW5.out)
  have HR1d := hid (bel_keep HW5.out HR1c.out)
  have HR2d := hid (bel_keep HW5.out HR2c.out)
  have HB6 := hid (below_then HB5.out HW5.out)
  have HFb := hid (hp_new w5 (.cells (fcells (kF 4) nS).toArray 65))
  have HLf0 : Hid (b < w5.heap.size) := hid HF5.out.lt.1
  have HVO0 := hid HF5.out.own
  obtain ⟨fb, HFBe⟩ : ∃ b, Hid (w5.heap.size = b) := ⟨_, rfl⟩
  rw [HFBe.out] at HFb HLf0 HVO0 ⊢
  have HVO : Hid (∀ k, v.ownBlock = some k → k < fb) := hid HVO0.out
  generalize w5.alloc (.cells (fcells (kF 4) nS).toArray 65) = w6 at HF6 HR1d HR2d HB6 HFb ⊢
  clear HF5 HR1c HR2c HB5 HW5
  have x0 : w6.cell? ⟨fb, 0, none⟩ = some (.int .i64 4) := (Fb.of HFb.out rfl).k
  go_wp2_with fail
  refine (kindOf_4 w6).mono ?_
  rintro e w7 ⟨rfl, hb7⟩
  have HF7 := hid (HF6.out.below hb7)
  have HR1e := hid (bel_keep hb7 HR1d.out)
  have HR2e := hid (bel_keep hb7 HR2d.out)
  have HB7 := hid (below_then HB6.out hb7)
  have HFc := hid (bel_keep hb7 HFb.out)
  clear hb7 HF6 HR1d HR2d HB6 HFb x0
  go_upto_region 6 with (first
    | (refine al_row (by rfl) 153 (by rfl) _ zeroKind ?_)
    | (refine st_new (by rfl) 153 _ _ (by rfl) k4 (by rfl) (by rfl) 153 _ kindSize rfl (kOf_one 4) ?_))
  have HW7 := hid (below_walk w7 (.cells (k4).toArray 153))
  have HF8 := hid (HF7.out.below HW7.out)
  have HR1 := hid (bel_keep HW7.out HR1e.out)
  have HR2 := hid (bel_keep HW7.out HR2e.out)
  have HB8 := hid (below_then HB7.out HW7.out)
  have HFd := hid (bel_keep HW7.out HFc.out)
  have HKb := hid (hp_new w7 (.cells (k4).toArray 153))
  have HLk : Hid (fb < w7.heap.size) := hid (hp_lt HFc.out)
  obtain ⟨kb, HKBe⟩ : ∃ b, Hid (w7.heap.size = b) := ⟨_, rfl⟩
  rw [HKBe.out] at HKb HLk ⊢
  generalize w7.alloc (.cells (k4).toArray 153) = w8 at HF8 HR1 HR2 HB8 HFd HKb ⊢
  clear HF7 HR1e HR2e HB7 HFc HW7 HZ2 HFBe HKBe
  have y4 : w8.cell? ⟨kb, 4, none⟩ = some (.func (.func 117) #[] #[]) := by rw [cell_of_row w8 kb 4 _ _ _ HKb.out]; rfl
  go_wp2_with (refine ld_row (by rfl) 65 (.tmp 6) (by rfl) fb (by rfl) (fcells (kF 4) nS) 65 HFd.out _ Tryz.underlying65 rfl (frame_size (kF 4) nS rfl) ?_)
  refine (readCancel_any w0.heap.size b rb v bs (oS bs 6 (A4, 0, 0)).2 w8 HBL.out HF8.out).mono ?_
  rintro e w9 ⟨va, rfl, hoa, hf9, hg9⟩
  have HLb8 : Hid (b < w8.heap.size) := hid HF8.out.lt.1
  have HLr8 : Hid (rb < w8.heap.size) := hid HF8.out.lt.2.1
  have HLk8 : Hid (kb < w8.heap.size) := hid (hp_lt HKb.out)
  have HS9 : Hid (w8.heap.size ≤ w9.heap.size) := hid hg9.size
  have HOA := hid hoa
  have HF9 := hid hf9
  have HR1f := hid (hg9.keep HR1.out (by have := HLb.out; omega) (by have := HLr.out; omega))
  have HR2f := hid (hg9.keep HR2.out (by have := HLb.out; omega) (by have := HLr.out; omega))
  have HB9 := hid (hg9.below HB8.out (by have := HLb.out; have := HAA.out; omega) (by have := HLr.out; have := HAA.out; omega))
  have HFe := hid (hg9.keep HFd.out (by have := HLf0.out; omega) (by have := HLf0.out; have := HLrb.out; omega))
  have HKc := hid (hg9.keep HKb.out (by have := HLk.out; have := HLf0.out; omega) (by have := HLk.out; have := HLf0.out; have := HLrb.out; omega))
  have HTL := hid (show (fieldsP bs 4 (oS bs 6 (A4, 0, 0)).2).1.tool.length = 32 from fieldsP_tool bs 4 (oS bs 6 (A4, 0, 0)).2)
  obtain ⟨aV, cV, eV⟩ := wowns_shape hoa
  have HSZ := hid (frame_size (fieldsP bs 4 (oS bs 6 (A4, 0, 0)).2).1 va HTL.out)
  have HON := hid (fcells_one (fieldsP bs 4 (oS bs 6 (A4, 0, 0)).2).1 va (by rw [eV]; rfl))
  have HOS := hid (show (fcells (kF 4) nS).toArray.size = (fcells (fieldsP bs 4 (oS bs 6 (A4, 0, 0)).2).1 va).length by rw [fcells_length _ _ HTL.out]; rfl)
  obtain ⟨FF, HFF⟩ : ∃ L, Hid (fcells (fieldsP bs 4 (oS bs 6 (A4, 0, 0)).2).1 va = L) := ⟨_, rfl⟩
  rw [HFF.out] at HSZ HON HOS ⊢
  have HFV : Hid (∀ k, v.ownBlock = some k → k < fb) := hid (fun k hk => by have := HVO.out k hk; omega)
  clear hoa hf9 hg9 HF8 HR1 HR2 HB8 HFd HKb y4 eV
  go_upto_region 9 with (refine st_row (by rfl) 65 _ _ (by rfl) fb FF (by rfl) (by rfl) 65 _ HFe.out HSZ.out HOS.out HON.out ?_; intro w10 hw10)
  have HF10 := hid (HF9.out.far hw10.grown (by have := HLf0.out; omega) (by have := HLf0.out; have := HLrb.out; omega) (fun k hk => by have := HFV.out k hk; omega))
  have HR1g := hid (gb_keep hw10.grown HR1f.out (by have := HLf0.out; have := HLb.out; omega))
  have HR2g := hid (gb_keep hw10.grown HR2f.out (by have := HLf0.out; have := HLb.out; omega))
  have HKd := hid (gb_keep hw10.grown HKc.out (by have := HLk.out; omega))
  have HB10 := hid (Below.of_gb HB9.out hw10.grown (by have := HLf0.out; have := HLb.out; have := HAA.out; omega))
  have HFf := hid hw10.blk
  have HOA2 := hid (WOwnS.far HOA.out hw10.grown (fun j e => by injection e with e; have := HLk.out; have := HLk8.out; omega))
  have HS10 : Hid (w8.heap.size ≤ w10.heap.size) := hid (by have := hw10.size; have := HS9.out; omega)
  clear hw10 HF9 HR1f HR2f HKc HB9 HFe HOA HOS HS9
  go_wp2_with fail
  refine (fd_end w0.heap.size b rb v bs _ w10 HF10.out).mono ?_
  rintro e w11 ⟨rfl, hg11⟩
  have HR1h := hid (hg11.keep HR1g.out (by have := HLb.out; omega) (by have := HLr.out; omega))
  have HR2h := hid (hg11.keep HR2g.out (by have := HLb.out; omega) (by have := HLr.out; omega))
  have HB11 := hid (hg11.below HB10.out (by have := HLb.out; have := HAA.out; omega) (by have := HLr.out; have := HAA.out; omega))
  have HFg := hid (hg11.keep HFf.out (by have := HLf0.out; omega) (by have := HLf0.out; have := HLrb.out; omega))
  have HKe := hid (hg11.keep HKd.out (by have := HLk.out; have := HLf0.out; omega) (by have := HLk.out; have := HLf0.out; have := HLrb.out; omega))
  have HOA3 := hid (wowns_g2 HOA2.out hg11 HLb8.out HLr8.out)
  have HS11 : Hid (w8.heap.size ≤ w11.heap.size) := hid (by have := hg11.size; have := HS10.out; omega)
  obtain ⟨E1, HE1⟩ : ∃ x, Hid ((eS bs (fieldsP bs 4 (oS bs 6 (A4, 0, 0)).2).2).1 = x) := ⟨_, rfl⟩
  obtain ⟨E2, HE2⟩ : ∃ x, Hid ((eS bs (fieldsP bs 4 (oS bs 6 (A4, 0, 0)).2).2).2 = x) := ⟨_, rfl⟩
  rw [HE1.out, HE2.out]
  clear hg11 HF10 HR1g HR2g HB10 HFf HKd HOA2 HS10
  go_upto_region 10 with fail
  have HWT := hid (below_walk w11 (.cells #[.int .i64 E1, .int .i64 E2] 30))
  have HR1i := hid (bel_keep HWT.out HR1h.out)
  have HR2i := hid (bel_keep HWT.out HR2h.out)
  have HB12 := hid (below_then HB11.out HWT.out)
  have HFh := hid (bel_keep HWT.out HFg.out)
  have HKf := hid (bel_keep HWT.out HKe.out)
  have HOA4 := hid (HOA3.out.alloc (.cells #[.int .i64 E1, .int .i64 E2] 30))
  have HTB0 := hid (hp_new w11 (.cells #[.int .i64 E1, .int .i64 E2] 30))
  have HLt0 : Hid (kb < w11.heap.size) := hid (hp_lt HKe.out)
  obtain ⟨tb, HTBe⟩ : ∃ b, Hid (w11.heap.size = b) := ⟨_, rfl⟩
  rw [HTBe.out] at HTB0 HLt0 ⊢
  generalize w11.alloc (.cells #[.int .i64 E1, .int .i64 E2] 30) = w12 at HR1i HR2i HB12 HFh HKf HOA4 HTB0 ⊢
  have HLt : Hid (A + 2 ≤ tb) := hid (by have := HLt0.out; have := HLk.out; have := HLf0.out; have := HLb.out; omega)
  have HL8t : Hid (w8.heap.size ≤ tb) := hid (by have := HS11.out; have := HTBe.out; omega)
  clear HR1h HR2h HB11 HFg HKe HOA3 HWT HTBe HS11
  have t0 : w12.cell? ⟨tb, 0, none⟩ = some (.int .i64 E1) := by simp [World.cell?, HTB0.out]
  have t1 : w12.cell? ⟨tb, 1, none⟩ = some (.int .i64 E2) := by simp [World.cell?, HTB0.out]
  have f0 := row_fz HTB0.out 0
  have f1 := row_fz HTB0.out 1
  by_cases hE : E1 = 0
  · obtain ⟨M, HM⟩ : ∃ M, Hid (mayF (fieldsP bs 4 (oS bs 6 (A4, 0, 0)).2).1 = M) := ⟨_, rfl⟩
    have HST := hid (wowns_strs HOA4.out)
    have HMN : Hid ((fieldsP bs 4 (oS bs 6 (A4, 0, 0)).2).1.args.length ≤ 9223372036854775807) := hid (wowns_len HOA4.out)
    have HMAY := hid (show Calls Tryz.prog 115 #[.agg FF.toArray] w12 fun e w' => e = .returned (.bool M) ∧ Below w12.heap.size w12 w' by
      rw [← HM.out, mayF_4 _ (fieldsP_kind bs 4 (oS bs 6 (A4, 0, 0)).2 (by omega)), ← HFF.out]
      exact mayAlways_any _ w12)
    subst hE
    have y2 : w12.cell? ⟨kb, 2, none⟩ = some (.func (.func 115) #[] #[]) := by rw [cell_of_row w12 kb 2 _ _ _ HKf.out]; rfl
    have HRG := hid (range_row HFh.out)
    clear HST HMN
    go_wp2_with (refine ld_gd (by rfl) 65 (.tmp 6) (by rfl) fb 0 (by rfl) FF _ HRG.out Tryz.underlying65 rfl HSZ.out ?_)
    refine HMAY.out.mono ?_
    rintro e w13 ⟨rfl, hb13⟩
    have HR1z := hid (bel_keep hb13 HR1i.out)
    have HR2z := hid (bel_keep hb13 HR2i.out)
    have HBz := hid (below_then HB12.out hb13)
    have HFz := hid (bel_keep hb13 HFh.out)
    have HTBz := hid (bel_keep hb13 HTB0.out)
    have HOAz := hid (WOwnS.far HOA4.out (below_gb hb13 none) (fun j e => by cases e))
    clear hb13 HR1i HR2i HB12 HFh HTB0 HKf HOA4 HMAY HRG y2 t0 t1 f0 f1
    have t0 : w13.cell? ⟨tb, 0, none⟩ = some (.int .i64 0) := by simp [World.cell?, HTBz.out]
    have t1 : w13.cell? ⟨tb, 1, none⟩ = some (.int .i64 E2) := by simp [World.cell?, HTBz.out]
    have f0 := row_fz HTBz.out 0
    have f1 := row_fz HTBz.out 1
    cases M with
    | true =>
      as_aux_lemma =>
        have HFP := hid (frameP_ok bs A4 4 HK.out (by omega) HE1.out HM.out)
        go_wp2_with (first
          | (refine ld_row (by rfl) 65 (.tmp 6) (by rfl) fb (by rfl) FF 65 HFz.out _ Tryz.underlying65 rfl HSZ.out ?_)
          | (refine bd_row (by rfl) 30 #[] (by rfl) _ (by simp [Act.eval]) _ built_fz ?_)
          | (refine st_row (by rfl) 65 _ _ (by rfl) A FF (by rfl) (by rfl) 65 _ HR1z.out HSZ.out (by rw [← HFF.out, fcells_length _ _ HTL.out]; rfl) HON.out ?_; intro w14 hw14)
          | (refine st_row (by rfl) 30 _ _ (by rfl) (A + 1) [Value.int .i64 0, .int .i64 0] (by rfl) (by rfl) 30 _ (gb_keep hw14.grown HR2z.out (by omega)) faultSize rfl (fault_one _ _) ?_; intro w15 hw15))
        refine ret_cc 2 3 65 30 rfl A rfl (A + 1) rfl FF 65 (gb_keep hw15.grown hw14.blk (by omega)) _ Tryz.underlying65 rfl HSZ.out _ 30 hw15.blk _ Tryz.underlying30 rfl faultSize rfl ?_
        rw [HFP.out]
        refine ⟨va, by rw [← HFF.out]; rfl, ?_, Below.of_gb (Below.of_gb HBz.out hw14.grown (by have := HAA.out; omega)) hw15.grown (by have := HAA.out; omega)⟩
        exact (WOwnS.far (WOwnS.far HOAz.out hw14.grown (fun j e => by injection e with e; have := HLk8.out; have := HLk.out; have := HLf0.out; have := HLb.out; omega)) hw15.grown (fun j e => by injection e with e; have := HLk8.out; have := HLk.out; have := HLf0.out; have := HLb.out; omega)).le (by have := HLk8.out; have := HLk.out; have := HLf0.out; have := HLb.out; have := HAA.out; omega)
    | false =>
      as_aux_lemma =>
        have HFP := hid (frameP_may bs A4 4 HK.out (by omega) HE1.out HM.out)
        go_upto_region 12 with (first
          | (refine bd_row (by rfl) 30 #[(0, .const (.int .i64 70)), (1, .tmp 55)] (by rfl) _ (by simp [Act.eval]) _ (built_ft 70 (A4 : Int)) ?_)
          | (refine st_row (by rfl) 30 _ _ (by rfl) tb [Value.int .i64 70, .int .i64 (A4 : Int)] (by rfl) (by rfl) 30 _ HTBz.out faultSize rfl (fault_one _ _) ?_; intro w14 hw14))
        have HTB := hid hw14.blk
        have HR1y := hid (gb_keep hw14.grown HR1z.out (by have := HLt.out; omega))
        have HR2y := hid (gb_keep hw14.grown HR2z.out (by have := HLt.out; omega))
        have HBy := hid (Below.of_gb HBz.out hw14.grown (by have := HLt.out; have := HAA.out; omega))
        clear hw14 HR1z HR2z HBz t0 t1 f0 f1
        have HR1z := hid HR1y.out
        have HR2z := hid HR2y.out
        have HBz := hid HBy.out
        have t0 : w14.cell? ⟨tb, 0, none⟩ = some (.int .i64 70) := by simp [World.cell?, HTB.out]
        go_upto_region 13 with fail
        have HTBc := hid HTB.out
        refine wp_noPanic (wp_region_held_drew (S := fun W => W.heap[tb]? = some (.cells [Value.int .i64 70, .int .i64 (A4 : Int)].toArray 30 (0, 0))) (by kernel_rfl) HTBc.out ?_)
        intro hHeld
        refine wpAnyH_take (i := 0) (v := .agg (fcells zF nS).toArray) rfl (by kernel_rfl) (by kernel_rfl) (by kernel_rfl) (fun _ _ _ h => h) (yields_build (by rfl) 65 #[] (by rfl) _ (by simp [Act.eval]) _ built_zf) hHeld ?_
        simp only [Act.put, List.getElem_toArray, List.getElem_cons_zero, List.setIfInBounds_toArray, List.set_cons_succ, List.set_cons_zero]
        refine wpAnyH_take (i := 1) (v := .agg [Value.int .i64 70, .int .i64 (A4 : Int)].toArray) rfl (by kernel_rfl) (by kernel_rfl) (by kernel_rfl) (fun _ _ _ h => h) (yieldsIf_load_mid (by rfl) 30 (.tmp 9) rfl tb 0 rfl [Value.int .i64 70, .int .i64 (A4 : Int)] _ (fun W hW => range_row hW) Tryz.underlying30 rfl faultSize) hHeld ?_
        simp only [Act.put, List.getElem_toArray, List.getElem_cons_zero, List.getElem_cons_succ, List.setIfInBounds_toArray, List.set_cons_succ, List.set_cons_zero]
        obtain ⟨wx, HWX⟩ : ∃ x, Hid (w14.drew = x) := ⟨_, rfl⟩
        have HR1x := hid (show w14.drew.heap[A]? = _ from HR1z.out)
        have HR2x := hid (show w14.drew.heap[A + 1]? = _ from HR2z.out)
        have HTBx := hid (show w14.drew.heap[tb]? = some (.cells [Value.int .i64 70, .int .i64 (A4 : Int)].toArray 30 (0, 0)) from HTB.out)
        have HBx := hid (show Below w.heap.size w w14.drew from below_tr HBz.out ⟨rfl, rfl, rfl, Nat.le_refl _, fun _ _ => rfl⟩)
        rw [HWX.out] at hHeld HR1x HR2x HTBx HBx ⊢
        refine wpAnyH_ready (rs := [2]) (by kernel_rfl) (by simp) ?_
        refine AllReadyH.cons rfl (fun K9 hK9 => ?_) AllReadyH.nil
        refine step_store_row (by rfl) 65 _ _ (by rfl) A (fcells zF nS) (by rfl) (by rfl) 65 _ HR1x.out (frame_size zF nS rfl) rfl (fcells_one zF nS rfl) ?_
        intro wy hwy
        refine hK9.out _ _ (gb_keep hwy.grown HTBx.out (by have := HLt.out; omega)) (fun hHeld => ?_)
        clear hK9 K9
        try simp only [Act.put, List.getElem_toArray, List.getElem_cons_zero, List.getElem_cons_succ]
        refine wpAnyH_ready (rs := [3]) (by kernel_rfl) (by simp) ?_
        refine AllReadyH.cons rfl (fun K9 hK9 => ?_) AllReadyH.nil
        refine step_store_row (by rfl) 30 _ _ (by rfl) (A + 1) [Value.int .i64 70, .int .i64 (A4 : Int)] (by rfl) (by rfl) 30 _ (gb_keep hwy.grown HR2x.out (by omega)) faultSize rfl (fault_one _ _) ?_
        intro wz hwz
        refine hK9.out _ _ (gb_keep hwz.grown (gb_keep hwy.grown HTBx.out (by have := HLt.out; omega)) (by have := HLt.out; omega)) (fun hHeld => ?_)
        clear hK9 K9
        try simp only [Act.put, List.getElem_toArray, List.getElem_cons_zero, List.getElem_cons_succ]
        refine wpAnyH_done (by kernel_rfl) ?_ _
        simp only [noPanic]
        clear hHeld
        go_wp2
        refine ret_cc 2 3 65 30 rfl A rfl (A + 1) rfl (fcells zF nS) 65 (gb_keep hwz.grown hwy.blk (by omega)) _ Tryz.underlying65 rfl (frame_size zF nS rfl) _ 30 hwz.blk _ Tryz.underlying30 rfl faultSize rfl ?_
        rw [HFP.out]
        refine ⟨nS, rfl, World.ownsRow_nil _ _ _ _, ?_⟩
        exact Below.of_gb (Below.of_gb HBx.out hwy.grown (by have := HAA.out; omega)) hwz.grown (by have := HAA.out; omega)

  · as_aux_lemma =>
      have q1 : (E1 == 0) = false := by simpa using hE
      have q2 : (E1 != 0) = true := by simpa using hE
      have HFP := hid (show frameP bs A4 = (zF, E1, E2) by
        rw [frameP_bad bs A4 4 HK.out (by omega) (show (eS bs (fieldsP bs 4 (oS bs 6 (A4, 0, 0)).2).2).1 ≠ 0 by rw [HE1.out]; exact hE), ← HE1.out, ← HE2.out]; rfl)
      have HR1z := hid HR1i.out
      have HR2z := hid HR2i.out
      have HBz := hid HB12.out
      have HTB := hid (show w12.heap[tb]? = some (.cells [Value.int .i64 E1, .int .i64 E2].toArray 30 (0, 0)) from HTB0.out)
      clear hE
      go_upto_region 13 with fail
      have HTBc := hid HTB.out
      refine wp_noPanic (wp_region_held_drew (S := fun W => W.heap[tb]? = some (.cells [Value.int .i64 E1, .int .i64 E2].toArray 30 (0, 0))) (by kernel_rfl) HTBc.out ?_)
      intro hHeld
      refine wpAnyH_take (i := 0) (v := .agg (fcells zF nS).toArray) rfl (by kernel_rfl) (by kernel_rfl) (by kernel_rfl) (fun _ _ _ h => h) (yields_build (by rfl) 65 #[] (by rfl) _ (by simp [Act.eval]) _ built_zf) hHeld ?_
      simp only [Act.put, List.getElem_toArray, List.getElem_cons_zero, List.setIfInBounds_toArray, List.set_cons_succ, List.set_cons_zero]
      refine wpAnyH_take (i := 1) (v := .agg [Value.int .i64 E1, .int .i64 E2].toArray) rfl (by kernel_rfl) (by kernel_rfl) (by kernel_rfl) (fun _ _ _ h => h) (yieldsIf_load_mid (by rfl) 30 (.tmp 9) rfl tb 0 rfl [Value.int .i64 E1, .int .i64 E2] _ (fun W hW => range_row hW) Tryz.underlying30 rfl faultSize) hHeld ?_
      simp only [Act.put, List.getElem_toArray, List.getElem_cons_zero, List.getElem_cons_succ, List.setIfInBounds_toArray, List.set_cons_succ, List.set_cons_zero]
      obtain ⟨wx, HWX⟩ : ∃ x, Hid (w12.drew = x) := ⟨_, rfl⟩
      have HR1x := hid (show w12.drew.heap[A]? = _ from HR1z.out)
      have HR2x := hid (show w12.drew.heap[A + 1]? = _ from HR2z.out)
      have HTBx := hid (show w12.drew.heap[tb]? = some (.cells [Value.int .i64 E1, .int .i64 E2].toArray 30 (0, 0)) from HTB.out)
      have HBx := hid (show Below w.heap.size w w12.drew from below_tr HBz.out ⟨rfl, rfl, rfl, Nat.le_refl _, fun _ _ => rfl⟩)
      rw [HWX.out] at hHeld HR1x HR2x HTBx HBx ⊢
      refine wpAnyH_ready (rs := [2]) (by kernel_rfl) (by simp) ?_
      refine AllReadyH.cons rfl (fun K9 hK9 => ?_) AllReadyH.nil
      refine step_store_row (by rfl) 65 _ _ (by rfl) A (fcells zF nS) (by rfl) (by rfl) 65 _ HR1x.out (frame_size zF nS rfl) rfl (fcells_one zF nS rfl) ?_
      intro wy hwy
      refine hK9.out _ _ (gb_keep hwy.grown HTBx.out (by have := HLt.out; omega)) (fun hHeld => ?_)
      clear hK9 K9
      try simp only [Act.put, List.getElem_toArray, List.getElem_cons_zero, List.getElem_cons_succ]
      refine wpAnyH_ready (rs := [3]) (by kernel_rfl) (by simp) ?_
      refine AllReadyH.cons rfl (fun K9 hK9 => ?_) AllReadyH.nil
      refine step_store_row (by rfl) 30 _ _ (by rfl) (A + 1) [Value.int .i64 E1, .int .i64 E2] (by rfl) (by rfl) 30 _ (gb_keep hwy.grown HR2x.out (by omega)) faultSize rfl (fault_one _ _) ?_
      intro wz hwz
      refine hK9.out _ _ (gb_keep hwz.grown (gb_keep hwy.grown HTBx.out (by have := HLt.out; omega)) (by have := HLt.out; omega)) (fun hHeld => ?_)
      clear hK9 K9
      try simp only [Act.put, List.getElem_toArray, List.getElem_cons_zero, List.getElem_cons_succ]
      refine wpAnyH_done (by kernel_rfl) ?_ _
      simp only [noPanic]
      clear hHeld
      go_wp2
      refine ret_cc 2 3 65 30 rfl A rfl (A + 1) rfl (fcells zF nS) 65 (gb_keep hwz.grown hwy.blk (by omega)) _ Tryz.underlying65 rfl (frame_size zF nS rfl) _ 30 hwz.blk _ Tryz.underlying30 rfl faultSize rfl ?_
      rw [HFP.out]
      refine ⟨nS, rfl, World.ownsRow_nil _ _ _ _, ?_⟩
      exact Below.of_gb (Below.of_gb HBx.out hwy.grown (by have := HAA.out; omega)) hwz.grown (by have := HAA.out; omega)

end Go.Proofs.YtiibhccbbpgehabGreat

/- readFrame, where the kind that is read is 5. -/
namespace Go.Proofs.YtiibhccbbpgehabGreat
open Go.RowKit Go.BigFrame

set_option maxRecDepth 100000 in
set_option maxHeartbeats 8000000 in
theorem readFrame_5 (v0 : Value) (bs : List UInt8) (head N : Nat) (w : World) (hs : Src w v0 bs) (hbl : bs.length ≤ 1099511627776) (hu : uS bs (0, 0, 0) = (N, head, 0, 0)) (hK : (oS bs 6 (head, 0, 0)).1 = 5) :
    Calls Tryz.prog 79 #[v0] w fun e w' => ∃ va, e = .returned (.tuple #[.agg (fcells (frameP bs head).1 va).toArray, .agg #[.int .i64 (frameP bs head).2.1, .int .i64 (frameP bs head).2.2]]) ∧ WOwnS w' w.heap.size va (frameP bs head).1.args ∧ Below w.heap.size w w' := by
  obtain ⟨va0, c0, rfl⟩ := src_shape hs
  obtain ⟨L0, HL0⟩ : ∃ n, Hid (bs.length = n) := ⟨_, rfl⟩
  obtain ⟨A, HAA⟩ : ∃ n, Hid (w.heap.size = n) := ⟨_, rfl⟩
  have HB0 := hid (below_walk2 w (.cells (fcells zF nS).toArray 65) (.cells #[.int .i64 0, .int .i64 0] 30))
  have HNB := hid (hp_two w (.cells (fcells zF nS).toArray 65) (.cells #[.int .i64 0, .int .i64 0] 30))
  have HZ : Hid ((w.alloc (.cells (fcells zF nS).toArray 65)).heap.size = w.heap.size + 1) := hid (by simp)
  have HZ2 : Hid (((w.alloc (.cells (fcells zF nS).toArray 65)).alloc (.cells #[.int .i64 0, .int .i64 0] 30)).heap.size = w.heap.size + 2) := hid (by simp)
  have HNR := hid (newReader_any _ bs _ (hs.below HB0.out))
  have HU := hid hu
  have HK := hid hK
  have HBL := hid hbl
  clear hs hbl hu hK
  go_enter Tryz.func79, Tryz.ntmps79
  go_upto_region 1 with (refine al_row (by rfl) 65 (by rfl) _ zeroFrame ?_)
  try rw [HZ.out]
  generalize (w.alloc (.cells (fcells zF nS).toArray 65)).alloc (.cells #[.int .i64 0, .int .i64 0] 30) = w0 at HB0 HNB HZ2 HNR ⊢
  rw [HAA.out] at HNB HZ2 ⊢
  have HR1 := hid HNB.out.1
  have HR2 := hid HNB.out.2
  clear HNB HZ
  go_wp2_with fail
  refine HNR.out.mono ?_
  rintro e w1 ⟨rb, v, rfl, hr1, hb1⟩
  obtain ⟨b, HBb⟩ : ∃ b, Hid (w1.heap.size = b) := ⟨_, rfl⟩
  have HLb : Hid (A + 2 ≤ b) := hid (by have := hb1.size; have := HZ2.out; have := HBb.out; omega)
  have HLr : Hid (A + 2 ≤ rb) := hid (by have := hr1.lo; have := HZ2.out; omega)
  have HLrb : Hid (rb < b) := hid (by have := hr1.lt; have := HBb.out; omega)
  have HAW := hid (below_walk w1 (.cells #[.pointer (some ⟨rb, 0, none⟩), .int .i64 0, .int .i64 0] 148))
  have HFD := hid (show Fd (w1.alloc (.cells #[.pointer (some ⟨rb, 0, none⟩), .int .i64 0, .int .i64 0] 148)) w0.heap.size b rb v bs (0, 0, 0) from ⟨0, 0, 0, 0, 0, hr1.below HAW.out, HBb.out ▸ hp_new w1 _, by have := HLrb.out; omega, fun e => by have := (hr1.own.lt _ e).2; have := HBb.out; omega, by have := hb1.size; have := HBb.out; omega, Or.inl ⟨rfl, rfl⟩⟩)
  have HR1a := hid (bel_keep HAW.out (bel_keep hb1 HR1.out))
  have HR2a := hid (bel_keep HAW.out (bel_keep hb1 HR2.out))
  have HB1 := hid (below_then (below_then HB0.out hb1) HAW.out)
  clear hr1 hb1 HR1 HR2 HB0 HNR HAW
  go_upto_region 2 with fail
  rw [HBb.out]
  generalize w1.alloc (.cells #[.pointer (some ⟨rb, 0, none⟩), .int .i64 0, .int .i64 0] 148) = w2 at HFD HR1a HR2a HB1 ⊢
  have p2 := HFD.out.ptr
  go_wp2_with fail
  refine (fd_uint HFD.out).mono ?_
  rintro e w3 ⟨rfl, hf3, hg3⟩
  rw [HU.out] at hf3
  have HF3 := hid (show Fd w3 w0.heap.size b rb v bs (head, 0, 0) from hf3)
  have HR1b := hid (gb_keep hg3 HR1a.out (by have := HLr.out; omega))
  have HR2b := hid (gb_keep hg3 HR2a.out (by have := HLr.out; omega))
  have HB3 := hid (Below.of_gb HB1.out hg3 (by have := HLr.out; have := HAA.out; omega))
  clear hf3 hg3 p2 HFD HR1a HR2a HB1
  have p3 := HF3.out.ptr
  go_wp2_with fail
  refine (fd_at HF3.out).mono ?_
  rintro e w4 ⟨A4, rfl, hw4, hA4⟩
  have hw4 := hw4.symm
  subst hw4
  obtain rfl : A4 = head := hA4 rfl
  clear hA4 p3
  go_wp2_with fail
  refine (fd_some w0.heap.size b rb v bs (A4, 0, 0) 6 w3 (by omega) HF3.out).mono ?_
  rintro e w5 ⟨rfl, hf5, hg5⟩
  rw [show ((oS bs 6 (A4, 0, 0)).1 : Int) = 5 by rw [HK.out]; rfl]
  have HF5 := hid hf5
  have HR1c := hid (hg5.keep HR1b.out (by have := HLb.out; omega) (by have := HLr.out; omega))
  have HR2c := hid (hg5.keep HR2b.out (by have := HLb.out; omega) (by have := HLr.out; omega))
  have HB5 := hid (hg5.below HB3.out (by have := HLb.out; have := HAA.out; omega) (by have := HLr.out; have := HAA.out; omega))
  clear hf5 hg5 HF3 HR1b HR2b HB3
  go_upto_region 5 with (first
    | (refine bd_row (by rfl) 65 #[(0, .tmp 25)] (by rfl) _ (by simp [Act.eval]) _ built_k5 ?_)
    | (refine al_row (by rfl) 65 (by rfl) _ zeroFrame ?_)
    | (refine st_new (by rfl) 65 _ _ (by rfl) (fcells (kF 5) nS) (by rfl) (by rfl) 65 _ (frame_size (kF 5) nS rfl) rfl (fcells_one (kF 5) nS rfl) ?_))
  have HW5 := hid (below_walk w5 (.cells (fcells (kF 5) nS).toArray 65))
  have HF6 := hid (HF5.out.below HW5.out)
  have HR1d := hid (bel_keep HW5.out HR1c.out)
  have HR2d := hid (bel_keep HW5.out HR2c.out)
  have HB6 := hid (below_then HB5.out HW5.out)
  have HFb := hid (hp_new w5 (.cells (fcells (kF 5) nS).toArray 65))
  have HLf0 : Hid (b < w5.heap.size) := hid HF5.out.lt.1
  have HVO0 := hid HF5.out.own
  obtain ⟨fb, HFBe⟩ : ∃ b, Hid (w5.heap.size = b) := ⟨_, rfl⟩
  rw [HFBe.out] at HFb HLf0 HVO0 ⊢
  have HVO : Hid (∀ k, v.ownBlock = some k → k < fb) := hid HVO0.out
  generalize w5.alloc (.cells (fcells (kF 5) nS).toArray 65) = w6 at HF6 HR1d HR2d HB6 HFb ⊢
  clear HF5 HR1c HR2c HB5 HW5
  have x0 : w6.cell? ⟨fb, 0, none⟩ = some (.int .i64 5) := (Fb.of HFb.out rfl).k
  go_wp2_with fail
  refine (kindOf_5 w6).mono ?_
  rintro e w7 ⟨rfl, hb7⟩
  have HF7 := hid (HF6.out.below hb7)
  have HR1e := hid (bel_keep hb7 HR1d.out)
  have HR2e := hid (bel_keep hb7 HR2d.out)
  have HB7 := hid (below_then HB6.out hb7)
  have HFc := hid (bel_keep hb7 HFb.out)
  clear hb7 HF6 HR1d HR2d HB6 HFb x0
  go_upto_region 6 with (first
    | (refine al_row (by rfl) 153 (by rfl) _ zeroKind ?_)
    | (refine st_new (by rfl) 153 _ _ (by rfl) k5 (by rfl) (by rfl) 153 _ kindSize rfl (kOf_one 5) ?_))
  have HW7 := hid (below_walk w7 (.cells (k5).toArray 153))
  have HF8 := hid (HF7.out.below HW7.out)
  have HR1 := hid (bel_keep HW7.out HR1e.out)
  have HR2 := hid (bel_keep HW7.out HR2e.out)
  have HB8 := hid (below_then HB7.out HW7.out)
  have HFd := hid (bel_keep HW7.out HFc.out)
  have HKb := hid (hp_new w7 (.cells (k5).toArray 153))
  have HLk : Hid (fb < w7.heap.size) := hid (hp_lt HFc.out)
  obtain ⟨kb, HKBe⟩ : ∃ b, Hid (w7.heap.size = b) := ⟨_, rfl⟩
  rw [HKBe.out] at HKb HLk ⊢
  generalize w7.alloc (.cells (k5).toArray 153) = w8 at HF8 HR1 HR2 HB8 HFd HKb ⊢
  clear HF7 HR1e HR2e HB7 HFc HW7 HZ2 HFBe HKBe
  have y4 : w8.cell? ⟨kb, 4, none⟩ = some (.func (.func 120) #[] #[]) := by rw [cell_of_row w8 kb 4 _ _ _ HKb.out]; rfl
  go_wp2_with (refine ld_row (by rfl) 65 (.tmp 6) (by rfl) fb (by rfl) (fcells (kF 5) nS) 65 HFd.out _ Tryz.underlying65 rfl (frame_size (kF 5) nS rfl) ?_)
  refine (readBye_any w0.heap.size b rb v bs (oS bs 6 (A4, 0, 0)).2 w8 HBL.out HF8.out).mono ?_
  rintro e w9 ⟨va, rfl, hoa, hf9, hg9⟩
  have HLb8 : Hid (b < w8.heap.size) := hid HF8.out.lt.1
  have HLr8 : Hid (rb < w8.heap.size) := hid HF8.out.lt.2.1
  have HLk8 : Hid (kb < w8.heap.size) := hid (hp_lt HKb.out)
  have HS9 : Hid (w8.heap.size ≤ w9.heap.size) := hid hg9.size
  have HOA := hid hoa
  have HF9 := hid hf9
  have HR1f := hid (hg9.keep HR1.out (by have := HLb.out; omega) (by have := HLr.out; omega))
  have HR2f := hid (hg9.keep HR2.out (by have := HLb.out; omega) (by have := HLr.out; omega))
  have HB9 := hid (hg9.below HB8.out (by have := HLb.out; have := HAA.out; omega) (by have := HLr.out; have := HAA.out; omega))
  have HFe := hid (hg9.keep HFd.out (by have := HLf0.out; omega) (by have := HLf0.out; have := HLrb.out; omega))
  have HKc := hid (hg9.keep HKb.out (by have := HLk.out; have := HLf0.out; omega) (by have := HLk.out; have := HLf0.out; have := HLrb.out; omega))
  have HTL := hid (show (fieldsP bs 5 (oS bs 6 (A4, 0, 0)).2).1.tool.length = 32 from fieldsP_tool bs 5 (oS bs 6 (A4, 0, 0)).2)
  obtain ⟨aV, cV, eV⟩ := wowns_shape hoa
  have HSZ := hid (frame_size (fieldsP bs 5 (oS bs 6 (A4, 0, 0)).2).1 va HTL.out)
  have HON := hid (fcells_one (fieldsP bs 5 (oS bs 6 (A4, 0, 0)).2).1 va (by rw [eV]; rfl))
  have HOS := hid (show (fcells (kF 5) nS).toArray.size = (fcells (fieldsP bs 5 (oS bs 6 (A4, 0, 0)).2).1 va).length by rw [fcells_length _ _ HTL.out]; rfl)
  obtain ⟨FF, HFF⟩ : ∃ L, Hid (fcells (fieldsP bs 5 (oS bs 6 (A4, 0, 0)).2).1 va = L) := ⟨_, rfl⟩
  rw [HFF.out] at HSZ HON HOS ⊢
  have HFV : Hid (∀ k, v.ownBlock = some k → k < fb) := hid (fun k hk => by have := HVO.out k hk; omega)
  clear hoa hf9 hg9 HF8 HR1 HR2 HB8 HFd HKb y4 eV
  go_upto_region 9 with (refine st_row (by rfl) 65 _ _ (by rfl) fb FF (by rfl) (by rfl) 65 _ HFe.out HSZ.out HOS.out HON.out ?_; intro w10 hw10)
  have HF10 := hid (HF9.out.far hw10.grown (by have := HLf0.out; omega) (by have := HLf0.out; have := HLrb.out; omega) (fun k hk => by have := HFV.out k hk; omega))
  have HR1g := hid (gb_keep hw10.grown HR1f.out (by have := HLf0.out; have := HLb.out; omega))
  have HR2g := hid (gb_keep hw10.grown HR2f.out (by have := HLf0.out; have := HLb.out; omega))
  have HKd := hid (gb_keep hw10.grown HKc.out (by have := HLk.out; omega))
  have HB10 := hid (Below.of_gb HB9.out hw10.grown (by have := HLf0.out; have := HLb.out; have := HAA.out; omega))
  have HFf := hid hw10.blk
  have HOA2 := hid (WOwnS.far HOA.out hw10.grown (fun j e => by injection e with e; have := HLk.out; have := HLk8.out; omega))
  have HS10 : Hid (w8.heap.size ≤ w10.heap.size) := hid (by have := hw10.size; have := HS9.out; omega)
  clear hw10 HF9 HR1f HR2f HKc HB9 HFe HOA HOS HS9
  go_wp2_with fail
  refine (fd_end w0.heap.size b rb v bs _ w10 HF10.out).mono ?_
  rintro e w11 ⟨rfl, hg11⟩
  have HR1h := hid (hg11.keep HR1g.out (by have := HLb.out; omega) (by have := HLr.out; omega))
  have HR2h := hid (hg11.keep HR2g.out (by have := HLb.out; omega) (by have := HLr.out; omega))
  have HB11 := hid (hg11.below HB10.out (by have := HLb.out; have := HAA.out; omega) (by have := HLr.out; have := HAA.out; omega))
  have HFg := hid (hg11.keep HFf.out (by have := HLf0.out; omega) (by have := HLf0.out; have := HLrb.out; omega))
  have HKe := hid (hg11.keep HKd.out (by have := HLk.out; have := HLf0.out; omega) (by have := HLk.out; have := HLf0.out; have := HLrb.out; omega))
  have HOA3 := hid (wowns_g2 HOA2.out hg11 HLb8.out HLr8.out)
  have HS11 : Hid (w8.heap.size ≤ w11.heap.size) := hid (by have := hg11.size; have := HS10.out; omega)
  obtain ⟨E1, HE1⟩ : ∃ x, Hid ((eS bs (fieldsP bs 5 (oS bs 6 (A4, 0, 0)).2).2).1 = x) := ⟨_, rfl⟩
  obtain ⟨E2, HE2⟩ : ∃ x, Hid ((eS bs (fieldsP bs 5 (oS bs 6 (A4, 0, 0)).2).2).2 = x) := ⟨_, rfl⟩
  rw [HE1.out, HE2.out]
  clear hg11 HF10 HR1g HR2g HB10 HFf HKd HOA2 HS10
  go_upto_region 10 with fail
  have HWT := hid (below_walk w11 (.cells #[.int .i64 E1, .int .i64 E2] 30))
  have HR1i := hid (bel_keep HWT.out HR1h.out)
  have HR2i := hid (bel_keep HWT.out HR2h.out)
  have HB12 := hid (below_then HB11.out HWT.out)
  have HFh := hid (bel_keep HWT.out HFg.out)
  have HKf := hid (bel_keep HWT.out HKe.out)
  have HOA4 := hid (HOA3.out.alloc (.cells #[.int .i64 E1, .int .i64 E2] 30))
  have HTB0 := hid (hp_new w11 (.cells #[.int .i64 E1, .int .i64 E2] 30))
  have HLt0 : Hid (kb < w11.heap.size) := hid (hp_lt HKe.out)
  obtain ⟨tb, HTBe⟩ : ∃ b, Hid (w11.heap.size = b) := ⟨_, rfl⟩
  rw [HTBe.out] at HTB0 HLt0 ⊢
  generalize w11.alloc (.cells #[.int .i64 E1, .int .i64 E2] 30) = w12 at HR1i HR2i HB12 HFh HKf HOA4 HTB0 ⊢
  have HLt : Hid (A + 2 ≤ tb) := hid (by have := HLt0.out; have := HLk.out; have := HLf0.out; have := HLb.out; omega)
  have HL8t : Hid (w8.heap.size ≤ tb) := hid (by have := HS11.out; have := HTBe.out; omega)
  clear HR1h HR2h HB11 HFg HKe HOA3 HWT HTBe HS11
  have t0 : w12.cell? ⟨tb, 0, none⟩ = some (.int .i64 E1) := by simp [World.cell?, HTB0.out]
  have t1 : w12.cell? ⟨tb, 1, none⟩ = some (.int .i64 E2) := by simp [World.cell?, HTB0.out]
  have f0 := row_fz HTB0.out 0
  have f1 := row_fz HTB0.out 1
  by_cases hE : E1 = 0
  · obtain ⟨M, HM⟩ : ∃ M, Hid (mayF (fieldsP bs 5 (oS bs 6 (A4, 0, 0)).2).1 = M) := ⟨_, rfl⟩
    have HST := hid (wowns_strs HOA4.out)
    have HMN : Hid ((fieldsP bs 5 (oS bs 6 (A4, 0, 0)).2).1.args.length ≤ 9223372036854775807) := hid (wowns_len HOA4.out)
    have HMAY := hid (show Calls Tryz.prog 115 #[.agg FF.toArray] w12 fun e w' => e = .returned (.bool M) ∧ Below w12.heap.size w12 w' by
      rw [← HM.out, mayF_5 _ (fieldsP_kind bs 5 (oS bs 6 (A4, 0, 0)).2 (by omega)), ← HFF.out]
      exact mayAlways_any _ w12)
    subst hE
    have y2 : w12.cell? ⟨kb, 2, none⟩ = some (.func (.func 115) #[] #[]) := by rw [cell_of_row w12 kb 2 _ _ _ HKf.out]; rfl
    have HRG := hid (range_row HFh.out)
    clear HST HMN
    go_wp2_with (refine ld_gd (by rfl) 65 (.tmp 6) (by rfl) fb 0 (by rfl) FF _ HRG.out Tryz.underlying65 rfl HSZ.out ?_)
    refine HMAY.out.mono ?_
    rintro e w13 ⟨rfl, hb13⟩
    have HR1z := hid (bel_keep hb13 HR1i.out)
    have HR2z := hid (bel_keep hb13 HR2i.out)
    have HBz := hid (below_then HB12.out hb13)
    have HFz := hid (bel_keep hb13 HFh.out)
    have HTBz := hid (bel_keep hb13 HTB0.out)
    have HOAz := hid (WOwnS.far HOA4.out (below_gb hb13 none) (fun j e => by cases e))
    clear hb13 HR1i HR2i HB12 HFh HTB0 HKf HOA4 HMAY HRG y2 t0 t1 f0 f1
    have t0 : w13.cell? ⟨tb, 0, none⟩ = some (.int .i64 0) := by simp [World.cell?, HTBz.out]
    have t1 : w13.cell? ⟨tb, 1, none⟩ = some (.int .i64 E2) := by simp [World.cell?, HTBz.out]
    have f0 := row_fz HTBz.out 0
    have f1 := row_fz HTBz.out 1
    cases M with
    | true =>
      as_aux_lemma =>
        have HFP := hid (frameP_ok bs A4 5 HK.out (by omega) HE1.out HM.out)
        go_wp2_with (first
          | (refine ld_row (by rfl) 65 (.tmp 6) (by rfl) fb (by rfl) FF 65 HFz.out _ Tryz.underlying65 rfl HSZ.out ?_)
          | (refine bd_row (by rfl) 30 #[] (by rfl) _ (by simp [Act.eval]) _ built_fz ?_)
          | (refine st_row (by rfl) 65 _ _ (by rfl) A FF (by rfl) (by rfl) 65 _ HR1z.out HSZ.out (by rw [← HFF.out, fcells_length _ _ HTL.out]; rfl) HON.out ?_; intro w14 hw14)
          | (refine st_row (by rfl) 30 _ _ (by rfl) (A + 1) [Value.int .i64 0, .int .i64 0] (by rfl) (by rfl) 30 _ (gb_keep hw14.grown HR2z.out (by omega)) faultSize rfl (fault_one _ _) ?_; intro w15 hw15))
        refine ret_cc 2 3 65 30 rfl A rfl (A + 1) rfl FF 65 (gb_keep hw15.grown hw14.blk (by omega)) _ Tryz.underlying65 rfl HSZ.out _ 30 hw15.blk _ Tryz.underlying30 rfl faultSize rfl ?_
        rw [HFP.out]
        refine ⟨va, by rw [← HFF.out]; rfl, ?_, Below.of_gb (Below.of_gb HBz.out hw14.grown (by have := HAA.out; omega)) hw15.grown (by have := HAA.out; omega)⟩
        exact (WOwnS.far (WOwnS.far HOAz.out hw14.grown (fun j e => by injection e with e; have := HLk8.out; have := HLk.out; have := HLf0.out; have := HLb.out; omega)) hw15.grown (fun j e => by injection e with e; have := HLk8.out; have := HLk.out; have := HLf0.out; have := HLb.out; omega)).le (by have := HLk8.out; have := HLk.out; have := HLf0.out; have := HLb.out; have := HAA.out; omega)
    | false =>
      as_aux_lemma =>
        have HFP := hid (frameP_may bs A4 5 HK.out (by omega) HE1.out HM.out)
        go_upto_region 12 with (first
          | (refine bd_row (by rfl) 30 #[(0, .const (.int .i64 70)), (1, .tmp 55)] (by rfl) _ (by simp [Act.eval]) _ (built_ft 70 (A4 : Int)) ?_)
          | (refine st_row (by rfl) 30 _ _ (by rfl) tb [Value.int .i64 70, .int .i64 (A4 : Int)] (by rfl) (by rfl) 30 _ HTBz.out faultSize rfl (fault_one _ _) ?_; intro w14 hw14))
        have HTB := hid hw14.blk
        have HR1y := hid (gb_keep hw14.grown HR1z.out (by have := HLt.out; omega))
        have HR2y := hid (gb_keep hw14.grown HR2z.out (by have := HLt.out; omega))
        have HBy := hid (Below.of_gb HBz.out hw14.grown (by have := HLt.out; have := HAA.out; omega))
        clear hw14 HR1z HR2z HBz t0 t1 f0 f1
        have HR1z := hid HR1y.out
        have HR2z := hid HR2y.out
        have HBz := hid HBy.out
        have t0 : w14.cell? ⟨tb, 0, none⟩ = some (.int .i64 70) := by simp [World.cell?, HTB.out]
        go_upto_region 13 with fail
        have HTBc := hid HTB.out
        refine wp_noPanic (wp_region_held_drew (S := fun W => W.heap[tb]? = some (.cells [Value.int .i64 70, .int .i64 (A4 : Int)].toArray 30 (0, 0))) (by kernel_rfl) HTBc.out ?_)
        intro hHeld
        refine wpAnyH_take (i := 0) (v := .agg (fcells zF nS).toArray) rfl (by kernel_rfl) (by kernel_rfl) (by kernel_rfl) (fun _ _ _ h => h) (yields_build (by rfl) 65 #[] (by rfl) _ (by simp [Act.eval]) _ built_zf) hHeld ?_
        simp only [Act.put, List.getElem_toArray, List.getElem_cons_zero, List.setIfInBounds_toArray, List.set_cons_succ, List.set_cons_zero]
        refine wpAnyH_take (i := 1) (v := .agg [Value.int .i64 70, .int .i64 (A4 : Int)].toArray) rfl (by kernel_rfl) (by kernel_rfl) (by kernel_rfl) (fun _ _ _ h => h) (yieldsIf_load_mid (by rfl) 30 (.tmp 9) rfl tb 0 rfl [Value.int .i64 70, .int .i64 (A4 : Int)] _ (fun W hW => range_row hW) Tryz.underlying30 rfl faultSize) hHeld ?_
        simp only [Act.put, List.getElem_toArray, List.getElem_cons_zero, List.getElem_cons_succ, List.setIfInBounds_toArray, List.set_cons_succ, List.set_cons_zero]
        obtain ⟨wx, HWX⟩ : ∃ x, Hid (w14.drew = x) := ⟨_, rfl⟩
        have HR1x := hid (show w14.drew.heap[A]? = _ from HR1z.out)
        have HR2x := hid (show w14.drew.heap[A + 1]? = _ from HR2z.out)
        have HTBx := hid (show w14.drew.heap[tb]? = some (.cells [Value.int .i64 70, .int .i64 (A4 : Int)].toArray 30 (0, 0)) from HTB.out)
        have HBx := hid (show Below w.heap.size w w14.drew from below_tr HBz.out ⟨rfl, rfl, rfl, Nat.le_refl _, fun _ _ => rfl⟩)
        rw [HWX.out] at hHeld HR1x HR2x HTBx HBx ⊢
        refine wpAnyH_ready (rs := [2]) (by kernel_rfl) (by simp) ?_
        refine AllReadyH.cons rfl (fun K9 hK9 => ?_) AllReadyH.nil
        refine step_store_row (by rfl) 65 _ _ (by rfl) A (fcells zF nS) (by rfl) (by rfl) 65 _ HR1x.out (frame_size zF nS rfl) rfl (fcells_one zF nS rfl) ?_
        intro wy hwy
        refine hK9.out _ _ (gb_keep hwy.grown HTBx.out (by have := HLt.out; omega)) (fun hHeld => ?_)
        clear hK9 K9
        try simp only [Act.put, List.getElem_toArray, List.getElem_cons_zero, List.getElem_cons_succ]
        refine wpAnyH_ready (rs := [3]) (by kernel_rfl) (by simp) ?_
        refine AllReadyH.cons rfl (fun K9 hK9 => ?_) AllReadyH.nil
        refine step_store_row (by rfl) 30 _ _ (by rfl) (A + 1) [Value.int .i64 70, .int .i64 (A4 : Int)] (by rfl) (by rfl) 30 _ (gb_keep hwy.grown HR2x.out (by omega)) faultSize rfl (fault_one _ _) ?_
        intro wz hwz
        refine hK9.out _ _ (gb_keep hwz.grown (gb_keep hwy.grown HTBx.out (by have := HLt.out; omega)) (by have := HLt.out; omega)) (fun hHeld => ?_)
        clear hK9 K9
        try simp only [Act.put, List.getElem_toArray, List.getElem_cons_zero, List.getElem_cons_succ]
        refine wpAnyH_done (by kernel_rfl) ?_ _
        simp only [noPanic]
        clear hHeld
        go_wp2
        refine ret_cc 2 3 65 30 rfl A rfl (A + 1) rfl (fcells zF nS) 65 (gb_keep hwz.grown hwy.blk (by omega)) _ Tryz.underlying65 rfl (frame_size zF nS rfl) _ 30 hwz.blk _ Tryz.underlying30 rfl faultSize rfl ?_
        rw [HFP.out]
        refine ⟨nS, rfl, World.ownsRow_nil _ _ _ _, ?_⟩
        exact Below.of_gb (Below.of_gb HBx.out hwy.grown (by have := HAA.out; omega)) hwz.grown (by have := HAA.out; omega)

  · as_aux_lemma =>
      have q1 : (E1 == 0) = false := by simpa using hE
      have q2 : (E1 != 0) = true := by simpa using hE
      have HFP := hid (show frameP bs A4 = (zF, E1, E2) by
        rw [frameP_bad bs A4 5 HK.out (by omega) (show (eS bs (fieldsP bs 5 (oS bs 6 (A4, 0, 0)).2).2).1 ≠ 0 by rw [HE1.out]; exact hE), ← HE1.out, ← HE2.out]; rfl)
      have HR1z := hid HR1i.out
      have HR2z := hid HR2i.out
      have HBz := hid HB12.out
      have HTB := hid (show w12.heap[tb]? = some (.cells [Value.int .i64 E1, .int .i64 E2].toArray 30 (0, 0)) from HTB0.out)
      clear hE
      go_upto_region 13 with fail
      have HTBc := hid HTB.out
      refine wp_noPanic (wp_region_held_drew (S := fun W => W.heap[tb]? = some (.cells [Value.int .i64 E1, .int .i64 E2].toArray 30 (0, 0))) (by kernel_rfl) HTBc.out ?_)
      intro hHeld
      refine wpAnyH_take (i := 0) (v := .agg (fcells zF nS).toArray) rfl (by kernel_rfl) (by kernel_rfl) (by kernel_rfl) (fun _ _ _ h => h) (yields_build (by rfl) 65 #[] (by rfl) _ (by simp [Act.eval]) _ built_zf) hHeld ?_
      simp only [Act.put, List.getElem_toArray, List.getElem_cons_zero, List.setIfInBounds_toArray, List.set_cons_succ, List.set_cons_zero]
      refine wpAnyH_take (i := 1) (v := .agg [Value.int .i64 E1, .int .i64 E2].toArray) rfl (by kernel_rfl) (by kernel_rfl) (by kernel_rfl) (fun _ _ _ h => h) (yieldsIf_load_mid (by rfl) 30 (.tmp 9) rfl tb 0 rfl [Value.int .i64 E1, .int .i64 E2] _ (fun W hW => range_row hW) Tryz.underlying30 rfl faultSize) hHeld ?_
      simp only [Act.put, List.getElem_toArray, List.getElem_cons_zero, List.getElem_cons_succ, List.setIfInBounds_toArray, List.set_cons_succ, List.set_cons_zero]
      obtain ⟨wx, HWX⟩ : ∃ x, Hid (w12.drew = x) := ⟨_, rfl⟩
      have HR1x := hid (show w12.drew.heap[A]? = _ from HR1z.out)
      have HR2x := hid (show w12.drew.heap[A + 1]? = _ from HR2z.out)
      have HTBx := hid (show w12.drew.heap[tb]? = some (.cells [Value.int .i64 E1, .int .i64 E2].toArray 30 (0, 0)) from HTB.out)
      have HBx := hid (show Below w.heap.size w w12.drew from below_tr HBz.out ⟨rfl, rfl, rfl, Nat.le_refl _, fun _ _ => rfl⟩)
      rw [HWX.out] at hHeld HR1x HR2x HTBx HBx ⊢
      refine wpAnyH_ready (rs := [2]) (by kernel_rfl) (by simp) ?_
      refine AllReadyH.cons rfl (fun K9 hK9 => ?_) AllReadyH.nil
      refine step_store_row (by rfl) 65 _ _ (by rfl) A (fcells zF nS) (by rfl) (by rfl) 65 _ HR1x.out (frame_size zF nS rfl) rfl (fcells_one zF nS rfl) ?_
      intro wy hwy
      refine hK9.out _ _ (gb_keep hwy.grown HTBx.out (by have := HLt.out; omega)) (fun hHeld => ?_)
      clear hK9 K9
      try simp only [Act.put, List.getElem_toArray, List.getElem_cons_zero, List.getElem_cons_succ]
      refine wpAnyH_ready (rs := [3]) (by kernel_rfl) (by simp) ?_
      refine AllReadyH.cons rfl (fun K9 hK9 => ?_) AllReadyH.nil
      refine step_store_row (by rfl) 30 _ _ (by rfl) (A + 1) [Value.int .i64 E1, .int .i64 E2] (by rfl) (by rfl) 30 _ (gb_keep hwy.grown HR2x.out (by omega)) faultSize rfl (fault_one _ _) ?_
      intro wz hwz
      refine hK9.out _ _ (gb_keep hwz.grown (gb_keep hwy.grown HTBx.out (by have := HLt.out; omega)) (by have := HLt.out; omega)) (fun hHeld => ?_)
      clear hK9 K9
      try simp only [Act.put, List.getElem_toArray, List.getElem_cons_zero, List.getElem_cons_succ]
      refine wpAnyH_done (by kernel_rfl) ?_ _
      simp only [noPanic]
      clear hHeld
      go_wp2
      refine ret_cc 2 3 65 30 rfl A rfl (A + 1) rfl (fcells zF nS) 65 (gb_keep hwz.grown hwy.blk (by omega)) _ Tryz.underlying65 rfl (frame_size zF nS rfl) _ 30 hwz.blk _ Tryz.underlying30 rfl faultSize rfl ?_
      rw [HFP.out]
      refine ⟨nS, rfl, World.ownsRow_nil _ _ _ _, ?_⟩
      exact Below.of_gb (Below.of_gb HBx.out hwy.grown (by have := HAA.out; omega)) hwz.grown (by have := HAA.out; omega)

end Go.Proofs.YtiibhccbbpgehabGreat

/- readFrame, where the kind that is read is 6. -/
namespace Go.Proofs.YtiibhccbbpgehabGreat
open Go.RowKit Go.BigFrame

set_option maxRecDepth 100000 in
set_option maxHeartbeats 8000000 in
theorem readFrame_6 (v0 : Value) (bs : List UInt8) (head N : Nat) (w : World) (hs : Src w v0 bs) (hbl : bs.length ≤ 1099511627776) (hu : uS bs (0, 0, 0) = (N, head, 0, 0)) (hK : (oS bs 6 (head, 0, 0)).1 = 6) :
    Calls Tryz.prog 79 #[v0] w fun e w' => ∃ va, e = .returned (.tuple #[.agg (fcells (frameP bs head).1 va).toArray, .agg #[.int .i64 (frameP bs head).2.1, .int .i64 (frameP bs head).2.2]]) ∧ WOwnS w' w.heap.size va (frameP bs head).1.args ∧ Below w.heap.size w w' := by
  obtain ⟨va0, c0, rfl⟩ := src_shape hs
  obtain ⟨L0, HL0⟩ : ∃ n, Hid (bs.length = n) := ⟨_, rfl⟩
  obtain ⟨A, HAA⟩ : ∃ n, Hid (w.heap.size = n) := ⟨_, rfl⟩
  have HB0 := hid (below_walk2 w (.cells (fcells zF nS).toArray 65) (.cells #[.int .i64 0, .int .i64 0] 30))
  have HNB := hid (hp_two w (.cells (fcells zF nS).toArray 65) (.cells #[.int .i64 0, .int .i64 0] 30))
  have HZ : Hid ((w.alloc (.cells (fcells zF nS).toArray 65)).heap.size = w.heap.size + 1) := hid (by simp)
  have HZ2 : Hid (((w.alloc (.cells (fcells zF nS).toArray 65)).alloc (.cells #[.int .i64 0, .int .i64 0] 30)).heap.size = w.heap.size + 2) := hid (by simp)
  have HNR := hid (newReader_any _ bs _ (hs.below HB0.out))
  have HU := hid hu
  have HK := hid hK
  have HBL := hid hbl
  clear hs hbl hu hK
  go_enter Tryz.func79, Tryz.ntmps79
  go_upto_region 1 with (refine al_row (by rfl) 65 (by rfl) _ zeroFrame ?_)
  try rw [HZ.out]
  generalize (w.alloc (.cells (fcells zF nS).toArray 65)).alloc (.cells #[.int .i64 0, .int .i64 0] 30) = w0 at HB0 HNB HZ2 HNR ⊢
  rw [HAA.out] at HNB HZ2 ⊢
  have HR1 := hid HNB.out.1
  have HR2 := hid HNB.out.2
  clear HNB HZ
  go_wp2_with fail
  refine HNR.out.mono ?_
  rintro e w1 ⟨rb, v, rfl, hr1, hb1⟩
  obtain ⟨b, HBb⟩ : ∃ b, Hid (w1.heap.size = b) := ⟨_, rfl⟩
  have HLb : Hid (A + 2 ≤ b) := hid (by have := hb1.size; have := HZ2.out; have := HBb.out; omega)
  have HLr : Hid (A + 2 ≤ rb) := hid (by have := hr1.lo; have := HZ2.out; omega)
  have HLrb : Hid (rb < b) := hid (by have := hr1.lt; have := HBb.out; omega)
  have HAW := hid (below_walk w1 (.cells #[.pointer (some ⟨rb, 0, none⟩), .int .i64 0, .int .i64 0] 148))
  have HFD := hid (show Fd (w1.alloc (.cells #[.pointer (some ⟨rb, 0, none⟩), .int .i64 0, .int .i64 0] 148)) w0.heap.size b rb v bs (0, 0, 0) from ⟨0, 0, 0, 0, 0, hr1.below HAW.out, HBb.out ▸ hp_new w1 _, by have := HLrb.out; omega, fun e => by have := (hr1.own.lt _ e).2; have := HBb.out; omega, by have := hb1.size; have := HBb.out; omega, Or.inl ⟨rfl, rfl⟩⟩)
  have HR1a := hid (bel_keep HAW.out (bel_keep hb1 HR1.out))
  have HR2a := hid (bel_keep HAW.out (bel_keep hb1 HR2.out))
  have HB1 := hid (below_then (below_then HB0.out hb1) HAW.out)
  clear hr1 hb1 HR1 HR2 HB0 HNR HAW
  go_upto_region 2 with fail
  rw [HBb.out]
  generalize w1.alloc (.cells #[.pointer (some ⟨rb, 0, none⟩), .int .i64 0, .int .i64 0] 148) = w2 at HFD HR1a HR2a HB1 ⊢
  have p2 := HFD.out.ptr
  go_wp2_with fail
  refine (fd_uint HFD.out).mono ?_
  rintro e w3 ⟨rfl, hf3, hg3⟩
  rw [HU.out] at hf3
  have HF3 := hid (show Fd w3 w0.heap.size b rb v bs (head, 0, 0) from hf3)
  have HR1b := hid (gb_keep hg3 HR1a.out (by have := HLr.out; omega))
  have HR2b := hid (gb_keep hg3 HR2a.out (by have := HLr.out; omega))
  have HB3 := hid (Below.of_gb HB1.out hg3 (by have := HLr.out; have := HAA.out; omega))
  clear hf3 hg3 p2 HFD HR1a HR2a HB1
  have p3 := HF3.out.ptr
  go_wp2_with fail
  refine (fd_at HF3.out).mono ?_
  rintro e w4 ⟨A4, rfl, hw4, hA4⟩
  have hw4 := hw4.symm
  subst hw4
  obtain rfl : A4 = head := hA4 rfl
  clear hA4 p3
  go_wp2_with fail
  refine (fd_some w0.heap.size b rb v bs (A4, 0, 0) 6 w3 (by omega) HF3.out).mono ?_
  rintro e w5 ⟨rfl, hf5, hg5⟩
  rw [show ((oS bs 6 (A4, 0, 0)).1 : Int) = 6 by rw [HK.out]; rfl]
  have HF5 := hid hf5
  have HR1c := hid (hg5.keep HR1b.out (by have := HLb.out; omega) (by have := HLr.out; omega))
  have HR2c := hid (hg5.keep HR2b.out (by have := HLb.out; omega) (by have := HLr.out; omega))
  have HB5 := hid (hg5.below HB3.out (by have := HLb.out; have := HAA.out; omega) (by have := HLr.out; have := HAA.out; omega))
  clear hf5 hg5 HF3 HR1b HR2b HB3
  go_upto_region 5 with (first
    | (refine bd_row (by rfl) 65 #[(0, .tmp 25)] (by rfl) _ (by simp [Act.eval]) _ built_k6 ?_)
    | (refine al_row (by rfl) 65 (by rfl) _ zeroFrame ?_)
    | (refine st_new (by rfl) 65 _ _ (by rfl) (fcells (kF 6) nS) (by rfl) (by rfl) 65 _ (frame_size (kF 6) nS rfl) rfl (fcells_one (kF 6) nS rfl) ?_))
  have HW5 := hid (below_walk w5 (.cells (fcells (kF 6) nS).toArray 65))
  have HF6 := hid (HF5.out.below HW5.out)
  have HR1d := hid (bel_keep HW5.out HR1c.out)
  have HR2d := hid (bel_keep HW5.out HR2c.out)
  have HB6 := hid (below_then HB5.out HW5.out)
  have HFb := hid (hp_new w5 (.cells (fcells (kF 6) nS).toArray 65))
  have HLf0 : Hid (b < w5.heap.size) := hid HF5.out.lt.1
  have HVO0 := hid HF5.out.own
  obtain ⟨fb, HFBe⟩ : ∃ b, Hid (w5.heap.size = b) := ⟨_, rfl⟩
  rw [HFBe.out] at HFb HLf0 HVO0 ⊢
  have HVO : Hid (∀ k, v.ownBlock = some k → k < fb) := hid HVO0.out
  generalize w5.alloc (.cells (fcells (kF 6) nS).toArray 65) = w6 at HF6 HR1d HR2d HB6 HFb ⊢
  clear HF5 HR1c HR2c HB5 HW5
  have x0 : w6.cell? ⟨fb, 0, none⟩ = some (.int .i64 6) := (Fb.of HFb.out rfl).k
  go_wp2_with fail
  refine (kindOf_6 w6).mono ?_
  rintro e w7 ⟨rfl, hb7⟩
  have HF7 := hid (HF6.out.below hb7)
  have HR1e := hid (bel_keep hb7 HR1d.out)
  have HR2e := hid (bel_keep hb7 HR2d.out)
  have HB7 := hid (below_then HB6.out hb7)
  have HFc := hid (bel_keep hb7 HFb.out)
  clear hb7 HF6 HR1d HR2d HB6 HFb x0
  go_upto_region 6 with (first
    | (refine al_row (by rfl) 153 (by rfl) _ zeroKind ?_)
    | (refine st_new (by rfl) 153 _ _ (by rfl) k6 (by rfl) (by rfl) 153 _ kindSize rfl (kOf_one 6) ?_))
  have HW7 := hid (below_walk w7 (.cells (k6).toArray 153))
  have HF8 := hid (HF7.out.below HW7.out)
  have HR1 := hid (bel_keep HW7.out HR1e.out)
  have HR2 := hid (bel_keep HW7.out HR2e.out)
  have HB8 := hid (below_then HB7.out HW7.out)
  have HFd := hid (bel_keep HW7.out HFc.out)
  have HKb := hid (hp_new w7 (.cells (k6).toArray 153))
  have HLk : Hid (fb < w7.heap.size) := hid (hp_lt HFc.out)
  obtain ⟨kb, HKBe⟩ : ∃ b, Hid (w7.heap.size = b) := ⟨_, rfl⟩
  rw [HKBe.out] at HKb HLk ⊢
  generalize w7.alloc (.cells (k6).toArray 153) = w8 at HF8 HR1 HR2 HB8 HFd HKb ⊢
  clear HF7 HR1e HR2e HB7 HFc HW7 HZ2 HFBe HKBe
  have y4 : w8.cell? ⟨kb, 4, none⟩ = some (.func (.func 123) #[] #[]) := by rw [cell_of_row w8 kb 4 _ _ _ HKb.out]; rfl
  go_wp2_with (refine ld_row (by rfl) 65 (.tmp 6) (by rfl) fb (by rfl) (fcells (kF 6) nS) 65 HFd.out _ Tryz.underlying65 rfl (frame_size (kF 6) nS rfl) ?_)
  refine (readNote_any w0.heap.size b rb v bs (oS bs 6 (A4, 0, 0)).2 w8 HBL.out HF8.out).mono ?_
  rintro e w9 ⟨va, rfl, hoa, hf9, hg9⟩
  have HLb8 : Hid (b < w8.heap.size) := hid HF8.out.lt.1
  have HLr8 : Hid (rb < w8.heap.size) := hid HF8.out.lt.2.1
  have HLk8 : Hid (kb < w8.heap.size) := hid (hp_lt HKb.out)
  have HS9 : Hid (w8.heap.size ≤ w9.heap.size) := hid hg9.size
  have HOA := hid hoa
  have HF9 := hid hf9
  have HR1f := hid (hg9.keep HR1.out (by have := HLb.out; omega) (by have := HLr.out; omega))
  have HR2f := hid (hg9.keep HR2.out (by have := HLb.out; omega) (by have := HLr.out; omega))
  have HB9 := hid (hg9.below HB8.out (by have := HLb.out; have := HAA.out; omega) (by have := HLr.out; have := HAA.out; omega))
  have HFe := hid (hg9.keep HFd.out (by have := HLf0.out; omega) (by have := HLf0.out; have := HLrb.out; omega))
  have HKc := hid (hg9.keep HKb.out (by have := HLk.out; have := HLf0.out; omega) (by have := HLk.out; have := HLf0.out; have := HLrb.out; omega))
  have HTL := hid (show (fieldsP bs 6 (oS bs 6 (A4, 0, 0)).2).1.tool.length = 32 from fieldsP_tool bs 6 (oS bs 6 (A4, 0, 0)).2)
  obtain ⟨aV, cV, eV⟩ := wowns_shape hoa
  have HSZ := hid (frame_size (fieldsP bs 6 (oS bs 6 (A4, 0, 0)).2).1 va HTL.out)
  have HON := hid (fcells_one (fieldsP bs 6 (oS bs 6 (A4, 0, 0)).2).1 va (by rw [eV]; rfl))
  have HOS := hid (show (fcells (kF 6) nS).toArray.size = (fcells (fieldsP bs 6 (oS bs 6 (A4, 0, 0)).2).1 va).length by rw [fcells_length _ _ HTL.out]; rfl)
  obtain ⟨FF, HFF⟩ : ∃ L, Hid (fcells (fieldsP bs 6 (oS bs 6 (A4, 0, 0)).2).1 va = L) := ⟨_, rfl⟩
  rw [HFF.out] at HSZ HON HOS ⊢
  have HFV : Hid (∀ k, v.ownBlock = some k → k < fb) := hid (fun k hk => by have := HVO.out k hk; omega)
  clear hoa hf9 hg9 HF8 HR1 HR2 HB8 HFd HKb y4 eV
  go_upto_region 9 with (refine st_row (by rfl) 65 _ _ (by rfl) fb FF (by rfl) (by rfl) 65 _ HFe.out HSZ.out HOS.out HON.out ?_; intro w10 hw10)
  have HF10 := hid (HF9.out.far hw10.grown (by have := HLf0.out; omega) (by have := HLf0.out; have := HLrb.out; omega) (fun k hk => by have := HFV.out k hk; omega))
  have HR1g := hid (gb_keep hw10.grown HR1f.out (by have := HLf0.out; have := HLb.out; omega))
  have HR2g := hid (gb_keep hw10.grown HR2f.out (by have := HLf0.out; have := HLb.out; omega))
  have HKd := hid (gb_keep hw10.grown HKc.out (by have := HLk.out; omega))
  have HB10 := hid (Below.of_gb HB9.out hw10.grown (by have := HLf0.out; have := HLb.out; have := HAA.out; omega))
  have HFf := hid hw10.blk
  have HOA2 := hid (WOwnS.far HOA.out hw10.grown (fun j e => by injection e with e; have := HLk.out; have := HLk8.out; omega))
  have HS10 : Hid (w8.heap.size ≤ w10.heap.size) := hid (by have := hw10.size; have := HS9.out; omega)
  clear hw10 HF9 HR1f HR2f HKc HB9 HFe HOA HOS HS9
  go_wp2_with fail
  refine (fd_end w0.heap.size b rb v bs _ w10 HF10.out).mono ?_
  rintro e w11 ⟨rfl, hg11⟩
  have HR1h := hid (hg11.keep HR1g.out (by have := HLb.out; omega) (by have := HLr.out; omega))
  have HR2h := hid (hg11.keep HR2g.out (by have := HLb.out; omega) (by have := HLr.out; omega))
  have HB11 := hid (hg11.below HB10.out (by have := HLb.out; have := HAA.out; omega) (by have := HLr.out; have := HAA.out; omega))
  have HFg := hid (hg11.keep HFf.out (by have := HLf0.out; omega) (by have := HLf0.out; have := HLrb.out; omega))
  have HKe := hid (hg11.keep HKd.out (by have := HLk.out; have := HLf0.out; omega) (by have := HLk.out; have := HLf0.out; have := HLrb.out; omega))
  have HOA3 := hid (wowns_g2 HOA2.out hg11 HLb8.out HLr8.out)
  have HS11 : Hid (w8.heap.size ≤ w11.heap.size) := hid (by have := hg11.size; have := HS10.out; omega)
  obtain ⟨E1, HE1⟩ : ∃ x, Hid ((eS bs (fieldsP bs 6 (oS bs 6 (A4, 0, 0)).2).2).1 = x) := ⟨_, rfl⟩
  obtain ⟨E2, HE2⟩ : ∃ x, Hid ((eS bs (fieldsP bs 6 (oS bs 6 (A4, 0, 0)).2).2).2 = x) := ⟨_, rfl⟩
  rw [HE1.out, HE2.out]
  clear hg11 HF10 HR1g HR2g HB10 HFf HKd HOA2 HS10
  go_upto_region 10 with fail
  have HWT := hid (below_walk w11 (.cells #[.int .i64 E1, .int .i64 E2] 30))
  have HR1i := hid (bel_keep HWT.out HR1h.out)
  have HR2i := hid (bel_keep HWT.out HR2h.out)
  have HB12 := hid (below_then HB11.out HWT.out)
  have HFh := hid (bel_keep HWT.out HFg.out)
  have HKf := hid (bel_keep HWT.out HKe.out)
  have HOA4 := hid (HOA3.out.alloc (.cells #[.int .i64 E1, .int .i64 E2] 30))
  have HTB0 := hid (hp_new w11 (.cells #[.int .i64 E1, .int .i64 E2] 30))
  have HLt0 : Hid (kb < w11.heap.size) := hid (hp_lt HKe.out)
  obtain ⟨tb, HTBe⟩ : ∃ b, Hid (w11.heap.size = b) := ⟨_, rfl⟩
  rw [HTBe.out] at HTB0 HLt0 ⊢
  generalize w11.alloc (.cells #[.int .i64 E1, .int .i64 E2] 30) = w12 at HR1i HR2i HB12 HFh HKf HOA4 HTB0 ⊢
  have HLt : Hid (A + 2 ≤ tb) := hid (by have := HLt0.out; have := HLk.out; have := HLf0.out; have := HLb.out; omega)
  have HL8t : Hid (w8.heap.size ≤ tb) := hid (by have := HS11.out; have := HTBe.out; omega)
  clear HR1h HR2h HB11 HFg HKe HOA3 HWT HTBe HS11
  have t0 : w12.cell? ⟨tb, 0, none⟩ = some (.int .i64 E1) := by simp [World.cell?, HTB0.out]
  have t1 : w12.cell? ⟨tb, 1, none⟩ = some (.int .i64 E2) := by simp [World.cell?, HTB0.out]
  have f0 := row_fz HTB0.out 0
  have f1 := row_fz HTB0.out 1
  by_cases hE : E1 = 0
  · obtain ⟨M, HM⟩ : ∃ M, Hid (mayF (fieldsP bs 6 (oS bs 6 (A4, 0, 0)).2).1 = M) := ⟨_, rfl⟩
    have HST := hid (wowns_strs HOA4.out)
    have HMN : Hid ((fieldsP bs 6 (oS bs 6 (A4, 0, 0)).2).1.args.length ≤ 9223372036854775807) := hid (wowns_len HOA4.out)
    have HMAY := hid (show Calls Tryz.prog 115 #[.agg FF.toArray] w12 fun e w' => e = .returned (.bool M) ∧ Below w12.heap.size w12 w' by
      rw [← HM.out, mayF_6 _ (fieldsP_kind bs 6 (oS bs 6 (A4, 0, 0)).2 (by omega)), ← HFF.out]
      exact mayAlways_any _ w12)
    subst hE
    have y2 : w12.cell? ⟨kb, 2, none⟩ = some (.func (.func 115) #[] #[]) := by rw [cell_of_row w12 kb 2 _ _ _ HKf.out]; rfl
    have HRG := hid (range_row HFh.out)
    clear HST HMN
    go_wp2_with (refine ld_gd (by rfl) 65 (.tmp 6) (by rfl) fb 0 (by rfl) FF _ HRG.out Tryz.underlying65 rfl HSZ.out ?_)
    refine HMAY.out.mono ?_
    rintro e w13 ⟨rfl, hb13⟩
    have HR1z := hid (bel_keep hb13 HR1i.out)
    have HR2z := hid (bel_keep hb13 HR2i.out)
    have HBz := hid (below_then HB12.out hb13)
    have HFz := hid (bel_keep hb13 HFh.out)
    have HTBz := hid (bel_keep hb13 HTB0.out)
    have HOAz := hid (WOwnS.far HOA4.out (below_gb hb13 none) (fun j e => by cases e))
    clear hb13 HR1i HR2i HB12 HFh HTB0 HKf HOA4 HMAY HRG y2 t0 t1 f0 f1
    have t0 : w13.cell? ⟨tb, 0, none⟩ = some (.int .i64 0) := by simp [World.cell?, HTBz.out]
    have t1 : w13.cell? ⟨tb, 1, none⟩ = some (.int .i64 E2) := by simp [World.cell?, HTBz.out]
    have f0 := row_fz HTBz.out 0
    have f1 := row_fz HTBz.out 1
    cases M with
    | true =>
      as_aux_lemma =>
        have HFP := hid (frameP_ok bs A4 6 HK.out (by omega) HE1.out HM.out)
        go_wp2_with (first
          | (refine ld_row (by rfl) 65 (.tmp 6) (by rfl) fb (by rfl) FF 65 HFz.out _ Tryz.underlying65 rfl HSZ.out ?_)
          | (refine bd_row (by rfl) 30 #[] (by rfl) _ (by simp [Act.eval]) _ built_fz ?_)
          | (refine st_row (by rfl) 65 _ _ (by rfl) A FF (by rfl) (by rfl) 65 _ HR1z.out HSZ.out (by rw [← HFF.out, fcells_length _ _ HTL.out]; rfl) HON.out ?_; intro w14 hw14)
          | (refine st_row (by rfl) 30 _ _ (by rfl) (A + 1) [Value.int .i64 0, .int .i64 0] (by rfl) (by rfl) 30 _ (gb_keep hw14.grown HR2z.out (by omega)) faultSize rfl (fault_one _ _) ?_; intro w15 hw15))
        refine ret_cc 2 3 65 30 rfl A rfl (A + 1) rfl FF 65 (gb_keep hw15.grown hw14.blk (by omega)) _ Tryz.underlying65 rfl HSZ.out _ 30 hw15.blk _ Tryz.underlying30 rfl faultSize rfl ?_
        rw [HFP.out]
        refine ⟨va, by rw [← HFF.out]; rfl, ?_, Below.of_gb (Below.of_gb HBz.out hw14.grown (by have := HAA.out; omega)) hw15.grown (by have := HAA.out; omega)⟩
        exact (WOwnS.far (WOwnS.far HOAz.out hw14.grown (fun j e => by injection e with e; have := HLk8.out; have := HLk.out; have := HLf0.out; have := HLb.out; omega)) hw15.grown (fun j e => by injection e with e; have := HLk8.out; have := HLk.out; have := HLf0.out; have := HLb.out; omega)).le (by have := HLk8.out; have := HLk.out; have := HLf0.out; have := HLb.out; have := HAA.out; omega)
    | false =>
      as_aux_lemma =>
        have HFP := hid (frameP_may bs A4 6 HK.out (by omega) HE1.out HM.out)
        go_upto_region 12 with (first
          | (refine bd_row (by rfl) 30 #[(0, .const (.int .i64 70)), (1, .tmp 55)] (by rfl) _ (by simp [Act.eval]) _ (built_ft 70 (A4 : Int)) ?_)
          | (refine st_row (by rfl) 30 _ _ (by rfl) tb [Value.int .i64 70, .int .i64 (A4 : Int)] (by rfl) (by rfl) 30 _ HTBz.out faultSize rfl (fault_one _ _) ?_; intro w14 hw14))
        have HTB := hid hw14.blk
        have HR1y := hid (gb_keep hw14.grown HR1z.out (by have := HLt.out; omega))
        have HR2y := hid (gb_keep hw14.grown HR2z.out (by have := HLt.out; omega))
        have HBy := hid (Below.of_gb HBz.out hw14.grown (by have := HLt.out; have := HAA.out; omega))
        clear hw14 HR1z HR2z HBz t0 t1 f0 f1
        have HR1z := hid HR1y.out
        have HR2z := hid HR2y.out
        have HBz := hid HBy.out
        have t0 : w14.cell? ⟨tb, 0, none⟩ = some (.int .i64 70) := by simp [World.cell?, HTB.out]
        go_upto_region 13 with fail
        have HTBc := hid HTB.out
        refine wp_noPanic (wp_region_held_drew (S := fun W => W.heap[tb]? = some (.cells [Value.int .i64 70, .int .i64 (A4 : Int)].toArray 30 (0, 0))) (by kernel_rfl) HTBc.out ?_)
        intro hHeld
        refine wpAnyH_take (i := 0) (v := .agg (fcells zF nS).toArray) rfl (by kernel_rfl) (by kernel_rfl) (by kernel_rfl) (fun _ _ _ h => h) (yields_build (by rfl) 65 #[] (by rfl) _ (by simp [Act.eval]) _ built_zf) hHeld ?_
        simp only [Act.put, List.getElem_toArray, List.getElem_cons_zero, List.setIfInBounds_toArray, List.set_cons_succ, List.set_cons_zero]
        refine wpAnyH_take (i := 1) (v := .agg [Value.int .i64 70, .int .i64 (A4 : Int)].toArray) rfl (by kernel_rfl) (by kernel_rfl) (by kernel_rfl) (fun _ _ _ h => h) (yieldsIf_load_mid (by rfl) 30 (.tmp 9) rfl tb 0 rfl [Value.int .i64 70, .int .i64 (A4 : Int)] _ (fun W hW => range_row hW) Tryz.underlying30 rfl faultSize) hHeld ?_
        simp only [Act.put, List.getElem_toArray, List.getElem_cons_zero, List.getElem_cons_succ, List.setIfInBounds_toArray, List.set_cons_succ, List.set_cons_zero]
        obtain ⟨wx, HWX⟩ : ∃ x, Hid (w14.drew = x) := ⟨_, rfl⟩
        have HR1x := hid (show w14.drew.heap[A]? = _ from HR1z.out)
        have HR2x := hid (show w14.drew.heap[A + 1]? = _ from HR2z.out)
        have HTBx := hid (show w14.drew.heap[tb]? = some (.cells [Value.int .i64 70, .int .i64 (A4 : Int)].toArray 30 (0, 0)) from HTB.out)
        have HBx := hid (show Below w.heap.size w w14.drew from below_tr HBz.out ⟨rfl, rfl, rfl, Nat.le_refl _, fun _ _ => rfl⟩)
        rw [HWX.out] at hHeld HR1x HR2x HTBx HBx ⊢
        refine wpAnyH_ready (rs := [2]) (by kernel_rfl) (by simp) ?_
        refine AllReadyH.cons rfl (fun K9 hK9 => ?_) AllReadyH.nil
        refine step_store_row (by rfl) 65 _ _ (by rfl) A (fcells zF nS) (by rfl) (by rfl) 65 _ HR1x.out (frame_size zF nS rfl) rfl (fcells_one zF nS rfl) ?_
        intro wy hwy
        refine hK9.out _ _ (gb_keep hwy.grown HTBx.out (by have := HLt.out; omega)) (fun hHeld => ?_)
        clear hK9 K9
        try simp only [Act.put, List.getElem_toArray, List.getElem_cons_zero, List.getElem_cons_succ]
        refine wpAnyH_ready (rs := [3]) (by kernel_rfl) (by simp) ?_
        refine AllReadyH.cons rfl (fun K9 hK9 => ?_) AllReadyH.nil
        refine step_store_row (by rfl) 30 _ _ (by rfl) (A + 1) [Value.int .i64 70, .int .i64 (A4 : Int)] (by rfl) (by rfl) 30 _ (gb_keep hwy.grown HR2x.out (by omega)) faultSize rfl (fault_one _ _) ?_
        intro wz hwz
        refine hK9.out _ _ (gb_keep hwz.grown (gb_keep hwy.grown HTBx.out (by have := HLt.out; omega)) (by have := HLt.out; omega)) (fun hHeld => ?_)
        clear hK9 K9
        try simp only [Act.put, List.getElem_toArray, List.getElem_cons_zero, List.getElem_cons_succ]
        refine wpAnyH_done (by kernel_rfl) ?_ _
        simp only [noPanic]
        clear hHeld
        go_wp2
        refine ret_cc 2 3 65 30 rfl A rfl (A + 1) rfl (fcells zF nS) 65 (gb_keep hwz.grown hwy.blk (by omega)) _ Tryz.underlying65 rfl (frame_size zF nS rfl) _ 30 hwz.blk _ Tryz.underlying30 rfl faultSize rfl ?_
        rw [HFP.out]
        refine ⟨nS, rfl, World.ownsRow_nil _ _ _ _, ?_⟩
        exact Below.of_gb (Below.of_gb HBx.out hwy.grown (by have := HAA.out; omega)) hwz.grown (by have := HAA.out; omega)

  · as_aux_lemma =>
      have q1 : (E1 == 0) = false := by simpa using hE
      have q2 : (E1 != 0) = true := by simpa using hE
      have HFP := hid (show frameP bs A4 = (zF, E1, E2) by
        rw [frameP_bad bs A4 6 HK.out (by omega) (show (eS bs (fieldsP bs 6 (oS bs 6 (A4, 0, 0)).2).2).1 ≠ 0 by rw [HE1.out]; exact hE), ← HE1.out, ← HE2.out]; rfl)
      have HR1z := hid HR1i.out
      have HR2z := hid HR2i.out
      have HBz := hid HB12.out
      have HTB := hid (show w12.heap[tb]? = some (.cells [Value.int .i64 E1, .int .i64 E2].toArray 30 (0, 0)) from HTB0.out)
      clear hE
      go_upto_region 13 with fail
      have HTBc := hid HTB.out
      refine wp_noPanic (wp_region_held_drew (S := fun W => W.heap[tb]? = some (.cells [Value.int .i64 E1, .int .i64 E2].toArray 30 (0, 0))) (by kernel_rfl) HTBc.out ?_)
      intro hHeld
      refine wpAnyH_take (i := 0) (v := .agg (fcells zF nS).toArray) rfl (by kernel_rfl) (by kernel_rfl) (by kernel_rfl) (fun _ _ _ h => h) (yields_build (by rfl) 65 #[] (by rfl) _ (by simp [Act.eval]) _ built_zf) hHeld ?_
      simp only [Act.put, List.getElem_toArray, List.getElem_cons_zero, List.setIfInBounds_toArray, List.set_cons_succ, List.set_cons_zero]
      refine wpAnyH_take (i := 1) (v := .agg [Value.int .i64 E1, .int .i64 E2].toArray) rfl (by kernel_rfl) (by kernel_rfl) (by kernel_rfl) (fun _ _ _ h => h) (yieldsIf_load_mid (by rfl) 30 (.tmp 9) rfl tb 0 rfl [Value.int .i64 E1, .int .i64 E2] _ (fun W hW => range_row hW) Tryz.underlying30 rfl faultSize) hHeld ?_
      simp only [Act.put, List.getElem_toArray, List.getElem_cons_zero, List.getElem_cons_succ, List.setIfInBounds_toArray, List.set_cons_succ, List.set_cons_zero]
      obtain ⟨wx, HWX⟩ : ∃ x, Hid (w12.drew = x) := ⟨_, rfl⟩
      have HR1x := hid (show w12.drew.heap[A]? = _ from HR1z.out)
      have HR2x := hid (show w12.drew.heap[A + 1]? = _ from HR2z.out)
      have HTBx := hid (show w12.drew.heap[tb]? = some (.cells [Value.int .i64 E1, .int .i64 E2].toArray 30 (0, 0)) from HTB.out)
      have HBx := hid (show Below w.heap.size w w12.drew from below_tr HBz.out ⟨rfl, rfl, rfl, Nat.le_refl _, fun _ _ => rfl⟩)
      rw [HWX.out] at hHeld HR1x HR2x HTBx HBx ⊢
      refine wpAnyH_ready (rs := [2]) (by kernel_rfl) (by simp) ?_
      refine AllReadyH.cons rfl (fun K9 hK9 => ?_) AllReadyH.nil
      refine step_store_row (by rfl) 65 _ _ (by rfl) A (fcells zF nS) (by rfl) (by rfl) 65 _ HR1x.out (frame_size zF nS rfl) rfl (fcells_one zF nS rfl) ?_
      intro wy hwy
      refine hK9.out _ _ (gb_keep hwy.grown HTBx.out (by have := HLt.out; omega)) (fun hHeld => ?_)
      clear hK9 K9
      try simp only [Act.put, List.getElem_toArray, List.getElem_cons_zero, List.getElem_cons_succ]
      refine wpAnyH_ready (rs := [3]) (by kernel_rfl) (by simp) ?_
      refine AllReadyH.cons rfl (fun K9 hK9 => ?_) AllReadyH.nil
      refine step_store_row (by rfl) 30 _ _ (by rfl) (A + 1) [Value.int .i64 E1, .int .i64 E2] (by rfl) (by rfl) 30 _ (gb_keep hwy.grown HR2x.out (by omega)) faultSize rfl (fault_one _ _) ?_
      intro wz hwz
      refine hK9.out _ _ (gb_keep hwz.grown (gb_keep hwy.grown HTBx.out (by have := HLt.out; omega)) (by have := HLt.out; omega)) (fun hHeld => ?_)
      clear hK9 K9
      try simp only [Act.put, List.getElem_toArray, List.getElem_cons_zero, List.getElem_cons_succ]
      refine wpAnyH_done (by kernel_rfl) ?_ _
      simp only [noPanic]
      clear hHeld
      go_wp2
      refine ret_cc 2 3 65 30 rfl A rfl (A + 1) rfl (fcells zF nS) 65 (gb_keep hwz.grown hwy.blk (by omega)) _ Tryz.underlying65 rfl (frame_size zF nS rfl) _ 30 hwz.blk _ Tryz.underlying30 rfl faultSize rfl ?_
      rw [HFP.out]
      refine ⟨nS, rfl, World.ownsRow_nil _ _ _ _, ?_⟩
      exact Below.of_gb (Below.of_gb HBx.out hwy.grown (by have := HAA.out; omega)) hwz.grown (by have := HAA.out; omega)

end Go.Proofs.YtiibhccbbpgehabGreat

/- Need: the program's and the document's. -/
namespace Go.Proofs.YtiibhccbbpgehabGreat
open Go.RowKit Go.BigFrame

theorem fault_why (why wat : Int) (W : World) : (Instr.field 30 (.agg #[.int .i64 why, .int .i64 wat]) 0).run Tryz.prog W = .ok (.int .i64 why) W := by kernel_rfl

set_option maxRecDepth 100000 in
set_option maxHeartbeats 4000000 in
theorem need_any (v : Value) (bs : List UInt8) (w : World) (hs : Src w v bs) :
    Calls Tryz.prog 21 #[v] w fun e w' => e = .returned (.tuple #[.int .i64 (needP bs).1, .int .i64 (needP bs).2.2]) ∧ Below w.heap.size w w' := by
  obtain ⟨vx, hx, cut⟩ := cut_at hs (min bs.length 10) (Nat.min_le_left _ _)
  have hsl := hs.1
  obtain ⟨av, cv, rfl⟩ := src_shape hs
  have HN := hid (newReader_any vx _ w hx)
  have hd := dec_head bs
  obtain ⟨E, N, K, hdec⟩ : ∃ E N K, dec bs 0 0 = (E, N, K) := ⟨_, _, _, rfl⟩
  rw [hdec] at hd
  have HU : Hid (uintF (bs.take (min bs.length 10)) 0 0 0 = (N, K, (E : Int), watOf E 0 0)) := hid (by unfold uintF; rw [if_neg (by simp), List.drop_zero, hd]; simp)
  have HLE := hid (dec_le bs hdec)
  have HTEN : Hid (K ≤ 10) := hid (by have := (dec_le _ hd).1; rw [List.length_take] at this; omega)
  have HP : Hid (needP bs = if E = 4 then (0, 0, 0) else if E ≠ 0 then (0, 0, E) else if 2097152 < N then (0, 0, 3) else if N = 0 then (0, 0, 70) else (K + N + 4, K, 0)) := hid (by unfold needP; rw [hdec])
  have hfw := fault_why
  clear hdec hd hs hx
  generalize bs.take (min bs.length 10) = X at *
  obtain ⟨M, HM⟩ : ∃ M : Nat, Hid (min bs.length 10 = M) := ⟨_, rfl⟩
  rw [HM.out] at cut
  have hm : min (bs.length : Int) 10 = (M : Int) := by have := HM.out; omega
  go_enter Tryz.func21, Tryz.ntmps21
  go_wp2_with fail
  refine HN.out.mono ?_
  rintro e w1 ⟨b, v1, rfl, hr1, hb1⟩
  have HB1 := hid hb1
  have HUI := hid (uint_R (h := hr1))
  rw [HU.out] at HUI
  clear hr1 hb1 HN cut hm
  go_wp2_with fail
  refine HUI.out.mono ?_
  rintro e w2 ⟨rfl, hr2, hg2⟩
  have HR2 := hid hr2
  have HB2 := hid (Below.of_gb HB1.out hg2 hr2.lo)
  have HFA := hid (rfault_any (h := hr2))
  clear hr2 hg2 HUI HB1
  go_wp2_with fail
  refine HFA.out.mono ?_
  rintro e w3 ⟨rfl, hb3⟩
  have HR3 := hid (HR2.out.below hb3)
  have HB3 := hid (below_then HB2.out hb3)
  clear hb3 HR2 HB2 HFA
  by_cases h4 : E = 4
  · have HV := hid (show needP bs = (0, 0, 0) by rw [HP.out, if_pos h4])
    have q1 : ((E : Int) == 4) = true := by simp [h4]
    have q2 : (E : Int) = 4 := by omega
    clear h4
    go_wp2
    go_ret2
    rw [HV.out]
    exact ⟨rfl, HB3.out⟩
  · have q1 : ((E : Int) == 4) = false := by simp; omega
    have q2 : ¬ (E : Int) = 4 := by omega
    by_cases h0 : E = 0
    · have q3 : ((E : Int) != 0) = false := by simp [h0]
      have q4 : (E : Int) = 0 := by omega
      by_cases hN : 2097152 < N
      · have HV := hid (show needP bs = (0, 0, 3) by rw [HP.out, if_neg h4, if_neg (by simpa using h0), if_pos hN])
        have q5 : (2097152 : Int) < (N : Int) := by omega
        have q6 : decide ((2097152 : Int) < (N : Int)) = true := by simpa using q5
        clear h4 h0 hN
        go_wp2
        go_ret2
        rw [HV.out]
        exact ⟨rfl, HB3.out⟩
      · have q5 : ¬ (2097152 : Int) < (N : Int) := by omega
        have q6 : decide ((2097152 : Int) < (N : Int)) = false := by simpa using q5
        by_cases hz : N = 0
        · have HV := hid (show needP bs = (0, 0, 70) by rw [HP.out, if_neg h4, if_neg (by simpa using h0), if_neg hN, if_pos hz])
          have q7 : ((N : Int) == 0) = true := by simp [hz]
          have q8 : (N : Int) = 0 := by omega
          clear h4 h0 hN hz
          go_wp2
          go_ret2
          rw [HV.out]
          exact ⟨rfl, HB3.out⟩
        · have HV := hid (show needP bs = (K + N + 4, K, 0) by rw [HP.out, if_neg h4, if_neg (by simpa using h0), if_neg hN, if_neg hz])
          have q7 : ((N : Int) == 0) = false := by simp; omega
          have q8 : ¬ (N : Int) = 0 := by omega
          have HAT := hid (rat_any (h := HR3.out))
          have w1 : IntKind.i64.wrap (N : Int) = (N : Int) := by rw [IntKind.wrap_i64]; omega
          have w2 : IntKind.i64.wrap ((K : Int) + (N : Int)) = (K : Int) + (N : Int) := by rw [IntKind.wrap_i64]; have := HTEN.out; omega
          have w4 : IntKind.i64.wrap ((K : Int) + (N : Int) + 4) = (K : Int) + (N : Int) + 4 := by rw [IntKind.wrap_i64]; have := HTEN.out; omega
          clear h4 h0 hN hz
          go_wp2_with fail
          refine HAT.out.mono ?_
          rintro e w5 ⟨rfl, hw5⟩
          subst hw5
          go_wp2
          go_ret2
          rw [HV.out]
          exact ⟨by simp, HB3.out⟩
    · have HV := hid (show needP bs = (0, 0, E) by rw [HP.out, if_neg h4, if_pos h0])
      have q3 : ((E : Int) != 0) = true := by simp; omega
      have q4 : ¬ (E : Int) = 0 := by omega
      clear h4 h0
      go_wp2
      go_ret2
      rw [HV.out]
      exact ⟨rfl, HB3.out⟩

end Go.Proofs.YtiibhccbbpgehabGreat

/- Decode of the program. -/
namespace Go.Proofs.YtiibhccbbpgehabGreat
open Go.RowKit Go.BigFrame

/-- what is wrong with bytes ahead of their fields -/
def unsE (b : List UInt8) : Int × Int :=
  if (needP b).2.2 ≠ 0 then (((needP b).2.2 : Int), 0)
  else if (needP b).1 = 0 ∨ b.length < (needP b).1 then (4, (b.length : Int))
  else if (needP b).1 < b.length then (6, ((needP b).1 : Int))
  else if cokP b = true then (0, 0) else (71, ((needP b).1 : Int) - 4)
theorem decP_uns (b : List UInt8) : decP b = if (unsE b).1 ≠ 0 then (zF, unsE b) else frameP (b.take (b.length - 4)) (needP b).2.1 := by
  unfold decP unsE
  by_cases h1 : (needP b).2.2 ≠ 0
  · rw [if_pos h1, if_pos h1, if_pos (by show (((needP b).2.2 : Nat) : Int) ≠ 0; omega)]
  · rw [if_neg h1, if_neg h1]
    by_cases h2 : (needP b).1 = 0 ∨ b.length < (needP b).1
    · rw [if_pos h2, if_pos h2, if_pos (by show (4 : Int) ≠ 0; decide)]
    · rw [if_neg h2, if_neg h2]
      by_cases h3 : (needP b).1 < b.length
      · rw [if_pos h3, if_pos h3, if_pos (by show (6 : Int) ≠ 0; decide)]
      · rw [if_neg h3, if_neg h3]
        by_cases h4 : cokP b = true
        · rw [if_pos h4, if_pos h4, if_neg (by show ¬ (0 : Int) ≠ 0; decide)]
        · rw [if_neg h4, if_neg h4, if_pos (by show (71 : Int) ≠ 0; decide)]
theorem need_ok {b : List UInt8} (h2 : (needP b).2.2 = 0) (h1 : (needP b).1 ≠ 0) : ∃ N, dec b 0 0 = (0, N, (needP b).2.1) ∧ 1 ≤ N ∧ N ≤ 2097152 ∧ (needP b).1 = (needP b).2.1 + N + 4 := by
  obtain ⟨E, N, K, hd⟩ : ∃ E N K, dec b 0 0 = (E, N, K) := ⟨_, _, _, rfl⟩
  have hp : needP b = if E = 4 then (0, 0, 0) else if E ≠ 0 then (0, 0, E) else if 2097152 < N then (0, 0, 3) else if N = 0 then (0, 0, 70) else (K + N + 4, K, 0) := by unfold needP; rw [hd]
  rw [hp] at h1 h2 ⊢
  by_cases e4 : E = 4
  · rw [if_pos e4] at h1
    exact absurd rfl h1
  · rw [if_neg e4] at h1 h2 ⊢
    by_cases e0 : E ≠ 0
    · rw [if_pos e0] at h2
      exact absurd h2 e0
    · rw [if_neg e0] at h1 h2 ⊢
      by_cases hN : 2097152 < N
      · rw [if_pos hN] at h2
        exact absurd h2 (by decide)
      · rw [if_neg hN] at h1 h2 ⊢
        by_cases hz : N = 0
        · rw [if_pos hz] at h2
          exact absurd h2 (by decide)
        · rw [if_neg hz]
          have : E = 0 := by omega
          subst this
          exact ⟨N, hd, by omega, by omega, rfl⟩
/-- the length that stands ahead is read again -/
theorem inner_head {b : List UInt8} (h2 : (needP b).2.2 = 0) (h1 : (needP b).1 ≠ 0) (hl : b.length = (needP b).1) : ∃ N, uS (b.take (b.length - 4)) (0, 0, 0) = (N, (needP b).2.1, 0, 0) := by
  obtain ⟨N, hd, hN1, hN2, hn⟩ := need_ok h2 h1
  obtain ⟨hk0, hk1, hk2, hk3⟩ := dec_ok hd
  refine ⟨N, ?_⟩
  have e : b.take (b.length - 4) = sn N ++ (b.drop (needP b).2.1).take N := by
    rw [← hk3]
    rw [show b.length - 4 = (needP b).2.1 + N by omega, List.take_add]
  have hd2 : dec (b.take (b.length - 4)) 0 0 = (0, N, (needP b).2.1) := by
    rw [e, dec_sn N _ hk2, ← dec_ok_len hd]
  unfold uS uintF
  rw [if_neg (by simp), List.drop_zero, hd2]
  simp [watOf]
theorem uns_ok {b : List UInt8} (h : (unsE b).1 = 0) : (needP b).2.2 = 0 ∧ (needP b).1 ≠ 0 ∧ b.length = (needP b).1 ∧ cokP b = true ∧ unsE b = (0, 0) := by
  unfold unsE at h ⊢
  by_cases h1 : (needP b).2.2 ≠ 0
  · rw [if_pos h1] at h
    exact absurd h (by show ¬ (((needP b).2.2 : Nat) : Int) = 0; omega)
  · rw [if_neg h1] at h ⊢
    by_cases h2 : (needP b).1 = 0 ∨ b.length < (needP b).1
    · rw [if_pos h2] at h
      exact absurd h (by show ¬ (4 : Int) = 0; decide)
    · rw [if_neg h2] at h ⊢
      by_cases h3 : (needP b).1 < b.length
      · rw [if_pos h3] at h
        exact absurd h (by show ¬ (6 : Int) = 0; decide)
      · rw [if_neg h3] at h ⊢
        by_cases h4 : cokP b = true
        · rw [if_pos h4]
          exact ⟨by omega, by omega, by omega, h4, rfl⟩
        · rw [if_neg h4] at h
          exact absurd h (by show ¬ (71 : Int) = 0; decide)
theorem results_tc {fn : Func} {p q : Tmp} {ty : TypeId} (h : fn.results = #[.tmp p, .cell q ty]) (tmps : Array Value) (P : Program) (w : World) :
    (results fn tmps).run P w = ((asAddr (tmps.getD q undef)).run P w).andThen fun a w₁ => ((loadVar ty a).run P w₁).andThen fun v w₂ => .ok (.tuple #[tmps.getD p undef, v]) w₂ := by
  simp only [results, h]
  simp [Sem.run_bind, Result.andThen]
theorem ret_tc {P : Program} {fn : Func} {R : Ending → World → Prop} {a : Act} {w : World} (p q : Tmp) (ty : TypeId) (h : fn.results = #[.tmp p, .cell q ty]) (v : Value) (hv : a.tmps.getD p undef = v) (g : Nat) (hp : a.tmps.getD q undef = .pointer (some ⟨g, 0, none⟩))
    (cs : List Value) (t : TypeId) (hb : w.heap[g]? = some (.cells cs.toArray t (0, 0))) (d : TypeDesc) (hu : P.underlying ty = some d) (hd : d.isRow = true) (hi : (P.info? ty).map (·.size) = some cs.length)
    (hdf : a.defers = []) (hR : R (.returned (.tuple #[v, .agg cs.toArray])) w) : bodyPost P fn R .ret a w := by
  refine bodyPost_ret (v := .tuple #[v, .agg cs.toArray]) ?_ hdf hR
  rw [results_tc h, hp, hv]
  have := run_loadVar_mid (P := P) w g 0 ty cs d (fun j v hv => by rw [Nat.zero_add, cell_of_row w g j cs.toArray t (0, 0) hb]; simpa using hv) hu hd hi
  simp [asAddr, this]
theorem built_f1 (a : Int) : Tryz.prog.built 30 [(0, .int .i64 a)] = some [Value.int .i64 a, .int .i64 0].toArray := by kernel_rfl

/-- what unseal answers -/
def UnsPost (w : World) (bs : List UInt8) (e : Ending) (w' : World) : Prop :=
  (if (unsE bs).1 = 0 then ∃ v', e = .returned (.tuple #[v', .agg #[.int .i64 0, .int .i64 0]]) ∧ OwnB w' w.heap.size v' (bs.take (bs.length - 4)) else e = .returned (.tuple #[.slice none 0 0, .agg #[.int .i64 (unsE bs).1, .int .i64 (unsE bs).2]])) ∧ Below w.heap.size w w'
theorem UnsPost.bad {w w' : World} {bs : List UInt8} {E1 E2 : Int} (h : unsE bs = (E1, E2)) (h0 : E1 ≠ 0) (hb : Below w.heap.size w w') : UnsPost w bs (.returned (.tuple #[.slice none 0 0, .agg #[.int .i64 E1, .int .i64 E2]])) w' := by
  unfold UnsPost
  rw [h, if_neg h0]
  exact ⟨rfl, hb⟩
theorem UnsPost.good {w w' : World} {bs : List UInt8} {v' : Value} (h : unsE bs = (0, 0)) (hb : Below w.heap.size w w') (ho : OwnB w' w.heap.size v' (bs.take (bs.length - 4))) : UnsPost w bs (.returned (.tuple #[v', .agg #[.int .i64 0, .int .i64 0]])) w' := by
  unfold UnsPost
  rw [h, if_pos rfl]
  exact ⟨⟨v', rfl, ho⟩, hb⟩

set_option maxRecDepth 100000 in
set_option maxHeartbeats 4000000 in
theorem unseal_any (v : Value) (bs : List UInt8) (w : World) (hs : Src w v bs) :
    Calls Tryz.prog 78 #[v] w (UnsPost w bs) := by
  obtain ⟨av, cv, rfl⟩ := src_shape hs
  obtain ⟨A, HAA⟩ : ∃ n, Hid (w.heap.size = n) := ⟨_, rfl⟩
  have HB0 := hid (below_walk w (.cells #[.int .i64 0, .int .i64 0] 30))
  have HN0 := hid (hp_new w (.cells #[.int .i64 0, .int .i64 0] 30))
  have HS0 := hid (hs.below HB0.out)
  have HNE := hid (need_any _ bs _ HS0.out)
  have hsl := hs.1
  obtain ⟨n, Hn⟩ : ∃ n, Hid ((needP bs).1 = n) := ⟨_, rfl⟩
  obtain ⟨er, Her⟩ : ∃ n, Hid ((needP bs).2.2 = n) := ⟨_, rfl⟩
  have HUE : Hid (unsE bs = if er ≠ 0 then ((er : Int), 0) else if n = 0 ∨ bs.length < n then (4, (bs.length : Int)) else if n < bs.length then (6, (n : Int)) else if cokP bs = true then (0, 0) else (71, (n : Int) - 4)) := hid (by unfold unsE; rw [Hn.out, Her.out])
  rw [Hn.out, Her.out] at HNE
  have Hn4 : Hid (n ≠ 0 → 4 ≤ n ∧ n ≤ 3000000) := hid (by
    intro h0
    by_cases h9 : er = 0
    · obtain ⟨N, hd, hN1, hN2, hn⟩ := need_ok (b := bs) (by rw [Her.out]; exact h9) (by rw [Hn.out]; exact h0)
      have := dec_ok_len hd
      have h8 := sn_length_le N
      rw [Hn.out] at hn
      omega
    · exfalso
      apply h0
      rw [← Hn.out]
      unfold needP at Her ⊢
      have h7 := Her.out
      repeat' split
      all_goals first | rfl | skip
      rename_i g1 g2 g3 g4
      rw [if_neg g1, if_neg g2, if_neg g3, if_neg g4] at h7
      exact absurd h7.symm h9)
  obtain ⟨L, HL⟩ : ∃ n, Hid (bs.length = n) := ⟨_, rfl⟩
  rw [HL.out] at hsl HUE HNE
  clear hs
  go_enter Tryz.func78, Tryz.ntmps78
  go_upto_region 1 with fail
  generalize w.alloc (.cells #[.int .i64 0, .int .i64 0] 30) = w0 at HB0 HN0 HS0 HNE ⊢
  rw [HAA.out] at HN0 ⊢
  rw [HL.out]
  go_wp2_with fail
  refine HNE.out.mono ?_
  rintro e w1 ⟨rfl, hb1⟩
  have HN1 := hid (bel_keep hb1 HN0.out)
  have HS1 := hid (HS0.out.below hb1)
  have HB1 := hid (below_then HB0.out hb1)
  clear hb1 HN0 HS0 HB0 HNE
  by_cases h1 : er ≠ 0
  · as_aux_lemma =>
      have q1 : ((er : Int) != 0) = true := by simp; omega
      have q2 : ((er : Int) == 0) = false := by simp; omega
      have q3 : ¬ (er : Int) = 0 := by omega
      rw [if_pos h1] at HUE
      clear h1
      go_wp2_with (first
        | (refine bd_row (by rfl) 30 #[(0, .tmp 15)] (by rfl) _ (by simp [Act.eval]) _ (built_f1 _) ?_)
        | (refine st_row (by rfl) 30 _ _ (by rfl) A [Value.int .i64 (er : Int), .int .i64 0] (by rfl) (by rfl) 30 _ HN1.out faultSize rfl (fault_one _ _) ?_; intro w2 hw2))
      exact ret_tc 2 3 30 rfl _ rfl A rfl _ 30 hw2.blk _ Tryz.underlying30 rfl faultSize rfl (UnsPost.bad HUE.out q3 (Below.of_gb HB1.out hw2.grown (by have := HAA.out; omega)))
  · obtain rfl : er = 0 := by omega
    rw [if_neg h1] at HUE
    clear h1
    by_cases h2 : n = 0 ∨ L < n
    · as_aux_lemma =>
        rw [if_pos h2] at HUE
        by_cases h3 : n = 0
        · subst h3
          clear h2
          go_wp2_with (first
            | (refine bd_row (by rfl) 30 #[(0, .const (.int .i64 4)), (1, .tmp 27)] (by rfl) _ (by simp [Act.eval]) _ (built_ft _ _) ?_)
            | (refine st_row (by rfl) 30 _ _ (by rfl) A [Value.int .i64 4, .int .i64 (L : Int)] (by rfl) (by rfl) 30 _ HN1.out faultSize rfl (fault_one _ _) ?_; intro w2 hw2))
          exact ret_tc 2 3 30 rfl _ rfl A rfl _ 30 hw2.blk _ Tryz.underlying30 rfl faultSize rfl (UnsPost.bad HUE.out (by decide) (Below.of_gb HB1.out hw2.grown (by have := HAA.out; omega)))
        · have q1 : ((n : Int) == 0) = false := by simp; omega
          have q2 : ¬ (n : Int) = 0 := by omega
          have q3 : (L : Int) < (n : Int) := by omega
          have q4 : decide ((L : Int) < (n : Int)) = true := decide_eq_true q3
          clear h2 h3
          go_wp2_with (first
            | (refine bd_row (by rfl) 30 #[(0, .const (.int .i64 4)), (1, .tmp 27)] (by rfl) _ (by simp [Act.eval]) _ (built_ft _ _) ?_)
            | (refine st_row (by rfl) 30 _ _ (by rfl) A [Value.int .i64 4, .int .i64 (L : Int)] (by rfl) (by rfl) 30 _ HN1.out faultSize rfl (fault_one _ _) ?_; intro w2 hw2))
          exact ret_tc 2 3 30 rfl _ rfl A rfl _ 30 hw2.blk _ Tryz.underlying30 rfl faultSize rfl (UnsPost.bad HUE.out (by decide) (Below.of_gb HB1.out hw2.grown (by have := HAA.out; omega)))
    · rw [if_neg h2] at HUE
      have h3 : n ≠ 0 := fun h => h2 (Or.inl h)
      have h4 : ¬ L < n := fun h => h2 (Or.inr h)
      have h5 := Hn4.out h3
      have q1 : ((n : Int) == 0) = false := by simp; omega
      have q2 : ¬ (n : Int) = 0 := by omega
      have q3 : ¬ (L : Int) < (n : Int) := by omega
      have q4 : decide ((L : Int) < (n : Int)) = false := decide_eq_false q3
      clear h2 h3
      by_cases h6 : n < L
      · as_aux_lemma =>
          rw [if_pos h6] at HUE
          have q5 : (n : Int) < (L : Int) := by omega
          have q6 : decide ((n : Int) < (L : Int)) = true := decide_eq_true q5
          clear h4 h5 h6
          go_wp2_with (first
            | (refine bd_row (by rfl) 30 #[(0, .const (.int .i64 6)), (1, .tmp 34)] (by rfl) _ (by simp [Act.eval]) _ (built_ft _ _) ?_)
            | (refine st_row (by rfl) 30 _ _ (by rfl) A [Value.int .i64 6, .int .i64 (n : Int)] (by rfl) (by rfl) 30 _ HN1.out faultSize rfl (fault_one _ _) ?_; intro w2 hw2))
          exact ret_tc 2 3 30 rfl _ rfl A rfl _ 30 hw2.blk _ Tryz.underlying30 rfl faultSize rfl (UnsPost.bad HUE.out (by decide) (Below.of_gb HB1.out hw2.grown (by have := HAA.out; omega)))
      · rw [if_neg h6] at HUE
        have q5 : ¬ (n : Int) < (L : Int) := by omega
        have q6 : decide ((n : Int) < (L : Int)) = false := decide_eq_false q5
        have HOP := hid (open_any w1 _ bs HS1.out (by rw [HL.out]; omega))
        rw [HL.out] at HOP
        have HW4 := hid (show IntKind.i64.wrap ((n : Int) - 4) = (n : Int) - 4 by rw [IntKind.wrap_i64]; omega)
        obtain ⟨D, HD⟩ : ∃ d : Int, Hid ((n : Int) - 4 = d) := ⟨_, rfl⟩
        rw [HD.out] at HW4 HUE
        have wD : IntKind.i64.wrap ((n : Int) - 4) = D := HW4.out ▸ (by rw [HD.out])
        clear h4 h5 h6
        go_wp2_with fail
        refine HOP.out.mono ?_
        rintro e w2 ⟨he, hb2⟩
        have HN2 := hid (bel_keep hb2 HN1.out)
        have HB2 := hid (below_then HB1.out hb2)
        by_cases hc : cokP bs = true
        · as_aux_lemma =>
            rw [if_pos hc] at HUE
            rw [if_pos hc] at he
            obtain ⟨v', rfl, ho⟩ := he
            have HO := hid (ho.le HB1.out.size)
            obtain ⟨ao, no, co, eo⟩ := src_named (ho.src (by rw [List.length_take]; have := HL.out; omega))
            subst eo
            have HON2 : Hid ((Value.slice ao no co).ownBlock = none ∨ (Value.slice ao no co).ownBlock ≠ some A) := hid (by
              cases hv : (Value.slice ao no co).ownBlock with
              | none => exact Or.inl rfl
              | some k => exact Or.inr (fun e => by injection e with e; have h9 := (ho.lt k hv).1; have h8 := hp_lt HN1.out; omega))
            clear hc ho hb2
            go_wp2_with (first
              | (refine bd_row (by rfl) 30 #[] (by rfl) _ (by simp) _ built_fz ?_)
              | (refine st_row (by rfl) 30 _ _ (by rfl) A [Value.int .i64 0, .int .i64 0] (by rfl) (by rfl) 30 _ HN2.out faultSize rfl (fault_one _ _) ?_; intro w3 hw3))
            refine ret_tc 2 3 30 rfl _ rfl A rfl _ 30 hw3.blk _ Tryz.underlying30 rfl faultSize rfl (UnsPost.good HUE.out (Below.of_gb HB2.out hw3.grown (by have := HAA.out; omega)) ?_)
            exact OwnB.kept HO.out hw3.grown (HON2.out)
        · as_aux_lemma =>
            rw [if_neg hc] at HUE
            rw [if_neg hc] at he
            subst he
            clear hc hb2
            go_wp2_with (first
              | (refine bd_row (by rfl) 30 #[(0, .tmp 43), (1, .tmp 45)] (by rfl) _ (by simp [Act.eval]) _ (built_ft _ _) ?_)
              | (refine st_row (by rfl) 30 _ _ (by rfl) A [Value.int .i64 71, .int .i64 D] (by rfl) (by rfl) 30 _ HN2.out faultSize rfl (fault_one _ _) ?_; intro w3 hw3))
            exact ret_tc 2 3 30 rfl _ rfl A rfl _ 30 hw3.blk _ Tryz.underlying30 rfl faultSize rfl (UnsPost.bad HUE.out (by decide) (Below.of_gb HB2.out hw3.grown (by have := HAA.out; omega)))

theorem readFrame_any (v0 : Value) (bs : List UInt8) (head N : Nat) (w : World) (hs : Src w v0 bs) (hbl : bs.length ≤ 1099511627776) (hu : uS bs (0, 0, 0) = (N, head, 0, 0)) :
    Calls Tryz.prog 79 #[v0] w fun e w' => ∃ va, e = .returned (.tuple #[.agg (fcells (frameP bs head).1 va).toArray, .agg #[.int .i64 (frameP bs head).2.1, .int .i64 (frameP bs head).2.2]]) ∧ WOwnS w' w.heap.size va (frameP bs head).1.args ∧ Below w.heap.size w w' := by
  have h := oS_le bs 6 (head, 0, 0) (by omega)
  have hc : (oS bs 6 (head, 0, 0)).1 = 0 ∨ (oS bs 6 (head, 0, 0)).1 = 1 ∨ (oS bs 6 (head, 0, 0)).1 = 2 ∨ (oS bs 6 (head, 0, 0)).1 = 3 ∨ (oS bs 6 (head, 0, 0)).1 = 4 ∨ (oS bs 6 (head, 0, 0)).1 = 5 ∨ (oS bs 6 (head, 0, 0)).1 = 6 := by omega
  rcases hc with k | k | k | k | k | k | k
  · exact readFrame_0 v0 bs head N w hs hbl hu k
  · exact readFrame_1 v0 bs head N w hs hbl hu k
  · exact readFrame_2 v0 bs head N w hs hbl hu k
  · exact readFrame_3 v0 bs head N w hs hbl hu k
  · exact readFrame_4 v0 bs head N w hs hbl hu k
  · exact readFrame_5 v0 bs head N w hs hbl hu k
  · exact readFrame_6 v0 bs head N w hs hbl hu k

set_option maxRecDepth 100000 in
set_option maxHeartbeats 4000000 in
theorem decode_any (v0 : Value) (bs : List UInt8) (w : World) (hs : Src w v0 bs) :
    Calls Tryz.prog 69 #[v0] w fun e w' => ∃ va, e = .returned (.tuple #[.agg (fcells (decP bs).1 va).toArray, .agg #[.int .i64 (decP bs).2.1, .int .i64 (decP bs).2.2]]) ∧ WOwnS w' w.heap.size va (decP bs).1.args ∧ Below w.heap.size w w' := by
  obtain ⟨av, cv, rfl⟩ := src_shape hs
  obtain ⟨A, HAA⟩ : ∃ n, Hid (w.heap.size = n) := ⟨_, rfl⟩
  have HB0 := hid (below_walk2 w (.cells (fcells zF nS).toArray 65) (.cells #[.int .i64 0, .int .i64 0] 30))
  have HNB := hid (hp_two w (.cells (fcells zF nS).toArray 65) (.cells #[.int .i64 0, .int .i64 0] 30))
  have HZ : Hid ((w.alloc (.cells (fcells zF nS).toArray 65)).heap.size = w.heap.size + 1) := hid (by simp)
  have HZ2 : Hid (((w.alloc (.cells (fcells zF nS).toArray 65)).alloc (.cells #[.int .i64 0, .int .i64 0] 30)).heap.size = w.heap.size + 2) := hid (by simp)
  have HUN := hid (unseal_any _ bs _ (hs.below HB0.out))
  have HDU := hid (decP_uns bs)
  have hsl := hs.1
  obtain ⟨L, HL⟩ : ∃ n, Hid (bs.length = n) := ⟨_, rfl⟩
  clear hs
  go_enter Tryz.func69, Tryz.ntmps69
  go_upto_region 1 with (refine al_row (by rfl) 65 (by rfl) _ zeroFrame ?_)
  try rw [HZ.out]
  generalize (w.alloc (.cells (fcells zF nS).toArray 65)).alloc (.cells #[.int .i64 0, .int .i64 0] 30) = w0 at HB0 HNB HZ2 HUN ⊢
  rw [HAA.out] at HNB HZ2 ⊢
  have HR1a := hid HNB.out.1
  have HR2a := hid HNB.out.2
  clear HNB HZ
  go_wp2_with fail
  refine HUN.out.mono ?_
  rintro e w1 ⟨he, hb1⟩
  have HR1b := hid (bel_keep hb1 HR1a.out)
  have HR2b := hid (bel_keep hb1 HR2a.out)
  have HB1 := hid (below_then HB0.out hb1)
  have HLt1 : Hid (A + 2 ≤ w1.heap.size) := hid (by have := hb1.size; have := HZ2.out; omega)
  by_cases h0 : (unsE bs).1 = 0
  · as_aux_lemma =>
      rw [if_pos h0] at he
      obtain ⟨v', rfl, ho⟩ := he
      obtain ⟨u1, u2, u3, u4, u5⟩ := uns_ok h0
      obtain ⟨N, hu⟩ := inner_head u1 u2 u3
      have HDP := hid (show decP bs = frameP (bs.take (bs.length - 4)) (needP bs).2.1 by rw [HDU.out, if_neg (fun h => h h0)])
      obtain ⟨NB, hNd, hN1, hN2, hNn⟩ := need_ok u1 u2
      have hlen : bs.length ≤ 3000000 := by
        have := dec_ok_len hNd
        have h8 := sn_length_le NB
        omega
      have hs1 := ho.src (by rw [List.length_take]; omega)
      have HW1 := hid (below_walk w1 (.cells #[.int .i64 0, .int .i64 0] 30))
      have HRF := hid (readFrame_any v' _ _ N _ (hs1.below HW1.out) (by rw [List.length_take]; omega) hu)
      have HR1 := hid (bel_keep HW1.out HR1b.out)
      have HR2 := hid (bel_keep HW1.out HR2b.out)
      have HB2 := hid (below_then HB1.out HW1.out)
      obtain ⟨ao, no, co, eo⟩ := src_named hs1
      obtain ⟨P, HP⟩ : ∃ p, Hid (frameP (bs.take (bs.length - 4)) (needP bs).2.1 = p) := ⟨_, rfl⟩
      rw [HP.out] at HDP HRF
      obtain ⟨pf, p1, p2⟩ := P
      subst eo
      clear ho hs1 u1 u2 u3 u4 u5 hu hNd hN1 hN2 hNn hlen h0 HR1b HR2b HB1 HDU HUN hsl
      go_upto_region 2 with fail
      have HTB := hid (hp_new w1 (.cells #[.int .i64 0, .int .i64 0] 30))
      obtain ⟨tb, HTBe⟩ : ∃ b, Hid (w1.heap.size = b) := ⟨_, rfl⟩
      rw [HTBe.out] at HTB ⊢
      generalize w1.alloc (.cells #[.int .i64 0, .int .i64 0] 30) = w2 at HW1 HRF HR1 HR2 HB2 HTB ⊢
      have t0 : w2.cell? ⟨tb, 0, none⟩ = some (.int .i64 0) := by simp [World.cell?, HTB.out]
      go_wp2_with fail
      refine HRF.out.mono ?_
      rintro e w3 ⟨va, rfl, hoa, hb3⟩
      have HOA := hid hoa
      have HR1c := hid (bel_keep hb3 HR1.out)
      have HR2c := hid (bel_keep hb3 HR2.out)
      have HB3 := hid (below_then HB2.out hb3)
      have HL2 : Hid (A + 2 ≤ w2.heap.size) := hid (by have := hp_lt HTB.out; have := HLt1.out; have := HTBe.out; omega)
      have HTL := hid (show pf.tool.length = 32 by
        have e9 := HP.out
        unfold frameP at e9
        repeat' split at e9
        all_goals (have e8 := congrArg (fun x : Fr × Int × Int => x.1.tool.length) e9; simp only at e8; rw [← e8]; first | exact fieldsP_tool _ _ _ | rfl))
      obtain ⟨aV, cV, eV⟩ := wowns_shape hoa
      have HSZ := hid (frame_size pf va HTL.out)
      have HON := hid (fcells_one pf va (by rw [eV]; rfl))
      have HOS := hid (show (fcells zF nS).toArray.size = (fcells pf va).length by rw [fcells_length _ _ HTL.out]; rfl)
      obtain ⟨FF, HFF⟩ : ∃ L, Hid (fcells pf va = L) := ⟨_, rfl⟩
      rw [HFF.out] at HSZ HON HOS ⊢
      clear hoa hb3 HR1 HR2 HB2 t0 eV
      go_wp2_with (first
        | (refine st_row (by rfl) 65 _ _ (by rfl) A FF (by rfl) (by rfl) 65 _ HR1c.out HSZ.out HOS.out HON.out ?_; intro w4 hw4)
        | (refine st_row (by rfl) 30 _ _ (by rfl) (A + 1) [Value.int .i64 p1, .int .i64 p2] (by rfl) (by rfl) 30 _ (gb_keep hw4.grown HR2c.out (by omega)) faultSize rfl (fault_one _ _) ?_; intro w5 hw5))
      refine ret_cc 2 3 65 30 rfl A rfl (A + 1) rfl FF 65 (gb_keep hw5.grown hw4.blk (by omega)) _ Tryz.underlying65 rfl HSZ.out _ 30 hw5.blk _ Tryz.underlying30 rfl faultSize rfl ?_
      rw [HDP.out]
      refine ⟨va, by rw [← HFF.out], ?_, Below.of_gb (Below.of_gb HB3.out hw4.grown (by have := HAA.out; omega)) hw5.grown (by have := HAA.out; omega)⟩
      exact (WOwnS.far (WOwnS.far HOA.out hw4.grown (fun j e => by injection e with e; have := HL2.out; omega)) hw5.grown (fun j e => by injection e with e; have := HL2.out; omega)).le (by have := HL2.out; have := HAA.out; omega)
  · as_aux_lemma =>
      rw [if_neg h0] at he
      subst he
      obtain ⟨E1, HE1⟩ : ∃ x, Hid ((unsE bs).1 = x) := ⟨_, rfl⟩
      obtain ⟨E2, HE2⟩ : ∃ x, Hid ((unsE bs).2 = x) := ⟨_, rfl⟩
      have HDP := hid (show decP bs = (zF, E1, E2) by rw [HDU.out, if_pos h0, ← HE1.out, ← HE2.out])
      rw [HE1.out] at h0 ⊢
      rw [HE2.out]
      have q1 : (E1 != 0) = true := by simpa using h0
      have q2 : (E1 == 0) = false := by simpa using h0
      have HW1 := hid (below_walk w1 (.cells #[.int .i64 E1, .int .i64 E2] 30))
      have HR1 := hid (bel_keep HW1.out HR1b.out)
      have HR2 := hid (bel_keep HW1.out HR2b.out)
      have HB2 := hid (below_then HB1.out HW1.out)
      clear hb1 HR1a HR2a HR1b HR2b HB1 HDU HUN hsl h0
      go_upto_region 2 with fail
      have HTB := hid (show (w1.alloc (.cells #[.int .i64 E1, .int .i64 E2] 30)).heap[w1.heap.size]? = some (.cells [Value.int .i64 E1, .int .i64 E2].toArray 30 (0, 0)) from hp_new w1 _)
      obtain ⟨tb, HTBe⟩ : ∃ b, Hid (w1.heap.size = b) := ⟨_, rfl⟩
      have HLt : Hid (A + 2 ≤ tb) := hid (by have := HLt1.out; have := HTBe.out; omega)
      rw [HTBe.out] at HTB ⊢
      generalize w1.alloc (.cells #[.int .i64 E1, .int .i64 E2] 30) = w2 at HR1 HR2 HB2 HTB ⊢
      have t0 : w2.cell? ⟨tb, 0, none⟩ = some (.int .i64 E1) := by simp [World.cell?, HTB.out]
      go_upto_region 3 with fail
      have HTBc := hid HTB.out
      refine wp_noPanic (wp_region_held_drew (S := fun W => W.heap[tb]? = some (.cells [Value.int .i64 E1, .int .i64 E2].toArray 30 (0, 0))) (by kernel_rfl) HTBc.out ?_)
      intro hHeld
      refine wpAnyH_take (i := 0) (v := .agg (fcells zF nS).toArray) rfl (by kernel_rfl) (by kernel_rfl) (by kernel_rfl) (fun _ _ _ h => h) (yields_build (by rfl) 65 #[] (by rfl) _ (by simp) _ built_zf) hHeld ?_
      simp only [Act.put, List.getElem_toArray, List.getElem_cons_zero, List.setIfInBounds_toArray, List.set_cons_succ, List.set_cons_zero]
      refine wpAnyH_take (i := 1) (v := .agg [Value.int .i64 E1, .int .i64 E2].toArray) rfl (by kernel_rfl) (by kernel_rfl) (by kernel_rfl) (fun _ _ _ h => h) (yieldsIf_load_mid (by rfl) 30 (.tmp 5) rfl tb 0 rfl [Value.int .i64 E1, .int .i64 E2] _ (fun W hW => range_row hW) Tryz.underlying30 rfl faultSize) hHeld ?_
      simp only [Act.put, List.getElem_toArray, List.getElem_cons_zero, List.getElem_cons_succ, List.setIfInBounds_toArray, List.set_cons_succ, List.set_cons_zero]
      obtain ⟨wx, HWX⟩ : ∃ x, Hid (w2.drew = x) := ⟨_, rfl⟩
      have HR1x := hid (show w2.drew.heap[A]? = _ from HR1.out)
      have HR2x := hid (show w2.drew.heap[A + 1]? = _ from HR2.out)
      have HTBx := hid (show w2.drew.heap[tb]? = some (.cells [Value.int .i64 E1, .int .i64 E2].toArray 30 (0, 0)) from HTB.out)
      have HBx := hid (show Below w.heap.size w w2.drew from below_tr HB2.out ⟨rfl, rfl, rfl, Nat.le_refl _, fun _ _ => rfl⟩)
      rw [HWX.out] at hHeld HR1x HR2x HTBx HBx ⊢
      refine wpAnyH_ready (rs := [2]) (by kernel_rfl) (by simp) ?_
      refine AllReadyH.cons rfl (fun K9 hK9 => ?_) AllReadyH.nil
      refine step_store_row (by rfl) 65 _ _ (by rfl) A (fcells zF nS) (by rfl) (by rfl) 65 _ HR1x.out (frame_size zF nS rfl) rfl (fcells_one zF nS rfl) ?_
      intro wy hwy
      refine hK9.out _ _ (gb_keep hwy.grown HTBx.out (by have := HLt.out; omega)) (fun hHeld => ?_)
      clear hK9 K9
      try simp only [Act.put, List.getElem_toArray, List.getElem_cons_zero, List.getElem_cons_succ]
      refine wpAnyH_ready (rs := [3]) (by kernel_rfl) (by simp) ?_
      refine AllReadyH.cons rfl (fun K9 hK9 => ?_) AllReadyH.nil
      refine step_store_row (by rfl) 30 _ _ (by rfl) (A + 1) [Value.int .i64 E1, .int .i64 E2] (by rfl) (by rfl) 30 _ (gb_keep hwy.grown HR2x.out (by omega)) faultSize rfl (fault_one _ _) ?_
      intro wz hwz
      refine hK9.out _ _ (gb_keep hwz.grown (gb_keep hwy.grown HTBx.out (by have := HLt.out; omega)) (by have := HLt.out; omega)) (fun hHeld => ?_)
      clear hK9 K9
      try simp only [Act.put, List.getElem_toArray, List.getElem_cons_zero, List.getElem_cons_succ]
      refine wpAnyH_done (by kernel_rfl) ?_ _
      simp only [noPanic]
      clear hHeld
      go_wp2
      refine ret_cc 2 3 65 30 rfl A rfl (A + 1) rfl (fcells zF nS) 65 (gb_keep hwz.grown hwy.blk (by omega)) _ Tryz.underlying65 rfl (frame_size zF nS rfl) _ 30 hwz.blk _ Tryz.underlying30 rfl faultSize rfl ?_
      rw [HDP.out]
      refine ⟨nS, rfl, World.ownsRow_nil _ _ _ _, ?_⟩
      exact Below.of_gb (Below.of_gb HBx.out hwy.grown (by have := HAA.out; omega)) hwz.grown (by have := HAA.out; omega)

end Go.Proofs.YtiibhccbbpgehabGreat

/- Slices of frames in memory. -/
namespace Go.Proofs.YtiibhccbbpgehabGreat
open Go.RowKit

abbrev FV := Fr × Value
def zFV : FV := (zF, nS)
/-- v is a slice that holds the frames fs, wherever they lie -/
def Frs (w : World) (v : Value) (fs : List FV) : Prop :=
  (∃ ao c, v = .slice ao 0 c ∧ fs = []) ∨ ∃ g o c, v = .slice (some ⟨g, o, none⟩) fs.length c ∧ g < w.heap.size ∧ ∀ j, j < fs.length → w.rangeAt g (o + j * 42) (fcells (fs.getD j zFV).1 (fs.getD j zFV).2) ∧ Strs w (fs.getD j zFV).2 (fs.getD j zFV).1.args ∧ Rng (fs.getD j zFV).1
theorem range_below {w w' : World} {g o n : Nat} {cs : List Value} (h : w.rangeAt g o cs) (hg : g < n) (hb : Below n w w') : w'.rangeAt g o cs := fun j v hv => (hb.cell (p := ⟨g, o + j, none⟩) hg).trans (h j v hv)
theorem Frs.below {w w' : World} {v : Value} {fs : List FV} (h : Frs w v fs) (hb : Below w.heap.size w w') : Frs w' v fs := by
  rcases h with h | ⟨g, o, c, hv, hlt, hc⟩
  · exact Or.inl h
  · exact Or.inr ⟨g, o, c, hv, Nat.lt_of_lt_of_le hlt hb.size, fun j hj => ⟨range_below (hc j hj).1 hlt hb, (hc j hj).2.1.below hb, (hc j hj).2.2⟩⟩
theorem Frs.shape {w : World} {v : Value} {fs : List FV} (h : Frs w v fs) : ∃ ao c, v = .slice ao fs.length c := by
  rcases h with ⟨ao, c, rfl, rfl⟩ | ⟨g, o, c, rfl, _⟩
  · exact ⟨_, _, rfl⟩
  · exact ⟨_, _, rfl⟩
theorem Frs.at {w : World} {ao : Option Addr} {n c : Nat} {fs : List FV} (h : Frs w (.slice ao n c) fs) (k : Nat) (hk : k < fs.length) : ∃ g o, ao = some ⟨g, o, none⟩ ∧ g < w.heap.size ∧ w.rangeAt g (o + k * 42) (fcells (fs.getD k zFV).1 (fs.getD k zFV).2) ∧ Strs w (fs.getD k zFV).2 (fs.getD k zFV).1.args ∧ Rng (fs.getD k zFV).1 := by
  rcases h with ⟨_, _, _, rfl⟩ | ⟨g, o, c', e, hlt, hc⟩
  · simp at hk
  · simp only [Value.slice.injEq] at e
    exact ⟨g, o, e.1, hlt, hc k hk⟩
end Go.Proofs.YtiibhccbbpgehabGreat

/- A decoder's memory: what its calls change; frames of one's own in a row. -/
namespace Go.Proofs.YtiibhccbbpgehabGreat
open Go.RowKit

/-- but for a decoder's two blocks nothing changed; its bytes lie where they lay, or in new memory -/
structure Gd (w w' : World) (b : Nat) (v v' : Value) : Prop where
  os : w'.os = w.os
  tape : w'.tape = w.tape
  output : w'.output = w.output
  size : w.heap.size ≤ w'.heap.size
  block : ∀ k, k < w.heap.size → k ≠ b → v.ownBlock ≠ some k → w'.heap[k]? = w.heap[k]?
  lies : ∀ k, v'.ownBlock = some k → v.ownBlock = some k ∨ w.heap.size ≤ k

theorem Gd.refl (w : World) (b : Nat) (v : Value) : Gd w w b v v := ⟨rfl, rfl, rfl, Nat.le_refl _, fun _ _ _ _ => rfl, fun _ h => Or.inl h⟩
theorem Gd.trans {w w1 w2 : World} {b : Nat} {v v1 v2 : Value} (h : Gd w w1 b v v1) (g : Gd w1 w2 b v1 v2) : Gd w w2 b v v2 :=
  ⟨g.os.trans h.os, g.tape.trans h.tape, g.output.trans h.output, Nat.le_trans h.size g.size,
    fun k hk hb hv => (g.block k (Nat.lt_of_lt_of_le hk h.size) hb (fun e => by rcases h.lies k e with e | e
                                                                                · exact hv e
                                                                                · omega)).trans (h.block k hk hb hv),
    fun k e => by rcases g.lies k e with e | e
                  · exact h.lies k e
                  · have := h.size; right; omega⟩
theorem Gd.below {w w1 w2 : World} {b : Nat} {v v1 : Value} (h : Gd w w1 b v v1) (g : Below w1.heap.size w1 w2) : Gd w w2 b v v1 :=
  ⟨g.os.trans h.os, g.tape.trans h.tape, g.output.trans h.output, Nat.le_trans h.size g.size,
    fun k hk hb hv => (g.block k (Nat.lt_of_lt_of_le hk h.size)).trans (h.block k hk hb hv), h.lies⟩
theorem Gd.after {w w1 w2 : World} {b : Nat} {v v1 : Value} (g : Below w.heap.size w w1) (h : Gd w1 w2 b v v1) : Gd w w2 b v v1 :=
  ⟨h.os.trans g.os, h.tape.trans g.tape, h.output.trans g.output, Nat.le_trans g.size h.size,
    fun k hk hb hv => (h.block k (Nat.lt_of_lt_of_le hk g.size) hb hv).trans (g.block k hk),
    fun k e => by rcases h.lies k e with e | e
                  · exact Or.inl e
                  · have := g.size; right; omega⟩
theorem Gd.set (w : World) (b i : Nat) (u v : Value) : Gd w (w.setCell ⟨b, i, none⟩ u) b v v :=
  ⟨rfl, rfl, rfl, by simp, fun k _ hb _ => Below.heap_setCell w _ u k (by simpa using hb), fun _ h => Or.inl h⟩
/-- the store of the bytes' slice behind a growth of their row -/
theorem Gd.grow {w w1 : World} {b i : Nat} {v v1 : Value} (h : w.grownBy w1 v.ownBlock) (hl : ∀ k, v1.ownBlock = some k → v.ownBlock = some k ∨ w.heap.size ≤ k) (u : Value) : Gd w (w1.setCell ⟨b, i, none⟩ u) b v v1 :=
  ⟨h.os, h.tape, h.output, by have := h.size; simpa using this,
    fun k hk hb hv => by rw [Below.heap_setCell w1 _ u k (by simpa using hb)]; exact h.block k hk (fun e => hv e.symm), hl⟩
/-- what lies below both of its blocks is as it was -/
theorem Gd.low {w w' : World} {b base : Nat} {v v' : Value} (h : Gd w w' b v v') (hb : base ≤ b) (hs : base ≤ w.heap.size) (hv : ∀ k, v.ownBlock = some k → base ≤ k) : Below base w w' :=
  ⟨h.os, h.tape, h.output, h.size, fun k hk => h.block k (by omega) (by omega) (fun e => by have := hv k e; omega)⟩

theorem OwnB.gd {w w' : World} {base b : Nat} {v v' vo : Value} {xs : List UInt8} (h : OwnB w base vo xs) (g : Gd w w' b v v') (hb : vo.ownBlock ≠ some b) (hv : ∀ k, vo.ownBlock = some k → v.ownBlock ≠ some k) : OwnB w' base vo xs := by
  have h' := h
  refine ⟨h.1, ?_⟩
  rcases h.2 with hn | ⟨g0, cap, cur, rfl, h1, h2, r⟩
  · exact .inl hn
  · refine .inr ⟨g0, cap, cur, rfl, h1, ?_, r⟩
    rw [g.block g0 (h'.lt g0 rfl).2 (fun e => hb (by rw [e]; rfl)) (hv g0 rfl)]
    exact h2
theorem Src.gd {w w' : World} {b : Nat} {v v' vo : Value} {xs : List UInt8} (h : Src w vo xs) (g : Gd w w' b v v') (hb : vo.ownBlock ≠ some b) (hv : ∀ k, vo.ownBlock = some k → v.ownBlock ≠ some k) : Src w' vo xs := by
  obtain ⟨h0, h | ⟨ad, cap, rfl, h1, h2, hlt, h3⟩⟩ := h
  · exact ⟨h0, Or.inl h⟩
  · refine ⟨h0, Or.inr ⟨ad, cap, rfl, h1, h2, fun h => Nat.lt_of_lt_of_le (hlt h) g.size, fun j hj => ?_⟩⟩
    rw [World.cell?_of_block (g.block (ad.add j).block (by rw [addr_block]; exact hlt (by omega)) (by rw [addr_block]; exact fun e => hb (by rw [← e]; rfl)) (by rw [addr_block]; exact hv _ rfl))]
    exact h3 j hj

/-- rows of one's own of unlike types lie apart -/
theorem own_typ {w : World} {base : Nat} {e : TypeId} {size : Nat} {v : Value} {n : Nat} {xs : List Value} (h : w.ownsRow base e size v n xs) {g : Nat} (hg : v.ownBlock = some g) : ∃ cur, w.heap[g]? = some (.cells cur e (0, 0)) := by
  rcases h.2 with ⟨rfl, _⟩ | ⟨g', cap, cur, rfl, _, hh, _⟩
  · cases hg
  · simp only [Value.ownBlock, Option.some.injEq] at hg
    subst hg
    exact ⟨cur, hh⟩
theorem own_apart {w : World} {base base' : Nat} {e e' : TypeId} {size size' : Nat} {v v' : Value} {n n' : Nat} {xs xs' : List Value} (h : w.ownsRow base e size v n xs) (h' : w.ownsRow base' e' size' v' n' xs') (he : e ≠ e') {k : Nat} (hk : v.ownBlock = some k) : v'.ownBlock ≠ some k := by
  intro hk'
  obtain ⟨c, h1⟩ := own_typ h hk
  obtain ⟨c', h2⟩ := own_typ h' hk'
  rw [h1] at h2
  simp at h2
  exact he h2.2
theorem own_block {w : World} {base : Nat} {e t : TypeId} {size : Nat} {v : Value} {n : Nat} {xs : List Value} (h : w.ownsRow base e size v n xs) {b : Nat} {cs : Array Value} (hb : w.heap[b]? = some (.cells cs t (0, 0))) (he : e ≠ t) : v.ownBlock ≠ some b := by
  intro hk
  obtain ⟨c, h1⟩ := own_typ h hk
  rw [h1] at hb
  simp at hb
  exact he hb.2
theorem own_le {w : World} {base base' : Nat} {e : TypeId} {size : Nat} {v : Value} {n : Nat} {xs : List Value} (h : w.ownsRow base e size v n xs) (hb : base' ≤ base) : w.ownsRow base' e size v n xs :=
  ⟨h.1, h.2.elim Or.inl (fun ⟨g, cap, cur, hv, hg, r⟩ => Or.inr ⟨g, cap, cur, hv, Nat.le_trans hb hg, r⟩)⟩
theorem own_gd {w w' : World} {base b : Nat} {e : TypeId} {size : Nat} {v v' vo : Value} {n : Nat} {xs : List Value} (h : w.ownsRow base e size vo n xs) (g : Gd w w' b v v') (hb : vo.ownBlock ≠ some b) (hv : ∀ k, vo.ownBlock = some k → v.ownBlock ≠ some k) : w'.ownsRow base e size vo n xs := by
  have h' := h
  refine ⟨h.1, ?_⟩
  rcases h.2 with hn | ⟨g0, cap, cur, rfl, h1, h2, r⟩
  · exact .inl hn
  · refine .inr ⟨g0, cap, cur, rfl, h1, ?_, r⟩
    rw [g.block g0 (World.ownsRow.lt h' g0 rfl).2 (fun e => hb (by rw [e]; rfl)) (hv g0 rfl)]
    exact h2
theorem own_below {w w' : World} {base : Nat} {e : TypeId} {size : Nat} {v : Value} {n : Nat} {xs : List Value} (h : w.ownsRow base e size v n xs) (hb : Below w.heap.size w w') : w'.ownsRow base e size v n xs :=
  World.ownsRow.kept h (below_gb hb none) (by cases e : v.ownBlock <;> simp)

def frsV (fs : List FV) : List Value := fs.flatMap fun f => fcells f.1 f.2
theorem frsV_cons (f : FV) (fs : List FV) : frsV (f :: fs) = fcells f.1 f.2 ++ frsV fs := rfl
theorem frsV_app (a b : List FV) : frsV (a ++ b) = frsV a ++ frsV b := by simp [frsV]
theorem frsV_length : ∀ (fs : List FV), (∀ f ∈ fs, f.1.tool.length = 32) → (frsV fs).length = fs.length * 42
  | [], _ => rfl
  | f :: fs, h => by
    rw [frsV_cons, List.length_append, fcells_length _ _ (h f (by simp)), frsV_length fs (fun g hg => h g (by simp [hg])), List.length_cons]
    omega
theorem frsV_one (fs : List FV) (h : ∀ f ∈ fs, f.2.oneCell' = true) : ∀ u ∈ frsV fs, u.oneCell' = true := by
  intro u hu
  simp only [frsV, List.mem_flatMap] at hu
  obtain ⟨f, hf, hu⟩ := hu
  exact fcells_one f.1 f.2 (h f hf) u hu
theorem frsV_get : ∀ (fs : List FV) (_h : ∀ f ∈ fs, f.1.tool.length = 32) (j i : Nat), j < fs.length → i < 42 → (frsV fs)[j * 42 + i]? = (fcells (fs.getD j zFV).1 (fs.getD j zFV).2)[i]?
  | [], _, _, _, hj, _ => by simp at hj
  | f :: fs, h, 0, i, _, hi => by
    rw [frsV_cons, List.getElem?_append_left (by rw [fcells_length _ _ (h f (by simp))]; omega)]
    simp
  | f :: fs, h, j + 1, i, hj, hi => by
    rw [frsV_cons, List.getElem?_append_right (by rw [fcells_length _ _ (h f (by simp))]; omega), fcells_length _ _ (h f (by simp)), show (j + 1) * 42 + i - 42 = j * 42 + i by omega, frsV_get fs (fun g hg => h g (by simp [hg])) j i (by simpa using hj) hi]
    simp
theorem frsV_inv {fs : List FV} (h : ∀ f ∈ fs, f.1.tool.length = 32) {i : Nat} {u : Value} (hu : (frsV fs)[i]? = some u) : ∃ j k, j < fs.length ∧ i = j * 42 + k ∧ (fcells (fs.getD j zFV).1 (fs.getD j zFV).2)[k]? = some u := by
  have hi : i < fs.length * 42 := by
    rw [← frsV_length fs h]
    exact (List.getElem?_eq_some_iff.1 hu).1
  have hj : i / 42 < fs.length := by omega
  have hk : i % 42 < 42 := by omega
  have e := frsV_get fs h (i / 42) (i % 42) hj hk
  rw [show i / 42 * 42 + i % 42 = i by omega, hu] at e
  exact ⟨i / 42, i % 42, hj, by omega, e.symm⟩

/-- v owns the frames fs and their texts, in memory from block 'base' on -/
structure OFs (w : World) (base : Nat) (v : Value) (fs : List FV) : Prop where
  own : w.ownsRow base 65 42 v fs.length (frsV fs)
  each : ∀ f ∈ fs, WOwnS w base f.2 f.1.args ∧ Rng f.1
theorem OFs.nil (w : World) (base : Nat) : OFs w base (.slice none 0 0) [] := ⟨World.ownsRow_nil _ _ _ _, fun _ h => by cases h⟩
theorem OFs.below {w w' : World} {base : Nat} {v : Value} {fs : List FV} (h : OFs w base v fs) (hb : Below w.heap.size w w') : OFs w' base v fs :=
  ⟨own_below h.own hb, fun f hf => ⟨own_below (h.each f hf).1 hb, (h.each f hf).2⟩⟩
theorem OFs.le {w : World} {base base' : Nat} {v : Value} {fs : List FV} (h : OFs w base v fs) (hb : base' ≤ base) : OFs w base' v fs :=
  ⟨own_le h.own hb, fun f hf => ⟨own_le (h.each f hf).1 hb, (h.each f hf).2⟩⟩
theorem OFs.tools {w : World} {base : Nat} {v : Value} {fs : List FV} (h : OFs w base v fs) : ∀ f ∈ fs, f.1.tool.length = 32 := fun f hf => (h.each f hf).2.tool
theorem OFs.ones {w : World} {base : Nat} {v : Value} {fs : List FV} (h : OFs w base v fs) : ∀ f ∈ fs, f.2.oneCell' = true := by
  intro f hf
  obtain ⟨a, c, e⟩ := wowns_shape (h.each f hf).1
  rw [e]
  rfl
theorem OFs.shape {w : World} {base : Nat} {v : Value} {fs : List FV} (h : OFs w base v fs) : ∃ ao c, v = .slice ao fs.length c := by
  rcases h.own.2 with ⟨rfl, h0⟩ | ⟨g, cap, cur, rfl, _⟩
  · exact ⟨none, 0, by rw [h0]⟩
  · exact ⟨_, _, rfl⟩
theorem OFs.nilc {w : World} {base : Nat} {v : Value} {fs : List FV} (h : OFs w base v fs) : ∀ c, v = .slice none 0 c → c = 0 := by
  intro c e
  rcases h.own.2 with ⟨h0, _⟩ | ⟨g, cap, cur, h0, _⟩
  · rw [h0] at e
    injection e with _ _ e
    exact e.symm
  · rw [h0] at e
    injection e with e _ _
    cases e
/-- what a decoder's call changes is apart from frames -/
theorem OFs.gd {w w' : World} {base b base2 : Nat} {v v' vo : Value} {fs : List FV} {bs : List UInt8} {cs : Array Value} (h : OFs w base vo fs) (g : Gd w w' b v v') (hb : w.heap[b]? = some (.cells cs 47 (0, 0))) (hv : OwnB w base2 v bs) : OFs w' base vo fs :=
  ⟨own_gd h.own g (own_block h.own hb (by decide)) (fun k hk => own_apart h.own hv (by decide) hk), fun f hf => ⟨own_gd (h.each f hf).1 g (own_block (h.each f hf).1 hb (by decide)) (fun k hk => own_apart (h.each f hf).1 hv (by decide) hk), (h.each f hf).2⟩⟩
/-- a row of another type grew -/
theorem OFs.grown {w w' : World} {base base2 n : Nat} {e : TypeId} {size : Nat} {v vo : Value} {xs : List Value} {fs : List FV} (h : OFs w base vo fs) (hv : w.ownsRow base2 e size v n xs) (hg : w.grownBy w' v.ownBlock) (h1 : 65 ≠ e) (h2 : 9 ≠ e) : OFs w' base vo fs := by
  have key : ∀ {t : TypeId} {sz m : Nat} {u : Value} {ys : List Value}, w.ownsRow base t sz u m ys → t ≠ e → w'.ownsRow base t sz u m ys := by
    intro t sz m u ys hu ht
    refine World.ownsRow.kept hu hg ?_
    cases hk : u.ownBlock with
    | none => exact Or.inl rfl
    | some k => exact Or.inr (fun h9 => own_apart hu hv ht hk (by rw [← h9]))
  exact ⟨key h.own h1, fun f hf => ⟨key (h.each f hf).1 h2, (h.each f hf).2⟩⟩
theorem OFs.far {w w' : World} {base n : Nat} {vo : Value} {fs : List FV} (h : OFs w base vo fs) (hg : w.grownBy w' (some n)) (hn : n < base) : OFs w' base vo fs := by
  have key : ∀ {t : TypeId} {sz m : Nat} {u : Value} {ys : List Value}, w.ownsRow base t sz u m ys → w'.ownsRow base t sz u m ys := by
    intro t sz m u ys hu
    refine World.ownsRow.kept hu hg ?_
    cases hk : u.ownBlock with
    | none => exact Or.inl rfl
    | some k => exact Or.inr (fun h9 => by injection h9 with h9; have := (World.ownsRow.lt hu k hk).1; omega)
  exact ⟨key h.own, fun f hf => ⟨key (h.each f hf).1, (h.each f hf).2⟩⟩
theorem OFs.frs {w : World} {base : Nat} {v : Value} {fs : List FV} (h : OFs w base v fs) : Frs w v fs := by
  have h' := h.own
  rcases h.own.2 with ⟨h0, h1⟩ | ⟨g, cap, cur, hv, hb, hh, h1, h2, _, _⟩
  · exact Or.inl ⟨none, 0, h0, List.length_eq_zero_iff.1 h1⟩
  · refine Or.inr ⟨g, 0, cap, hv, hp_lt hh, fun j hj => ?_⟩
    have hm : fs.getD j zFV ∈ fs := by
      rw [List.getD_eq_getElem?_getD, List.getElem?_eq_getElem hj]
      exact List.getElem_mem hj
    refine ⟨fun i u hu => ?_, wowns_strs (h.each _ hm).1, (h.each _ hm).2⟩
    have hi : i < 42 := by
      have := (List.getElem?_eq_some_iff.1 hu).1
      rwa [fcells_length _ _ (h.each _ hm).2.tool] at this
    have := World.ownsRow.cells h' (g := g) (by rw [hv]; rfl) (j * 42 + i) u (by rw [frsV_get fs h.tools j i hj hi]; exact hu)
    rw [addr_add] at this
    rw [Nat.zero_add]
    exact this
theorem Frs.drew {w : World} {v : Value} {fs : List FV} (h : Frs w v fs) (n : Nat) : Frs (w.drewN n) v fs := h.below ⟨rfl, rfl, rfl, Nat.le_refl _, fun _ _ => rfl⟩

theorem Tryz.infoFrame : (Tryz.prog.info? 65).map (fun i => (i.zero, i.size, i.bytes)) = some (some (.agg (fcells zF nS).toArray), 42, 136) := by kernel_rfl

/-- append(own, frames...) -/
theorem app_frs {w : World} {ops : Array Oper} {rest : List Oper} {o : Oper} {a : Act} {Q : Exit → Act → World → Prop} (hgd : o.guard = none) (s x : Operand)
    (ho : o.op = .call { callee := .builtin .append, args := #[s, x], argTypes := #[28, 28] })
    (base : Nat) (v : Value) (ts : List FV) (hs : a.eval s = v) (hown : OFs w base v ts) (us : List FV) (vx : Value) (hx : a.eval x = vx) (hc : Frs w vx us) (hz : ∀ c, vx = .slice none 0 c → c = 0) (he : ∀ f ∈ us, WOwnS w base f.2 f.1.args ∧ Rng f.1)
    (hlen : ts.length + us.length ≤ 1000000000000) (hbase : base ≤ w.heap.size)
    (h : ∀ v' w', OFs w' base v' (ts ++ us) → w.grownBy w' v.ownBlock → (v'.ownBlock = v.ownBlock ∨ v'.ownBlock = some w.heap.size) → wpList Tryz.prog ops Q rest (a.put o.dst v') w') : wpList Tryz.prog ops Q (o :: rest) a w := by
  obtain ⟨i0, hi, hz0, hz1, hz2⟩ := info_parts Tryz.infoFrame
  rcases hc with ⟨ao, c, h1, h2⟩ | ⟨g, off, c, hv, hlt, h2⟩
  · subst h2
    cases ao with
    | none =>
      have h3 := hz c h1
      subst h3 h1
      refine wpList_append_own_none hgd s x 28 ho base 65 i0 42 Tryz.underlying28 hi v ts.length _ hs hown.own hx ?_
      exact h v w (by simpa using hown) (gb_refl _ _) (Or.inl rfl)
    | some ad =>
      subst h1
      refine wpList_plain hgd fun K hK => ?_
      obtain ⟨v', w', hr, h5, h6, _⟩ := run_append_own (P := Tryz.prog) w base 28 o.type 65 i0 (.agg (fcells zF nS).toArray) 42 136 Tryz.underlying28 hi hz0 hz1 hz2 rfl (by decide) v ts.length (frsV ts) hown.own ad 0 c [] (by simp) (by simp) (by simp) (by unfold maxLen; simp at hlen; omega) (by simp at hlen; omega) hbase
      have hp := app_place (P := Tryz.prog) w base 28 o.type 65 i0 (.agg (fcells zF nS).toArray) 42 136 Tryz.underlying28 hi hz0 hz1 hz2 v ts.length (frsV ts) hown.own ad 0 c [] (by simp) (by simp) (by simp) (by unfold maxLen; simp at hlen; omega) (by simp at hlen; omega) v' w' hr
      unfold Oper.wp execOp
      simp only [ho, resolve, invoke, builtin, Sem.run_bind, Sem.run_pure, Result.andThen_ok, List.map_toArray, List.map_cons, List.map_nil, hs, hx, hr]
      refine hK _ _ (h v' w' ⟨by simpa using h5, fun f hf => ?_⟩ h6 hp)
      rw [List.append_nil] at hf
      refine ⟨World.ownsRow.kept (hown.each f hf).1 h6 ?_, (hown.each f hf).2⟩
      cases hk : f.2.ownBlock with
      | none => exact Or.inl rfl
      | some k => exact Or.inr (fun h9 => own_apart (hown.each f hf).1 hown.own (by decide) hk (by rw [← h9]))
  · subst hv
    refine wpList_plain hgd fun K hK => ?_
    have htl : ∀ f ∈ us, f.1.tool.length = 32 := fun f hf => (he f hf).2.tool
    have hon : ∀ f ∈ us, f.2.oneCell' = true := fun f hf => by
      obtain ⟨a, c, e⟩ := wowns_shape (he f hf).1
      rw [e]
      rfl
    have hl : (frsV us).length = us.length * 42 := frsV_length us htl
    have hcl : ∀ j u, (frsV us)[j]? = some u → w.cell? ((⟨g, off, none⟩ : Addr).add j) = some u := by
      intro j u hu
      obtain ⟨m, k, hm, rfl, hk⟩ := frsV_inv htl hu
      rw [show (⟨g, off, none⟩ : Addr).add (m * 42 + k) = ⟨g, off + m * 42 + k, none⟩ by rw [Nat.add_assoc]; exact Addr.add_mid g off (m * 42 + k)]
      exact (h2 m hm).1 k u hk
    obtain ⟨v', w', hr, h5, h6, _⟩ := run_append_own (P := Tryz.prog) w base 28 o.type 65 i0 (.agg (fcells zF nS).toArray) 42 136 Tryz.underlying28 hi hz0 hz1 hz2 rfl (by decide) v ts.length (frsV ts) hown.own ⟨g, off, none⟩ us.length c (frsV us) hl hcl (frsV_one us hon) (by unfold maxLen; omega) (by omega) hbase
    have hp := app_place (P := Tryz.prog) w base 28 o.type 65 i0 (.agg (fcells zF nS).toArray) 42 136 Tryz.underlying28 hi hz0 hz1 hz2 v ts.length (frsV ts) hown.own ⟨g, off, none⟩ us.length c (frsV us) hl hcl (frsV_one us hon) (by unfold maxLen; omega) (by omega) v' w' hr
    unfold Oper.wp execOp
    simp only [ho, resolve, invoke, builtin, Sem.run_bind, Sem.run_pure, Result.andThen_ok, List.map_toArray, List.map_cons, List.map_nil, hs, hx, hr]
    refine hK _ _ (h v' w' ⟨by rw [List.length_append, frsV_app]; exact h5, fun f hf => ?_⟩ h6 hp)
    have key : WOwnS w base f.2 f.1.args → WOwnS w' base f.2 f.1.args := by
      intro hu
      refine World.ownsRow.kept hu h6 ?_
      cases hk : f.2.ownBlock with
      | none => exact Or.inl rfl
      | some k => exact Or.inr (fun h9 => own_apart hu hown.own (by decide) hk (by rw [← h9]))
    rcases List.mem_append.1 hf with hf | hf
    · exact ⟨key (hown.each f hf).1, (hown.each f hf).2⟩
    · exact ⟨key (he f hf).1, (he f hf).2⟩
end Go.Proofs.YtiibhccbbpgehabGreat
