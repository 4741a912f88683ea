/- Contracts and pure facts that the proof needs, joined. -/
import Derived.Test.YtiibhccbbpgehaaGreatG5
import Derived.Test.YtiibhccbbpgehaaGreatG4
import Derived.Test.YtiibhccbbpgehaaGreatG1
import Derived.Laws.AppendOwnNone
import Derived.Test.YtiibhccbbpgehaaGreatG2
import Derived.Great.BuildSlice
import Derived.Great.FillDense

/- readFrame, where the kind that is read is 5. -/
namespace Go.Proofs.YtiibhccbbpgehaaGreat
open Go.RowKit Go.BigFrame

set_option maxRecDepth 100000 in
set_option maxHeartbeats 8000000 in
theorem readFrame_5 (v0 : Value) (bs : List UInt8) (head N : Nat) (w : World) (hs : Src w v0 bs) (hbl : bs.length ≤ 1099511627776) (hu : uS bs (0, 0, 0) = (N, head, 0, 0)) (hK : (oS bs 6 (head, 0, 0)).1 = 5) :
    Calls Tryz.prog 30 #[v0] w fun e w' => ∃ va, e = .returned (.tuple #[.agg (fcells (frameP bs head).1 va).toArray, .agg #[.int .i64 (frameP bs head).2.1, .int .i64 (frameP bs head).2.2]]) ∧ WOwnS w' w.heap.size va (frameP bs head).1.args ∧ Below w.heap.size w w' := by
  obtain ⟨va0, c0, rfl⟩ := src_shape hs
  obtain ⟨L0, HL0⟩ : ∃ n, Hid (bs.length = n) := ⟨_, rfl⟩
  obtain ⟨A, HAA⟩ : ∃ n, Hid (w.heap.size = n) := ⟨_, rfl⟩
  have HB0 := hid (below_walk2 w (.cells (fcells zF nS).toArray 30) (.cells #[.int .i64 0, .int .i64 0] 33))
  have HNB := hid (hp_two w (.cells (fcells zF nS).toArray 30) (.cells #[.int .i64 0, .int .i64 0] 33))
  have HZ : Hid ((w.alloc (.cells (fcells zF nS).toArray 30)).heap.size = w.heap.size + 1) := hid (by simp)
  have HZ2 : Hid (((w.alloc (.cells (fcells zF nS).toArray 30)).alloc (.cells #[.int .i64 0, .int .i64 0] 33)).heap.size = w.heap.size + 2) := hid (by simp)
  have HNR := hid (newReader_any _ bs _ (hs.below HB0.out))
  have HU := hid hu
  have HK := hid hK
  have HBL := hid hbl
  clear hs hbl hu hK
  go_enter Tryz.func30, Tryz.ntmps30
  go_upto_region 1 with (refine al_row (by rfl) 30 (by rfl) _ zeroFrame ?_)
  try rw [HZ.out]
  generalize (w.alloc (.cells (fcells zF nS).toArray 30)).alloc (.cells #[.int .i64 0, .int .i64 0] 33) = w0 at HB0 HNB HZ2 HNR ⊢
  rw [HAA.out] at HNB HZ2 ⊢
  have HR1 := hid HNB.out.1
  have HR2 := hid HNB.out.2
  clear HNB HZ
  go_wp2_with fail
  refine HNR.out.mono ?_
  rintro e w1 ⟨rb, v, rfl, hr1, hb1⟩
  obtain ⟨b, HBb⟩ : ∃ b, Hid (w1.heap.size = b) := ⟨_, rfl⟩
  have HLb : Hid (A + 2 ≤ b) := hid (by have := hb1.size; have := HZ2.out; have := HBb.out; omega)
  have HLr : Hid (A + 2 ≤ rb) := hid (by have := hr1.lo; have := HZ2.out; omega)
  have HLrb : Hid (rb < b) := hid (by have := hr1.lt; have := HBb.out; omega)
  have HAW := hid (below_walk w1 (.cells #[.pointer (some ⟨rb, 0, none⟩), .int .i64 0, .int .i64 0] 127))
  have HFD := hid (show Fd (w1.alloc (.cells #[.pointer (some ⟨rb, 0, none⟩), .int .i64 0, .int .i64 0] 127)) w0.heap.size b rb v bs (0, 0, 0) from ⟨0, 0, 0, 0, 0, hr1.below HAW.out, HBb.out ▸ hp_new w1 _, by have := HLrb.out; omega, fun e => by have := (hr1.own.lt _ e).2; have := HBb.out; omega, by have := hb1.size; have := HBb.out; omega, Or.inl ⟨rfl, rfl⟩⟩)
  have HR1a := hid (bel_keep HAW.out (bel_keep hb1 HR1.out))
  have HR2a := hid (bel_keep HAW.out (bel_keep hb1 HR2.out))
  have HB1 := hid (below_then (below_then HB0.out hb1) HAW.out)
  clear hr1 hb1 HR1 HR2 HB0 HNR HAW
  go_upto_region 2 with fail
  rw [HBb.out]
  generalize w1.alloc (.cells #[.pointer (some ⟨rb, 0, none⟩), .int .i64 0, .int .i64 0] 127) = w2 at HFD HR1a HR2a HB1 ⊢
  have p2 := HFD.out.ptr
  go_wp2_with fail
  refine (fd_uint HFD.out).mono ?_
  rintro e w3 ⟨rfl, hf3, hg3⟩
  rw [HU.out] at hf3
  have HF3 := hid (show Fd w3 w0.heap.size b rb v bs (head, 0, 0) from hf3)
  have HR1b := hid (gb_keep hg3 HR1a.out (by have := HLr.out; omega))
  have HR2b := hid (gb_keep hg3 HR2a.out (by have := HLr.out; omega))
  have HB3 := hid (Below.of_gb HB1.out hg3 (by have := HLr.out; have := HAA.out; omega))
  clear hf3 hg3 p2 HFD HR1a HR2a HB1
  have p3 := HF3.out.ptr
  go_wp2_with fail
  refine (fd_at HF3.out).mono ?_
  rintro e w4 ⟨A4, rfl, hw4, hA4⟩
  have hw4 := hw4.symm
  subst hw4
  obtain rfl : A4 = head := hA4 rfl
  clear hA4 p3
  go_wp2_with fail
  refine (fd_some w0.heap.size b rb v bs (A4, 0, 0) 6 w3 (by omega) HF3.out).mono ?_
  rintro e w5 ⟨rfl, hf5, hg5⟩
  rw [show ((oS bs 6 (A4, 0, 0)).1 : Int) = 5 by rw [HK.out]; rfl]
  have HF5 := hid hf5
  have HR1c := hid (hg5.keep HR1b.out (by have := HLb.out; omega) (by have := HLr.out; omega))
  have HR2c := hid (hg5.keep HR2b.out (by have := HLb.out; omega) (by have := HLr.out; omega))
  have HB5 := hid (hg5.below HB3.out (by have := HLb.out; have := HAA.out; omega) (by have := HLr.out; have := HAA.out; omega))
  clear hf5 hg5 HF3 HR1b HR2b HB3
  go_upto_region 5 with (first
    | (refine bd_row (by rfl) 30 #[(0, .tmp 25)] (by rfl) _ (by simp [Act.eval]) _ built_k5 ?_)
    | (refine al_row (by rfl) 30 (by rfl) _ zeroFrame ?_)
    | (refine st_new (by rfl) 30 _ _ (by rfl) (fcells (kF 5) nS) (by rfl) (by rfl) 30 _ (frame_size (kF 5) nS rfl) rfl (fcells_one (kF 5) nS rfl) ?_))
  have HW5 := hid (below_walk w5 (.cells (fcells (kF 5) nS).toArray 30))
  have HF6 := hid (HF5.out.below HW5.out)
  have HR1d := hid (bel_keep HW5.out HR1c.out)
  have HR2d := hid (bel_keep HW5.out HR2c.out)
  have HB6 := hid (below_then HB5.out HW5.out)
  have HFb := hid (hp_new w5 (.cells (fcells (kF 5) nS).toArray 30))
  have HLf0 : Hid (b < w5.heap.size) := hid HF5.out.lt.1
  have HVO0 := hid HF5.out.own
  obtain ⟨fb, HFBe⟩ : ∃ b, Hid (w5.heap.size = b) := ⟨_, rfl⟩
  rw [HFBe.out] at HFb HLf0 HVO0 ⊢
  have HVO : Hid (∀ k, v.ownBlock = some k → k < fb) := hid HVO0.out
  generalize w5.alloc (.cells (fcells (kF 5) nS).toArray 30) = w6 at HF6 HR1d HR2d HB6 HFb ⊢
  clear HF5 HR1c HR2c HB5 HW5
  have x0 : w6.cell? ⟨fb, 0, none⟩ = some (.int .i64 5) := (Fb.of HFb.out rfl).k
  go_wp2_with fail
  refine (kindOf_5 w6).mono ?_
  rintro e w7 ⟨rfl, hb7⟩
  have HF7 := hid (HF6.out.below hb7)
  have HR1e := hid (bel_keep hb7 HR1d.out)
  have HR2e := hid (bel_keep hb7 HR2d.out)
  have HB7 := hid (below_then HB6.out hb7)
  have HFc := hid (bel_keep hb7 HFb.out)
  clear hb7 HF6 HR1d HR2d HB6 HFb x0
  go_upto_region 6 with (first
    | (refine al_row (by rfl) 135 (by rfl) _ zeroKind ?_)
    | (refine st_new (by rfl) 135 _ _ (by rfl) k5 (by rfl) (by rfl) 135 _ kindSize rfl (kOf_one 5) ?_))
  have HW7 := hid (below_walk w7 (.cells (k5).toArray 135))
  have HF8 := hid (HF7.out.below HW7.out)
  have HR1 := hid (bel_keep HW7.out HR1e.out)
  have HR2 := hid (bel_keep HW7.out HR2e.out)
  have HB8 := hid (below_then HB7.out HW7.out)
  have HFd := hid (bel_keep HW7.out HFc.out)
  have HKb := hid (hp_new w7 (.cells (k5).toArray 135))
  have HLk : Hid (fb < w7.heap.size) := hid (hp_lt HFc.out)
  obtain ⟨kb, HKBe⟩ : ∃ b, Hid (w7.heap.size = b) := ⟨_, rfl⟩
  rw [HKBe.out] at HKb HLk ⊢
  generalize w7.alloc (.cells (k5).toArray 135) = w8 at HF8 HR1 HR2 HB8 HFd HKb ⊢
  clear HF7 HR1e HR2e HB7 HFc HW7 HZ2 HFBe HKBe
  have y4 : w8.cell? ⟨kb, 4, none⟩ = some (.func (.func 137) #[] #[]) := by rw [cell_of_row w8 kb 4 _ _ _ HKb.out]; rfl
  go_wp2_with (refine ld_row (by rfl) 30 (.tmp 6) (by rfl) fb (by rfl) (fcells (kF 5) nS) 30 HFd.out _ Tryz.underlying30 rfl (frame_size (kF 5) nS rfl) ?_)
  refine (readBye_any w0.heap.size b rb v bs (oS bs 6 (A4, 0, 0)).2 w8 HBL.out HF8.out).mono ?_
  rintro e w9 ⟨va, rfl, hoa, hf9, hg9⟩
  have HLb8 : Hid (b < w8.heap.size) := hid HF8.out.lt.1
  have HLr8 : Hid (rb < w8.heap.size) := hid HF8.out.lt.2.1
  have HLk8 : Hid (kb < w8.heap.size) := hid (hp_lt HKb.out)
  have HS9 : Hid (w8.heap.size ≤ w9.heap.size) := hid hg9.size
  have HOA := hid hoa
  have HF9 := hid hf9
  have HR1f := hid (hg9.keep HR1.out (by have := HLb.out; omega) (by have := HLr.out; omega))
  have HR2f := hid (hg9.keep HR2.out (by have := HLb.out; omega) (by have := HLr.out; omega))
  have HB9 := hid (hg9.below HB8.out (by have := HLb.out; have := HAA.out; omega) (by have := HLr.out; have := HAA.out; omega))
  have HFe := hid (hg9.keep HFd.out (by have := HLf0.out; omega) (by have := HLf0.out; have := HLrb.out; omega))
  have HKc := hid (hg9.keep HKb.out (by have := HLk.out; have := HLf0.out; omega) (by have := HLk.out; have := HLf0.out; have := HLrb.out; omega))
  have HTL := hid (show (fieldsP bs 5 (oS bs 6 (A4, 0, 0)).2).1.tool.length = 32 from fieldsP_tool bs 5 (oS bs 6 (A4, 0, 0)).2)
  obtain ⟨aV, cV, eV⟩ := wowns_shape hoa
  have HSZ := hid (frame_size (fieldsP bs 5 (oS bs 6 (A4, 0, 0)).2).1 va HTL.out)
  have HON := hid (fcells_one (fieldsP bs 5 (oS bs 6 (A4, 0, 0)).2).1 va (by rw [eV]; rfl))
  have HOS := hid (show (fcells (kF 5) nS).toArray.size = (fcells (fieldsP bs 5 (oS bs 6 (A4, 0, 0)).2).1 va).length by rw [fcells_length _ _ HTL.out]; rfl)
  obtain ⟨FF, HFF⟩ : ∃ L, Hid (fcells (fieldsP bs 5 (oS bs 6 (A4, 0, 0)).2).1 va = L) := ⟨_, rfl⟩
  rw [HFF.out] at HSZ HON HOS ⊢
  have HFV : Hid (∀ k, v.ownBlock = some k → k < fb) := hid (fun k hk => by have := HVO.out k hk; omega)
  clear hoa hf9 hg9 HF8 HR1 HR2 HB8 HFd HKb y4 eV
  go_upto_region 9 with (refine st_row (by rfl) 30 _ _ (by rfl) fb FF (by rfl) (by rfl) 30 _ HFe.out HSZ.out HOS.out HON.out ?_; intro w10 hw10)
  have HF10 := hid (HF9.out.far hw10.grown (by have := HLf0.out; omega) (by have := HLf0.out; have := HLrb.out; omega) (fun k hk => by have := HFV.out k hk; omega))
  have HR1g := hid (gb_keep hw10.grown HR1f.out (by have := HLf0.out; have := HLb.out; omega))
  have HR2g := hid (gb_keep hw10.grown HR2f.out (by have := HLf0.out; have := HLb.out; omega))
  have HKd := hid (gb_keep hw10.grown HKc.out (by have := HLk.out; omega))
  have HB10 := hid (Below.of_gb HB9.out hw10.grown (by have := HLf0.out; have := HLb.out; have := HAA.out; omega))
  have HFf := hid hw10.blk
  have HOA2 := hid (WOwnS.far HOA.out hw10.grown (fun j e => by injection e with e; have := HLk.out; have := HLk8.out; omega))
  have HS10 : Hid (w8.heap.size ≤ w10.heap.size) := hid (by have := hw10.size; have := HS9.out; omega)
  clear hw10 HF9 HR1f HR2f HKc HB9 HFe HOA HOS HS9
  go_wp2_with fail
  refine (fd_end w0.heap.size b rb v bs _ w10 HF10.out).mono ?_
  rintro e w11 ⟨rfl, hg11⟩
  have HR1h := hid (hg11.keep HR1g.out (by have := HLb.out; omega) (by have := HLr.out; omega))
  have HR2h := hid (hg11.keep HR2g.out (by have := HLb.out; omega) (by have := HLr.out; omega))
  have HB11 := hid (hg11.below HB10.out (by have := HLb.out; have := HAA.out; omega) (by have := HLr.out; have := HAA.out; omega))
  have HFg := hid (hg11.keep HFf.out (by have := HLf0.out; omega) (by have := HLf0.out; have := HLrb.out; omega))
  have HKe := hid (hg11.keep HKd.out (by have := HLk.out; have := HLf0.out; omega) (by have := HLk.out; have := HLf0.out; have := HLrb.out; omega))
  have HOA3 := hid (wowns_g2 HOA2.out hg11 HLb8.out HLr8.out)
  have HS11 : Hid (w8.heap.size ≤ w11.heap.size) := hid (by have := hg11.size; have := HS10.out; omega)
  obtain ⟨E1, HE1⟩ : ∃ x, Hid ((eS bs (fieldsP bs 5 (oS bs 6 (A4, 0, 0)).2).2).1 = x) := ⟨_, rfl⟩
  obtain ⟨E2, HE2⟩ : ∃ x, Hid ((eS bs (fieldsP bs 5 (oS bs 6 (A4, 0, 0)).2).2).2 = x) := ⟨_, rfl⟩
  rw [HE1.out, HE2.out]
  clear hg11 HF10 HR1g HR2g HB10 HFf HKd HOA2 HS10
  go_upto_region 10 with fail
  have HWT := hid (below_walk w11 (.cells #[.int .i64 E1, .int .i64 E2] 33))
  have HR1i := hid (bel_keep HWT.out HR1h.out)
  have HR2i := hid (bel_keep HWT.out HR2h.out)
  have HB12 := hid (below_then HB11.out HWT.out)
  have HFh := hid (bel_keep HWT.out HFg.out)
  have HKf := hid (bel_keep HWT.out HKe.out)
  have HOA4 := hid (HOA3.out.alloc (.cells #[.int .i64 E1, .int .i64 E2] 33))
  have HTB0 := hid (hp_new w11 (.cells #[.int .i64 E1, .int .i64 E2] 33))
  have HLt0 : Hid (kb < w11.heap.size) := hid (hp_lt HKe.out)
  obtain ⟨tb, HTBe⟩ : ∃ b, Hid (w11.heap.size = b) := ⟨_, rfl⟩
  rw [HTBe.out] at HTB0 HLt0 ⊢
  generalize w11.alloc (.cells #[.int .i64 E1, .int .i64 E2] 33) = w12 at HR1i HR2i HB12 HFh HKf HOA4 HTB0 ⊢
  have HLt : Hid (A + 2 ≤ tb) := hid (by have := HLt0.out; have := HLk.out; have := HLf0.out; have := HLb.out; omega)
  have HL8t : Hid (w8.heap.size ≤ tb) := hid (by have := HS11.out; have := HTBe.out; omega)
  clear HR1h HR2h HB11 HFg HKe HOA3 HWT HTBe HS11
  have t0 : w12.cell? ⟨tb, 0, none⟩ = some (.int .i64 E1) := by simp [World.cell?, HTB0.out]
  have t1 : w12.cell? ⟨tb, 1, none⟩ = some (.int .i64 E2) := by simp [World.cell?, HTB0.out]
  have f0 := row_fz HTB0.out 0
  have f1 := row_fz HTB0.out 1
  by_cases hE : E1 = 0
  · obtain ⟨M, HM⟩ : ∃ M, Hid (mayF (fieldsP bs 5 (oS bs 6 (A4, 0, 0)).2).1 = M) := ⟨_, rfl⟩
    have HST := hid (wowns_strs HOA4.out)
    have HMN : Hid ((fieldsP bs 5 (oS bs 6 (A4, 0, 0)).2).1.args.length ≤ 9223372036854775807) := hid (wowns_len HOA4.out)
    have HMAY := hid (show Calls Tryz.prog 132 #[.agg FF.toArray] w12 fun e w' => e = .returned (.bool M) ∧ Below w12.heap.size w12 w' by
      rw [← HM.out, mayF_5 _ (fieldsP_kind bs 5 (oS bs 6 (A4, 0, 0)).2 (by omega)), ← HFF.out]
      exact mayAlways_any _ w12)
    subst hE
    have y2 : w12.cell? ⟨kb, 2, none⟩ = some (.func (.func 132) #[] #[]) := by rw [cell_of_row w12 kb 2 _ _ _ HKf.out]; rfl
    have HRG := hid (range_row HFh.out)
    clear HST HMN
    go_wp2_with (refine ld_gd (by rfl) 30 (.tmp 6) (by rfl) fb 0 (by rfl) FF _ HRG.out Tryz.underlying30 rfl HSZ.out ?_)
    refine HMAY.out.mono ?_
    rintro e w13 ⟨rfl, hb13⟩
    have HR1z := hid (bel_keep hb13 HR1i.out)
    have HR2z := hid (bel_keep hb13 HR2i.out)
    have HBz := hid (below_then HB12.out hb13)
    have HFz := hid (bel_keep hb13 HFh.out)
    have HTBz := hid (bel_keep hb13 HTB0.out)
    have HOAz := hid (WOwnS.far HOA4.out (below_gb hb13 none) (fun j e => by cases e))
    clear hb13 HR1i HR2i HB12 HFh HTB0 HKf HOA4 HMAY HRG y2 t0 t1 f0 f1
    have t0 : w13.cell? ⟨tb, 0, none⟩ = some (.int .i64 0) := by simp [World.cell?, HTBz.out]
    have t1 : w13.cell? ⟨tb, 1, none⟩ = some (.int .i64 E2) := by simp [World.cell?, HTBz.out]
    have f0 := row_fz HTBz.out 0
    have f1 := row_fz HTBz.out 1
    cases M with
    | true =>
      as_aux_lemma =>
        have HFP := hid (frameP_ok bs A4 5 HK.out (by omega) HE1.out HM.out)
        go_wp2_with (first
          | (refine ld_row (by rfl) 30 (.tmp 6) (by rfl) fb (by rfl) FF 30 HFz.out _ Tryz.underlying30 rfl HSZ.out ?_)
          | (refine bd_row (by rfl) 33 #[] (by rfl) _ (by simp [Act.eval]) _ built_fz ?_)
          | (refine st_row (by rfl) 30 _ _ (by rfl) A FF (by rfl) (by rfl) 30 _ HR1z.out HSZ.out (by rw [← HFF.out, fcells_length _ _ HTL.out]; rfl) HON.out ?_; intro w14 hw14)
          | (refine st_row (by rfl) 33 _ _ (by rfl) (A + 1) [Value.int .i64 0, .int .i64 0] (by rfl) (by rfl) 33 _ (gb_keep hw14.grown HR2z.out (by omega)) faultSize rfl (fault_one _ _) ?_; intro w15 hw15))
        refine ret_cc 2 3 30 33 rfl A rfl (A + 1) rfl FF 30 (gb_keep hw15.grown hw14.blk (by omega)) _ Tryz.underlying30 rfl HSZ.out _ 33 hw15.blk _ Tryz.underlying33 rfl faultSize rfl ?_
        rw [HFP.out]
        refine ⟨va, by rw [← HFF.out]; rfl, ?_, Below.of_gb (Below.of_gb HBz.out hw14.grown (by have := HAA.out; omega)) hw15.grown (by have := HAA.out; omega)⟩
        exact (WOwnS.far (WOwnS.far HOAz.out hw14.grown (fun j e => by injection e with e; have := HLk8.out; have := HLk.out; have := HLf0.out; have := HLb.out; omega)) hw15.grown (fun j e => by injection e with e; have := HLk8.out; have := HLk.out; have := HLf0.out; have := HLb.out; omega)).le (by have := HLk8.out; have := HLk.out; have := HLf0.out; have := HLb.out; have := HAA.out; omega)
    | false =>
      as_aux_lemma =>
        have HFP := hid (frameP_may bs A4 5 HK.out (by omega) HE1.out HM.out)
        go_upto_region 12 with (first
          | (refine bd_row (by rfl) 33 #[(0, .const (.int .i64 70)), (1, .tmp 55)] (by rfl) _ (by simp [Act.eval]) _ (built_ft 70 (A4 : Int)) ?_)
          | (refine st_row (by rfl) 33 _ _ (by rfl) tb [Value.int .i64 70, .int .i64 (A4 : Int)] (by rfl) (by rfl) 33 _ HTBz.out faultSize rfl (fault_one _ _) ?_; intro w14 hw14))
        have HTB := hid hw14.blk
        have HR1y := hid (gb_keep hw14.grown HR1z.out (by have := HLt.out; omega))
        have HR2y := hid (gb_keep hw14.grown HR2z.out (by have := HLt.out; omega))
        have HBy := hid (Below.of_gb HBz.out hw14.grown (by have := HLt.out; have := HAA.out; omega))
        clear hw14 HR1z HR2z HBz t0 t1 f0 f1
        have HR1z := hid HR1y.out
        have HR2z := hid HR2y.out
        have HBz := hid HBy.out
        have t0 : w14.cell? ⟨tb, 0, none⟩ = some (.int .i64 70) := by simp [World.cell?, HTB.out]
        go_upto_region 13 with fail
        have HTBc := hid HTB.out
        refine wp_noPanic (wp_region_held_drew (S := fun W => W.heap[tb]? = some (.cells [Value.int .i64 70, .int .i64 (A4 : Int)].toArray 33 (0, 0))) (by kernel_rfl) HTBc.out ?_)
        intro hHeld
        refine wpAnyH_take (i := 0) (v := .agg (fcells zF nS).toArray) rfl (by kernel_rfl) (by kernel_rfl) (by kernel_rfl) (fun _ _ _ h => h) (yields_build (by rfl) 30 #[] (by rfl) _ (by simp [Act.eval]) _ built_zf) hHeld ?_
        simp only [Act.put, List.getElem_toArray, List.getElem_cons_zero, List.setIfInBounds_toArray, List.set_cons_succ, List.set_cons_zero]
        refine wpAnyH_take (i := 1) (v := .agg [Value.int .i64 70, .int .i64 (A4 : Int)].toArray) rfl (by kernel_rfl) (by kernel_rfl) (by kernel_rfl) (fun _ _ _ h => h) (yieldsIf_load_mid (by rfl) 33 (.tmp 9) rfl tb 0 rfl [Value.int .i64 70, .int .i64 (A4 : Int)] _ (fun W hW => range_row hW) Tryz.underlying33 rfl faultSize) hHeld ?_
        simp only [Act.put, List.getElem_toArray, List.getElem_cons_zero, List.getElem_cons_succ, List.setIfInBounds_toArray, List.set_cons_succ, List.set_cons_zero]
        obtain ⟨wx, HWX⟩ : ∃ x, Hid (w14.drew = x) := ⟨_, rfl⟩
        have HR1x := hid (show w14.drew.heap[A]? = _ from HR1z.out)
        have HR2x := hid (show w14.drew.heap[A + 1]? = _ from HR2z.out)
        have HTBx := hid (show w14.drew.heap[tb]? = some (.cells [Value.int .i64 70, .int .i64 (A4 : Int)].toArray 33 (0, 0)) from HTB.out)
        have HBx := hid (show Below w.heap.size w w14.drew from below_tr HBz.out ⟨rfl, rfl, rfl, Nat.le_refl _, fun _ _ => rfl⟩)
        rw [HWX.out] at hHeld HR1x HR2x HTBx HBx ⊢
        refine wpAnyH_ready (rs := [2]) (by kernel_rfl) (by simp) ?_
        refine AllReadyH.cons rfl (fun K9 hK9 => ?_) AllReadyH.nil
        refine step_store_row (by rfl) 30 _ _ (by rfl) A (fcells zF nS) (by rfl) (by rfl) 30 _ HR1x.out (frame_size zF nS rfl) rfl (fcells_one zF nS rfl) ?_
        intro wy hwy
        refine hK9.out _ _ (gb_keep hwy.grown HTBx.out (by have := HLt.out; omega)) (fun hHeld => ?_)
        clear hK9 K9
        try simp only [Act.put, List.getElem_toArray, List.getElem_cons_zero, List.getElem_cons_succ]
        refine wpAnyH_ready (rs := [3]) (by kernel_rfl) (by simp) ?_
        refine AllReadyH.cons rfl (fun K9 hK9 => ?_) AllReadyH.nil
        refine step_store_row (by rfl) 33 _ _ (by rfl) (A + 1) [Value.int .i64 70, .int .i64 (A4 : Int)] (by rfl) (by rfl) 33 _ (gb_keep hwy.grown HR2x.out (by omega)) faultSize rfl (fault_one _ _) ?_
        intro wz hwz
        refine hK9.out _ _ (gb_keep hwz.grown (gb_keep hwy.grown HTBx.out (by have := HLt.out; omega)) (by have := HLt.out; omega)) (fun hHeld => ?_)
        clear hK9 K9
        try simp only [Act.put, List.getElem_toArray, List.getElem_cons_zero, List.getElem_cons_succ]
        refine wpAnyH_done (by kernel_rfl) ?_ _
        simp only [noPanic]
        clear hHeld
        go_wp2
        refine ret_cc 2 3 30 33 rfl A rfl (A + 1) rfl (fcells zF nS) 30 (gb_keep hwz.grown hwy.blk (by omega)) _ Tryz.underlying30 rfl (frame_size zF nS rfl) _ 33 hwz.blk _ Tryz.underlying33 rfl faultSize rfl ?_
        rw [HFP.out]
        refine ⟨nS, rfl, World.ownsRow_nil _ _ _ _, ?_⟩
        exact Below.of_gb (Below.of_gb HBx.out hwy.grown (by have := HAA.out; omega)) hwz.grown (by have := HAA.out; omega)

  · as_aux_lemma =>
      have q1 : (E1 == 0) = false := by simpa using hE
      have q2 : (E1 != 0) = true := by simpa using hE
      have HFP := hid (show frameP bs A4 = (zF, E1, E2) by
        rw [frameP_bad bs A4 5 HK.out (by omega) (show (eS bs (fieldsP bs 5 (oS bs 6 (A4, 0, 0)).2).2).1 ≠ 0 by rw [HE1.out]; exact hE), ← HE1.out, ← HE2.out]; rfl)
      have HR1z := hid HR1i.out
      have HR2z := hid HR2i.out
      have HBz := hid HB12.out
      have HTB := hid (show w12.heap[tb]? = some (.cells [Value.int .i64 E1, .int .i64 E2].toArray 33 (0, 0)) from HTB0.out)
      clear hE
      go_upto_region 13 with fail
      have HTBc := hid HTB.out
      refine wp_noPanic (wp_region_held_drew (S := fun W => W.heap[tb]? = some (.cells [Value.int .i64 E1, .int .i64 E2].toArray 33 (0, 0))) (by kernel_rfl) HTBc.out ?_)
      intro hHeld
      refine wpAnyH_take (i := 0) (v := .agg (fcells zF nS).toArray) rfl (by kernel_rfl) (by kernel_rfl) (by kernel_rfl) (fun _ _ _ h => h) (yields_build (by rfl) 30 #[] (by rfl) _ (by simp [Act.eval]) _ built_zf) hHeld ?_
      simp only [Act.put, List.getElem_toArray, List.getElem_cons_zero, List.setIfInBounds_toArray, List.set_cons_succ, List.set_cons_zero]
      refine wpAnyH_take (i := 1) (v := .agg [Value.int .i64 E1, .int .i64 E2].toArray) rfl (by kernel_rfl) (by kernel_rfl) (by kernel_rfl) (fun _ _ _ h => h) (yieldsIf_load_mid (by rfl) 33 (.tmp 9) rfl tb 0 rfl [Value.int .i64 E1, .int .i64 E2] _ (fun W hW => range_row hW) Tryz.underlying33 rfl faultSize) hHeld ?_
      simp only [Act.put, List.getElem_toArray, List.getElem_cons_zero, List.getElem_cons_succ, List.setIfInBounds_toArray, List.set_cons_succ, List.set_cons_zero]
      obtain ⟨wx, HWX⟩ : ∃ x, Hid (w12.drew = x) := ⟨_, rfl⟩
      have HR1x := hid (show w12.drew.heap[A]? = _ from HR1z.out)
      have HR2x := hid (show w12.drew.heap[A + 1]? = _ from HR2z.out)
      have HTBx := hid (show w12.drew.heap[tb]? = some (.cells [Value.int .i64 E1, .int .i64 E2].toArray 33 (0, 0)) from HTB.out)
      have HBx := hid (show Below w.heap.size w w12.drew from below_tr HBz.out ⟨rfl, rfl, rfl, Nat.le_refl _, fun _ _ => rfl⟩)
      rw [HWX.out] at hHeld HR1x HR2x HTBx HBx ⊢
      refine wpAnyH_ready (rs := [2]) (by kernel_rfl) (by simp) ?_
      refine AllReadyH.cons rfl (fun K9 hK9 => ?_) AllReadyH.nil
      refine step_store_row (by rfl) 30 _ _ (by rfl) A (fcells zF nS) (by rfl) (by rfl) 30 _ HR1x.out (frame_size zF nS rfl) rfl (fcells_one zF nS rfl) ?_
      intro wy hwy
      refine hK9.out _ _ (gb_keep hwy.grown HTBx.out (by have := HLt.out; omega)) (fun hHeld => ?_)
      clear hK9 K9
      try simp only [Act.put, List.getElem_toArray, List.getElem_cons_zero, List.getElem_cons_succ]
      refine wpAnyH_ready (rs := [3]) (by kernel_rfl) (by simp) ?_
      refine AllReadyH.cons rfl (fun K9 hK9 => ?_) AllReadyH.nil
      refine step_store_row (by rfl) 33 _ _ (by rfl) (A + 1) [Value.int .i64 E1, .int .i64 E2] (by rfl) (by rfl) 33 _ (gb_keep hwy.grown HR2x.out (by omega)) faultSize rfl (fault_one _ _) ?_
      intro wz hwz
      refine hK9.out _ _ (gb_keep hwz.grown (gb_keep hwy.grown HTBx.out (by have := HLt.out; omega)) (by have := HLt.out; omega)) (fun hHeld => ?_)
      clear hK9 K9
      try simp only [Act.put, List.getElem_toArray, List.getElem_cons_zero, List.getElem_cons_succ]
      refine wpAnyH_done (by kernel_rfl) ?_ _
      simp only [noPanic]
      clear hHeld
      go_wp2
      refine ret_cc 2 3 30 33 rfl A rfl (A + 1) rfl (fcells zF nS) 30 (gb_keep hwz.grown hwy.blk (by omega)) _ Tryz.underlying30 rfl (frame_size zF nS rfl) _ 33 hwz.blk _ Tryz.underlying33 rfl faultSize rfl ?_
      rw [HFP.out]
      refine ⟨nS, rfl, World.ownsRow_nil _ _ _ _, ?_⟩
      exact Below.of_gb (Below.of_gb HBx.out hwy.grown (by have := HAA.out; omega)) hwz.grown (by have := HAA.out; omega)

end Go.Proofs.YtiibhccbbpgehaaGreat

/- readFrame, where the kind that is read is 6. -/
namespace Go.Proofs.YtiibhccbbpgehaaGreat
open Go.RowKit Go.BigFrame

set_option maxRecDepth 100000 in
set_option maxHeartbeats 8000000 in
theorem readFrame_6 (v0 : Value) (bs : List UInt8) (head N : Nat) (w : World) (hs : Src w v0 bs) (hbl : bs.length ≤ 1099511627776) (hu : uS bs (0, 0, 0) = (N, head, 0, 0)) (hK : (oS bs 6 (head, 0, 0)).1 = 6) :
    Calls Tryz.prog 30 #[v0] w fun e w' => ∃ va, e = .returned (.tuple #[.agg (fcells (frameP bs head).1 va).toArray, .agg #[.int .i64 (frameP bs head).2.1, .int .i64 (frameP bs head).2.2]]) ∧ WOwnS w' w.heap.size va (frameP bs head).1.args ∧ Below w.heap.size w w' := by
  obtain ⟨va0, c0, rfl⟩ := src_shape hs
  obtain ⟨L0, HL0⟩ : ∃ n, Hid (bs.length = n) := ⟨_, rfl⟩
  obtain ⟨A, HAA⟩ : ∃ n, Hid (w.heap.size = n) := ⟨_, rfl⟩
  have HB0 := hid (below_walk2 w (.cells (fcells zF nS).toArray 30) (.cells #[.int .i64 0, .int .i64 0] 33))
  have HNB := hid (hp_two w (.cells (fcells zF nS).toArray 30) (.cells #[.int .i64 0, .int .i64 0] 33))
  have HZ : Hid ((w.alloc (.cells (fcells zF nS).toArray 30)).heap.size = w.heap.size + 1) := hid (by simp)
  have HZ2 : Hid (((w.alloc (.cells (fcells zF nS).toArray 30)).alloc (.cells #[.int .i64 0, .int .i64 0] 33)).heap.size = w.heap.size + 2) := hid (by simp)
  have HNR := hid (newReader_any _ bs _ (hs.below HB0.out))
  have HU := hid hu
  have HK := hid hK
  have HBL := hid hbl
  clear hs hbl hu hK
  go_enter Tryz.func30, Tryz.ntmps30
  go_upto_region 1 with (refine al_row (by rfl) 30 (by rfl) _ zeroFrame ?_)
  try rw [HZ.out]
  generalize (w.alloc (.cells (fcells zF nS).toArray 30)).alloc (.cells #[.int .i64 0, .int .i64 0] 33) = w0 at HB0 HNB HZ2 HNR ⊢
  rw [HAA.out] at HNB HZ2 ⊢
  have HR1 := hid HNB.out.1
  have HR2 := hid HNB.out.2
  clear HNB HZ
  go_wp2_with fail
  refine HNR.out.mono ?_
  rintro e w1 ⟨rb, v, rfl, hr1, hb1⟩
  obtain ⟨b, HBb⟩ : ∃ b, Hid (w1.heap.size = b) := ⟨_, rfl⟩
  have HLb : Hid (A + 2 ≤ b) := hid (by have := hb1.size; have := HZ2.out; have := HBb.out; omega)
  have HLr : Hid (A + 2 ≤ rb) := hid (by have := hr1.lo; have := HZ2.out; omega)
  have HLrb : Hid (rb < b) := hid (by have := hr1.lt; have := HBb.out; omega)
  have HAW := hid (below_walk w1 (.cells #[.pointer (some ⟨rb, 0, none⟩), .int .i64 0, .int .i64 0] 127))
  have HFD := hid (show Fd (w1.alloc (.cells #[.pointer (some ⟨rb, 0, none⟩), .int .i64 0, .int .i64 0] 127)) w0.heap.size b rb v bs (0, 0, 0) from ⟨0, 0, 0, 0, 0, hr1.below HAW.out, HBb.out ▸ hp_new w1 _, by have := HLrb.out; omega, fun e => by have := (hr1.own.lt _ e).2; have := HBb.out; omega, by have := hb1.size; have := HBb.out; omega, Or.inl ⟨rfl, rfl⟩⟩)
  have HR1a := hid (bel_keep HAW.out (bel_keep hb1 HR1.out))
  have HR2a := hid (bel_keep HAW.out (bel_keep hb1 HR2.out))
  have HB1 := hid (below_then (below_then HB0.out hb1) HAW.out)
  clear hr1 hb1 HR1 HR2 HB0 HNR HAW
  go_upto_region 2 with fail
  rw [HBb.out]
  generalize w1.alloc (.cells #[.pointer (some ⟨rb, 0, none⟩), .int .i64 0, .int .i64 0] 127) = w2 at HFD HR1a HR2a HB1 ⊢
  have p2 := HFD.out.ptr
  go_wp2_with fail
  refine (fd_uint HFD.out).mono ?_
  rintro e w3 ⟨rfl, hf3, hg3⟩
  rw [HU.out] at hf3
  have HF3 := hid (show Fd w3 w0.heap.size b rb v bs (head, 0, 0) from hf3)
  have HR1b := hid (gb_keep hg3 HR1a.out (by have := HLr.out; omega))
  have HR2b := hid (gb_keep hg3 HR2a.out (by have := HLr.out; omega))
  have HB3 := hid (Below.of_gb HB1.out hg3 (by have := HLr.out; have := HAA.out; omega))
  clear hf3 hg3 p2 HFD HR1a HR2a HB1
  have p3 := HF3.out.ptr
  go_wp2_with fail
  refine (fd_at HF3.out).mono ?_
  rintro e w4 ⟨A4, rfl, hw4, hA4⟩
  have hw4 := hw4.symm
  subst hw4
  obtain rfl : A4 = head := hA4 rfl
  clear hA4 p3
  go_wp2_with fail
  refine (fd_some w0.heap.size b rb v bs (A4, 0, 0) 6 w3 (by omega) HF3.out).mono ?_
  rintro e w5 ⟨rfl, hf5, hg5⟩
  rw [show ((oS bs 6 (A4, 0, 0)).1 : Int) = 6 by rw [HK.out]; rfl]
  have HF5 := hid hf5
  have HR1c := hid (hg5.keep HR1b.out (by have := HLb.out; omega) (by have := HLr.out; omega))
  have HR2c := hid (hg5.keep HR2b.out (by have := HLb.out; omega) (by have := HLr.out; omega))
  have HB5 := hid (hg5.below HB3.out (by have := HLb.out; have := HAA.out; omega) (by have := HLr.out; have := HAA.out; omega))
  clear hf5 hg5 HF3 HR1b HR2b HB3
  go_upto_region 5 with (first
    | (refine bd_row (by rfl) 30 #[(0, .tmp 25)] (by rfl) _ (by simp [Act.eval]) _ built_k6 ?_)
    | (refine al_row (by rfl) 30 (by rfl) _ zeroFrame ?_)
    | (refine st_new (by rfl) 30 _ _ (by rfl) (fcells (kF 6) nS) (by rfl) (by rfl) 30 _ (frame_size (kF 6) nS rfl) rfl (fcells_one (kF 6) nS rfl) ?_))
  have HW5 := hid (below_walk w5 (.cells (fcells (kF 6) nS).toArray 30))
  have HF6 := hid (HF5.out.below HW5.out)
  have HR1d := hid (bel_keep HW5.out HR1c.out)
  have HR2d := hid (bel_keep HW5.out HR2c.out)
  have HB6 := hid (below_then HB5.out HW5.out)
  have HFb := hid (hp_new w5 (.cells (fcells (kF 6) nS).toArray 30))
  have HLf0 : Hid (b < w5.heap.size) := hid HF5.out.lt.1
  have HVO0 := hid HF5.out.own
  obtain ⟨fb, HFBe⟩ : ∃ b, Hid (w5.heap.size = b) := ⟨_, rfl⟩
  rw [HFBe.out] at HFb HLf0 HVO0 ⊢
  have HVO : Hid (∀ k, v.ownBlock = some k → k < fb) := hid HVO0.out
  generalize w5.alloc (.cells (fcells (kF 6) nS).toArray 30) = w6 at HF6 HR1d HR2d HB6 HFb ⊢
  clear HF5 HR1c HR2c HB5 HW5
  have x0 : w6.cell? ⟨fb, 0, none⟩ = some (.int .i64 6) := (Fb.of HFb.out rfl).k
  go_wp2_with fail
  refine (kindOf_6 w6).mono ?_
  rintro e w7 ⟨rfl, hb7⟩
  have HF7 := hid (HF6.out.below hb7)
  have HR1e := hid (bel_keep hb7 HR1d.out)
  have HR2e := hid (bel_keep hb7 HR2d.out)
  have HB7 := hid (below_then HB6.out hb7)
  have HFc := hid (bel_keep hb7 HFb.out)
  clear hb7 HF6 HR1d HR2d HB6 HFb x0
  go_upto_region 6 with (first
    | (refine al_row (by rfl) 135 (by rfl) _ zeroKind ?_)
    | (refine st_new (by rfl) 135 _ _ (by rfl) k6 (by rfl) (by rfl) 135 _ kindSize rfl (kOf_one 6) ?_))
  have HW7 := hid (below_walk w7 (.cells (k6).toArray 135))
  have HF8 := hid (HF7.out.below HW7.out)
  have HR1 := hid (bel_keep HW7.out HR1e.out)
  have HR2 := hid (bel_keep HW7.out HR2e.out)
  have HB8 := hid (below_then HB7.out HW7.out)
  have HFd := hid (bel_keep HW7.out HFc.out)
  have HKb := hid (hp_new w7 (.cells (k6).toArray 135))
  have HLk : Hid (fb < w7.heap.size) := hid (hp_lt HFc.out)
  obtain ⟨kb, HKBe⟩ : ∃ b, Hid (w7.heap.size = b) := ⟨_, rfl⟩
  rw [HKBe.out] at HKb HLk ⊢
  generalize w7.alloc (.cells (k6).toArray 135) = w8 at HF8 HR1 HR2 HB8 HFd HKb ⊢
  clear HF7 HR1e HR2e HB7 HFc HW7 HZ2 HFBe HKBe
  have y4 : w8.cell? ⟨kb, 4, none⟩ = some (.func (.func 140) #[] #[]) := by rw [cell_of_row w8 kb 4 _ _ _ HKb.out]; rfl
  go_wp2_with (refine ld_row (by rfl) 30 (.tmp 6) (by rfl) fb (by rfl) (fcells (kF 6) nS) 30 HFd.out _ Tryz.underlying30 rfl (frame_size (kF 6) nS rfl) ?_)
  refine (readNote_any w0.heap.size b rb v bs (oS bs 6 (A4, 0, 0)).2 w8 HBL.out HF8.out).mono ?_
  rintro e w9 ⟨va, rfl, hoa, hf9, hg9⟩
  have HLb8 : Hid (b < w8.heap.size) := hid HF8.out.lt.1
  have HLr8 : Hid (rb < w8.heap.size) := hid HF8.out.lt.2.1
  have HLk8 : Hid (kb < w8.heap.size) := hid (hp_lt HKb.out)
  have HS9 : Hid (w8.heap.size ≤ w9.heap.size) := hid hg9.size
  have HOA := hid hoa
  have HF9 := hid hf9
  have HR1f := hid (hg9.keep HR1.out (by have := HLb.out; omega) (by have := HLr.out; omega))
  have HR2f := hid (hg9.keep HR2.out (by have := HLb.out; omega) (by have := HLr.out; omega))
  have HB9 := hid (hg9.below HB8.out (by have := HLb.out; have := HAA.out; omega) (by have := HLr.out; have := HAA.out; omega))
  have HFe := hid (hg9.keep HFd.out (by have := HLf0.out; omega) (by have := HLf0.out; have := HLrb.out; omega))
  have HKc := hid (hg9.keep HKb.out (by have := HLk.out; have := HLf0.out; omega) (by have := HLk.out; have := HLf0.out; have := HLrb.out; omega))
  have HTL := hid (show (fieldsP bs 6 (oS bs 6 (A4, 0, 0)).2).1.tool.length = 32 from fieldsP_tool bs 6 (oS bs 6 (A4, 0, 0)).2)
  obtain ⟨aV, cV, eV⟩ := wowns_shape hoa
  have HSZ := hid (frame_size (fieldsP bs 6 (oS bs 6 (A4, 0, 0)).2).1 va HTL.out)
  have HON := hid (fcells_one (fieldsP bs 6 (oS bs 6 (A4, 0, 0)).2).1 va (by rw [eV]; rfl))
  have HOS := hid (show (fcells (kF 6) nS).toArray.size = (fcells (fieldsP bs 6 (oS bs 6 (A4, 0, 0)).2).1 va).length by rw [fcells_length _ _ HTL.out]; rfl)
  obtain ⟨FF, HFF⟩ : ∃ L, Hid (fcells (fieldsP bs 6 (oS bs 6 (A4, 0, 0)).2).1 va = L) := ⟨_, rfl⟩
  rw [HFF.out] at HSZ HON HOS ⊢
  have HFV : Hid (∀ k, v.ownBlock = some k → k < fb) := hid (fun k hk => by have := HVO.out k hk; omega)
  clear hoa hf9 hg9 HF8 HR1 HR2 HB8 HFd HKb y4 eV
  go_upto_region 9 with (refine st_row (by rfl) 30 _ _ (by rfl) fb FF (by rfl) (by rfl) 30 _ HFe.out HSZ.out HOS.out HON.out ?_; intro w10 hw10)
  have HF10 := hid (HF9.out.far hw10.grown (by have := HLf0.out; omega) (by have := HLf0.out; have := HLrb.out; omega) (fun k hk => by have := HFV.out k hk; omega))
  have HR1g := hid (gb_keep hw10.grown HR1f.out (by have := HLf0.out; have := HLb.out; omega))
  have HR2g := hid (gb_keep hw10.grown HR2f.out (by have := HLf0.out; have := HLb.out; omega))
  have HKd := hid (gb_keep hw10.grown HKc.out (by have := HLk.out; omega))
  have HB10 := hid (Below.of_gb HB9.out hw10.grown (by have := HLf0.out; have := HLb.out; have := HAA.out; omega))
  have HFf := hid hw10.blk
  have HOA2 := hid (WOwnS.far HOA.out hw10.grown (fun j e => by injection e with e; have := HLk.out; have := HLk8.out; omega))
  have HS10 : Hid (w8.heap.size ≤ w10.heap.size) := hid (by have := hw10.size; have := HS9.out; omega)
  clear hw10 HF9 HR1f HR2f HKc HB9 HFe HOA HOS HS9
  go_wp2_with fail
  refine (fd_end w0.heap.size b rb v bs _ w10 HF10.out).mono ?_
  rintro e w11 ⟨rfl, hg11⟩
  have HR1h := hid (hg11.keep HR1g.out (by have := HLb.out; omega) (by have := HLr.out; omega))
  have HR2h := hid (hg11.keep HR2g.out (by have := HLb.out; omega) (by have := HLr.out; omega))
  have HB11 := hid (hg11.below HB10.out (by have := HLb.out; have := HAA.out; omega) (by have := HLr.out; have := HAA.out; omega))
  have HFg := hid (hg11.keep HFf.out (by have := HLf0.out; omega) (by have := HLf0.out; have := HLrb.out; omega))
  have HKe := hid (hg11.keep HKd.out (by have := HLk.out; have := HLf0.out; omega) (by have := HLk.out; have := HLf0.out; have := HLrb.out; omega))
  have HOA3 := hid (wowns_g2 HOA2.out hg11 HLb8.out HLr8.out)
  have HS11 : Hid (w8.heap.size ≤ w11.heap.size) := hid (by have := hg11.size; have := HS10.out; omega)
  obtain ⟨E1, HE1⟩ : ∃ x, Hid ((eS bs (fieldsP bs 6 (oS bs 6 (A4, 0, 0)).2).2).1 = x) := ⟨_, rfl⟩
  obtain ⟨E2, HE2⟩ : ∃ x, Hid ((eS bs (fieldsP bs 6 (oS bs 6 (A4, 0, 0)).2).2).2 = x) := ⟨_, rfl⟩
  rw [HE1.out, HE2.out]
  clear hg11 HF10 HR1g HR2g HB10 HFf HKd HOA2 HS10
  go_upto_region 10 with fail
  have HWT := hid (below_walk w11 (.cells #[.int .i64 E1, .int .i64 E2] 33))
  have HR1i := hid (bel_keep HWT.out HR1h.out)
  have HR2i := hid (bel_keep HWT.out HR2h.out)
  have HB12 := hid (below_then HB11.out HWT.out)
  have HFh := hid (bel_keep HWT.out HFg.out)
  have HKf := hid (bel_keep HWT.out HKe.out)
  have HOA4 := hid (HOA3.out.alloc (.cells #[.int .i64 E1, .int .i64 E2] 33))
  have HTB0 := hid (hp_new w11 (.cells #[.int .i64 E1, .int .i64 E2] 33))
  have HLt0 : Hid (kb < w11.heap.size) := hid (hp_lt HKe.out)
  obtain ⟨tb, HTBe⟩ : ∃ b, Hid (w11.heap.size = b) := ⟨_, rfl⟩
  rw [HTBe.out] at HTB0 HLt0 ⊢
  generalize w11.alloc (.cells #[.int .i64 E1, .int .i64 E2] 33) = w12 at HR1i HR2i HB12 HFh HKf HOA4 HTB0 ⊢
  have HLt : Hid (A + 2 ≤ tb) := hid (by have := HLt0.out; have := HLk.out; have := HLf0.out; have := HLb.out; omega)
  have HL8t : Hid (w8.heap.size ≤ tb) := hid (by have := HS11.out; have := HTBe.out; omega)
  clear HR1h HR2h HB11 HFg HKe HOA3 HWT HTBe HS11
  have t0 : w12.cell? ⟨tb, 0, none⟩ = some (.int .i64 E1) := by simp [World.cell?, HTB0.out]
  have t1 : w12.cell? ⟨tb, 1, none⟩ = some (.int .i64 E2) := by simp [World.cell?, HTB0.out]
  have f0 := row_fz HTB0.out 0
  have f1 := row_fz HTB0.out 1
  by_cases hE : E1 = 0
  · obtain ⟨M, HM⟩ : ∃ M, Hid (mayF (fieldsP bs 6 (oS bs 6 (A4, 0, 0)).2).1 = M) := ⟨_, rfl⟩
    have HST := hid (wowns_strs HOA4.out)
    have HMN : Hid ((fieldsP bs 6 (oS bs 6 (A4, 0, 0)).2).1.args.length ≤ 9223372036854775807) := hid (wowns_len HOA4.out)
    have HMAY := hid (show Calls Tryz.prog 132 #[.agg FF.toArray] w12 fun e w' => e = .returned (.bool M) ∧ Below w12.heap.size w12 w' by
      rw [← HM.out, mayF_6 _ (fieldsP_kind bs 6 (oS bs 6 (A4, 0, 0)).2 (by omega)), ← HFF.out]
      exact mayAlways_any _ w12)
    subst hE
    have y2 : w12.cell? ⟨kb, 2, none⟩ = some (.func (.func 132) #[] #[]) := by rw [cell_of_row w12 kb 2 _ _ _ HKf.out]; rfl
    have HRG := hid (range_row HFh.out)
    clear HST HMN
    go_wp2_with (refine ld_gd (by rfl) 30 (.tmp 6) (by rfl) fb 0 (by rfl) FF _ HRG.out Tryz.underlying30 rfl HSZ.out ?_)
    refine HMAY.out.mono ?_
    rintro e w13 ⟨rfl, hb13⟩
    have HR1z := hid (bel_keep hb13 HR1i.out)
    have HR2z := hid (bel_keep hb13 HR2i.out)
    have HBz := hid (below_then HB12.out hb13)
    have HFz := hid (bel_keep hb13 HFh.out)
    have HTBz := hid (bel_keep hb13 HTB0.out)
    have HOAz := hid (WOwnS.far HOA4.out (below_gb hb13 none) (fun j e => by cases e))
    clear hb13 HR1i HR2i HB12 HFh HTB0 HKf HOA4 HMAY HRG y2 t0 t1 f0 f1
    have t0 : w13.cell? ⟨tb, 0, none⟩ = some (.int .i64 0) := by simp [World.cell?, HTBz.out]
    have t1 : w13.cell? ⟨tb, 1, none⟩ = some (.int .i64 E2) := by simp [World.cell?, HTBz.out]
    have f0 := row_fz HTBz.out 0
    have f1 := row_fz HTBz.out 1
    cases M with
    | true =>
      as_aux_lemma =>
        have HFP := hid (frameP_ok bs A4 6 HK.out (by omega) HE1.out HM.out)
        go_wp2_with (first
          | (refine ld_row (by rfl) 30 (.tmp 6) (by rfl) fb (by rfl) FF 30 HFz.out _ Tryz.underlying30 rfl HSZ.out ?_)
          | (refine bd_row (by rfl) 33 #[] (by rfl) _ (by simp [Act.eval]) _ built_fz ?_)
          | (refine st_row (by rfl) 30 _ _ (by rfl) A FF (by rfl) (by rfl) 30 _ HR1z.out HSZ.out (by rw [← HFF.out, fcells_length _ _ HTL.out]; rfl) HON.out ?_; intro w14 hw14)
          | (refine st_row (by rfl) 33 _ _ (by rfl) (A + 1) [Value.int .i64 0, .int .i64 0] (by rfl) (by rfl) 33 _ (gb_keep hw14.grown HR2z.out (by omega)) faultSize rfl (fault_one _ _) ?_; intro w15 hw15))
        refine ret_cc 2 3 30 33 rfl A rfl (A + 1) rfl FF 30 (gb_keep hw15.grown hw14.blk (by omega)) _ Tryz.underlying30 rfl HSZ.out _ 33 hw15.blk _ Tryz.underlying33 rfl faultSize rfl ?_
        rw [HFP.out]
        refine ⟨va, by rw [← HFF.out]; rfl, ?_, Below.of_gb (Below.of_gb HBz.out hw14.grown (by have := HAA.out; omega)) hw15.grown (by have := HAA.out; omega)⟩
        exact (WOwnS.far (WOwnS.far HOAz.out hw14.grown (fun j e => by injection e with e; have := HLk8.out; have := HLk.out; have := HLf0.out; have := HLb.out; omega)) hw15.grown (fun j e => by injection e with e; have := HLk8.out; have := HLk.out; have := HLf0.out; have := HLb.out; omega)).le (by have := HLk8.out; have := HLk.out; have := HLf0.out; have := HLb.out; have := HAA.out; omega)
    | false =>
      as_aux_lemma =>
        have HFP := hid (frameP_may bs A4 6 HK.out (by omega) HE1.out HM.out)
        go_upto_region 12 with (first
          | (refine bd_row (by rfl) 33 #[(0, .const (.int .i64 70)), (1, .tmp 55)] (by rfl) _ (by simp [Act.eval]) _ (built_ft 70 (A4 : Int)) ?_)
          | (refine st_row (by rfl) 33 _ _ (by rfl) tb [Value.int .i64 70, .int .i64 (A4 : Int)] (by rfl) (by rfl) 33 _ HTBz.out faultSize rfl (fault_one _ _) ?_; intro w14 hw14))
        have HTB := hid hw14.blk
        have HR1y := hid (gb_keep hw14.grown HR1z.out (by have := HLt.out; omega))
        have HR2y := hid (gb_keep hw14.grown HR2z.out (by have := HLt.out; omega))
        have HBy := hid (Below.of_gb HBz.out hw14.grown (by have := HLt.out; have := HAA.out; omega))
        clear hw14 HR1z HR2z HBz t0 t1 f0 f1
        have HR1z := hid HR1y.out
        have HR2z := hid HR2y.out
        have HBz := hid HBy.out
        have t0 : w14.cell? ⟨tb, 0, none⟩ = some (.int .i64 70) := by simp [World.cell?, HTB.out]
        go_upto_region 13 with fail
        have HTBc := hid HTB.out
        refine wp_noPanic (wp_region_held_drew (S := fun W => W.heap[tb]? = some (.cells [Value.int .i64 70, .int .i64 (A4 : Int)].toArray 33 (0, 0))) (by kernel_rfl) HTBc.out ?_)
        intro hHeld
        refine wpAnyH_take (i := 0) (v := .agg (fcells zF nS).toArray) rfl (by kernel_rfl) (by kernel_rfl) (by kernel_rfl) (fun _ _ _ h => h) (yields_build (by rfl) 30 #[] (by rfl) _ (by simp [Act.eval]) _ built_zf) hHeld ?_
        simp only [Act.put, List.getElem_toArray, List.getElem_cons_zero, List.setIfInBounds_toArray, List.set_cons_succ, List.set_cons_zero]
        refine wpAnyH_take (i := 1) (v := .agg [Value.int .i64 70, .int .i64 (A4 : Int)].toArray) rfl (by kernel_rfl) (by kernel_rfl) (by kernel_rfl) (fun _ _ _ h => h) (yieldsIf_load_mid (by rfl) 33 (.tmp 9) rfl tb 0 rfl [Value.int .i64 70, .int .i64 (A4 : Int)] _ (fun W hW => range_row hW) Tryz.underlying33 rfl faultSize) hHeld ?_
        simp only [Act.put, List.getElem_toArray, List.getElem_cons_zero, List.getElem_cons_succ, List.setIfInBounds_toArray, List.set_cons_succ, List.set_cons_zero]
        obtain ⟨wx, HWX⟩ : ∃ x, Hid (w14.drew = x) := ⟨_, rfl⟩
        have HR1x := hid (show w14.drew.heap[A]? = _ from HR1z.out)
        have HR2x := hid (show w14.drew.heap[A + 1]? = _ from HR2z.out)
        have HTBx := hid (show w14.drew.heap[tb]? = some (.cells [Value.int .i64 70, .int .i64 (A4 : Int)].toArray 33 (0, 0)) from HTB.out)
        have HBx := hid (show Below w.heap.size w w14.drew from below_tr HBz.out ⟨rfl, rfl, rfl, Nat.le_refl _, fun _ _ => rfl⟩)
        rw [HWX.out] at hHeld HR1x HR2x HTBx HBx ⊢
        refine wpAnyH_ready (rs := [2]) (by kernel_rfl) (by simp) ?_
        refine AllReadyH.cons rfl (fun K9 hK9 => ?_) AllReadyH.nil
        refine step_store_row (by rfl) 30 _ _ (by rfl) A (fcells zF nS) (by rfl) (by rfl) 30 _ HR1x.out (frame_size zF nS rfl) rfl (fcells_one zF nS rfl) ?_
        intro wy hwy
        refine hK9.out _ _ (gb_keep hwy.grown HTBx.out (by have := HLt.out; omega)) (fun hHeld => ?_)
        clear hK9 K9
        try simp only [Act.put, List.getElem_toArray, List.getElem_cons_zero, List.getElem_cons_succ]
        refine wpAnyH_ready (rs := [3]) (by kernel_rfl) (by simp) ?_
        refine AllReadyH.cons rfl (fun K9 hK9 => ?_) AllReadyH.nil
        refine step_store_row (by rfl) 33 _ _ (by rfl) (A + 1) [Value.int .i64 70, .int .i64 (A4 : Int)] (by rfl) (by rfl) 33 _ (gb_keep hwy.grown HR2x.out (by omega)) faultSize rfl (fault_one _ _) ?_
        intro wz hwz
        refine hK9.out _ _ (gb_keep hwz.grown (gb_keep hwy.grown HTBx.out (by have := HLt.out; omega)) (by have := HLt.out; omega)) (fun hHeld => ?_)
        clear hK9 K9
        try simp only [Act.put, List.getElem_toArray, List.getElem_cons_zero, List.getElem_cons_succ]
        refine wpAnyH_done (by kernel_rfl) ?_ _
        simp only [noPanic]
        clear hHeld
        go_wp2
        refine ret_cc 2 3 30 33 rfl A rfl (A + 1) rfl (fcells zF nS) 30 (gb_keep hwz.grown hwy.blk (by omega)) _ Tryz.underlying30 rfl (frame_size zF nS rfl) _ 33 hwz.blk _ Tryz.underlying33 rfl faultSize rfl ?_
        rw [HFP.out]
        refine ⟨nS, rfl, World.ownsRow_nil _ _ _ _, ?_⟩
        exact Below.of_gb (Below.of_gb HBx.out hwy.grown (by have := HAA.out; omega)) hwz.grown (by have := HAA.out; omega)

  · as_aux_lemma =>
      have q1 : (E1 == 0) = false := by simpa using hE
      have q2 : (E1 != 0) = true := by simpa using hE
      have HFP := hid (show frameP bs A4 = (zF, E1, E2) by
        rw [frameP_bad bs A4 6 HK.out (by omega) (show (eS bs (fieldsP bs 6 (oS bs 6 (A4, 0, 0)).2).2).1 ≠ 0 by rw [HE1.out]; exact hE), ← HE1.out, ← HE2.out]; rfl)
      have HR1z := hid HR1i.out
      have HR2z := hid HR2i.out
      have HBz := hid HB12.out
      have HTB := hid (show w12.heap[tb]? = some (.cells [Value.int .i64 E1, .int .i64 E2].toArray 33 (0, 0)) from HTB0.out)
      clear hE
      go_upto_region 13 with fail
      have HTBc := hid HTB.out
      refine wp_noPanic (wp_region_held_drew (S := fun W => W.heap[tb]? = some (.cells [Value.int .i64 E1, .int .i64 E2].toArray 33 (0, 0))) (by kernel_rfl) HTBc.out ?_)
      intro hHeld
      refine wpAnyH_take (i := 0) (v := .agg (fcells zF nS).toArray) rfl (by kernel_rfl) (by kernel_rfl) (by kernel_rfl) (fun _ _ _ h => h) (yields_build (by rfl) 30 #[] (by rfl) _ (by simp [Act.eval]) _ built_zf) hHeld ?_
      simp only [Act.put, List.getElem_toArray, List.getElem_cons_zero, List.setIfInBounds_toArray, List.set_cons_succ, List.set_cons_zero]
      refine wpAnyH_take (i := 1) (v := .agg [Value.int .i64 E1, .int .i64 E2].toArray) rfl (by kernel_rfl) (by kernel_rfl) (by kernel_rfl) (fun _ _ _ h => h) (yieldsIf_load_mid (by rfl) 33 (.tmp 9) rfl tb 0 rfl [Value.int .i64 E1, .int .i64 E2] _ (fun W hW => range_row hW) Tryz.underlying33 rfl faultSize) hHeld ?_
      simp only [Act.put, List.getElem_toArray, List.getElem_cons_zero, List.getElem_cons_succ, List.setIfInBounds_toArray, List.set_cons_succ, List.set_cons_zero]
      obtain ⟨wx, HWX⟩ : ∃ x, Hid (w12.drew = x) := ⟨_, rfl⟩
      have HR1x := hid (show w12.drew.heap[A]? = _ from HR1z.out)
      have HR2x := hid (show w12.drew.heap[A + 1]? = _ from HR2z.out)
      have HTBx := hid (show w12.drew.heap[tb]? = some (.cells [Value.int .i64 E1, .int .i64 E2].toArray 33 (0, 0)) from HTB.out)
      have HBx := hid (show Below w.heap.size w w12.drew from below_tr HBz.out ⟨rfl, rfl, rfl, Nat.le_refl _, fun _ _ => rfl⟩)
      rw [HWX.out] at hHeld HR1x HR2x HTBx HBx ⊢
      refine wpAnyH_ready (rs := [2]) (by kernel_rfl) (by simp) ?_
      refine AllReadyH.cons rfl (fun K9 hK9 => ?_) AllReadyH.nil
      refine step_store_row (by rfl) 30 _ _ (by rfl) A (fcells zF nS) (by rfl) (by rfl) 30 _ HR1x.out (frame_size zF nS rfl) rfl (fcells_one zF nS rfl) ?_
      intro wy hwy
      refine hK9.out _ _ (gb_keep hwy.grown HTBx.out (by have := HLt.out; omega)) (fun hHeld => ?_)
      clear hK9 K9
      try simp only [Act.put, List.getElem_toArray, List.getElem_cons_zero, List.getElem_cons_succ]
      refine wpAnyH_ready (rs := [3]) (by kernel_rfl) (by simp) ?_
      refine AllReadyH.cons rfl (fun K9 hK9 => ?_) AllReadyH.nil
      refine step_store_row (by rfl) 33 _ _ (by rfl) (A + 1) [Value.int .i64 E1, .int .i64 E2] (by rfl) (by rfl) 33 _ (gb_keep hwy.grown HR2x.out (by omega)) faultSize rfl (fault_one _ _) ?_
      intro wz hwz
      refine hK9.out _ _ (gb_keep hwz.grown (gb_keep hwy.grown HTBx.out (by have := HLt.out; omega)) (by have := HLt.out; omega)) (fun hHeld => ?_)
      clear hK9 K9
      try simp only [Act.put, List.getElem_toArray, List.getElem_cons_zero, List.getElem_cons_succ]
      refine wpAnyH_done (by kernel_rfl) ?_ _
      simp only [noPanic]
      clear hHeld
      go_wp2
      refine ret_cc 2 3 30 33 rfl A rfl (A + 1) rfl (fcells zF nS) 30 (gb_keep hwz.grown hwy.blk (by omega)) _ Tryz.underlying30 rfl (frame_size zF nS rfl) _ 33 hwz.blk _ Tryz.underlying33 rfl faultSize rfl ?_
      rw [HFP.out]
      refine ⟨nS, rfl, World.ownsRow_nil _ _ _ _, ?_⟩
      exact Below.of_gb (Below.of_gb HBx.out hwy.grown (by have := HAA.out; omega)) hwz.grown (by have := HAA.out; omega)

end Go.Proofs.YtiibhccbbpgehaaGreat

/- Need: the program's and the document's. -/
namespace Go.Proofs.YtiibhccbbpgehaaGreat
open Go.RowKit Go.BigFrame

theorem fault_why (why wat : Int) (W : World) : (Instr.field 33 (.agg #[.int .i64 why, .int .i64 wat]) 0).run Tryz.prog W = .ok (.int .i64 why) W := by kernel_rfl

set_option maxRecDepth 100000 in
set_option maxHeartbeats 4000000 in
theorem need_any (v : Value) (bs : List UInt8) (w : World) (hs : Src w v bs) :
    Calls Tryz.prog 40 #[v] w fun e w' => e = .returned (.tuple #[.int .i64 (needP bs).1, .int .i64 (needP bs).2.2]) ∧ Below w.heap.size w w' := by
  obtain ⟨vx, hx, cut⟩ := cut_at hs (min bs.length 10) (Nat.min_le_left _ _)
  have hsl := hs.1
  obtain ⟨av, cv, rfl⟩ := src_shape hs
  have HN := hid (newReader_any vx _ w hx)
  have hd := dec_head bs
  obtain ⟨E, N, K, hdec⟩ : ∃ E N K, dec bs 0 0 = (E, N, K) := ⟨_, _, _, rfl⟩
  rw [hdec] at hd
  have HU : Hid (uintF (bs.take (min bs.length 10)) 0 0 0 = (N, K, (E : Int), watOf E 0 0)) := hid (by unfold uintF; rw [if_neg (by simp), List.drop_zero, hd]; simp)
  have HLE := hid (dec_le bs hdec)
  have HTEN : Hid (K ≤ 10) := hid (by have := (dec_le _ hd).1; rw [List.length_take] at this; omega)
  have HP : Hid (needP bs = if E = 4 then (0, 0, 0) else if E ≠ 0 then (0, 0, E) else if 2097152 < N then (0, 0, 3) else if N = 0 then (0, 0, 70) else (K + N + 4, K, 0)) := hid (by unfold needP; rw [hdec])
  have hfw := fault_why
  clear hdec hd hs hx
  generalize bs.take (min bs.length 10) = X at *
  obtain ⟨M, HM⟩ : ∃ M : Nat, Hid (min bs.length 10 = M) := ⟨_, rfl⟩
  rw [HM.out] at cut
  have hm : min (bs.length : Int) 10 = (M : Int) := by have := HM.out; omega
  go_enter Tryz.func40, Tryz.ntmps40
  go_wp2_with fail
  refine HN.out.mono ?_
  rintro e w1 ⟨b, v1, rfl, hr1, hb1⟩
  have HB1 := hid hb1
  have HUI := hid (uint_R (h := hr1))
  rw [HU.out] at HUI
  clear hr1 hb1 HN cut hm
  go_wp2_with fail
  refine HUI.out.mono ?_
  rintro e w2 ⟨rfl, hr2, hg2⟩
  have HR2 := hid hr2
  have HB2 := hid (Below.of_gb HB1.out hg2 hr2.lo)
  have HFA := hid (rfault_any (h := hr2))
  clear hr2 hg2 HUI HB1
  go_wp2_with fail
  refine HFA.out.mono ?_
  rintro e w3 ⟨rfl, hb3⟩
  have HR3 := hid (HR2.out.below hb3)
  have HB3 := hid (below_then HB2.out hb3)
  clear hb3 HR2 HB2 HFA
  by_cases h4 : E = 4
  · have HV := hid (show needP bs = (0, 0, 0) by rw [HP.out, if_pos h4])
    have q1 : ((E : Int) == 4) = true := by simp [h4]
    have q2 : (E : Int) = 4 := by omega
    clear h4
    go_wp2
    go_ret2
    rw [HV.out]
    exact ⟨rfl, HB3.out⟩
  · have q1 : ((E : Int) == 4) = false := by simp; omega
    have q2 : ¬ (E : Int) = 4 := by omega
    by_cases h0 : E = 0
    · have q3 : ((E : Int) != 0) = false := by simp [h0]
      have q4 : (E : Int) = 0 := by omega
      by_cases hN : 2097152 < N
      · have HV := hid (show needP bs = (0, 0, 3) by rw [HP.out, if_neg h4, if_neg (by simpa using h0), if_pos hN])
        have q5 : (2097152 : Int) < (N : Int) := by omega
        have q6 : decide ((2097152 : Int) < (N : Int)) = true := by simpa using q5
        clear h4 h0 hN
        go_wp2
        go_ret2
        rw [HV.out]
        exact ⟨rfl, HB3.out⟩
      · have q5 : ¬ (2097152 : Int) < (N : Int) := by omega
        have q6 : decide ((2097152 : Int) < (N : Int)) = false := by simpa using q5
        by_cases hz : N = 0
        · have HV := hid (show needP bs = (0, 0, 70) by rw [HP.out, if_neg h4, if_neg (by simpa using h0), if_neg hN, if_pos hz])
          have q7 : ((N : Int) == 0) = true := by simp [hz]
          have q8 : (N : Int) = 0 := by omega
          clear h4 h0 hN hz
          go_wp2
          go_ret2
          rw [HV.out]
          exact ⟨rfl, HB3.out⟩
        · have HV := hid (show needP bs = (K + N + 4, K, 0) by rw [HP.out, if_neg h4, if_neg (by simpa using h0), if_neg hN, if_neg hz])
          have q7 : ((N : Int) == 0) = false := by simp; omega
          have q8 : ¬ (N : Int) = 0 := by omega
          have HAT := hid (rat_any (h := HR3.out))
          have w1 : IntKind.i64.wrap (N : Int) = (N : Int) := by rw [IntKind.wrap_i64]; omega
          have w2 : IntKind.i64.wrap ((K : Int) + (N : Int)) = (K : Int) + (N : Int) := by rw [IntKind.wrap_i64]; have := HTEN.out; omega
          have w4 : IntKind.i64.wrap ((K : Int) + (N : Int) + 4) = (K : Int) + (N : Int) + 4 := by rw [IntKind.wrap_i64]; have := HTEN.out; omega
          clear h4 h0 hN hz
          go_wp2_with fail
          refine HAT.out.mono ?_
          rintro e w5 ⟨rfl, hw5⟩
          subst hw5
          go_wp2
          go_ret2
          rw [HV.out]
          exact ⟨by simp, HB3.out⟩
    · have HV := hid (show needP bs = (0, 0, E) by rw [HP.out, if_neg h4, if_pos h0])
      have q3 : ((E : Int) != 0) = true := by simp; omega
      have q4 : ¬ (E : Int) = 0 := by omega
      clear h4 h0
      go_wp2
      go_ret2
      rw [HV.out]
      exact ⟨rfl, HB3.out⟩

end Go.Proofs.YtiibhccbbpgehaaGreat

/- Decode of the program. -/
namespace Go.Proofs.YtiibhccbbpgehaaGreat
open Go.RowKit Go.BigFrame

def unsE (b : List UInt8) : Int × Int :=
  if (needP b).2.2 ≠ 0 then (((needP b).2.2 : Int), 0)
  else if (needP b).1 = 0 ∨ b.length < (needP b).1 then (4, (b.length : Int))
  else if (needP b).1 < b.length then (6, ((needP b).1 : Int))
  else if cokP b = true then (0, 0) else (71, ((needP b).1 : Int) - 4)
theorem decP_uns (b : List UInt8) : decP b = if (unsE b).1 ≠ 0 then (zF, unsE b) else frameP (b.take (b.length - 4)) (needP b).2.1 := by
  unfold decP unsE
  by_cases h1 : (needP b).2.2 ≠ 0
  · rw [if_pos h1, if_pos h1, if_pos (by show (((needP b).2.2 : Nat) : Int) ≠ 0; omega)]
  · rw [if_neg h1, if_neg h1]
    by_cases h2 : (needP b).1 = 0 ∨ b.length < (needP b).1
    · rw [if_pos h2, if_pos h2, if_pos (by show (4 : Int) ≠ 0; decide)]
    · rw [if_neg h2, if_neg h2]
      by_cases h3 : (needP b).1 < b.length
      · rw [if_pos h3, if_pos h3, if_pos (by show (6 : Int) ≠ 0; decide)]
      · rw [if_neg h3, if_neg h3]
        by_cases h4 : cokP b = true
        · rw [if_pos h4, if_pos h4, if_neg (by show ¬ (0 : Int) ≠ 0; decide)]
        · rw [if_neg h4, if_neg h4, if_pos (by show (71 : Int) ≠ 0; decide)]
theorem need_ok {b : List UInt8} (h2 : (needP b).2.2 = 0) (h1 : (needP b).1 ≠ 0) : ∃ N, dec b 0 0 = (0, N, (needP b).2.1) ∧ 1 ≤ N ∧ N ≤ 2097152 ∧ (needP b).1 = (needP b).2.1 + N + 4 := by
  obtain ⟨E, N, K, hd⟩ : ∃ E N K, dec b 0 0 = (E, N, K) := ⟨_, _, _, rfl⟩
  have hp : needP b = if E = 4 then (0, 0, 0) else if E ≠ 0 then (0, 0, E) else if 2097152 < N then (0, 0, 3) else if N = 0 then (0, 0, 70) else (K + N + 4, K, 0) := by unfold needP; rw [hd]
  rw [hp] at h1 h2 ⊢
  by_cases e4 : E = 4
  · rw [if_pos e4] at h1
    exact absurd rfl h1
  · rw [if_neg e4] at h1 h2 ⊢
    by_cases e0 : E ≠ 0
    · rw [if_pos e0] at h2
      exact absurd h2 e0
    · rw [if_neg e0] at h1 h2 ⊢
      by_cases hN : 2097152 < N
      · rw [if_pos hN] at h2
        exact absurd h2 (by decide)
      · rw [if_neg hN] at h1 h2 ⊢
        by_cases hz : N = 0
        · rw [if_pos hz] at h2
          exact absurd h2 (by decide)
        · rw [if_neg hz]
          have : E = 0 := by omega
          subst this
          exact ⟨N, hd, by omega, by omega, rfl⟩
theorem inner_head {b : List UInt8} (h2 : (needP b).2.2 = 0) (h1 : (needP b).1 ≠ 0) (hl : b.length = (needP b).1) : ∃ N, uS (b.take (b.length - 4)) (0, 0, 0) = (N, (needP b).2.1, 0, 0) := by
  obtain ⟨N, hd, hN1, hN2, hn⟩ := need_ok h2 h1
  obtain ⟨hk0, hk1, hk2, hk3⟩ := dec_ok hd
  refine ⟨N, ?_⟩
  have e : b.take (b.length - 4) = sn N ++ (b.drop (needP b).2.1).take N := by
    rw [← hk3]
    rw [show b.length - 4 = (needP b).2.1 + N by omega, List.take_add]
  have hd2 : dec (b.take (b.length - 4)) 0 0 = (0, N, (needP b).2.1) := by
    rw [e, dec_sn N _ hk2, ← dec_ok_len hd]
  unfold uS uintF
  rw [if_neg (by simp), List.drop_zero, hd2]
  simp [watOf]
theorem uns_ok {b : List UInt8} (h : (unsE b).1 = 0) : (needP b).2.2 = 0 ∧ (needP b).1 ≠ 0 ∧ b.length = (needP b).1 ∧ cokP b = true ∧ unsE b = (0, 0) := by
  unfold unsE at h ⊢
  by_cases h1 : (needP b).2.2 ≠ 0
  · rw [if_pos h1] at h
    exact absurd h (by show ¬ (((needP b).2.2 : Nat) : Int) = 0; omega)
  · rw [if_neg h1] at h ⊢
    by_cases h2 : (needP b).1 = 0 ∨ b.length < (needP b).1
    · rw [if_pos h2] at h
      exact absurd h (by show ¬ (4 : Int) = 0; decide)
    · rw [if_neg h2] at h ⊢
      by_cases h3 : (needP b).1 < b.length
      · rw [if_pos h3] at h
        exact absurd h (by show ¬ (6 : Int) = 0; decide)
      · rw [if_neg h3] at h ⊢
        by_cases h4 : cokP b = true
        · rw [if_pos h4]
          exact ⟨by omega, by omega, by omega, h4, rfl⟩
        · rw [if_neg h4] at h
          exact absurd h (by show ¬ (71 : Int) = 0; decide)
theorem results_tc {fn : Func} {p q : Tmp} {ty : TypeId} (h : fn.results = #[.tmp p, .cell q ty]) (tmps : Array Value) (P : Program) (w : World) :
    (results fn tmps).run P w = ((asAddr (tmps.getD q undef)).run P w).andThen fun a w₁ => ((loadVar ty a).run P w₁).andThen fun v w₂ => .ok (.tuple #[tmps.getD p undef, v]) w₂ := by
  simp only [results, h]
  simp [Sem.run_bind, Result.andThen]
theorem ret_tc {P : Program} {fn : Func} {R : Ending → World → Prop} {a : Act} {w : World} (p q : Tmp) (ty : TypeId) (h : fn.results = #[.tmp p, .cell q ty]) (v : Value) (hv : a.tmps.getD p undef = v) (g : Nat) (hp : a.tmps.getD q undef = .pointer (some ⟨g, 0, none⟩))
    (cs : List Value) (t : TypeId) (hb : w.heap[g]? = some (.cells cs.toArray t (0, 0))) (d : TypeDesc) (hu : P.underlying ty = some d) (hd : d.isRow = true) (hi : (P.info? ty).map (·.size) = some cs.length)
    (hdf : a.defers = []) (hR : R (.returned (.tuple #[v, .agg cs.toArray])) w) : bodyPost P fn R .ret a w := by
  refine bodyPost_ret (v := .tuple #[v, .agg cs.toArray]) ?_ hdf hR
  rw [results_tc h, hp, hv]
  have := run_loadVar_mid (P := P) w g 0 ty cs d (fun j v hv => by rw [Nat.zero_add, cell_of_row w g j cs.toArray t (0, 0) hb]; simpa using hv) hu hd hi
  simp [asAddr, this]
theorem built_f1 (a : Int) : Tryz.prog.built 33 [(0, .int .i64 a)] = some [Value.int .i64 a, .int .i64 0].toArray := by kernel_rfl

def UnsPost (w : World) (bs : List UInt8) (e : Ending) (w' : World) : Prop :=
  (if (unsE bs).1 = 0 then ∃ v', e = .returned (.tuple #[v', .agg #[.int .i64 0, .int .i64 0]]) ∧ OwnB w' w.heap.size v' (bs.take (bs.length - 4)) else e = .returned (.tuple #[.slice none 0 0, .agg #[.int .i64 (unsE bs).1, .int .i64 (unsE bs).2]])) ∧ Below w.heap.size w w'
theorem UnsPost.bad {w w' : World} {bs : List UInt8} {E1 E2 : Int} (h : unsE bs = (E1, E2)) (h0 : E1 ≠ 0) (hb : Below w.heap.size w w') : UnsPost w bs (.returned (.tuple #[.slice none 0 0, .agg #[.int .i64 E1, .int .i64 E2]])) w' := by
  unfold UnsPost
  rw [h, if_neg h0]
  exact ⟨rfl, hb⟩
theorem UnsPost.good {w w' : World} {bs : List UInt8} {v' : Value} (h : unsE bs = (0, 0)) (hb : Below w.heap.size w w') (ho : OwnB w' w.heap.size v' (bs.take (bs.length - 4))) : UnsPost w bs (.returned (.tuple #[v', .agg #[.int .i64 0, .int .i64 0]])) w' := by
  unfold UnsPost
  rw [h, if_pos rfl]
  exact ⟨⟨v', rfl, ho⟩, hb⟩

set_option maxRecDepth 100000 in
set_option maxHeartbeats 4000000 in
theorem unseal_any (v : Value) (bs : List UInt8) (w : World) (hs : Src w v bs) :
    Calls Tryz.prog 29 #[v] w (UnsPost w bs) := by
  obtain ⟨av, cv, rfl⟩ := src_shape hs
  obtain ⟨A, HAA⟩ : ∃ n, Hid (w.heap.size = n) := ⟨_, rfl⟩
  have HB0 := hid (below_walk w (.cells #[.int .i64 0, .int .i64 0] 33))
  have HN0 := hid (hp_new w (.cells #[.int .i64 0, .int .i64 0] 33))
  have HS0 := hid (hs.below HB0.out)
  have HNE := hid (need_any _ bs _ HS0.out)
  have hsl := hs.1
  obtain ⟨n, Hn⟩ : ∃ n, Hid ((needP bs).1 = n) := ⟨_, rfl⟩
  obtain ⟨er, Her⟩ : ∃ n, Hid ((needP bs).2.2 = n) := ⟨_, rfl⟩
  have HUE : Hid (unsE bs = if er ≠ 0 then ((er : Int), 0) else if n = 0 ∨ bs.length < n then (4, (bs.length : Int)) else if n < bs.length then (6, (n : Int)) else if cokP bs = true then (0, 0) else (71, (n : Int) - 4)) := hid (by unfold unsE; rw [Hn.out, Her.out])
  rw [Hn.out, Her.out] at HNE
  have Hn4 : Hid (n ≠ 0 → 4 ≤ n ∧ n ≤ 3000000) := hid (by
    intro h0
    by_cases h9 : er = 0
    · obtain ⟨N, hd, hN1, hN2, hn⟩ := need_ok (b := bs) (by rw [Her.out]; exact h9) (by rw [Hn.out]; exact h0)
      have := dec_ok_len hd
      have h8 := sn_length_le N
      rw [Hn.out] at hn
      omega
    · exfalso
      apply h0
      rw [← Hn.out]
      unfold needP at Her ⊢
      have h7 := Her.out
      repeat' split
      all_goals first | rfl | skip
      rename_i g1 g2 g3 g4
      rw [if_neg g1, if_neg g2, if_neg g3, if_neg g4] at h7
      exact absurd h7.symm h9)
  obtain ⟨L, HL⟩ : ∃ n, Hid (bs.length = n) := ⟨_, rfl⟩
  rw [HL.out] at hsl HUE HNE
  clear hs
  go_enter Tryz.func29, Tryz.ntmps29
  go_upto_region 1 with fail
  generalize w.alloc (.cells #[.int .i64 0, .int .i64 0] 33) = w0 at HB0 HN0 HS0 HNE ⊢
  rw [HAA.out] at HN0 ⊢
  rw [HL.out]
  go_wp2_with fail
  refine HNE.out.mono ?_
  rintro e w1 ⟨rfl, hb1⟩
  have HN1 := hid (bel_keep hb1 HN0.out)
  have HS1 := hid (HS0.out.below hb1)
  have HB1 := hid (below_then HB0.out hb1)
  clear hb1 HN0 HS0 HB0 HNE
  by_cases h1 : er ≠ 0
  · as_aux_lemma =>
      have q1 : ((er : Int) != 0) = true := by simp; omega
      have q2 : ((er : Int) == 0) = false := by simp; omega
      have q3 : ¬ (er : Int) = 0 := by omega
      rw [if_pos h1] at HUE
      clear h1
      go_wp2_with (first
        | (refine bd_row (by rfl) 33 #[(0, .tmp 15)] (by rfl) _ (by simp [Act.eval]) _ (built_f1 _) ?_)
        | (refine st_row (by rfl) 33 _ _ (by rfl) A [Value.int .i64 (er : Int), .int .i64 0] (by rfl) (by rfl) 33 _ HN1.out faultSize rfl (fault_one _ _) ?_; intro w2 hw2))
      exact ret_tc 2 3 33 rfl _ rfl A rfl _ 33 hw2.blk _ Tryz.underlying33 rfl faultSize rfl (UnsPost.bad HUE.out q3 (Below.of_gb HB1.out hw2.grown (by have := HAA.out; omega)))
  · obtain rfl : er = 0 := by omega
    rw [if_neg h1] at HUE
    clear h1
    by_cases h2 : n = 0 ∨ L < n
    · as_aux_lemma =>
        rw [if_pos h2] at HUE
        by_cases h3 : n = 0
        · subst h3
          clear h2
          go_wp2_with (first
            | (refine bd_row (by rfl) 33 #[(0, .const (.int .i64 4)), (1, .tmp 27)] (by rfl) _ (by simp [Act.eval]) _ (built_ft _ _) ?_)
            | (refine st_row (by rfl) 33 _ _ (by rfl) A [Value.int .i64 4, .int .i64 (L : Int)] (by rfl) (by rfl) 33 _ HN1.out faultSize rfl (fault_one _ _) ?_; intro w2 hw2))
          exact ret_tc 2 3 33 rfl _ rfl A rfl _ 33 hw2.blk _ Tryz.underlying33 rfl faultSize rfl (UnsPost.bad HUE.out (by decide) (Below.of_gb HB1.out hw2.grown (by have := HAA.out; omega)))
        · have q1 : ((n : Int) == 0) = false := by simp; omega
          have q2 : ¬ (n : Int) = 0 := by omega
          have q3 : (L : Int) < (n : Int) := by omega
          have q4 : decide ((L : Int) < (n : Int)) = true := decide_eq_true q3
          clear h2 h3
          go_wp2_with (first
            | (refine bd_row (by rfl) 33 #[(0, .const (.int .i64 4)), (1, .tmp 27)] (by rfl) _ (by simp [Act.eval]) _ (built_ft _ _) ?_)
            | (refine st_row (by rfl) 33 _ _ (by rfl) A [Value.int .i64 4, .int .i64 (L : Int)] (by rfl) (by rfl) 33 _ HN1.out faultSize rfl (fault_one _ _) ?_; intro w2 hw2))
          exact ret_tc 2 3 33 rfl _ rfl A rfl _ 33 hw2.blk _ Tryz.underlying33 rfl faultSize rfl (UnsPost.bad HUE.out (by decide) (Below.of_gb HB1.out hw2.grown (by have := HAA.out; omega)))
    · rw [if_neg h2] at HUE
      have h3 : n ≠ 0 := fun h => h2 (Or.inl h)
      have h4 : ¬ L < n := fun h => h2 (Or.inr h)
      have h5 := Hn4.out h3
      have q1 : ((n : Int) == 0) = false := by simp; omega
      have q2 : ¬ (n : Int) = 0 := by omega
      have q3 : ¬ (L : Int) < (n : Int) := by omega
      have q4 : decide ((L : Int) < (n : Int)) = false := decide_eq_false q3
      clear h2 h3
      by_cases h6 : n < L
      · as_aux_lemma =>
          rw [if_pos h6] at HUE
          have q5 : (n : Int) < (L : Int) := by omega
          have q6 : decide ((n : Int) < (L : Int)) = true := decide_eq_true q5
          clear h4 h5 h6
          go_wp2_with (first
            | (refine bd_row (by rfl) 33 #[(0, .const (.int .i64 6)), (1, .tmp 34)] (by rfl) _ (by simp [Act.eval]) _ (built_ft _ _) ?_)
            | (refine st_row (by rfl) 33 _ _ (by rfl) A [Value.int .i64 6, .int .i64 (n : Int)] (by rfl) (by rfl) 33 _ HN1.out faultSize rfl (fault_one _ _) ?_; intro w2 hw2))
          exact ret_tc 2 3 33 rfl _ rfl A rfl _ 33 hw2.blk _ Tryz.underlying33 rfl faultSize rfl (UnsPost.bad HUE.out (by decide) (Below.of_gb HB1.out hw2.grown (by have := HAA.out; omega)))
      · rw [if_neg h6] at HUE
        have q5 : ¬ (n : Int) < (L : Int) := by omega
        have q6 : decide ((n : Int) < (L : Int)) = false := decide_eq_false q5
        have HOP := hid (open_any w1 _ bs HS1.out (by rw [HL.out]; omega))
        rw [HL.out] at HOP
        have HW4 := hid (show IntKind.i64.wrap ((n : Int) - 4) = (n : Int) - 4 by rw [IntKind.wrap_i64]; omega)
        obtain ⟨D, HD⟩ : ∃ d : Int, Hid ((n : Int) - 4 = d) := ⟨_, rfl⟩
        rw [HD.out] at HW4 HUE
        have wD : IntKind.i64.wrap ((n : Int) - 4) = D := HW4.out ▸ (by rw [HD.out])
        clear h4 h5 h6
        go_wp2_with fail
        refine HOP.out.mono ?_
        rintro e w2 ⟨he, hb2⟩
        have HN2 := hid (bel_keep hb2 HN1.out)
        have HB2 := hid (below_then HB1.out hb2)
        by_cases hc : cokP bs = true
        · as_aux_lemma =>
            rw [if_pos hc] at HUE
            rw [if_pos hc] at he
            obtain ⟨v', rfl, ho⟩ := he
            have HO := hid (ho.le HB1.out.size)
            obtain ⟨ao, no, co, eo⟩ := src_named (ho.src (by rw [List.length_take]; have := HL.out; omega))
            subst eo
            have HON2 : Hid ((Value.slice ao no co).ownBlock = none ∨ (Value.slice ao no co).ownBlock ≠ some A) := hid (by
              cases hv : (Value.slice ao no co).ownBlock with
              | none => exact Or.inl rfl
              | some k => exact Or.inr (fun e => by injection e with e; have h9 := (ho.lt k hv).1; have h8 := hp_lt HN1.out; omega))
            clear hc ho hb2
            go_wp2_with (first
              | (refine bd_row (by rfl) 33 #[] (by rfl) _ (by simp) _ built_fz ?_)
              | (refine st_row (by rfl) 33 _ _ (by rfl) A [Value.int .i64 0, .int .i64 0] (by rfl) (by rfl) 33 _ HN2.out faultSize rfl (fault_one _ _) ?_; intro w3 hw3))
            refine ret_tc 2 3 33 rfl _ rfl A rfl _ 33 hw3.blk _ Tryz.underlying33 rfl faultSize rfl (UnsPost.good HUE.out (Below.of_gb HB2.out hw3.grown (by have := HAA.out; omega)) ?_)
            exact OwnB.kept HO.out hw3.grown (HON2.out)
        · as_aux_lemma =>
            rw [if_neg hc] at HUE
            rw [if_neg hc] at he
            subst he
            clear hc hb2
            go_wp2_with (first
              | (refine bd_row (by rfl) 33 #[(0, .tmp 43), (1, .tmp 45)] (by rfl) _ (by simp [Act.eval]) _ (built_ft _ _) ?_)
              | (refine st_row (by rfl) 33 _ _ (by rfl) A [Value.int .i64 71, .int .i64 D] (by rfl) (by rfl) 33 _ HN2.out faultSize rfl (fault_one _ _) ?_; intro w3 hw3))
            exact ret_tc 2 3 33 rfl _ rfl A rfl _ 33 hw3.blk _ Tryz.underlying33 rfl faultSize rfl (UnsPost.bad HUE.out (by decide) (Below.of_gb HB2.out hw3.grown (by have := HAA.out; omega)))

theorem readFrame_any (v0 : Value) (bs : List UInt8) (head N : Nat) (w : World) (hs : Src w v0 bs) (hbl : bs.length ≤ 1099511627776) (hu : uS bs (0, 0, 0) = (N, head, 0, 0)) :
    Calls Tryz.prog 30 #[v0] w fun e w' => ∃ va, e = .returned (.tuple #[.agg (fcells (frameP bs head).1 va).toArray, .agg #[.int .i64 (frameP bs head).2.1, .int .i64 (frameP bs head).2.2]]) ∧ WOwnS w' w.heap.size va (frameP bs head).1.args ∧ Below w.heap.size w w' := by
  have h := oS_le bs 6 (head, 0, 0) (by omega)
  have hc : (oS bs 6 (head, 0, 0)).1 = 0 ∨ (oS bs 6 (head, 0, 0)).1 = 1 ∨ (oS bs 6 (head, 0, 0)).1 = 2 ∨ (oS bs 6 (head, 0, 0)).1 = 3 ∨ (oS bs 6 (head, 0, 0)).1 = 4 ∨ (oS bs 6 (head, 0, 0)).1 = 5 ∨ (oS bs 6 (head, 0, 0)).1 = 6 := by omega
  rcases hc with k | k | k | k | k | k | k
  · exact readFrame_0 v0 bs head N w hs hbl hu k
  · exact readFrame_1 v0 bs head N w hs hbl hu k
  · exact readFrame_2 v0 bs head N w hs hbl hu k
  · exact readFrame_3 v0 bs head N w hs hbl hu k
  · exact readFrame_4 v0 bs head N w hs hbl hu k
  · exact readFrame_5 v0 bs head N w hs hbl hu k
  · exact readFrame_6 v0 bs head N w hs hbl hu k

set_option maxRecDepth 100000 in
set_option maxHeartbeats 4000000 in
theorem decode_any (v0 : Value) (bs : List UInt8) (w : World) (hs : Src w v0 bs) :
    Calls Tryz.prog 9 #[v0] w fun e w' => ∃ va, e = .returned (.tuple #[.agg (fcells (decP bs).1 va).toArray, .agg #[.int .i64 (decP bs).2.1, .int .i64 (decP bs).2.2]]) ∧ WOwnS w' w.heap.size va (decP bs).1.args ∧ Below w.heap.size w w' := by
  obtain ⟨av, cv, rfl⟩ := src_shape hs
  obtain ⟨A, HAA⟩ : ∃ n, Hid (w.heap.size = n) := ⟨_, rfl⟩
  have HB0 := hid (below_walk2 w (.cells (fcells zF nS).toArray 30) (.cells #[.int .i64 0, .int .i64 0] 33))
  have HNB := hid (hp_two w (.cells (fcells zF nS).toArray 30) (.cells #[.int .i64 0, .int .i64 0] 33))
  have HZ : Hid ((w.alloc (.cells (fcells zF nS).toArray 30)).heap.size = w.heap.size + 1) := hid (by simp)
  have HZ2 : Hid (((w.alloc (.cells (fcells zF nS).toArray 30)).alloc (.cells #[.int .i64 0, .int .i64 0] 33)).heap.size = w.heap.size + 2) := hid (by simp)
  have HUN := hid (unseal_any _ bs _ (hs.below HB0.out))
  have HDU := hid (decP_uns bs)
  have hsl := hs.1
  obtain ⟨L, HL⟩ : ∃ n, Hid (bs.length = n) := ⟨_, rfl⟩
  clear hs
  go_enter Tryz.func9, Tryz.ntmps9
  go_upto_region 1 with (refine al_row (by rfl) 30 (by rfl) _ zeroFrame ?_)
  try rw [HZ.out]
  generalize (w.alloc (.cells (fcells zF nS).toArray 30)).alloc (.cells #[.int .i64 0, .int .i64 0] 33) = w0 at HB0 HNB HZ2 HUN ⊢
  rw [HAA.out] at HNB HZ2 ⊢
  have HR1a := hid HNB.out.1
  have HR2a := hid HNB.out.2
  clear HNB HZ
  go_wp2_with fail
  refine HUN.out.mono ?_
  rintro e w1 ⟨he, hb1⟩
  have HR1b := hid (bel_keep hb1 HR1a.out)
  have HR2b := hid (bel_keep hb1 HR2a.out)
  have HB1 := hid (below_then HB0.out hb1)
  have HLt1 : Hid (A + 2 ≤ w1.heap.size) := hid (by have := hb1.size; have := HZ2.out; omega)
  by_cases h0 : (unsE bs).1 = 0
  · as_aux_lemma =>
      rw [if_pos h0] at he
      obtain ⟨v', rfl, ho⟩ := he
      obtain ⟨u1, u2, u3, u4, u5⟩ := uns_ok h0
      obtain ⟨N, hu⟩ := inner_head u1 u2 u3
      have HDP := hid (show decP bs = frameP (bs.take (bs.length - 4)) (needP bs).2.1 by rw [HDU.out, if_neg (fun h => h h0)])
      obtain ⟨NB, hNd, hN1, hN2, hNn⟩ := need_ok u1 u2
      have hlen : bs.length ≤ 3000000 := by
        have := dec_ok_len hNd
        have h8 := sn_length_le NB
        omega
      have hs1 := ho.src (by rw [List.length_take]; omega)
      have HW1 := hid (below_walk w1 (.cells #[.int .i64 0, .int .i64 0] 33))
      have HRF := hid (readFrame_any v' _ _ N _ (hs1.below HW1.out) (by rw [List.length_take]; omega) hu)
      have HR1 := hid (bel_keep HW1.out HR1b.out)
      have HR2 := hid (bel_keep HW1.out HR2b.out)
      have HB2 := hid (below_then HB1.out HW1.out)
      obtain ⟨ao, no, co, eo⟩ := src_named hs1
      obtain ⟨P, HP⟩ : ∃ p, Hid (frameP (bs.take (bs.length - 4)) (needP bs).2.1 = p) := ⟨_, rfl⟩
      rw [HP.out] at HDP HRF
      obtain ⟨pf, p1, p2⟩ := P
      subst eo
      clear ho hs1 u1 u2 u3 u4 u5 hu hNd hN1 hN2 hNn hlen h0 HR1b HR2b HB1 HDU HUN hsl
      go_upto_region 2 with fail
      have HTB := hid (hp_new w1 (.cells #[.int .i64 0, .int .i64 0] 33))
      obtain ⟨tb, HTBe⟩ : ∃ b, Hid (w1.heap.size = b) := ⟨_, rfl⟩
      rw [HTBe.out] at HTB ⊢
      generalize w1.alloc (.cells #[.int .i64 0, .int .i64 0] 33) = w2 at HW1 HRF HR1 HR2 HB2 HTB ⊢
      have t0 : w2.cell? ⟨tb, 0, none⟩ = some (.int .i64 0) := by simp [World.cell?, HTB.out]
      go_wp2_with fail
      refine HRF.out.mono ?_
      rintro e w3 ⟨va, rfl, hoa, hb3⟩
      have HOA := hid hoa
      have HR1c := hid (bel_keep hb3 HR1.out)
      have HR2c := hid (bel_keep hb3 HR2.out)
      have HB3 := hid (below_then HB2.out hb3)
      have HL2 : Hid (A + 2 ≤ w2.heap.size) := hid (by have := hp_lt HTB.out; have := HLt1.out; have := HTBe.out; omega)
      have HTL := hid (show pf.tool.length = 32 by
        have e9 := HP.out
        unfold frameP at e9
        repeat' split at e9
        all_goals (have e8 := congrArg (fun x : Fr × Int × Int => x.1.tool.length) e9; simp only at e8; rw [← e8]; first | exact fieldsP_tool _ _ _ | rfl))
      obtain ⟨aV, cV, eV⟩ := wowns_shape hoa
      have HSZ := hid (frame_size pf va HTL.out)
      have HON := hid (fcells_one pf va (by rw [eV]; rfl))
      have HOS := hid (show (fcells zF nS).toArray.size = (fcells pf va).length by rw [fcells_length _ _ HTL.out]; rfl)
      obtain ⟨FF, HFF⟩ : ∃ L, Hid (fcells pf va = L) := ⟨_, rfl⟩
      rw [HFF.out] at HSZ HON HOS ⊢
      clear hoa hb3 HR1 HR2 HB2 t0 eV
      go_wp2_with (first
        | (refine st_row (by rfl) 30 _ _ (by rfl) A FF (by rfl) (by rfl) 30 _ HR1c.out HSZ.out HOS.out HON.out ?_; intro w4 hw4)
        | (refine st_row (by rfl) 33 _ _ (by rfl) (A + 1) [Value.int .i64 p1, .int .i64 p2] (by rfl) (by rfl) 33 _ (gb_keep hw4.grown HR2c.out (by omega)) faultSize rfl (fault_one _ _) ?_; intro w5 hw5))
      refine ret_cc 2 3 30 33 rfl A rfl (A + 1) rfl FF 30 (gb_keep hw5.grown hw4.blk (by omega)) _ Tryz.underlying30 rfl HSZ.out _ 33 hw5.blk _ Tryz.underlying33 rfl faultSize rfl ?_
      rw [HDP.out]
      refine ⟨va, by rw [← HFF.out], ?_, Below.of_gb (Below.of_gb HB3.out hw4.grown (by have := HAA.out; omega)) hw5.grown (by have := HAA.out; omega)⟩
      exact (WOwnS.far (WOwnS.far HOA.out hw4.grown (fun j e => by injection e with e; have := HL2.out; omega)) hw5.grown (fun j e => by injection e with e; have := HL2.out; omega)).le (by have := HL2.out; have := HAA.out; omega)
  · as_aux_lemma =>
      rw [if_neg h0] at he
      subst he
      obtain ⟨E1, HE1⟩ : ∃ x, Hid ((unsE bs).1 = x) := ⟨_, rfl⟩
      obtain ⟨E2, HE2⟩ : ∃ x, Hid ((unsE bs).2 = x) := ⟨_, rfl⟩
      have HDP := hid (show decP bs = (zF, E1, E2) by rw [HDU.out, if_pos h0, ← HE1.out, ← HE2.out])
      rw [HE1.out] at h0 ⊢
      rw [HE2.out]
      have q1 : (E1 != 0) = true := by simpa using h0
      have q2 : (E1 == 0) = false := by simpa using h0
      have HW1 := hid (below_walk w1 (.cells #[.int .i64 E1, .int .i64 E2] 33))
      have HR1 := hid (bel_keep HW1.out HR1b.out)
      have HR2 := hid (bel_keep HW1.out HR2b.out)
      have HB2 := hid (below_then HB1.out HW1.out)
      clear hb1 HR1a HR2a HR1b HR2b HB1 HDU HUN hsl h0
      go_upto_region 2 with fail
      have HTB := hid (show (w1.alloc (.cells #[.int .i64 E1, .int .i64 E2] 33)).heap[w1.heap.size]? = some (.cells [Value.int .i64 E1, .int .i64 E2].toArray 33 (0, 0)) from hp_new w1 _)
      obtain ⟨tb, HTBe⟩ : ∃ b, Hid (w1.heap.size = b) := ⟨_, rfl⟩
      have HLt : Hid (A + 2 ≤ tb) := hid (by have := HLt1.out; have := HTBe.out; omega)
      rw [HTBe.out] at HTB ⊢
      generalize w1.alloc (.cells #[.int .i64 E1, .int .i64 E2] 33) = w2 at HR1 HR2 HB2 HTB ⊢
      have t0 : w2.cell? ⟨tb, 0, none⟩ = some (.int .i64 E1) := by simp [World.cell?, HTB.out]
      go_upto_region 3 with fail
      have HTBc := hid HTB.out
      refine wp_noPanic (wp_region_held_drew (S := fun W => W.heap[tb]? = some (.cells [Value.int .i64 E1, .int .i64 E2].toArray 33 (0, 0))) (by kernel_rfl) HTBc.out ?_)
      intro hHeld
      refine wpAnyH_take (i := 0) (v := .agg (fcells zF nS).toArray) rfl (by kernel_rfl) (by kernel_rfl) (by kernel_rfl) (fun _ _ _ h => h) (yields_build (by rfl) 30 #[] (by rfl) _ (by simp) _ built_zf) hHeld ?_
      simp only [Act.put, List.getElem_toArray, List.getElem_cons_zero, List.setIfInBounds_toArray, List.set_cons_succ, List.set_cons_zero]
      refine wpAnyH_take (i := 1) (v := .agg [Value.int .i64 E1, .int .i64 E2].toArray) rfl (by kernel_rfl) (by kernel_rfl) (by kernel_rfl) (fun _ _ _ h => h) (yieldsIf_load_mid (by rfl) 33 (.tmp 5) rfl tb 0 rfl [Value.int .i64 E1, .int .i64 E2] _ (fun W hW => range_row hW) Tryz.underlying33 rfl faultSize) hHeld ?_
      simp only [Act.put, List.getElem_toArray, List.getElem_cons_zero, List.getElem_cons_succ, List.setIfInBounds_toArray, List.set_cons_succ, List.set_cons_zero]
      obtain ⟨wx, HWX⟩ : ∃ x, Hid (w2.drew = x) := ⟨_, rfl⟩
      have HR1x := hid (show w2.drew.heap[A]? = _ from HR1.out)
      have HR2x := hid (show w2.drew.heap[A + 1]? = _ from HR2.out)
      have HTBx := hid (show w2.drew.heap[tb]? = some (.cells [Value.int .i64 E1, .int .i64 E2].toArray 33 (0, 0)) from HTB.out)
      have HBx := hid (show Below w.heap.size w w2.drew from below_tr HB2.out ⟨rfl, rfl, rfl, Nat.le_refl _, fun _ _ => rfl⟩)
      rw [HWX.out] at hHeld HR1x HR2x HTBx HBx ⊢
      refine wpAnyH_ready (rs := [2]) (by kernel_rfl) (by simp) ?_
      refine AllReadyH.cons rfl (fun K9 hK9 => ?_) AllReadyH.nil
      refine step_store_row (by rfl) 30 _ _ (by rfl) A (fcells zF nS) (by rfl) (by rfl) 30 _ HR1x.out (frame_size zF nS rfl) rfl (fcells_one zF nS rfl) ?_
      intro wy hwy
      refine hK9.out _ _ (gb_keep hwy.grown HTBx.out (by have := HLt.out; omega)) (fun hHeld => ?_)
      clear hK9 K9
      try simp only [Act.put, List.getElem_toArray, List.getElem_cons_zero, List.getElem_cons_succ]
      refine wpAnyH_ready (rs := [3]) (by kernel_rfl) (by simp) ?_
      refine AllReadyH.cons rfl (fun K9 hK9 => ?_) AllReadyH.nil
      refine step_store_row (by rfl) 33 _ _ (by rfl) (A + 1) [Value.int .i64 E1, .int .i64 E2] (by rfl) (by rfl) 33 _ (gb_keep hwy.grown HR2x.out (by omega)) faultSize rfl (fault_one _ _) ?_
      intro wz hwz
      refine hK9.out _ _ (gb_keep hwz.grown (gb_keep hwy.grown HTBx.out (by have := HLt.out; omega)) (by have := HLt.out; omega)) (fun hHeld => ?_)
      clear hK9 K9
      try simp only [Act.put, List.getElem_toArray, List.getElem_cons_zero, List.getElem_cons_succ]
      refine wpAnyH_done (by kernel_rfl) ?_ _
      simp only [noPanic]
      clear hHeld
      go_wp2
      refine ret_cc 2 3 30 33 rfl A rfl (A + 1) rfl (fcells zF nS) 30 (gb_keep hwz.grown hwy.blk (by omega)) _ Tryz.underlying30 rfl (frame_size zF nS rfl) _ 33 hwz.blk _ Tryz.underlying33 rfl faultSize rfl ?_
      rw [HDP.out]
      refine ⟨nS, rfl, World.ownsRow_nil _ _ _ _, ?_⟩
      exact Below.of_gb (Below.of_gb HBx.out hwy.grown (by have := HAA.out; omega)) hwz.grown (by have := HAA.out; omega)

end Go.Proofs.YtiibhccbbpgehaaGreat

/- Slices of frames in memory. -/
namespace Go.Proofs.YtiibhccbbpgehaaGreat
open Go.RowKit

abbrev FV := Fr × Value
def zFV : FV := (zF, nS)
def Frs (w : World) (v : Value) (fs : List FV) : Prop :=
  (∃ ao c, v = .slice ao 0 c ∧ fs = []) ∨ ∃ g o c, v = .slice (some ⟨g, o, none⟩) fs.length c ∧ g < w.heap.size ∧ ∀ j, j < fs.length → w.rangeAt g (o + j * 42) (fcells (fs.getD j zFV).1 (fs.getD j zFV).2) ∧ Strs w (fs.getD j zFV).2 (fs.getD j zFV).1.args ∧ Rng (fs.getD j zFV).1
theorem range_below {w w' : World} {g o n : Nat} {cs : List Value} (h : w.rangeAt g o cs) (hg : g < n) (hb : Below n w w') : w'.rangeAt g o cs := fun j v hv => (hb.cell (p := ⟨g, o + j, none⟩) hg).trans (h j v hv)
theorem Frs.below {w w' : World} {v : Value} {fs : List FV} (h : Frs w v fs) (hb : Below w.heap.size w w') : Frs w' v fs := by
  rcases h with h | ⟨g, o, c, hv, hlt, hc⟩
  · exact Or.inl h
  · exact Or.inr ⟨g, o, c, hv, Nat.lt_of_lt_of_le hlt hb.size, fun j hj => ⟨range_below (hc j hj).1 hlt hb, (hc j hj).2.1.below hb, (hc j hj).2.2⟩⟩
theorem Frs.shape {w : World} {v : Value} {fs : List FV} (h : Frs w v fs) : ∃ ao c, v = .slice ao fs.length c := by
  rcases h with ⟨ao, c, rfl, rfl⟩ | ⟨g, o, c, rfl, _⟩
  · exact ⟨_, _, rfl⟩
  · exact ⟨_, _, rfl⟩
theorem Frs.at {w : World} {ao : Option Addr} {n c : Nat} {fs : List FV} (h : Frs w (.slice ao n c) fs) (k : Nat) (hk : k < fs.length) : ∃ g o, ao = some ⟨g, o, none⟩ ∧ g < w.heap.size ∧ w.rangeAt g (o + k * 42) (fcells (fs.getD k zFV).1 (fs.getD k zFV).2) ∧ Strs w (fs.getD k zFV).2 (fs.getD k zFV).1.args ∧ Rng (fs.getD k zFV).1 := by
  rcases h with ⟨_, _, _, rfl⟩ | ⟨g, o, c', e, hlt, hc⟩
  · simp at hk
  · simp only [Value.slice.injEq] at e
    exact ⟨g, o, e.1, hlt, hc k hk⟩
end Go.Proofs.YtiibhccbbpgehaaGreat

/- A decoder's memory: what its calls change; frames of one's own in a row. -/
namespace Go.Proofs.YtiibhccbbpgehaaGreat
open Go.RowKit

structure Gd (w w' : World) (b : Nat) (v v' : Value) : Prop where
  os : w'.os = w.os
  tape : w'.tape = w.tape
  output : w'.output = w.output
  size : w.heap.size ≤ w'.heap.size
  block : ∀ k, k < w.heap.size → k ≠ b → v.ownBlock ≠ some k → w'.heap[k]? = w.heap[k]?
  lies : ∀ k, v'.ownBlock = some k → v.ownBlock = some k ∨ w.heap.size ≤ k

theorem Gd.refl (w : World) (b : Nat) (v : Value) : Gd w w b v v := ⟨rfl, rfl, rfl, Nat.le_refl _, fun _ _ _ _ => rfl, fun _ h => Or.inl h⟩
theorem Gd.trans {w w1 w2 : World} {b : Nat} {v v1 v2 : Value} (h : Gd w w1 b v v1) (g : Gd w1 w2 b v1 v2) : Gd w w2 b v v2 :=
  ⟨g.os.trans h.os, g.tape.trans h.tape, g.output.trans h.output, Nat.le_trans h.size g.size,
    fun k hk hb hv => (g.block k (Nat.lt_of_lt_of_le hk h.size) hb (fun e => by rcases h.lies k e with e | e
                                                                                · exact hv e
                                                                                · omega)).trans (h.block k hk hb hv),
    fun k e => by rcases g.lies k e with e | e
                  · exact h.lies k e
                  · have := h.size; right; omega⟩
theorem Gd.below {w w1 w2 : World} {b : Nat} {v v1 : Value} (h : Gd w w1 b v v1) (g : Below w1.heap.size w1 w2) : Gd w w2 b v v1 :=
  ⟨g.os.trans h.os, g.tape.trans h.tape, g.output.trans h.output, Nat.le_trans h.size g.size,
    fun k hk hb hv => (g.block k (Nat.lt_of_lt_of_le hk h.size)).trans (h.block k hk hb hv), h.lies⟩
theorem Gd.after {w w1 w2 : World} {b : Nat} {v v1 : Value} (g : Below w.heap.size w w1) (h : Gd w1 w2 b v v1) : Gd w w2 b v v1 :=
  ⟨h.os.trans g.os, h.tape.trans g.tape, h.output.trans g.output, Nat.le_trans g.size h.size,
    fun k hk hb hv => (h.block k (Nat.lt_of_lt_of_le hk g.size) hb hv).trans (g.block k hk),
    fun k e => by rcases h.lies k e with e | e
                  · exact Or.inl e
                  · have := g.size; right; omega⟩
theorem Gd.set (w : World) (b i : Nat) (u v : Value) : Gd w (w.setCell ⟨b, i, none⟩ u) b v v :=
  ⟨rfl, rfl, rfl, by simp, fun k _ hb _ => Below.heap_setCell w _ u k (by simpa using hb), fun _ h => Or.inl h⟩
theorem Gd.grow {w w1 : World} {b i : Nat} {v v1 : Value} (h : w.grownBy w1 v.ownBlock) (hl : ∀ k, v1.ownBlock = some k → v.ownBlock = some k ∨ w.heap.size ≤ k) (u : Value) : Gd w (w1.setCell ⟨b, i, none⟩ u) b v v1 :=
  ⟨h.os, h.tape, h.output, by have := h.size; simpa using this,
    fun k hk hb hv => by rw [Below.heap_setCell w1 _ u k (by simpa using hb)]; exact h.block k hk (fun e => hv e.symm), hl⟩
theorem Gd.low {w w' : World} {b base : Nat} {v v' : Value} (h : Gd w w' b v v') (hb : base ≤ b) (hs : base ≤ w.heap.size) (hv : ∀ k, v.ownBlock = some k → base ≤ k) : Below base w w' :=
  ⟨h.os, h.tape, h.output, h.size, fun k hk => h.block k (by omega) (by omega) (fun e => by have := hv k e; omega)⟩

theorem OwnB.gd {w w' : World} {base b : Nat} {v v' vo : Value} {xs : List UInt8} (h : OwnB w base vo xs) (g : Gd w w' b v v') (hb : vo.ownBlock ≠ some b) (hv : ∀ k, vo.ownBlock = some k → v.ownBlock ≠ some k) : OwnB w' base vo xs := by
  have h' := h
  refine ⟨h.1, ?_⟩
  rcases h.2 with hn | ⟨g0, cap, cur, rfl, h1, h2, r⟩
  · exact .inl hn
  · refine .inr ⟨g0, cap, cur, rfl, h1, ?_, r⟩
    rw [g.block g0 (h'.lt g0 rfl).2 (fun e => hb (by rw [e]; rfl)) (hv g0 rfl)]
    exact h2
theorem Src.gd {w w' : World} {b : Nat} {v v' vo : Value} {xs : List UInt8} (h : Src w vo xs) (g : Gd w w' b v v') (hb : vo.ownBlock ≠ some b) (hv : ∀ k, vo.ownBlock = some k → v.ownBlock ≠ some k) : Src w' vo xs := by
  obtain ⟨h0, h | ⟨ad, cap, rfl, h1, h2, hlt, h3⟩⟩ := h
  · exact ⟨h0, Or.inl h⟩
  · refine ⟨h0, Or.inr ⟨ad, cap, rfl, h1, h2, fun h => Nat.lt_of_lt_of_le (hlt h) g.size, fun j hj => ?_⟩⟩
    rw [World.cell?_of_block (g.block (ad.add j).block (by rw [addr_block]; exact hlt (by omega)) (by rw [addr_block]; exact fun e => hb (by rw [← e]; rfl)) (by rw [addr_block]; exact hv _ rfl))]
    exact h3 j hj

theorem own_typ {w : World} {base : Nat} {e : TypeId} {size : Nat} {v : Value} {n : Nat} {xs : List Value} (h : w.ownsRow base e size v n xs) {g : Nat} (hg : v.ownBlock = some g) : ∃ cur, w.heap[g]? = some (.cells cur e (0, 0)) := by
  rcases h.2 with ⟨rfl, _⟩ | ⟨g', cap, cur, rfl, _, hh, _⟩
  · cases hg
  · simp only [Value.ownBlock, Option.some.injEq] at hg
    subst hg
    exact ⟨cur, hh⟩
theorem own_apart {w : World} {base base' : Nat} {e e' : TypeId} {size size' : Nat} {v v' : Value} {n n' : Nat} {xs xs' : List Value} (h : w.ownsRow base e size v n xs) (h' : w.ownsRow base' e' size' v' n' xs') (he : e ≠ e') {k : Nat} (hk : v.ownBlock = some k) : v'.ownBlock ≠ some k := by
  intro hk'
  obtain ⟨c, h1⟩ := own_typ h hk
  obtain ⟨c', h2⟩ := own_typ h' hk'
  rw [h1] at h2
  simp at h2
  exact he h2.2
theorem own_block {w : World} {base : Nat} {e t : TypeId} {size : Nat} {v : Value} {n : Nat} {xs : List Value} (h : w.ownsRow base e size v n xs) {b : Nat} {cs : Array Value} (hb : w.heap[b]? = some (.cells cs t (0, 0))) (he : e ≠ t) : v.ownBlock ≠ some b := by
  intro hk
  obtain ⟨c, h1⟩ := own_typ h hk
  rw [h1] at hb
  simp at hb
  exact he hb.2
theorem own_le {w : World} {base base' : Nat} {e : TypeId} {size : Nat} {v : Value} {n : Nat} {xs : List Value} (h : w.ownsRow base e size v n xs) (hb : base' ≤ base) : w.ownsRow base' e size v n xs :=
  ⟨h.1, h.2.elim Or.inl (fun ⟨g, cap, cur, hv, hg, r⟩ => Or.inr ⟨g, cap, cur, hv, Nat.le_trans hb hg, r⟩)⟩
theorem own_gd {w w' : World} {base b : Nat} {e : TypeId} {size : Nat} {v v' vo : Value} {n : Nat} {xs : List Value} (h : w.ownsRow base e size vo n xs) (g : Gd w w' b v v') (hb : vo.ownBlock ≠ some b) (hv : ∀ k, vo.ownBlock = some k → v.ownBlock ≠ some k) : w'.ownsRow base e size vo n xs := by
  have h' := h
  refine ⟨h.1, ?_⟩
  rcases h.2 with hn | ⟨g0, cap, cur, rfl, h1, h2, r⟩
  · exact .inl hn
  · refine .inr ⟨g0, cap, cur, rfl, h1, ?_, r⟩
    rw [g.block g0 (World.ownsRow.lt h' g0 rfl).2 (fun e => hb (by rw [e]; rfl)) (hv g0 rfl)]
    exact h2
theorem own_below {w w' : World} {base : Nat} {e : TypeId} {size : Nat} {v : Value} {n : Nat} {xs : List Value} (h : w.ownsRow base e size v n xs) (hb : Below w.heap.size w w') : w'.ownsRow base e size v n xs :=
  World.ownsRow.kept h (below_gb hb none) (by cases e : v.ownBlock <;> simp)

def frsV (fs : List FV) : List Value := fs.flatMap fun f => fcells f.1 f.2
theorem frsV_cons (f : FV) (fs : List FV) : frsV (f :: fs) = fcells f.1 f.2 ++ frsV fs := rfl
theorem frsV_app (a b : List FV) : frsV (a ++ b) = frsV a ++ frsV b := by simp [frsV]
theorem frsV_length : ∀ (fs : List FV), (∀ f ∈ fs, f.1.tool.length = 32) → (frsV fs).length = fs.length * 42
  | [], _ => rfl
  | f :: fs, h => by
    rw [frsV_cons, List.length_append, fcells_length _ _ (h f (by simp)), frsV_length fs (fun g hg => h g (by simp [hg])), List.length_cons]
    omega
theorem frsV_one (fs : List FV) (h : ∀ f ∈ fs, f.2.oneCell' = true) : ∀ u ∈ frsV fs, u.oneCell' = true := by
  intro u hu
  simp only [frsV, List.mem_flatMap] at hu
  obtain ⟨f, hf, hu⟩ := hu
  exact fcells_one f.1 f.2 (h f hf) u hu
theorem frsV_get : ∀ (fs : List FV) (_h : ∀ f ∈ fs, f.1.tool.length = 32) (j i : Nat), j < fs.length → i < 42 → (frsV fs)[j * 42 + i]? = (fcells (fs.getD j zFV).1 (fs.getD j zFV).2)[i]?
  | [], _, _, _, hj, _ => by simp at hj
  | f :: fs, h, 0, i, _, hi => by
    rw [frsV_cons, List.getElem?_append_left (by rw [fcells_length _ _ (h f (by simp))]; omega)]
    simp
  | f :: fs, h, j + 1, i, hj, hi => by
    rw [frsV_cons, List.getElem?_append_right (by rw [fcells_length _ _ (h f (by simp))]; omega), fcells_length _ _ (h f (by simp)), show (j + 1) * 42 + i - 42 = j * 42 + i by omega, frsV_get fs (fun g hg => h g (by simp [hg])) j i (by simpa using hj) hi]
    simp
theorem frsV_inv {fs : List FV} (h : ∀ f ∈ fs, f.1.tool.length = 32) {i : Nat} {u : Value} (hu : (frsV fs)[i]? = some u) : ∃ j k, j < fs.length ∧ i = j * 42 + k ∧ (fcells (fs.getD j zFV).1 (fs.getD j zFV).2)[k]? = some u := by
  have hi : i < fs.length * 42 := by
    rw [← frsV_length fs h]
    exact (List.getElem?_eq_some_iff.1 hu).1
  have hj : i / 42 < fs.length := by omega
  have hk : i % 42 < 42 := by omega
  have e := frsV_get fs h (i / 42) (i % 42) hj hk
  rw [show i / 42 * 42 + i % 42 = i by omega, hu] at e
  exact ⟨i / 42, i % 42, hj, by omega, e.symm⟩

structure OFs (w : World) (base : Nat) (v : Value) (fs : List FV) : Prop where
  own : w.ownsRow base 30 42 v fs.length (frsV fs)
  each : ∀ f ∈ fs, WOwnS w base f.2 f.1.args ∧ Rng f.1
theorem OFs.nil (w : World) (base : Nat) : OFs w base (.slice none 0 0) [] := ⟨World.ownsRow_nil _ _ _ _, fun _ h => by cases h⟩
theorem OFs.below {w w' : World} {base : Nat} {v : Value} {fs : List FV} (h : OFs w base v fs) (hb : Below w.heap.size w w') : OFs w' base v fs :=
  ⟨own_below h.own hb, fun f hf => ⟨own_below (h.each f hf).1 hb, (h.each f hf).2⟩⟩
theorem OFs.le {w : World} {base base' : Nat} {v : Value} {fs : List FV} (h : OFs w base v fs) (hb : base' ≤ base) : OFs w base' v fs :=
  ⟨own_le h.own hb, fun f hf => ⟨own_le (h.each f hf).1 hb, (h.each f hf).2⟩⟩
theorem OFs.tools {w : World} {base : Nat} {v : Value} {fs : List FV} (h : OFs w base v fs) : ∀ f ∈ fs, f.1.tool.length = 32 := fun f hf => (h.each f hf).2.tool
theorem OFs.ones {w : World} {base : Nat} {v : Value} {fs : List FV} (h : OFs w base v fs) : ∀ f ∈ fs, f.2.oneCell' = true := by
  intro f hf
  obtain ⟨a, c, e⟩ := wowns_shape (h.each f hf).1
  rw [e]
  rfl
theorem OFs.shape {w : World} {base : Nat} {v : Value} {fs : List FV} (h : OFs w base v fs) : ∃ ao c, v = .slice ao fs.length c := by
  rcases h.own.2 with ⟨rfl, h0⟩ | ⟨g, cap, cur, rfl, _⟩
  · exact ⟨none, 0, by rw [h0]⟩
  · exact ⟨_, _, rfl⟩
theorem OFs.nilc {w : World} {base : Nat} {v : Value} {fs : List FV} (h : OFs w base v fs) : ∀ c, v = .slice none 0 c → c = 0 := by
  intro c e
  rcases h.own.2 with ⟨h0, _⟩ | ⟨g, cap, cur, h0, _⟩
  · rw [h0] at e
    injection e with _ _ e
    exact e.symm
  · rw [h0] at e
    injection e with e _ _
    cases e
theorem OFs.gd {w w' : World} {base b base2 : Nat} {v v' vo : Value} {fs : List FV} {bs : List UInt8} {cs : Array Value} (h : OFs w base vo fs) (g : Gd w w' b v v') (hb : w.heap[b]? = some (.cells cs 104 (0, 0))) (hv : OwnB w base2 v bs) : OFs w' base vo fs :=
  ⟨own_gd h.own g (own_block h.own hb (by decide)) (fun k hk => own_apart h.own hv (by decide) hk), fun f hf => ⟨own_gd (h.each f hf).1 g (own_block (h.each f hf).1 hb (by decide)) (fun k hk => own_apart (h.each f hf).1 hv (by decide) hk), (h.each f hf).2⟩⟩
theorem OFs.grown {w w' : World} {base base2 n : Nat} {e : TypeId} {size : Nat} {v vo : Value} {xs : List Value} {fs : List FV} (h : OFs w base vo fs) (hv : w.ownsRow base2 e size v n xs) (hg : w.grownBy w' v.ownBlock) (h1 : 30 ≠ e) (h2 : 9 ≠ e) : OFs w' base vo fs := by
  have key : ∀ {t : TypeId} {sz m : Nat} {u : Value} {ys : List Value}, w.ownsRow base t sz u m ys → t ≠ e → w'.ownsRow base t sz u m ys := by
    intro t sz m u ys hu ht
    refine World.ownsRow.kept hu hg ?_
    cases hk : u.ownBlock with
    | none => exact Or.inl rfl
    | some k => exact Or.inr (fun h9 => own_apart hu hv ht hk (by rw [← h9]))
  exact ⟨key h.own h1, fun f hf => ⟨key (h.each f hf).1 h2, (h.each f hf).2⟩⟩
theorem OFs.far {w w' : World} {base n : Nat} {vo : Value} {fs : List FV} (h : OFs w base vo fs) (hg : w.grownBy w' (some n)) (hn : n < base) : OFs w' base vo fs := by
  have key : ∀ {t : TypeId} {sz m : Nat} {u : Value} {ys : List Value}, w.ownsRow base t sz u m ys → w'.ownsRow base t sz u m ys := by
    intro t sz m u ys hu
    refine World.ownsRow.kept hu hg ?_
    cases hk : u.ownBlock with
    | none => exact Or.inl rfl
    | some k => exact Or.inr (fun h9 => by injection h9 with h9; have := (World.ownsRow.lt hu k hk).1; omega)
  exact ⟨key h.own, fun f hf => ⟨key (h.each f hf).1, (h.each f hf).2⟩⟩
theorem OFs.frs {w : World} {base : Nat} {v : Value} {fs : List FV} (h : OFs w base v fs) : Frs w v fs := by
  have h' := h.own
  rcases h.own.2 with ⟨h0, h1⟩ | ⟨g, cap, cur, hv, hb, hh, h1, h2, _, _⟩
  · exact Or.inl ⟨none, 0, h0, List.length_eq_zero_iff.1 h1⟩
  · refine Or.inr ⟨g, 0, cap, hv, hp_lt hh, fun j hj => ?_⟩
    have hm : fs.getD j zFV ∈ fs := by
      rw [List.getD_eq_getElem?_getD, List.getElem?_eq_getElem hj]
      exact List.getElem_mem hj
    refine ⟨fun i u hu => ?_, wowns_strs (h.each _ hm).1, (h.each _ hm).2⟩
    have hi : i < 42 := by
      have := (List.getElem?_eq_some_iff.1 hu).1
      rwa [fcells_length _ _ (h.each _ hm).2.tool] at this
    have := World.ownsRow.cells h' (g := g) (by rw [hv]; rfl) (j * 42 + i) u (by rw [frsV_get fs h.tools j i hj hi]; exact hu)
    rw [addr_add] at this
    rw [Nat.zero_add]
    exact this
theorem Frs.drew {w : World} {v : Value} {fs : List FV} (h : Frs w v fs) (n : Nat) : Frs (w.drewN n) v fs := h.below ⟨rfl, rfl, rfl, Nat.le_refl _, fun _ _ => rfl⟩

theorem Tryz.infoFrame : (Tryz.prog.info? 30).map (fun i => (i.zero, i.size, i.bytes)) = some (some (.agg (fcells zF nS).toArray), 42, 136) := by kernel_rfl

theorem app_frs {w : World} {ops : Array Oper} {rest : List Oper} {o : Oper} {a : Act} {Q : Exit → Act → World → Prop} (hgd : o.guard = none) (s x : Operand)
    (ho : o.op = .call { callee := .builtin .append, args := #[s, x], argTypes := #[62, 62] })
    (base : Nat) (v : Value) (ts : List FV) (hs : a.eval s = v) (hown : OFs w base v ts) (us : List FV) (vx : Value) (hx : a.eval x = vx) (hc : Frs w vx us) (hz : ∀ c, vx = .slice none 0 c → c = 0) (he : ∀ f ∈ us, WOwnS w base f.2 f.1.args ∧ Rng f.1)
    (hlen : ts.length + us.length ≤ 1000000000000) (hbase : base ≤ w.heap.size)
    (h : ∀ v' w', OFs w' base v' (ts ++ us) → w.grownBy w' v.ownBlock → (v'.ownBlock = v.ownBlock ∨ v'.ownBlock = some w.heap.size) → wpList Tryz.prog ops Q rest (a.put o.dst v') w') : wpList Tryz.prog ops Q (o :: rest) a w := by
  obtain ⟨i0, hi, hz0, hz1, hz2⟩ := info_parts Tryz.infoFrame
  rcases hc with ⟨ao, c, h1, h2⟩ | ⟨g, off, c, hv, hlt, h2⟩
  · subst h2
    cases ao with
    | none =>
      have h3 := hz c h1
      subst h3 h1
      refine wpList_append_own_none hgd s x 62 ho base 30 i0 42 Tryz.underlying62 hi v ts.length _ hs hown.own hx ?_
      exact h v w (by simpa using hown) (gb_refl _ _) (Or.inl rfl)
    | some ad =>
      subst h1
      refine wpList_plain hgd fun K hK => ?_
      obtain ⟨v', w', hr, h5, h6, _⟩ := run_append_own (P := Tryz.prog) w base 62 o.type 30 i0 (.agg (fcells zF nS).toArray) 42 136 Tryz.underlying62 hi hz0 hz1 hz2 rfl (by decide) v ts.length (frsV ts) hown.own ad 0 c [] (by simp) (by simp) (by simp) (by unfold maxLen; simp at hlen; omega) (by simp at hlen; omega) hbase
      have hp := app_place (P := Tryz.prog) w base 62 o.type 30 i0 (.agg (fcells zF nS).toArray) 42 136 Tryz.underlying62 hi hz0 hz1 hz2 v ts.length (frsV ts) hown.own ad 0 c [] (by simp) (by simp) (by simp) (by unfold maxLen; simp at hlen; omega) (by simp at hlen; omega) v' w' hr
      unfold Oper.wp execOp
      simp only [ho, resolve, invoke, builtin, Sem.run_bind, Sem.run_pure, Result.andThen_ok, List.map_toArray, List.map_cons, List.map_nil, hs, hx, hr]
      refine hK _ _ (h v' w' ⟨by simpa using h5, fun f hf => ?_⟩ h6 hp)
      rw [List.append_nil] at hf
      refine ⟨World.ownsRow.kept (hown.each f hf).1 h6 ?_, (hown.each f hf).2⟩
      cases hk : f.2.ownBlock with
      | none => exact Or.inl rfl
      | some k => exact Or.inr (fun h9 => own_apart (hown.each f hf).1 hown.own (by decide) hk (by rw [← h9]))
  · subst hv
    refine wpList_plain hgd fun K hK => ?_
    have htl : ∀ f ∈ us, f.1.tool.length = 32 := fun f hf => (he f hf).2.tool
    have hon : ∀ f ∈ us, f.2.oneCell' = true := fun f hf => by
      obtain ⟨a, c, e⟩ := wowns_shape (he f hf).1
      rw [e]
      rfl
    have hl : (frsV us).length = us.length * 42 := frsV_length us htl
    have hcl : ∀ j u, (frsV us)[j]? = some u → w.cell? ((⟨g, off, none⟩ : Addr).add j) = some u := by
      intro j u hu
      obtain ⟨m, k, hm, rfl, hk⟩ := frsV_inv htl hu
      rw [show (⟨g, off, none⟩ : Addr).add (m * 42 + k) = ⟨g, off + m * 42 + k, none⟩ by rw [Nat.add_assoc]; exact Addr.add_mid g off (m * 42 + k)]
      exact (h2 m hm).1 k u hk
    obtain ⟨v', w', hr, h5, h6, _⟩ := run_append_own (P := Tryz.prog) w base 62 o.type 30 i0 (.agg (fcells zF nS).toArray) 42 136 Tryz.underlying62 hi hz0 hz1 hz2 rfl (by decide) v ts.length (frsV ts) hown.own ⟨g, off, none⟩ us.length c (frsV us) hl hcl (frsV_one us hon) (by unfold maxLen; omega) (by omega) hbase
    have hp := app_place (P := Tryz.prog) w base 62 o.type 30 i0 (.agg (fcells zF nS).toArray) 42 136 Tryz.underlying62 hi hz0 hz1 hz2 v ts.length (frsV ts) hown.own ⟨g, off, none⟩ us.length c (frsV us) hl hcl (frsV_one us hon) (by unfold maxLen; omega) (by omega) v' w' hr
    unfold Oper.wp execOp
    simp only [ho, resolve, invoke, builtin, Sem.run_bind, Sem.run_pure, Result.andThen_ok, List.map_toArray, List.map_cons, List.map_nil, hs, hx, hr]
    refine hK _ _ (h v' w' ⟨by rw [List.length_append, frsV_app]; exact h5, fun f hf => ?_⟩ h6 hp)
    have key : WOwnS w base f.2 f.1.args → WOwnS w' base f.2 f.1.args := by
      intro hu
      refine World.ownsRow.kept hu h6 ?_
      cases hk : f.2.ownBlock with
      | none => exact Or.inl rfl
      | some k => exact Or.inr (fun h9 => own_apart hu hown.own (by decide) hk (by rw [← h9]))
    rcases List.mem_append.1 hf with hf | hf
    · exact ⟨key (hown.each f hf).1, (hown.each f hf).2⟩
    · exact ⟨key (he f hf).1, (he f hf).2⟩
end Go.Proofs.YtiibhccbbpgehaaGreat

/- What is read is in its one form, plainly. -/
namespace Go.Proofs.YtiibhccbbpgehaaGreat
open Go.RowKit

theorem split_drop (bs : List UInt8) (a k : Nat) : bs.drop a = (bs.drop a).take k ++ bs.drop (a + k) := by
  rw [← List.drop_drop]
  exact (List.take_append_drop k (bs.drop a)).symm
theorem u_form (bs : List UInt8) (s : St) (h : (uS bs s).2.2.1 = 0) : s.2.1 = 0 ∧ bs.drop s.1 = sn (uS bs s).1 ++ bs.drop (uS bs s).2.1 ∧ (uS bs s).1 < 18446744073709551616 := by
  by_cases h0 : s.2.1 = 0
  · obtain ⟨E, n, k, hd⟩ : ∃ E n k, dec (bs.drop s.1) 0 0 = (E, n, k) := ⟨_, _, _, rfl⟩
    have e : uS bs s = (n, s.1 + k, (E : Int), watOf E s.1 s.2.2) := by unfold uS uintF; rw [if_neg (fun h9 => h9 h0), hd]
    rw [e] at h ⊢
    have hE : E = 0 := by have : (E : Int) = 0 := h; omega
    subst hE
    obtain ⟨_, _, h3, h4⟩ := dec_ok hd
    refine ⟨h0, ?_, h3⟩
    show bs.drop s.1 = sn n ++ bs.drop (s.1 + k)
    rw [← h4]
    exact split_drop bs s.1 k
  · rw [over_u bs s h0] at h
    exact absurd h h0
theorem c_form (bs : List UInt8) (m : Int) (s : St) (hm : 0 ≤ m) (h : (cS bs m s).2.2.1 = 0) : s.2.1 = 0 ∧ bs.drop s.1 = sn (cS bs m s).1 ++ bs.drop (cS bs m s).2.1 := by
  by_cases h0 : s.2.1 = 0
  · obtain ⟨E, n, k, hd⟩ : ∃ E n k, upTo (bs.drop s.1) m.toNat 11 = (E, n, k) := ⟨_, _, _, rfl⟩
    have e : cS bs m s = (n, s.1 + k, (E : Int), watOf E s.1 s.2.2) := by unfold cS countF; rw [if_neg (fun h9 => h9 h0), if_neg (by omega), hd]
    rw [e] at h ⊢
    have hE : E = 0 := by have : (E : Int) = 0 := h; omega
    subst hE
    obtain ⟨_, _, h3, h4⟩ := dec_ok (upTo_ok (by decide) hd).1
    refine ⟨h0, ?_⟩
    show bs.drop s.1 = sn n ++ bs.drop (s.1 + k)
    rw [← h4]
    exact split_drop bs s.1 k
  · rw [over_c bs m s h0] at h
    exact absurd h h0
theorem o_form (bs : List UInt8) (m : Int) (s : St) (hm : 0 ≤ m) (h : (oS bs m s).2.2.1 = 0) : s.2.1 = 0 ∧ bs.drop s.1 = sn (oS bs m s).1 ++ bs.drop (oS bs m s).2.1 ∧ 1 ≤ (oS bs m s).1 := by
  have h1 : (oS bs m s).1 ≠ 0 := fun h2 => oS_zero bs m s h2 h
  have e : oS bs m s = cS bs m s := by
    unfold oS at h1 ⊢
    split
    · rename_i h2
      rw [if_pos h2] at h1
      exact absurd rfl h1
    · rfl
  rw [e] at h h1 ⊢
  obtain ⟨a, b⟩ := c_form bs m s hm h
  exact ⟨a, b, by omega⟩
theorem t_form (bs : List UInt8) (m : Int) (s : St) (hm : 0 ≤ m) (h : (tS bs m s).2.2.1 = 0) : s.2.1 = 0 ∧ bs.drop s.1 = tx (mk (tS bs m s).1) ++ bs.drop (tS bs m s).2.1 := by
  by_cases h0 : s.2.1 = 0
  · obtain ⟨E, n, k, hd⟩ : ∃ E n k, wtxt (bs.drop s.1) m.toNat = (E, n, k) := ⟨_, _, _, rfl⟩
    have e : tS bs m s = (n, s.1 + k, (E : Int), watOf E s.1 s.2.2) := by unfold tS textF; rw [if_neg (fun h9 => h9 h0), if_neg (by omega), hd]
    rw [e] at h ⊢
    have hE : E = 0 := by have : (E : Int) = 0 := h; omega
    subst hE
    obtain ⟨h1, _⟩ := txt_ok hd
    refine ⟨h0, ?_⟩
    show bs.drop s.1 = tx (mk n) ++ bs.drop (s.1 + k)
    rw [tx_mk, ← h1]
    exact split_drop bs s.1 k
  · rw [over_t bs m s h0] at h
    exact absurd h h0
theorem l_form (bs : List UInt8) (m n : Int) (s : St) (hm : 0 ≤ m) (hn : 0 ≤ n) (h : (lS bs m n s).2.2.1 = 0) : s.2.1 = 0 ∧ bs.drop s.1 = ls ((lS bs m n s).1.map mk) ++ bs.drop (lS bs m n s).2.1 := by
  by_cases h0 : s.2.1 = 0
  · obtain ⟨E, ts, k, hd⟩ : ∃ E n9 k, lst (bs.drop s.1) m.toNat n.toNat = (E, n9, k) := ⟨_, _, _, rfl⟩
    by_cases hE : E = 0
    · subst hE
      have e1 : (lS bs m n s).1 = ts ∧ (lS bs m n s).2.1 = s.1 + k := by
        unfold lS listF
        rw [if_neg (fun h9 => h9 h0), if_neg (by omega), hd, if_neg (fun h9 => h9 rfl)]
        exact ⟨rfl, rfl⟩
      rw [e1.1, e1.2]
      obtain ⟨h1, _⟩ := lst_ok hd
      refine ⟨h0, ?_⟩
      rw [← h1]
      exact split_drop bs s.1 k
    · exfalso
      unfold lS listF at h
      rw [if_neg (fun h9 => h9 h0), if_neg (by omega), hd, if_pos hE] at h
      have : (E : Int) = 0 := h
      omega
  · rw [over_l bs m n s h0] at h
    exact absurd h h0
theorem r_form (bs : List UInt8) (s : St) (h : (rS bs 32 s).2.2.1 = 0) : s.2.1 = 0 ∧ bs.drop s.1 = (rS bs 32 s).1 ++ bs.drop (rS bs 32 s).2.1 ∧ (rS bs 32 s).1.length = 32 := by
  by_cases h0 : s.2.1 = 0
  · by_cases hl : bs.length - s.1 < 32
    · exfalso
      unfold rS rawF at h
      rw [if_neg (fun h9 => h9 h0), if_neg (by omega), if_pos (show bs.length - s.1 < (32 : Int).toNat from hl)] at h
      exact absurd h (by show ¬ (4 : Int) = 0; decide)
    · have e : rS bs 32 s = ((bs.drop s.1).take 32, s.1 + 32, 0, s.2.2) := by unfold rS rawF; rw [if_neg (fun h9 => h9 h0), if_neg (by omega), if_neg (show ¬ bs.length - s.1 < (32 : Int).toNat from hl)]; rfl
      rw [e]
      refine ⟨h0, split_drop bs s.1 32, ?_⟩
      rw [List.length_take, List.length_drop]
      omega
  · rw [over_r bs 32 s h0] at h
    exact absurd h h0
theorem e_form (bs : List UInt8) (s : St) (h : (eS bs s).1 = 0) : s.2.1 = 0 ∧ bs.drop s.1 = [] := by
  unfold eS at h
  by_cases h0 : s.2.1 = 0
  · rw [if_neg (fun h9 => h9 h0)] at h
    by_cases h1 : s.1 < bs.length
    · rw [if_pos h1] at h
      exact absurd h (by show ¬ (6 : Int) = 0; decide)
    · exact ⟨h0, List.drop_eq_nil_iff.2 (by omega)⟩
  · rw [if_pos h0] at h
    exact absurd h h0
theorem cast_nat (n : Nat) : ((n : Int)).toNat = n := by omega

theorem form_fields (bs : List UInt8) (K : Nat) (s : St) (hK : 1 ≤ K ∧ K ≤ 6) (he : (eS bs (fieldsP bs (K : Int) s).2).1 = 0) : s.2.1 = 0 ∧ bs.drop s.1 = layP (fieldsP bs (K : Int) s).1 := by
  obtain ⟨e1, e2⟩ := e_form bs _ he
  have hc : K = 1 ∨ K = 2 ∨ K = 3 ∨ K = 4 ∨ K = 5 ∨ K = 6 := by omega
  rcases hc with rfl | rfl | rfl | rfl | rfl | rfl
  · rw [show ((1 : Nat) : Int) = 1 from rfl, fieldsP_1] at e1 e2 ⊢
    obtain ⟨a1, a2, a3⟩ := r_form bs _ e1
    obtain ⟨b1, b2, _⟩ := o_form bs 64 _ (by omega) a1
    obtain ⟨c1, c2, _⟩ := o_form bs 1 _ (by omega) b1
    refine ⟨c1, ?_⟩
    rw [lay_1 _ rfl, sns_two]
    show bs.drop s.1 = sn ((((oS bs 1 s).1 : Nat) : Int)).toNat ++ sn ((((oS bs 64 (oS bs 1 s).2).1 : Nat) : Int)).toNat ++ pad32 (rS bs 32 (oS bs 64 (oS bs 1 s).2).2).1
    rw [cast_nat, cast_nat, c2, b2, a2, e2, List.append_nil]
    unfold pad32
    rw [if_pos a3, List.append_assoc]
  · rw [show ((2 : Nat) : Int) = 2 from rfl, fieldsP_2] at e1 e2 ⊢
    obtain ⟨a1, a2⟩ := t_form bs 2097152 _ (by omega) e1
    obtain ⟨b1, b2⟩ := l_form bs 8 4096 _ (by omega) (by omega) a1
    obtain ⟨c1, c2⟩ := c_form bs 2147483648 _ (by omega) b1
    obtain ⟨d1, d2⟩ := c_form bs 2147483648 _ (by omega) c1
    obtain ⟨f1, f2⟩ := c_form bs 2147483648 _ (by omega) d1
    obtain ⟨g1, g2, _⟩ := u_form bs _ f1
    refine ⟨g1, ?_⟩
    rw [lay_2 _ rfl]
    unfold layReqP
    rw [sns_thr]
    simp only [reqF, cast_nat]
    rw [g2, f2, d2, c2, b2, a2, e2, List.append_nil]
    simp only [List.append_assoc]
  · rw [show ((3 : Nat) : Int) = 3 from rfl, fieldsP_3] at e1 e2 ⊢
    obtain ⟨a1, a2⟩ := t_form bs 2097152 _ (by omega) e1
    obtain ⟨b1, b2, _⟩ := o_form bs 3 _ (by omega) a1
    obtain ⟨g1, g2, _⟩ := u_form bs _ b1
    refine ⟨g1, ?_⟩
    rw [lay_3 _ rfl, sns_one]
    simp only [resF, cast_nat]
    rw [g2, b2, a2, e2, List.append_nil]
  · rw [show ((4 : Nat) : Int) = 4 from rfl, fieldsP_4] at e1 e2 ⊢
    obtain ⟨g1, g2, _⟩ := u_form bs _ e1
    refine ⟨g1, ?_⟩
    rw [lay_4 _ rfl]
    simp only [canF, cast_nat]
    rw [g2, e2, List.append_nil]
  · rw [show ((5 : Nat) : Int) = 5 from rfl, fieldsP_5] at e1 e2 ⊢
    exact ⟨e1, by rw [lay_5 _ rfl]; exact e2⟩
  · rw [show ((6 : Nat) : Int) = 6 from rfl, fieldsP_6] at e1 e2 ⊢
    obtain ⟨a1, a2⟩ := t_form bs 2097152 _ (by omega) e1
    refine ⟨a1, ?_⟩
    rw [lay_6 _ rfl]
    simp only [noteF]
    rw [a2, e2, List.append_nil]
theorem fields_own (bs : List UInt8) (K : Nat) (s : St) (hK : 1 ≤ K ∧ K ≤ 6) : sameP (fieldsP bs (K : Int) s).1 (ownF (fieldsP bs (K : Int) s).1) = true := by
  have hc : K = 1 ∨ K = 2 ∨ K = 3 ∨ K = 4 ∨ K = 5 ∨ K = 6 := by omega
  have key : ∀ f : Fr, ownF f = f → sameP f (ownF f) = true := fun f h => by rw [h]; exact sameP_self f
  apply key
  rcases hc with rfl | rfl | rfl | rfl | rfl | rfl
  · rw [show ((1 : Nat) : Int) = 1 from rfl, fieldsP_1, own_1 _ rfl]
  · rw [show ((2 : Nat) : Int) = 2 from rfl, fieldsP_2, own_2 _ rfl]; rfl
  · rw [show ((3 : Nat) : Int) = 3 from rfl, fieldsP_3, own_3 _ rfl]; rfl
  · rw [show ((4 : Nat) : Int) = 4 from rfl, fieldsP_4, own_4 _ rfl]; rfl
  · rw [show ((5 : Nat) : Int) = 5 from rfl, fieldsP_5, own_5 _ rfl]
  · rw [show ((6 : Nat) : Int) = 6 from rfl, fieldsP_6, own_6 _ rfl]; rfl
theorem frame_form (bs : List UInt8) (head : Nat) (h : (frameP bs head).2.1 = 0) : okFr (frameP bs head).1 = true ∧ bs.drop head = bodyP (frameP bs head).1 ∧ (frameP bs head).2 = (0, 0) := by
  have hle := oS_le bs 6 (head, 0, 0) (by omega)
  by_cases h0 : (oS bs 6 (head, 0, 0)).1 = 0
  · rw [frameP_zero bs head h0] at h
    have h1 := oS_zero bs 6 _ h0
    have h2 := (e_form bs _ h).1
    exact absurd h2 h1
  · obtain ⟨K, hK⟩ : ∃ K, (oS bs 6 (head, 0, 0)).1 = K := ⟨_, rfl⟩
    rw [hK] at h0 hle
    have hK6 : 1 ≤ K ∧ K ≤ 6 := by omega
    by_cases he : (eS bs (fieldsP bs (K : Int) (oS bs 6 (head, 0, 0)).2).2).1 = 0
    · cases hm : mayF (fieldsP bs (K : Int) (oS bs 6 (head, 0, 0)).2).1 with
      | true =>
        rw [frameP_ok bs head K hK h0 he hm]
        obtain ⟨f1, f2⟩ := form_fields bs K _ hK6 he
        obtain ⟨_, g2, _⟩ := o_form bs 6 (head, 0, 0) (by omega) f1
        refine ⟨?_, ?_, rfl⟩
        · unfold okFr
          rw [fields_own bs K _ hK6, hm, fieldsP_kind bs K _ (by omega), decide_eq_true (by omega)]
          rfl
        · unfold bodyP
          rw [fieldsP_kind bs K _ (by omega), cast_nat]
          show bs.drop head = _
          have g3 : bs.drop head = sn (oS bs 6 (head, 0, 0)).1 ++ bs.drop (oS bs 6 (head, 0, 0)).2.1 := g2
          rw [g3, hK, f2]
      | false =>
        rw [frameP_may bs head K hK h0 he hm] at h
        exact absurd h (by show ¬ (70 : Int) = 0; decide)
    · rw [frameP_bad bs head K hK h0 he] at h
      exact absurd h he
theorem dec_form (b : List UInt8) (h : (decP b).2.1 = 0) : chkE (decP b).1 = 0 ∧ encP (decP b).1 = b ∧ (decP b).2 = (0, 0) := by
  rw [decP_uns] at h ⊢
  by_cases h0 : (unsE b).1 = 0
  · rw [if_neg (fun h9 => h9 h0)] at h ⊢
    obtain ⟨u1, u2, u3, u4, u5⟩ := uns_ok h0
    obtain ⟨NB, hd, hN1, hN2, hNn⟩ := need_ok u1 u2
    obtain ⟨f1, f2, f3⟩ := frame_form _ _ h
    obtain ⟨hk0, hk1, hk2, hk3⟩ := dec_ok hd
    have e : b.take (b.length - 4) = sn NB ++ (b.drop (needP b).2.1).take NB := by
      rw [← hk3, show b.length - 4 = (needP b).2.1 + NB by omega, List.take_add]
    have hl := dec_ok_len hd
    have e2 : (b.take (b.length - 4)).drop (needP b).2.1 = (b.drop (needP b).2.1).take NB := by
      rw [e]
      exact List.drop_left' hl.symm
    rw [e2] at f2
    have e3 : (bodyP (frameP (b.take (b.length - 4)) (needP b).2.1).1).length = NB := by
      rw [← f2, List.length_take, List.length_drop]
      omega
    refine ⟨?_, ?_, f3⟩
    · unfold chkE
      rw [if_pos f1, e3, if_neg (by omega)]
    · unfold encP
      rw [e3, ← f2, ← e]
      unfold sealP
      unfold cokP at u4
      have h9 := of_decide_eq_true u4
      rw [← h9]
      exact List.take_append_drop _ b
  · rw [if_pos h0] at h
    exact absurd h h0
theorem dec_none (b : List UInt8) (h : (decP b).2.1 ≠ 0) : (decP b).1 = zF := by
  rw [decP_uns] at h ⊢
  by_cases h0 : (unsE b).1 = 0
  · rw [if_neg (fun h9 => h9 h0)] at h ⊢
    unfold frameP at h ⊢
    repeat' split
    all_goals first | rfl | skip
    rename_i g1 g2 g3
    rw [if_neg g1, if_neg g2, if_pos g3] at h
    exact absurd rfl h
  · rw [if_pos h0]
theorem uS_lt (bs : List UInt8) (s : St) : (uS bs s).1 < 18446744073709551616 := uintF_lt bs s.1 s.2.1 s.2.2
theorem fields_rng (bs : List UInt8) (K : Nat) (s : St) (hK : 1 ≤ K ∧ K ≤ 6) (hl : bs.length ≤ 140737488355327) (hm : (fieldsP bs (K : Int) s).1.args.length ≤ 9223372036854775807) : Rng (fieldsP bs (K : Int) s).1 := by
  have hc : K = 1 ∨ K = 2 ∨ K = 3 ∨ K = 4 ∨ K = 5 ∨ K = 6 := by omega
  have tl := fieldsP_tool bs (K : Int) s
  have u1 := uS_lt bs s
  have tb : ∀ s' : St, (tS bs 2097152 s').1.length ≤ bs.length := fun s' => textF_len bs s'.1 s'.2.1 s'.2.2 2097152
  rcases hc with rfl | rfl | rfl | rfl | rfl | rfl
  · rw [show ((1 : Nat) : Int) = 1 from rfl, fieldsP_1] at tl hm ⊢
    have a := oS_le bs 1 s (by omega)
    have b := oS_le bs 64 (oS bs 1 s).2 (by omega)
    exact ⟨tl, by simp, by simp, by show ((oS bs 1 s).1 : Int) ≤ _; omega, by show ((oS bs 64 (oS bs 1 s).2).1 : Int) ≤ _; omega, by simp, by simp, by simp, by simp, by simp, hm⟩
  · rw [show ((2 : Nat) : Int) = 2 from rfl, fieldsP_2] at tl hm ⊢
    have a := cS_le bs 2147483648 (uS bs s).2 (by omega)
    have b := cS_le bs 2147483648 (cS bs 2147483648 (uS bs s).2).2 (by omega)
    have c := cS_le bs 2147483648 (cS bs 2147483648 (cS bs 2147483648 (uS bs s).2).2).2 (by omega)
    exact ⟨tl, by simp [reqF], by show ((uS bs s).1 : Int) ≤ _; omega, by simp [reqF], by simp [reqF], by simp [reqF], by show ((cS bs 2147483648 (uS bs s).2).1 : Int) ≤ _; omega, by show ((cS bs 2147483648 (cS bs 2147483648 (uS bs s).2).2).1 : Int) ≤ _; omega, by show ((cS bs 2147483648 (cS bs 2147483648 (cS bs 2147483648 (uS bs s).2).2).2).1 : Int) ≤ _; omega, Nat.le_trans (tb _) hl, hm⟩
  · rw [show ((3 : Nat) : Int) = 3 from rfl, fieldsP_3] at tl hm ⊢
    have a := oS_le bs 3 (uS bs s).2 (by omega)
    exact ⟨tl, by simp [resF], by show ((uS bs s).1 : Int) ≤ _; omega, by simp [resF], by simp [resF], by show ((oS bs 3 (uS bs s).2).1 : Int) ≤ _; omega, by simp [resF], by simp [resF], by simp [resF], Nat.le_trans (tb _) hl, hm⟩
  · rw [show ((4 : Nat) : Int) = 4 from rfl, fieldsP_4] at tl hm ⊢
    exact ⟨tl, by simp [canF], by show ((uS bs s).1 : Int) ≤ _; omega, by simp [canF], by simp [canF], by simp [canF], by simp [canF], by simp [canF], by simp [canF], by simp [canF], hm⟩
  · rw [show ((5 : Nat) : Int) = 5 from rfl, fieldsP_5] at tl hm ⊢
    exact ⟨tl, by simp [byeF], by simp [byeF], by simp [byeF], by simp [byeF], by simp [byeF], by simp [byeF], by simp [byeF], by simp [byeF], by simp [byeF], hm⟩
  · rw [show ((6 : Nat) : Int) = 6 from rfl, fieldsP_6] at tl hm ⊢
    exact ⟨tl, by simp [noteF], by simp [noteF], by simp [noteF], by simp [noteF], by simp [noteF], by simp [noteF], by simp [noteF], by simp [noteF], Nat.le_trans (tb _) hl, hm⟩
theorem zF_rng : Rng zF := ⟨rfl, by simp [zF], by simp [zF], by simp [zF], by simp [zF], by simp [zF], by simp [zF], by simp [zF], by simp [zF], by simp [zF], by simp [zF]⟩
theorem dec_rng (b : List UInt8) (hl : b.length ≤ 140737488355327) (hm : (decP b).1.args.length ≤ 9223372036854775807) : Rng (decP b).1 := by
  by_cases h : (decP b).2.1 = 0
  · rw [decP_uns] at h hm ⊢
    by_cases h0 : (unsE b).1 = 0
    · rw [if_neg (fun h9 => h9 h0)] at h hm ⊢
      have hle := oS_le (b.take (b.length - 4)) 6 ((needP b).2.1, 0, 0) (by omega)
      unfold frameP at h hm ⊢
      by_cases g1 : (oS (b.take (b.length - 4)) 6 ((needP b).2.1, 0, 0)).1 = 0
      · rw [if_pos g1]
        exact zF_rng
      · rw [if_neg g1] at hm ⊢
        split
        · exact zF_rng
        · rename_i g2
          rw [if_neg g2] at hm
          split
          · rename_i g3
            rw [if_pos g3] at hm
            exact fields_rng _ _ _ (by omega) (by rw [List.length_take]; omega) hm
          · exact zF_rng
    · rw [if_pos h0]
      exact zF_rng
  · rw [dec_none b h]
    exact zF_rng
end Go.Proofs.YtiibhccbbpgehaaGreat

/- A decoder of frames, plainly: bytes are taken one by one; as many at once as are wanted at least is the same. -/
namespace Go.Proofs.YtiibhccbbpgehaaGreat
open Go.RowKit

structure Sx where
  r : List UInt8
  came : Nat
  whole : Nat
  why : Int
  wat : Int
  szs : List Nat
def zS : Sx := ⟨[], 0, 0, 0, 0, []⟩
def needM (M : Nat) (r : List UInt8) : Nat × Int :=
  if (needP r).2.2 ≠ 0 then (0, ((needP r).2.2 : Int)) else if (needP r).1 ≠ 0 ∧ M < (needP r).1 - (needP r).2.1 - 4 then (0, 3) else ((needP r).1, 0)
def lackP (r : List UInt8) : Nat := if (needP r).1 = 0 then 1 else (needP r).1 - r.length
def takeC (M : Nat) (s : Sx) (X : List UInt8) : Sx × List Fr :=
  if (needM M (s.r ++ X)).2 ≠ 0 then (⟨s.r ++ X, s.came + X.length, s.whole, (needM M (s.r ++ X)).2, (s.came : Int) - (s.r.length : Int), s.szs⟩, [])
  else if (needM M (s.r ++ X)).1 = 0 ∨ (s.r ++ X).length < (needM M (s.r ++ X)).1 then (⟨s.r ++ X, s.came + X.length, s.whole, 0, 0, s.szs⟩, [])
  else if (decP (s.r ++ X)).2.1 ≠ 0 then (⟨s.r ++ X, s.came + X.length, s.whole, (decP (s.r ++ X)).2.1, IntKind.i64.wrap ((s.came : Int) - (s.r.length : Int) + (decP (s.r ++ X)).2.2), s.szs⟩, [])
  else (⟨[], s.came + X.length, s.whole + 1, 0, 0, s.szs ++ [(s.r ++ X).length]⟩, [(decP (s.r ++ X)).1])
abbrev Ra := Sx × List Fr × Nat
def stepQ (M : Nat) (q : Nat → Bool) (a : Ra) (c : UInt8) : Ra :=
  if q a.2.1.length = true ∨ a.1.why ≠ 0 then a else ((takeC M a.1 [c]).1, a.2.1 ++ (takeC M a.1 [c]).2, a.2.2 + 1)
def runP (M : Nat) (q : Nat → Bool) (a : Ra) (bs : List UInt8) : Ra := bs.foldl (stepQ M q) a
theorem runP_nil (M : Nat) (q : Nat → Bool) (a : Ra) : runP M q a [] = a := rfl
theorem runP_cons (M : Nat) (q : Nat → Bool) (a : Ra) (c : UInt8) (bs : List UInt8) : runP M q a (c :: bs) = runP M q (stepQ M q a c) bs := rfl
theorem runP_app (M : Nat) (q : Nat → Bool) (a : Ra) (X Y : List UInt8) : runP M q a (X ++ Y) = runP M q (runP M q a X) Y := List.foldl_append
theorem runP_stop (M : Nat) (q : Nat → Bool) (a : Ra) (h : q a.2.1.length = true ∨ a.1.why ≠ 0) : ∀ X, runP M q a X = a
  | [] => rfl
  | c :: X => by
    rw [runP_cons, show stepQ M q a c = a by unfold stepQ; rw [if_pos h]]
    exact runP_stop M q a h X
theorem runP_snoc (M : Nat) (q : Nat → Bool) (a : Ra) (bs : List UInt8) (k : Nat) (hk : k < bs.length) : runP M q a (bs.take (k + 1)) = stepQ M q (runP M q a (bs.take k)) (bs.getD k 0) := by
  rw [List.take_succ_eq_append_getElem hk, runP_app]
  simp [runP, List.getD_eq_getElem?_getD, List.getElem?_eq_getElem hk]

theorem dec_more : ∀ (l Y : List UInt8) (i acc : Nat), (dec l i acc).1 ≠ 4 → dec (l ++ Y) i acc = dec l i acc
  | [], Y, i, acc, h => absurd rfl h
  | c :: r, Y, i, acc, h => by
    rw [List.cons_append, dec_cons, dec_cons]
    rw [dec_cons] at h
    split
    · rfl
    · split
      · rfl
      · split
        · rfl
        · rename_i h1 h2 h3
          rw [if_neg h1, if_neg h2, if_neg h3] at h
          exact dec_more r Y _ _ h
theorem dec_short : ∀ (l : List UInt8) (i acc : Nat), i ≤ 9 → (dec l i acc).1 = 4 → l.length + i ≤ 9
  | [], i, acc, hi, _ => by simpa using hi
  | c :: r, i, acc, hi, h => by
    rw [dec_cons] at h
    by_cases h1 : i = 9 ∧ 1 < c.toNat
    · rw [if_pos h1] at h; cases h
    · rw [if_neg h1] at h
      by_cases h2 : 0 < i ∧ c.toNat = 0
      · rw [if_pos h2] at h; cases h
      · rw [if_neg h2] at h
        by_cases h3 : c.toNat < 128
        · rw [if_pos h3] at h; cases h
        · rw [if_neg h3] at h
          have h9 : i ≤ 8 := by
            rcases Nat.lt_or_ge i 9 with h | h
            · omega
            · exact absurd ⟨by omega, by omega⟩ h1
          have := dec_short r (i + 1) _ (by omega) h
          simp only [List.length_cons]
          omega
theorem need_more {r : List UInt8} (Y : List UInt8) (h : (dec r 0 0).1 ≠ 4) : needP (r ++ Y) = needP r := by
  unfold needP
  rw [dec_more r Y 0 0 h]
theorem need_dec {r : List UInt8} (h : (needP r).1 ≠ 0 ∨ (needP r).2.2 ≠ 0) : (dec r 0 0).1 ≠ 4 := by
  intro h4
  unfold needP at h
  rw [if_pos h4] at h
  rcases h with h | h <;> exact h rfl
theorem need_none {r : List UInt8} (h : (needP r).1 = 0) (h2 : (needP r).2.2 = 0) : r.length ≤ 9 := by
  by_cases h4 : (dec r 0 0).1 = 4
  · exact dec_short r 0 0 (by omega) h4
  · exfalso
    unfold needP at h h2
    rw [if_neg h4] at h h2
    by_cases h0 : (dec r 0 0).1 ≠ 0
    · rw [if_pos h0] at h2
      exact h0 h2
    · rw [if_neg h0] at h h2
      by_cases hN : 2097152 < (dec r 0 0).2.1
      · rw [if_pos hN] at h2; cases h2
      · rw [if_neg hN] at h h2
        by_cases hz : (dec r 0 0).2.1 = 0
        · rw [if_pos hz] at h2; cases h2
        · rw [if_neg hz] at h
          have : (dec r 0 0).2.2 + (dec r 0 0).2.1 + 4 = 0 := h
          omega
theorem needM_more {M : Nat} {r : List UInt8} (Y : List UInt8) (h : (needM M r).1 ≠ 0) : needM M (r ++ Y) = needM M r ∧ needP (r ++ Y) = needP r := by
  have h1 : (needP r).1 ≠ 0 := by
    unfold needM at h
    split at h
    · exact absurd rfl h
    · split at h
      · exact absurd rfl h
      · exact h
  have h2 := need_more Y (need_dec (Or.inl h1))
  exact ⟨by unfold needM; rw [h2], h2⟩
theorem needM_ok {M : Nat} {r : List UInt8} (h : (needM M r).2 = 0) : (needM M r).1 = (needP r).1 ∧ (needP r).2.2 = 0 ∧ ((needP r).1 ≠ 0 → (needP r).1 ≤ M + 14) := by
  unfold needM at h ⊢
  by_cases h1 : (needP r).2.2 ≠ 0
  · rw [if_pos h1] at h
    exact absurd (show (((needP r).2.2 : Nat) : Int) = 0 from h) (by omega)
  · rw [if_neg h1] at h ⊢
    by_cases h2 : (needP r).1 ≠ 0 ∧ M < (needP r).1 - (needP r).2.1 - 4
    · rw [if_pos h2] at h; cases h
    · rw [if_neg h2]
      refine ⟨rfl, by omega, fun h0 => ?_⟩
      obtain ⟨N, hd, hN1, hN2, hn⟩ := need_ok (b := r) (by omega) h0
      have := dec_ok_len hd
      have h8 := sn_length_le N
      have h3 : ¬ M < (needP r).1 - (needP r).2.1 - 4 := fun h => h2 ⟨h0, h⟩
      omega
structure Gs (M : Nat) (s : Sx) : Prop where
  ok : s.why = 0 → s.wat = 0 ∧ (needM M s.r).2 = 0 ∧ ((needM M s.r).1 = 0 ∨ s.r.length < (needM M s.r).1)
  le : s.r.length ≤ s.came
  few : s.r.length ≤ M + 14
  wl : s.whole ≤ s.came
theorem needM_nil (M : Nat) : needM M [] = (0, 0) := by
  have h : needP [] = (0, 0, 0) := by decide
  unfold needM
  rw [h]
  rfl
theorem Gs.zero (M : Nat) : Gs M zS := ⟨fun _ => ⟨rfl, by show (needM M []).2 = 0; rw [needM_nil], Or.inl (by show (needM M []).1 = 0; rw [needM_nil])⟩, Nat.le_refl _, Nat.zero_le _, Nat.le_refl _⟩
theorem lack_pos {M : Nat} {s : Sx} (h : Gs M s) (h0 : s.why = 0) : 1 ≤ lackP s.r := by
  obtain ⟨_, h1, h2⟩ := h.ok h0
  have h3 := needM_ok h1
  unfold lackP
  split
  · exact Nat.le_refl _
  · rcases h2 with h2 | h2
    · omega
    · omega
theorem lack_le {M : Nat} {s : Sx} (h : Gs M s) (h0 : s.why = 0) : s.r.length + lackP s.r ≤ M + 14 := by
  obtain ⟨_, h1, h2⟩ := h.ok h0
  have h3 := needM_ok h1
  unfold lackP
  split
  · rename_i hz
    have := need_none hz h3.2.1
    omega
  · rename_i hz
    have := h3.2.2 hz
    omega
theorem takeC_good {M : Nat} {s : Sx} (h : Gs M s) (h0 : s.why = 0) (X : List UInt8) (hX : X ≠ []) (hl : X.length ≤ lackP s.r) : Gs M (takeC M s X).1 := by
  have hwl := h.wl
  have hpos := List.length_pos_iff.2 hX
  have hf := lack_le h h0
  have hle := h.le
  have hlen : (s.r ++ X).length = s.r.length + X.length := List.length_append
  unfold takeC
  by_cases h1 : (needM M (s.r ++ X)).2 ≠ 0
  · rw [if_pos h1]
    exact ⟨fun h => absurd h h1, by show (s.r ++ X).length ≤ s.came + X.length; omega, by show (s.r ++ X).length ≤ _; omega, by show s.whole ≤ s.came + X.length; omega⟩
  · rw [if_neg h1]
    by_cases h2 : (needM M (s.r ++ X)).1 = 0 ∨ (s.r ++ X).length < (needM M (s.r ++ X)).1
    · rw [if_pos h2]
      exact ⟨fun _ => ⟨rfl, by simpa using h1, h2⟩, by show (s.r ++ X).length ≤ s.came + X.length; omega, by show (s.r ++ X).length ≤ _; omega, by show s.whole ≤ s.came + X.length; omega⟩
    · rw [if_neg h2]
      by_cases h3 : (decP (s.r ++ X)).2.1 ≠ 0
      · rw [if_pos h3]
        exact ⟨fun h => absurd h h3, by show (s.r ++ X).length ≤ s.came + X.length; omega, by show (s.r ++ X).length ≤ _; omega, by show s.whole ≤ s.came + X.length; omega⟩
      · rw [if_neg h3]
        exact ⟨fun _ => ⟨rfl, by show (needM M []).2 = 0; rw [needM_nil], Or.inl (by show (needM M []).1 = 0; rw [needM_nil])⟩, Nat.zero_le _, Nat.zero_le _, by show s.whole + 1 ≤ s.came + X.length; omega⟩
theorem takeC_step {M : Nat} {s : Sx} (h : Gs M s) (h0 : s.why = 0) (c d : UInt8) (Y : List UInt8) (hl : (c :: d :: Y).length ≤ lackP s.r) :
    takeC M s [c] = (⟨s.r ++ [c], s.came + 1, s.whole, 0, 0, s.szs⟩, []) ∧ (d :: Y).length ≤ lackP (s.r ++ [c]) ∧ takeC M ⟨s.r ++ [c], s.came + 1, s.whole, 0, 0, s.szs⟩ (d :: Y) = takeC M s (c :: d :: Y) := by
  obtain ⟨_, h1, h2⟩ := h.ok h0
  have h3 := needM_ok h1
  have hn : (needP s.r).1 ≠ 0 := by
    intro hz
    unfold lackP at hl
    rw [if_pos hz] at hl
    simp at hl
  have hl2 : s.r.length + (Y.length + 2) ≤ (needP s.r).1 := by
    unfold lackP at hl
    rw [if_neg hn] at hl
    simp only [List.length_cons] at hl
    rcases h2 with h2 | h2 <;> omega
  have e1 := needM_more [c] (M := M) (r := s.r) (by rw [h3.1]; exact hn)
  refine ⟨?_, ?_, ?_⟩
  · unfold takeC
    rw [e1.1, if_neg (by simpa using h1), if_pos (Or.inr (by rw [h3.1, List.length_append]; simp; omega))]
    rfl
  · unfold lackP
    rw [e1.2, if_neg hn, List.length_append]
    simp
    omega
  · unfold takeC
    have e2 : s.r ++ [c] ++ d :: Y = s.r ++ c :: d :: Y := by simp
    have e3 : ((s.came + 1 : Nat) : Int) - ((s.r ++ [c]).length : Int) = (s.came : Int) - (s.r.length : Int) := by rw [List.length_append]; simp; omega
    have e4 : s.came + 1 + (d :: Y).length = s.came + (c :: d :: Y).length := by simp; omega
    simp only [e2, e3, e4]
theorem run_chunk (M : Nat) (q : Nat → Bool) : ∀ (X : List UInt8) (s : Sx) (out : List Fr) (k : Nat), Gs M s → s.why = 0 → X ≠ [] → X.length ≤ lackP s.r → q out.length = false →
    runP M q (s, out, k) X = ((takeC M s X).1, out ++ (takeC M s X).2, k + X.length)
  | [], _, _, _, _, _, hX, _, _ => absurd rfl hX
  | [c], s, out, k, _, h0, _, _, hq => by
    rw [runP_cons, runP_nil]
    unfold stepQ
    rw [if_neg (by simp [hq, h0])]
    rfl
  | c :: d :: Y, s, out, k, hg, h0, _, hl, hq => by
    obtain ⟨e1, e2, e3⟩ := takeC_step hg h0 c d Y hl
    have hg1 := takeC_good hg h0 [c] (by simp) (by simp only [List.length_cons] at hl ⊢; simp; omega)
    rw [e1] at hg1
    rw [runP_cons]
    unfold stepQ
    rw [if_neg (by simp [hq, h0]), e1, List.append_nil, run_chunk M q (d :: Y) _ out (k + 1) hg1 rfl (by simp) e2 hq, e3]
    refine Prod.ext rfl (Prod.ext rfl ?_)
    simp
    omega
theorem step_good {M : Nat} {q : Nat → Bool} {a : Ra} (h : Gs M a.1) (c : UInt8) : Gs M (stepQ M q a c).1 := by
  unfold stepQ
  split
  · exact h
  · rename_i hn
    have h0 : a.1.why = 0 := by
      by_cases h : a.1.why = 0
      · exact h
      · exact absurd (Or.inr h) hn
    exact takeC_good h h0 [c] (by simp) (by have := lack_pos h h0; simpa using this)
theorem run_good {M : Nat} {q : Nat → Bool} : ∀ (X : List UInt8) {a : Ra}, Gs M a.1 → Gs M (runP M q a X).1
  | [], _, h => h
  | c :: X, _, h => run_good X (step_good h c)
theorem takeC_came (M : Nat) (s : Sx) (X : List UInt8) : (takeC M s X).1.came = s.came + X.length := by
  unfold takeC
  repeat' split
  all_goals rfl
theorem takeC_few (M : Nat) (s : Sx) (X : List UInt8) : (takeC M s X).2.length ≤ 1 := by
  unfold takeC
  repeat' split
  all_goals simp
theorem run_came {M : Nat} {q : Nat → Bool} : ∀ (X : List UInt8) (a : Ra), (runP M q a X).1.came + a.2.2 = a.1.came + (runP M q a X).2.2
  | [], _ => Nat.add_comm _ _ ▸ rfl
  | c :: X, a => by
    rw [runP_cons]
    have ih := run_came (M := M) (q := q) X (stepQ M q a c)
    have : (stepQ M q a c).1.came + a.2.2 = a.1.came + (stepQ M q a c).2.2 := by
      unfold stepQ
      split
      · omega
      · show (takeC M a.1 [c]).1.came + a.2.2 = a.1.came + (a.2.2 + 1)
        rw [takeC_came]; simp; omega
    omega
theorem run_took {M : Nat} {q : Nat → Bool} : ∀ (X : List UInt8) (a : Ra), a.2.2 ≤ (runP M q a X).2.2 ∧ (runP M q a X).2.2 ≤ a.2.2 + X.length
  | [], _ => ⟨Nat.le_refl _, Nat.le_refl _⟩
  | c :: X, a => by
    rw [runP_cons]
    have ih := run_took (M := M) (q := q) X (stepQ M q a c)
    have : a.2.2 ≤ (stepQ M q a c).2.2 ∧ (stepQ M q a c).2.2 ≤ a.2.2 + 1 := by
      unfold stepQ
      split
      · omega
      · show a.2.2 ≤ a.2.2 + 1 ∧ a.2.2 + 1 ≤ a.2.2 + 1
        omega
    simp only [List.length_cons]
    omega
theorem run_few {M : Nat} {q : Nat → Bool} : ∀ (X : List UInt8) (a : Ra), (runP M q a X).2.1.length ≤ a.2.1.length + X.length
  | [], _ => Nat.le_refl _
  | c :: X, a => by
    rw [runP_cons]
    have ih := run_few (M := M) (q := q) X (stepQ M q a c)
    have : (stepQ M q a c).2.1.length ≤ a.2.1.length + 1 := by
      unfold stepQ
      split
      · omega
      · show (a.2.1 ++ (takeC M a.1 [c]).2).length ≤ _
        have := takeC_few M a.1 [c]
        rw [List.length_append]; omega
    simp only [List.length_cons]
    omega
theorem run_shift {M : Nat} : ∀ (X : List UInt8) (s : Sx) (out : List Fr) (k : Nat), runP M (fun _ => false) (s, out, k) X = ((runP M (fun _ => false) (s, [], 0) X).1, out ++ (runP M (fun _ => false) (s, [], 0) X).2.1, k + (runP M (fun _ => false) (s, [], 0) X).2.2)
  | [], s, out, k => by simp [runP_nil]
  | c :: X, s, out, k => by
    rw [runP_cons, runP_cons]
    by_cases h : s.why ≠ 0
    · rw [show stepQ M (fun _ => false) (s, out, k) c = (s, out, k) by unfold stepQ; rw [if_pos (Or.inr h)], show stepQ M (fun _ => false) (s, [], 0) c = (s, [], 0) by unfold stepQ; rw [if_pos (Or.inr h)]]
      exact run_shift X s out k
    · have e1 : ∀ o j, stepQ M (fun _ => false) (s, o, j) c = ((takeC M s [c]).1, o ++ (takeC M s [c]).2, j + 1) := by
        intro o j
        unfold stepQ
        rw [if_neg (by simpa using h)]
      rw [e1, e1, run_shift X _ (out ++ _), run_shift X _ ([] ++ (takeC M s [c]).2)]
      refine Prod.ext rfl (Prod.ext ?_ ?_)
      · simp
      · show k + 1 + _ = k + (0 + 1 + _); omega
theorem run_congr {M : Nat} {q q' : Nat → Bool} : ∀ (X : List UInt8) (a : Ra), (∀ k, k ≤ a.2.1.length + X.length → q k = q' k) → runP M q a X = runP M q' a X
  | [], _, _ => rfl
  | c :: X, a, h => by
    rw [runP_cons, runP_cons]
    have e : stepQ M q a c = stepQ M q' a c := by
      unfold stepQ
      rw [h _ (by omega)]
    rw [e]
    refine run_congr X _ (fun k hk => h k ?_)
    have : (stepQ M q' a c).2.1.length ≤ a.2.1.length + 1 := by
      unfold stepQ
      split
      · omega
      · show (a.2.1 ++ (takeC M a.1 [c]).2).length ≤ _
        have := takeC_few M a.1 [c]
        rw [List.length_append]; omega
    simp only [List.length_cons]
    omega
theorem snF_mono : ∀ (f a b : Nat), a ≤ b → (snF f a).length ≤ (snF f b).length
  | 0, _, _, _ => Nat.le_refl _
  | f + 1, a, b, h => by
    rw [snF_succ, snF_succ]
    by_cases ha : a < 128
    · rw [if_pos ha]
      split
      · simp
      · simp
    · rw [if_neg ha, if_neg (by omega)]
      have := snF_mono f (a / 128) (b / 128) (by omega)
      simp only [List.length_cons]
      omega
theorem sn_mono {a b : Nat} (h : a ≤ b) : (sn a).length ≤ (sn b).length := snF_mono 10 a b h
def lngP (M : Nat) : Nat := (sn M).length + M + 4
theorem needM_long (M : Nat) (r : List UInt8) : needM M r = if lngP M < (needP r).1 then (0, 3) else if (needP r).2.2 ≠ 0 then (0, ((needP r).2.2 : Int)) else ((needP r).1, 0) := by
  unfold needM
  by_cases h1 : (needP r).2.2 ≠ 0
  · have h0 : (needP r).1 = 0 := by
      by_cases h : (needP r).1 = 0
      · exact h
      · exfalso
        unfold needP at h h1
        split at h
        · exact h rfl
        · rename_i g1
          rw [if_neg g1] at h1
          split at h
          · exact h rfl
          · rename_i g2
            rw [if_neg g2] at h1
            split at h
            · exact h rfl
            · rename_i g3
              rw [if_neg g3] at h1
              split at h
              · exact h rfl
              · rename_i g4
                rw [if_neg g4] at h1
                exact h1 rfl
    rw [if_pos h1, if_neg (by omega), if_pos h1]
  · rw [if_neg h1]
    by_cases h0 : (needP r).1 = 0
    · rw [if_neg (fun h => h.1 h0), if_neg (by omega), if_neg h1]
    · obtain ⟨N, hd, hN1, hN2, hn⟩ := need_ok (b := r) (by omega) h0
      have hk := dec_ok_len hd
      unfold lngP
      by_cases hm : M < N
      · have := sn_mono (Nat.le_of_lt hm)
        rw [if_pos ⟨h0, by omega⟩, if_pos (by omega)]
      · have := sn_mono (Nat.le_of_not_lt hm)
        rw [if_neg (fun h => hm (by have := h.2; omega)), if_neg (by omega), if_neg h1]
theorem lng_pos (M : Nat) : 0 < lngP M := by unfold lngP; omega
theorem lng_le {M : Nat} (h : M ≤ 2097152) : lngP M ≤ 3000000 := by have := sn_length_le M; unfold lngP; omega
theorem need_le (r : List UInt8) : (needP r).1 ≤ 3000000 := by
  by_cases h0 : (needP r).1 = 0
  · omega
  · by_cases h2 : (needP r).2.2 = 0
    · obtain ⟨N, hd, hN1, hN2, hn⟩ := need_ok h2 h0
      have hk := dec_ok_len hd
      have := sn_length_le N
      omega
    · exfalso
      have h := needM_long 0 r
      unfold needM at h
      rw [if_pos h2] at h
      split at h
      · rename_i g
        unfold needP at h0 h2
        repeat' split at h0
        all_goals first | exact h0 rfl | skip
        rename_i g1 g2 g3 g4
        rw [if_neg g1, if_neg g2, if_neg g3, if_neg g4] at h2
        exact h2 rfl
      · unfold needP at h0 h2
        repeat' split at h0
        all_goals first | exact h0 rfl | skip
        rename_i g1 g2 g3 g4
        rw [if_neg g1, if_neg g2, if_neg g3, if_neg g4] at h2
        exact h2 rfl
end Go.Proofs.YtiibhccbbpgehaaGreat

/- A decoder's block, and what its small methods do. -/
namespace Go.Proofs.YtiibhccbbpgehaaGreat
open Go.RowKit Go.BigFrame

theorem app_bytes {w : World} {ops : Array Oper} {rest : List Oper} {o : Oper} {a : Act} {Q : Exit → Act → World → Prop} (hgd : o.guard = none) (s x : Operand)
    (ho : o.op = .call { callee := .builtin .append, args := #[s, x], argTypes := #[22, 22] })
    (base : Nat) (v : Value) (bs : List UInt8) (hs : a.eval s = v) (hown : OwnB w base v bs) (vx : Value) (cs : List UInt8) (hx : a.eval x = vx) (hsrc : Src w vx cs)
    (hlen : bs.length + cs.length ≤ 140737488355327) (hbase : base ≤ w.heap.size)
    (h : ∀ v' w', OwnB w' base v' (bs ++ cs) → w.grownBy w' v.ownBlock → (v'.ownBlock = v.ownBlock ∨ v'.ownBlock = some w.heap.size) → wpList Tryz.prog ops Q rest (a.put o.dst v') w') : wpList Tryz.prog ops Q (o :: rest) a w := by
  obtain ⟨i0, hi, hz0, hz1, hz2⟩ := info_parts Tryz.infoU8
  obtain ⟨_, ⟨rfl, rfl⟩ | ⟨ad, cap, rfl, h1, h2, hlt, hc⟩⟩ := hsrc
  · refine wpList_append_own_none hgd s x 22 ho base 5 i0 1 Tryz.underlying22 hi v bs.length (bytesV bs) hs hown hx ?_
    exact h v w (by simpa using hown) (gb_refl _ _) (Or.inl rfl)
  · refine wpList_plain hgd fun K hK => ?_
    obtain ⟨v', w', hr, h5, h6, _⟩ := run_append_own (P := Tryz.prog) w base 22 o.type 5 i0 (.int .u8 0) 1 1 Tryz.underlying22 hi hz0 hz1 hz2 rfl (by decide) v bs.length (bytesV bs) hown ad cs.length cap (bytesV cs) (by simp [bytesV]) (src_cells hc) (bytesV_one cs) (by unfold maxLen; omega) (by omega) hbase
    have hp := app_place (P := Tryz.prog) w base 22 o.type 5 i0 (.int .u8 0) 1 1 Tryz.underlying22 hi hz0 hz1 hz2 v bs.length (bytesV bs) hown ad cs.length cap (bytesV cs) (by simp [bytesV]) (src_cells hc) (bytesV_one cs) (by unfold maxLen; omega) (by omega) v' w' hr
    unfold Oper.wp execOp
    simp only [ho, resolve, invoke, builtin, Sem.run_bind, Sem.run_pure, Result.andThen_ok, List.map_toArray, List.map_cons, List.map_nil, hs, hx, hr]
    exact hK _ _ (h v' w' (by unfold OwnB; rw [bytesV_append, List.length_append]; exact h5) h6 hp)

structure Kb (w : World) (base b : Nat) (v : Value) (r : List UInt8) (ca wh lg : Nat) (y t : Int) : Prop where
  lo : base ≤ b
  blk : w.heap[b]? = some (.cells #[v, .int .i64 ca, .int .i64 wh, .int .i64 lg, .int .i64 y, .int .i64 t] 104 (0, 0))
  own : OwnB w base v r
section
variable {w w' : World} {base b : Nat} {v : Value} {r : List UInt8} {ca wh lg : Nat} {y t : Int}
theorem Kb.lt (h : Kb w base b v r ca wh lg y t) : b < w.heap.size := hp_lt h.blk
theorem Kb.c0 (h : Kb w base b v r ca wh lg y t) : w.cell? ⟨b, 0, none⟩ = some v := by simp [World.cell?, h.blk]
theorem Kb.c1 (h : Kb w base b v r ca wh lg y t) : w.cell? ⟨b, 1, none⟩ = some (.int .i64 ca) := by simp [World.cell?, h.blk]
theorem Kb.c2 (h : Kb w base b v r ca wh lg y t) : w.cell? ⟨b, 2, none⟩ = some (.int .i64 wh) := by simp [World.cell?, h.blk]
theorem Kb.c3 (h : Kb w base b v r ca wh lg y t) : w.cell? ⟨b, 3, none⟩ = some (.int .i64 lg) := by simp [World.cell?, h.blk]
theorem Kb.c4 (h : Kb w base b v r ca wh lg y t) : w.cell? ⟨b, 4, none⟩ = some (.int .i64 y) := by simp [World.cell?, h.blk]
theorem Kb.c5 (h : Kb w base b v r ca wh lg y t) : w.cell? ⟨b, 5, none⟩ = some (.int .i64 t) := by simp [World.cell?, h.blk]
theorem Kb.fz (h : Kb w base b v r ca wh lg y t) (i : Nat) : w.frozen? ⟨b, i, none⟩ = false := by simp [World.frozen?, h.blk]
theorem Kb.ne (h : Kb w base b v r ca wh lg y t) : v.ownBlock ≠ some b := own_block h.own h.blk (by decide)
theorem Kb.below (h : Kb w base b v r ca wh lg y t) (hb : Below w.heap.size w w') : Kb w' base b v r ca wh lg y t :=
  ⟨h.lo, (hb.block b h.lt).trans h.blk, h.own.below hb⟩
theorem Kb.drew (h : Kb w base b v r ca wh lg y t) (n : Nat) : Kb (w.drewN n) base b v r ca wh lg y t := h.below ⟨rfl, rfl, rfl, Nat.le_refl _, fun _ _ => rfl⟩
theorem Kb.low (h : Kb w base b v r ca wh lg y t) {v' : Value} (g : Gd w w' b v v') : Below base w w' :=
  g.low h.lo (Nat.le_of_lt (Nat.lt_of_le_of_lt h.lo h.lt)) (fun k e => (World.ownsRow.lt h.own k e).1)
theorem Kb.fault (h : Kb w base b v r ca wh lg y t) : w.rangeAt b 4 [.int .i64 y, .int .i64 t] := by
  intro j u hu
  match j, hu with
  | 0, hu => simp at hu; subst hu; exact h.c4
  | 1, hu => simp at hu; subst hu; exact h.c5
theorem Kb.there (h : Kb w base b v r ca wh lg y t) : w.there b 4 2 := by
  intro j hj
  match j, hj with
  | 0, _ => exact ⟨by rw [h.c4]; rfl, h.fz _⟩
  | 1, _ => exact ⟨by rw [h.c5]; rfl, h.fz _⟩
theorem Kb.setHeld (h : Kb w base b v r ca wh lg y t) {v' : Value} {r' : List UInt8} (hg : w.grownBy w' v.ownBlock) (ho : OwnB w' base v' r') :
    Kb (w'.setCell ⟨b, 0, none⟩ v') base b v' r' ca wh lg y t := by
  have hb : w'.heap[b]? = _ := (hg.block b h.lt (fun e => h.ne e.symm)).trans h.blk
  refine ⟨h.lo, by rw [blk_set hb]; rfl, ho.kept (gb_set w' _ _) (Or.inr ?_)⟩
  have := own_block ho hb (by decide)
  simpa using this
theorem Kb.setCame (h : Kb w base b v r ca wh lg y t) (x : Nat) : Kb (w.setCell ⟨b, 1, none⟩ (.int .i64 x)) base b v r x wh lg y t :=
  ⟨h.lo, by rw [blk_set h.blk]; rfl, h.own.kept (gb_set w _ _) (Or.inr (by simpa using h.ne))⟩
theorem Kb.setWhole (h : Kb w base b v r ca wh lg y t) (x : Nat) : Kb (w.setCell ⟨b, 2, none⟩ (.int .i64 x)) base b v r ca x lg y t :=
  ⟨h.lo, by rw [blk_set h.blk]; rfl, h.own.kept (gb_set w _ _) (Or.inr (by simpa using h.ne))⟩
theorem Kb.setFault (h : Kb w base b v r ca wh lg y t) (y' t' : Int) : Kb (w.setCells b 4 [.int .i64 y', .int .i64 t']) base b v r ca wh lg y' t' ∧ Gd w (w.setCells b 4 [.int .i64 y', .int .i64 t']) b v v := by
  have e : w.setCells b 4 [.int .i64 y', .int .i64 t'] = (w.setCell ⟨b, 4, none⟩ (.int .i64 y')).setCell ⟨b, 5, none⟩ (.int .i64 t') := rfl
  rw [e]
  have h1 : (w.setCell ⟨b, 4, none⟩ (.int .i64 y')).heap[b]? = some (.cells #[v, .int .i64 ca, .int .i64 wh, .int .i64 lg, .int .i64 y', .int .i64 t] 104 (0, 0)) := by rw [blk_set h.blk]; rfl
  refine ⟨⟨h.lo, by rw [blk_set h1]; rfl, (h.own.kept (gb_set w _ _) (Or.inr (by simpa using h.ne))).kept (gb_set _ _ _) (Or.inr (by simpa using h.ne))⟩, (Gd.set _ _ _ _ _).trans (Gd.set _ _ _ _ _)⟩
theorem Kb.far {n : Nat} (h : Kb w base b v r ca wh lg y t) (hg : w.grownBy w' (some n)) (hb : b ≠ n) (hv : ∀ k, v.ownBlock = some k → k ≠ n) : Kb w' base b v r ca wh lg y t :=
  ⟨h.lo, (hg.block b h.lt (fun e => hb (by injection e))).trans h.blk, h.own.kept hg (by
    cases e : v.ownBlock with
    | none => exact Or.inl rfl
    | some k => exact Or.inr (fun e2 => hv k e (by injection e2)))⟩

set_option maxHeartbeats 400000 in
theorem kmade_any (h : Kb w base b v r ca wh lg y t) (hl : 0 < lg) :
    Calls Tryz.prog 43 #[.pointer (some ⟨b, 0, none⟩)] w fun e w' => e = .returned (.bool true) ∧ w' = w := by
  have c3 := h.c3
  clear h
  go_enter Tryz.func43, Tryz.ntmps43
  go_wp2
  go_ret
  exact ⟨rfl, rfl⟩

set_option maxHeartbeats 400000 in
theorem kpois_any (h : Kb w base b v r ca wh lg y t) :
    Calls Tryz.prog 57 #[.pointer (some ⟨b, 0, none⟩)] w fun e w' => e = .returned (.bool (y != 0)) ∧ w' = w := by
  have c4 := h.c4
  clear h
  go_enter Tryz.func57, Tryz.ntmps57
  go_wp2
  go_ret
  exact ⟨rfl, rfl⟩

set_option maxHeartbeats 400000 in
theorem ksz_any (h : Kb w base b v r ca wh lg y t) :
    Calls Tryz.prog 87 #[.pointer (some ⟨b, 0, none⟩)] w fun e w' => e = .returned (.int .i64 r.length) ∧ w' = w := by
  have c0 := h.c0
  obtain ⟨av, cv, rfl⟩ := h.own.shape
  clear h
  go_enter Tryz.func87, Tryz.ntmps87
  go_wp2
  go_ret
  exact ⟨rfl, rfl⟩

set_option maxHeartbeats 400000 in
theorem kput_any (h : Kb w base b v r ca wh lg y t) (vx : Value) (X : List UInt8) (hx : Src w vx X) (hl : r.length + X.length ≤ 140737488355327) :
    Calls Tryz.prog 111 #[.pointer (some ⟨b, 0, none⟩), vx] w fun e w' => e = .returned (.tuple #[]) ∧ ∃ v', Kb w' base b v' (r ++ X) ca wh lg y t ∧ Gd w w' b v v' := by
  have c0 := h.c0
  have z0 := h.fz 0
  have H := hid h
  have HX := hid hx
  have HO := hid h.own
  have HBS := hid (Nat.le_of_lt (Nat.lt_of_le_of_lt h.lo h.lt))
  obtain ⟨av, cv, rfl⟩ := h.own.shape
  clear h hx
  go_enter Tryz.func111, Tryz.ntmps111
  go_wp2_with (at_builtin; refine app_bytes rfl _ _ rfl base _ _ rfl HO.out _ _ rfl HX.out hl HBS.out ?_)
  intro v1 w1 ho1 hg1 hp1
  have HK := hid (H.out.setHeld hg1 ho1)
  have HG := hid (Gd.grow (b := b) (i := 0) hg1 (v1 := v1) (fun k e => by
    rcases hp1 with e1 | e1
    · exact Or.inl (e1 ▸ e)
    · rw [e1] at e; injection e with e; right; omega) v1)
  have k0 : w1.cell? ⟨b, 0, none⟩ = some _ := (World.cell?_of_block (hg1.block b H.out.lt (fun e => H.out.ne e.symm))).trans c0
  have k1 : w1.frozen? ⟨b, 0, none⟩ = false := (World.frozen?_of_block (hg1.block b H.out.lt (fun e => H.out.ne e.symm))).trans z0
  obtain ⟨a1, n1, e1⟩ := ho1.shape
  subst e1
  clear ho1 hg1 hp1 c0 z0
  rw [List.length_append] at HK HG
  go_wp2
  go_end0
  exact ⟨rfl, _, HK.out, HG.out⟩

set_option maxHeartbeats 400000 in
theorem kdrop_any (h : Kb w base b v r ca wh lg y t) :
    Calls Tryz.prog 142 #[.pointer (some ⟨b, 0, none⟩)] w fun e w' => e = .returned (.tuple #[]) ∧ Kb w' base b (.slice none 0 0) [] ca wh lg y t ∧ Gd w w' b v (.slice none 0 0) := by
  have c0 := h.c0
  have z0 := h.fz 0
  have HK := hid (h.setHeld (gb_refl w _) (OwnB.nil w base))
  have HG := hid (Gd.grow (b := b) (i := 0) (gb_refl w v.ownBlock) (v1 := .slice none 0 0) (fun k e => by cases e) (.slice none 0 0))
  obtain ⟨av, cv, rfl⟩ := h.own.shape
  clear h
  go_enter Tryz.func142, Tryz.ntmps142
  go_wp2
  go_end0
  exact ⟨rfl, HK.out, HG.out⟩

set_option maxHeartbeats 1000000 in
theorem klack_any (h : Kb w base b v r ca wh lg y t) (hl : r.length ≤ 140737488355327) (hn : (needP r).1 = 0 ∨ r.length ≤ (needP r).1) (hb : (needP r).1 ≤ 3000000) :
    Calls Tryz.prog 58 #[.pointer (some ⟨b, 0, none⟩)] w fun e w' => e = .returned (.int .i64 (lackP r : Nat)) ∧ Below w.heap.size w w' := by
  have c0 := h.c0
  have HX := hid (need_any _ r w (h.own.src hl))
  obtain ⟨n, Hn⟩ : ∃ n, Hid ((needP r).1 = n) := ⟨_, rfl⟩
  obtain ⟨e', He⟩ : ∃ n, Hid ((needP r).2.2 = n) := ⟨_, rfl⟩
  have HLP : Hid (lackP r = if n = 0 then 1 else n - r.length) := hid (by unfold lackP; rw [Hn.out])
  have H := hid h
  rw [Hn.out] at hn hb HX
  rw [He.out] at HX
  obtain ⟨av, cv, rfl⟩ := h.own.shape
  obtain ⟨L, HL⟩ : ∃ n, Hid (r.length = n) := ⟨_, rfl⟩
  rw [HL.out] at hl hn HLP HX c0
  clear h
  go_enter Tryz.func58, Tryz.ntmps58
  go_wp2_with fail
  refine HX.out.mono ?_
  rintro e w1 ⟨rfl, hb1⟩
  have k0 : w1.cell? ⟨b, 0, none⟩ = some _ := (H.out.below hb1).c0
  rw [HL.out] at k0
  have HB := hid hb1
  clear hb1 HX
  by_cases h0 : n = 0
  · have q1 : ((n : Int) == 0) = true := by simp [h0]
    have q2 : (n : Int) = 0 := by omega
    rw [if_pos h0] at HLP
    clear h0
    go_wp2
    go_ret
    rw [HLP.out]
    exact ⟨rfl, HB.out⟩
  · have q1 : ((n : Int) == 0) = false := by simp; omega
    have q2 : ¬ (n : Int) = 0 := by omega
    have q3 : IntKind.i64.wrap ((n : Int) - (L : Int)) = ((n - L : Nat) : Int) := by rw [IntKind.wrap_i64]; omega
    rw [if_neg h0] at HLP
    clear h0
    go_wp2
    go_ret
    rw [HLP.out]
    exact ⟨rfl, HB.out⟩

theorem zeroFault (W : World) : (zeroValue 33).run Tryz.prog W = .ok (.agg #[.int .i64 0, .int .i64 0]) W := by kernel_rfl

set_option maxRecDepth 100000 in
set_option maxHeartbeats 1000000 in
theorem kref_any (h : Kb w base b v r ca wh lg y t) (hl : 0 < lg) :
    Calls Tryz.prog 54 #[.pointer (some ⟨b, 0, none⟩)] w fun e w' => e = .returned (.agg #[.int .i64 (if y = 0 then 0 else 80), .int .i64 (if y = 0 then 0 else ca)]) ∧ Below w.heap.size w w' := by
  have HB := hid (below_walk w (.cells #[.int .i64 0, .int .i64 0] 33))
  have HK := hid (h.below HB.out)
  have HN := hid (hp_new w (.cells #[.int .i64 0, .int .i64 0] 33))
  obtain ⟨A, HAA⟩ : ∃ n, Hid (w.heap.size = n) := ⟨_, rfl⟩
  clear h
  go_enter Tryz.func54, Tryz.ntmps54
  go_upto_region 1 with fail
  generalize w.alloc (.cells #[.int .i64 0, .int .i64 0] 33) = w0 at HB HK HN ⊢
  rw [HAA.out] at HN ⊢
  have HM := hid (kmade_any HK.out hl)
  have HP := hid (kpois_any HK.out)
  have c1 := HK.out.c1
  go_wp2_with fail
  refine HM.out.mono ?_
  rintro e w1 ⟨rfl, hw⟩
  subst hw
  go_wp2_with fail
  refine HP.out.mono ?_
  rintro e w1 ⟨rfl, hw⟩
  subst hw
  by_cases h0 : y = 0
  · subst h0
    go_wp2_with (first
      | (refine bd_row (by rfl) 33 #[] (by rfl) _ (by simp) _ built_fz ?_)
      | (refine st_row (by rfl) 33 _ _ (by rfl) A [Value.int .i64 0, .int .i64 0] (by rfl) (by rfl) 33 _ HN.out faultSize rfl (fault_one _ _) ?_; intro w3 hw3))
    exact ret_row 2 33 rfl A rfl _ 33 hw3.blk _ Tryz.underlying33 rfl faultSize rfl ⟨rfl, Below.of_gb HB.out hw3.grown (by have := HAA.out; omega)⟩
  · have q1 : (y != 0) = true := by simpa using h0
    go_wp2_with (first
      | (refine bd_row (by rfl) 33 #[(0, .const (.int .i64 80)), (1, .tmp 15)] (by rfl) _ (by simp [Act.eval]) _ (built_ft _ _) ?_)
      | (refine st_row (by rfl) 33 _ _ (by rfl) A [Value.int .i64 80, .int .i64 (ca : Int)] (by rfl) (by rfl) 33 _ HN.out faultSize rfl (fault_one _ _) ?_; intro w3 hw3))
    exact ret_row 2 33 rfl A rfl _ 33 hw3.blk _ Tryz.underlying33 rfl faultSize rfl ⟨rfl, Below.of_gb HB.out hw3.grown (by have := HAA.out; omega)⟩
end
end Go.Proofs.YtiibhccbbpgehaaGreat

/- A decoder opens a frame, and takes as many bytes as it wants at least. -/
namespace Go.Proofs.YtiibhccbbpgehaaGreat
open Go.RowKit Go.BigFrame

theorem bel_drw (w : World) (n : Nat) : Below w.heap.size w (w.drewN n) := ⟨rfl, rfl, rfl, Nat.le_refl _, fun _ _ => rfl⟩
theorem Gd.fresh {w w1 w2 : World} {b n : Nat} {v v1 : Value} (h : Gd w w1 b v v1) (g : w1.grownBy w2 (some n)) (hn : w.heap.size ≤ n) : Gd w w2 b v v1 :=
  ⟨g.os.trans h.os, g.tape.trans h.tape, g.output.trans h.output, Nat.le_trans h.size g.size,
    fun k hk hb hv => (g.block k (Nat.lt_of_lt_of_le hk h.size) (fun e => by injection e with e; omega)).trans (h.block k hk hb hv), h.lies⟩
theorem own_kb {w w' : World} {base base2 b : Nat} {e : TypeId} {size : Nat} {v v' vo : Value} {n : Nat} {xs : List Value} {r : List UInt8} {ca wh lg : Nat} {y t : Int} (h : w.ownsRow base e size vo n xs) (g : Gd w w' b v v') (k : Kb w base2 b v r ca wh lg y t) (h1 : e ≠ 104) (h2 : e ≠ 5) : w'.ownsRow base e size vo n xs :=
  own_gd h g (own_block h k.blk h1) (fun _ hk => own_apart h k.own h2 hk)
theorem own_far {w w' : World} {base m : Nat} {e : TypeId} {size : Nat} {vo : Value} {n : Nat} {xs : List Value} (h : w.ownsRow base e size vo n xs) (g : w.grownBy w' (some m)) (hm : m < base) : w'.ownsRow base e size vo n xs :=
  World.ownsRow.kept h g (by
    cases hk : vo.ownBlock with
    | none => exact Or.inl rfl
    | some k => exact Or.inr (fun h9 => by injection h9 with h9; have := (World.ownsRow.lt h k hk).1; omega))
theorem dec_tool (r : List UInt8) : (decP r).1.tool.length = 32 := by
  unfold decP
  repeat' split
  all_goals first | rfl | skip
  unfold frameP
  repeat' split
  all_goals first | rfl | exact fieldsP_tool _ _ _

theorem st_fault {w : World} {base b : Nat} {v : Value} {r : List UInt8} {ca wh lg : Nat} {y t : Int} {ops : Array Oper} {rest : List Oper} {o : Oper} {a : Act} {Q : Exit → Act → World → Prop} (hgd : o.guard = none) (x z : Operand) (ho : o.op = .store 33 x z)
    (hk : Kb w base b v r ca wh lg y t) (y1 t1 : Int) (hx : a.eval x = .pointer (some ⟨b, 4, none⟩)) (hz : a.eval z = .agg [Value.int .i64 y1, .int .i64 t1].toArray)
    (h : ∀ w', Kb w' base b v r ca wh lg y1 t1 → Gd w w' b v v → wpList Tryz.prog ops Q rest (a.put o.dst undef) w') : wpList Tryz.prog ops Q (o :: rest) a w :=
  wpList_store_mid hgd 33 x z ho b 4 #[.int .i64 y1, .int .i64 t1] hx hz hk.there faultSize (all_oneCell_toArray (fault_one y1 t1)) (h _ (hk.setFault y1 t1).1 (hk.setFault y1 t1).2)

def OpenP (w : World) (base b : Nat) (v : Value) (r : List UInt8) (ca wh lg : Nat) (beg : Int) (e : Ending) (w' : World) : Prop :=
  if (decP r).2.1 = 0 then ∃ va, e = .returned (.tuple #[.agg (fcells (decP r).1 va).toArray, .bool true]) ∧ WOwnS w' w.heap.size va (decP r).1.args ∧ Kb w' base b (.slice none 0 0) [] ca (wh + 1) lg 0 0 ∧ Gd w w' b v (.slice none 0 0)
  else e = .returned (.tuple #[.agg (fcells zF nS).toArray, .bool false]) ∧ Kb w' base b v r ca wh lg (decP r).2.1 (IntKind.i64.wrap (beg + (decP r).2.2)) ∧ Gd w w' b v v

section
variable {w w' : World} {base b : Nat} {v : Value} {r : List UInt8} {ca wh lg : Nat}

set_option maxRecDepth 100000 in
set_option maxHeartbeats 4000000 in
theorem kopen_any (h : Kb w base b v r ca wh lg 0 0) (beg : Int) (hl : r.length ≤ 140737488355327) (hw : wh ≤ 4611686018427387904) :
    Calls Tryz.prog 112 #[.pointer (some ⟨b, 0, none⟩), .int .i64 beg] w (OpenP w base b v r ca wh lg beg) := by
  have HB0 := hid (below_walk w (.cells (fcells zF nS).toArray 30))
  have HN0 := hid (hp_new w (.cells (fcells zF nS).toArray 30))
  have HK0 := hid (h.below HB0.out)
  have HLT := hid h.lt
  have HVL := hid (fun k e => (World.ownsRow.lt h.own k e).2)
  obtain ⟨A, HAA⟩ : ∃ n, Hid (w.heap.size = n) := ⟨_, rfl⟩
  have HZ : Hid ((w.alloc (.cells (fcells zF nS).toArray 30)).heap.size = w.heap.size + 1) := hid (by simp)
  obtain ⟨av, cv, rfl⟩ := h.own.shape
  have HDE := hid (decode_any _ r _ (HK0.out.own.src hl))
  have HTL := hid (dec_tool r)
  unfold OpenP
  obtain ⟨f, HF⟩ : ∃ f, Hid ((decP r).1 = f) := ⟨_, rfl⟩
  obtain ⟨E1, HE1⟩ : ∃ f, Hid ((decP r).2.1 = f) := ⟨_, rfl⟩
  obtain ⟨E2, HE2⟩ : ∃ f, Hid ((decP r).2.2 = f) := ⟨_, rfl⟩
  rw [HF.out, HE1.out, HE2.out] at HDE ⊢
  rw [HF.out] at HTL
  obtain ⟨L, HL⟩ : ∃ n, Hid (r.length = n) := ⟨_, rfl⟩
  rw [HL.out] at HDE HK0 HVL ⊢
  clear h
  go_enter Tryz.func112, Tryz.ntmps112
  go_upto_region 1 with (refine al_row (by rfl) 30 (by rfl) _ zeroFrame ?_)
  generalize w.alloc (.cells (fcells zF nS).toArray 30) = w0 at HB0 HN0 HK0 HDE HZ ⊢
  rw [HAA.out] at HN0 HLT HVL HZ ⊢
  have c0 := HK0.out.c0
  go_wp2_with fail
  refine HDE.out.mono ?_
  rintro e w1 ⟨va, rfl, hoa, hb1⟩
  have HK1 := hid (HK0.out.below hb1)
  have HN1 := hid (bel_keep hb1 HN0.out)
  have HB1 := hid (below_then HB0.out hb1)
  rw [HZ.out] at hoa
  have HOA := hid hoa
  obtain ⟨aV, cV, eV⟩ := wowns_shape hoa
  have HSZ := hid (frame_size f va HTL.out)
  have HON := hid (fcells_one f va (by rw [eV]; rfl))
  have HOS := hid (show (fcells zF nS).toArray.size = (fcells f va).length by rw [fcells_length _ _ HTL.out]; rfl)
  obtain ⟨FF, HFF⟩ : ∃ L, Hid (fcells f va = L) := ⟨_, rfl⟩
  rw [HFF.out] at HSZ HON HOS ⊢
  clear hoa hb1 HDE HK0 HB0 HN0 eV c0 HZ
  go_upto_region 2 with (first
    | (refine al_row (by rfl) 30 (by rfl) _ zeroFrame ?_)
    | (refine st_row (by rfl) 30 _ _ (by rfl) w1.heap.size FF (by rfl) (by rfl) 30 _ (hp_two w1 _ _).1 HSZ.out HOS.out HON.out ?_; intro w2 hw2)
    | (refine st_row (by rfl) 33 _ _ (by rfl) (w1.heap.size + 1) [Value.int .i64 E1, .int .i64 E2] (by rfl) (by rfl) 33 _ (gb_keep hw2.grown (hp_two w1 _ _).2 (by omega)) faultSize rfl (fault_one _ _) ?_; intro w3 hw3))
  have HA := hid (gb_keep hw3.grown hw2.blk (by omega))
  have HT := hid hw3.blk
  have HQ3 := hid (Below.of_gb (Below.of_gb (below_walk2 w1 (.cells (fcells zF nS).toArray 30) (.cells #[.int .i64 0, .int .i64 0] 33)) hw2.grown (Nat.le_refl _)) hw3.grown (by omega))
  have HB3 := hid (below_then HB1.out HQ3.out)
  have HK3 := hid (HK1.out.below HQ3.out)
  have HN3 := hid (bel_keep HQ3.out HN1.out)
  have HOA3 := hid (own_below HOA.out HQ3.out)
  have HSL := hid (hp_lt HN1.out)
  obtain ⟨B, HBe⟩ : ∃ n, Hid (w1.heap.size = n) := ⟨_, rfl⟩
  rw [HBe.out] at HA HT HSL ⊢
  clear hw2 hw3 HB1 HQ3 HK1 HN1 HOA
  have t0 : w3.cell? ⟨B + 1, 0, none⟩ = some (.int .i64 E1) := by simp [World.cell?, HT.out]
  have t1 : w3.cell? ⟨B + 1, 1, none⟩ = some (.int .i64 E2) := by simp [World.cell?, HT.out]
  have HG3 := hid (Gd.below (Gd.refl w b (.slice av L cv)) HB3.out)
  by_cases hE : E1 = 0
  · as_aux_lemma =>
      subst hE
      go_wp2_with fail
      refine (kdrop_any HK3.out).mono ?_
      rintro e w4 ⟨rfl, hk4, hg4⟩
      have c2 := hk4.c2
      have z2 := hk4.fz 2
      obtain ⟨W1, HW1⟩ : ∃ n : Nat, Hid (wh + 1 = n) := ⟨_, rfl⟩
      have hw1 : IntKind.i64.wrap ((wh : Int) + 1) = (W1 : Int) := by rw [IntKind.wrap_i64]; have := HW1.out; omega
      have HK5 := hid (hk4.setWhole W1)
      have HG4 := hid (hg4.trans (Gd.set w4 b 2 (.int .i64 (W1 : Int)) (.slice none 0 0)))
      have HW4 := hid (Gd.after HB3.out HG4.out)
      have HA5 := hid ((HG4.out.block B (hp_lt HA.out) (by have := HSL.out; have := HLT.out; omega) (fun e => by have := HVL.out _ e; have := HSL.out; omega)).trans HA.out)
      have HN5 := hid ((HG4.out.block A (hp_lt HN3.out) (by have := HLT.out; omega) (fun e => by have := HVL.out _ e; omega)).trans HN3.out)
      have HOA5 := hid (own_kb HOA3.out HG4.out HK3.out (by decide) (by decide))
      clear hk4 hg4
      go_upto_region 7 with fail
      generalize w4.setCell ⟨b, 2, none⟩ (.int .i64 (W1 : Int)) = w5 at HK5 HG4 HW4 HA5 HN5 HOA5 ⊢
      go_wp2_with (first
        | (refine ld_row (by rfl) 30 (.tmp 6) (by rfl) B (by rfl) FF 30 HA5.out _ Tryz.underlying30 rfl HSZ.out ?_)
        | (refine st_row (by rfl) 30 _ _ (by rfl) A FF (by rfl) (by rfl) 30 _ HN5.out HSZ.out HOS.out HON.out ?_; intro wz hwz))
      refine ret_row2 4 5 30 rfl A rfl FF 30 hwz.blk _ Tryz.underlying30 rfl HSZ.out _ rfl rfl ?_
      try rw [if_pos rfl]
      rw [HW1.out]
      refine ⟨va, by rw [HFF.out]; rfl, own_le (own_far HOA5.out hwz.grown (by omega)) (by have := HAA.out; omega), HK5.out.far hwz.grown (by have := HLT.out; omega) (fun k e => by cases e), HW4.out.fresh hwz.grown (by have := HAA.out; omega)⟩
  · as_aux_lemma =>
      have q1 : (E1 != 0) = true := by simpa using hE
      obtain ⟨D, HD⟩ : ∃ d : Int, Hid (IntKind.i64.wrap (beg + E2) = d) := ⟨_, rfl⟩
      have hwD : IntKind.i64.wrap (beg + E2) = D := HD.out
      go_upto_region 4 with (first
        | (refine bd_row (by rfl) 33 #[(0, .tmp 22), (1, .tmp 26)] (by rfl) _ (by simp [Act.eval]) _ (built_ft _ _) ?_)
        | (refine st_fault (by rfl) _ _ (by rfl) HK3.out E1 D (by rfl) (by rfl) ?_; intro w5 hk5 hg5))
      have HK5 := hid hk5
      have HG5 := hid (Gd.after HB3.out hg5)
      have HN5 := hid ((hg5.block A (hp_lt HN3.out) (by have := HLT.out; omega) (fun e => by have := HVL.out _ e; omega)).trans HN3.out)
      clear hk5 hg5
      go_wp2_with (first
        | (refine bd_row (by rfl) 30 #[] (by rfl) _ (by simp) _ built_zf ?_)
        | (refine st_row (by rfl) 30 _ _ (by rfl) A (fcells zF nS) (by rfl) (by rfl) 30 _ HN5.out (frame_size zF nS rfl) rfl (fcells_one zF nS rfl) ?_; intro wz hwz))
      refine ret_row2 4 5 30 rfl A rfl (fcells zF nS) 30 hwz.blk _ Tryz.underlying30 rfl (frame_size zF nS rfl) _ rfl rfl ?_
      try rw [if_neg hE]
      try rw [HD.out]
      exact ⟨rfl, HK5.out.far hwz.grown (by have := HLT.out; omega) (fun k e => by have := HVL.out k e; omega), HG5.out.fresh hwz.grown (by have := HAA.out; omega)⟩
theorem kopen_ok (h : Kb w base b v r ca wh lg 0 0) (beg : Int) (hl : r.length ≤ 140737488355327) (hw : wh ≤ 4611686018427387904) (h0 : (decP r).2.1 = 0) :
    Calls Tryz.prog 112 #[.pointer (some ⟨b, 0, none⟩), .int .i64 beg] w fun e w' => ∃ va, e = .returned (.tuple #[.agg (fcells (decP r).1 va).toArray, .bool true]) ∧ WOwnS w' w.heap.size va (decP r).1.args ∧ Kb w' base b (.slice none 0 0) [] ca (wh + 1) lg 0 0 ∧ Gd w w' b v (.slice none 0 0) :=
  (kopen_any h beg hl hw).mono (fun e w' k => by unfold OpenP at k; rwa [if_pos h0] at k)
theorem kopen_bad (h : Kb w base b v r ca wh lg 0 0) (beg : Int) (hl : r.length ≤ 140737488355327) (hw : wh ≤ 4611686018427387904) (h0 : ¬ (decP r).2.1 = 0) :
    Calls Tryz.prog 112 #[.pointer (some ⟨b, 0, none⟩), .int .i64 beg] w fun e w' => e = .returned (.tuple #[.agg (fcells zF nS).toArray, .bool false]) ∧ Kb w' base b v r ca wh lg (decP r).2.1 (IntKind.i64.wrap (beg + (decP r).2.2)) ∧ Gd w w' b v v :=
  (kopen_any h beg hl hw).mono (fun e w' k => by unfold OpenP at k; rwa [if_neg h0] at k)
end
end Go.Proofs.YtiibhccbbpgehaaGreat

/- A decoder takes as many bytes as it wants at least. -/
namespace Go.Proofs.YtiibhccbbpgehaaGreat
open Go.RowKit Go.BigFrame

structure Sd (w : World) (base b : Nat) (v : Value) (M : Nat) (s : Sx) : Prop where
  kb : Kb w base b v s.r s.came s.whole (lngP M) s.why s.wat
  good : Gs M s
  one : 1 ≤ M
  big : M ≤ 2097152
section
variable {w w' : World} {base b : Nat} {v : Value} {M : Nat} {s : Sx}
theorem Sd.below (h : Sd w base b v M s) (hb : Below w.heap.size w w') : Sd w' base b v M s := ⟨h.kb.below hb, h.good, h.one, h.big⟩
theorem Sd.drew (h : Sd w base b v M s) (n : Nat) : Sd (w.drewN n) base b v M s := ⟨h.kb.drew n, h.good, h.one, h.big⟩
theorem Sd.low (h : Sd w base b v M s) {v' : Value} (g : Gd w w' b v v') : Below base w w' := h.kb.low g
theorem Sd.few (h : Sd w base b v M s) : s.r.length ≤ 3000000 := by have := h.good.few; have := h.big; omega
theorem Sd.far {n : Nat} (h : Sd w base b v M s) (hg : w.grownBy w' (some n)) (hb : b ≠ n) (hv : ∀ k, v.ownBlock = some k → k ≠ n) : Sd w' base b v M s := ⟨h.kb.far hg hb hv, h.good, h.one, h.big⟩

def hdF (l : List Fr) : Fr := l.headD zF

set_option maxRecDepth 100000 in
set_option maxHeartbeats 8000000 in
theorem ktake_any (h : Sd w base b v M s) (h0 : s.why = 0) (vx : Value) (X : List UInt8) (hx : Src w vx X) (hX : X ≠ []) (hl : X.length ≤ lackP s.r) (hc : s.came + X.length ≤ 4611686018427387904) :
    Calls Tryz.prog 89 #[.pointer (some ⟨b, 0, none⟩), vx] w fun e w' => ∃ va v', e = .returned (.tuple #[.agg (fcells (hdF (takeC M s X).2) va).toArray, .bool (!(takeC M s X).2.isEmpty)]) ∧
      WOwnS w' w.heap.size va (hdF (takeC M s X).2).args ∧ Sd w' base b v' M (takeC M s X).1 ∧ Gd w w' b v v' := by
  have HGD := hid (takeC_good h.good h0 X hX hl)
  have HONE := hid h.one
  have HBIG := hid h.big
  have HFEW := hid (lack_le h.good h0)
  have HLE := hid h.good.le
  have HWL := hid h.good.wl
  obtain ⟨r, ca, wh, y, t, szs⟩ := s
  have ht := (h.good.ok h0).1
  simp only at h0 ht hc hl HFEW HLE HWL
  subst h0 ht
  have hK := h.kb
  simp only at hK
  have HKG : Hid (∀ (W : World) (u : Value), Kb W base b u (takeC M ⟨r, ca, wh, 0, 0, szs⟩ X).1.r (takeC M ⟨r, ca, wh, 0, 0, szs⟩ X).1.came (takeC M ⟨r, ca, wh, 0, 0, szs⟩ X).1.whole (lngP M) (takeC M ⟨r, ca, wh, 0, 0, szs⟩ X).1.why (takeC M ⟨r, ca, wh, 0, 0, szs⟩ X).1.wat → Sd W base b u M (takeC M ⟨r, ca, wh, 0, 0, szs⟩ X).1) := hid (fun _ _ k => ⟨k, HGD.out, HONE.out, HBIG.out⟩)
  have HTC : Hid (takeC M ⟨r, ca, wh, 0, 0, szs⟩ X = if lngP M < (needP (r ++ X)).1 then (⟨r ++ X, ca + X.length, wh, 3, (ca : Int) - (r.length : Int), szs⟩, []) else if (needP (r ++ X)).2.2 ≠ 0 then (⟨r ++ X, ca + X.length, wh, ((needP (r ++ X)).2.2 : Int), (ca : Int) - (r.length : Int), szs⟩, [])
      else if (needP (r ++ X)).1 = 0 ∨ (r ++ X).length < (needP (r ++ X)).1 then (⟨r ++ X, ca + X.length, wh, 0, 0, szs⟩, []) else if (decP (r ++ X)).2.1 ≠ 0 then (⟨r ++ X, ca + X.length, wh, (decP (r ++ X)).2.1, IntKind.i64.wrap ((ca : Int) - (r.length : Int) + (decP (r ++ X)).2.2), szs⟩, [])
      else (⟨[], ca + X.length, wh + 1, 0, 0, szs ++ [(r ++ X).length]⟩, [(decP (r ++ X)).1])) := hid (by
    unfold takeC
    simp only [needM_long]
    by_cases g1 : lngP M < (needP (r ++ X)).1
    · rw [if_pos g1, if_pos g1, if_pos (by show (3 : Int) ≠ 0; decide)]
    · rw [if_neg g1, if_neg g1]
      by_cases g2 : (needP (r ++ X)).2.2 ≠ 0
      · rw [if_pos g2, if_pos g2, if_pos (by show (((needP (r ++ X)).2.2 : Nat) : Int) ≠ 0; omega)]
      · rw [if_neg g2, if_neg g2, if_neg (by show ¬ (0 : Int) ≠ 0; decide)])
  have HLG := hid (lng_le HBIG.out)
  have HNL := hid (need_le (r ++ X))
  obtain ⟨T, HTT⟩ : ∃ T, Hid (takeC M ⟨r, ca, wh, 0, 0, szs⟩ X = T) := ⟨_, rfl⟩
  rw [HTT.out] at HTC HKG ⊢
  obtain ⟨lg, Hlg⟩ : ∃ n, Hid (lngP M = n) := ⟨_, rfl⟩
  rw [Hlg.out] at HTC HKG HLG hK
  have HB0 := hid (below_walk w (.cells (fcells zF nS).toArray 30))
  have HN0 := hid (hp_new w (.cells (fcells zF nS).toArray 30))
  have HK0 := hid (hK.below HB0.out)
  have HX0 := hid (hx.below HB0.out)
  have HLT := hid hK.lt
  have HVL := hid (fun k e => (World.ownsRow.lt hK.own k e).2)
  obtain ⟨A, HAA⟩ : ∃ n, Hid (w.heap.size = n) := ⟨_, rfl⟩
  obtain ⟨av, cv, rfl⟩ := hK.own.shape
  obtain ⟨ax, cx, rfl⟩ := src_shape hx
  have hxl := hx.1
  have HRX := hid (show (r ++ X).length ≤ 3000000 by rw [List.length_append]; have := HFEW.out; have := HBIG.out; omega)
  obtain ⟨L, HL⟩ : ∃ n, Hid (r.length = n) := ⟨_, rfl⟩
  obtain ⟨LX, HLX⟩ : ∃ n, Hid (X.length = n) := ⟨_, rfl⟩
  rw [HL.out] at HK0 HVL HLE HFEW HTC hK
  rw [HLX.out] at HX0 hc hl hxl HTC
  clear h hK hx HGD
  rw [HL.out, HLX.out]
  go_enter Tryz.func89, Tryz.ntmps89
  go_upto_region 1 with (refine al_row (by rfl) 30 (by rfl) _ zeroFrame ?_)
  generalize w.alloc (.cells (fcells zF nS).toArray 30) = w0 at HB0 HN0 HK0 HX0 ⊢
  rw [HAA.out] at HN0 HLT HVL ⊢
  have c1 := HK0.out.c1
  have HSZ := hid (fun q => ksz_any (HK0.out.drew q))
  have HPU := hid (fun q => kput_any (HK0.out.drew q) _ X (HX0.out.below (w' := w0.drewN q) ⟨rfl, rfl, rfl, Nat.le_refl _, fun _ _ => rfl⟩) (by rw [List.length_append] at HRX; have := HRX.out; omega))
  rw [HL.out] at HSZ
  obtain ⟨D, HD⟩ : ∃ d : Int, Hid ((ca : Int) - (L : Int) = d) := ⟨_, rfl⟩
  have hwD : IntKind.i64.wrap ((ca : Int) - (L : Int)) = D := by rw [HD.out.symm, IntKind.wrap_i64]; have := HLE.out; omega
  rw [HD.out] at HTC
  go_quiet (first | (go_at_call 87; exact Calls.quiet_of_same (HSZ.out _)))
  go_wp2_with fail
  refine (HPU.out _).mono ?_
  rintro e w2 ⟨rfl, v2, hk2, hg2⟩
  have HG2 := hid (Gd.after HB0.out (Gd.after (bel_drw w0 _) hg2))
  have HN2 := hid ((hg2.block A (hp_lt HN0.out) (by have := HLT.out; omega) (fun e => by have := HVL.out _ e; omega)).trans HN0.out)
  have c1' := hk2.c1
  have z1 := hk2.fz 1
  obtain ⟨C, HC⟩ : ∃ d : Nat, Hid (ca + LX = d) := ⟨_, rfl⟩
  have hwC : IntKind.i64.wrap ((ca : Int) + (LX : Int)) = (C : Int) := by rw [IntKind.wrap_i64]; have := HC.out; omega
  have HK3 := hid (hk2.setCame C)
  have HG3 := hid (HG2.out.trans (Gd.set w2 b 1 (.int .i64 (C : Int)) v2))
  have HN3 := hid ((Below.heap_setCell w2 ⟨b, 1, none⟩ (.int .i64 (C : Int)) A (by have := HLT.out; simp; omega)).trans HN2.out)
  have HV2 := hid (fun k (e : v2.ownBlock = some k) => (show k ≠ A from fun e2 => by
    subst e2
    exact own_block hk2.own HN2.out (by decide) e))
  obtain ⟨a2, n2, e2⟩ := hk2.own.shape
  clear HPU HSZ hk2 hg2 HN2 HG2 c1
  obtain ⟨P, HP⟩ : ∃ p, Hid (r ++ X = p) := ⟨_, rfl⟩
  rw [HP.out] at HTC HNL HRX HK3 e2
  subst e2
  obtain ⟨LP, HLP⟩ : ∃ n, Hid (P.length = n) := ⟨_, rfl⟩
  rw [HLP.out] at HTC HRX HK3 HV2 HG3
  rw [HC.out] at HTC
  go_upto_region 4 with fail
  try rw [HP.out, HLP.out]
  generalize w2.setCell ⟨b, 1, none⟩ (.int .i64 (C : Int)) = w3 at HK3 HG3 HN3 ⊢
  have c0 := HK3.out.c0
  have HNE := hid (need_any _ P w3 (HK3.out.own.src (by rw [HLP.out]; have := HRX.out; omega)))
  obtain ⟨n, Hn⟩ : ∃ n, Hid ((needP P).1 = n) := ⟨_, rfl⟩
  obtain ⟨E, HE⟩ : ∃ n, Hid ((needP P).2.2 = n) := ⟨_, rfl⟩
  rw [Hn.out, HE.out] at HNE HTC
  rw [Hn.out] at HNL
  go_wp2_with fail
  refine HNE.out.mono ?_
  rintro e w4 ⟨rfl, hb4⟩
  have HK4 := hid (HK3.out.below hb4)
  have HN4 := hid (bel_keep hb4 HN3.out)
  have HG4 := hid (HG3.out.below hb4)
  have c3 := HK4.out.c3
  clear hb4 HNE HK3 HN3 HG3 c0 c1' z1
  -- a fault
  have fin : ∀ (y t : Int), Hid (T = (⟨P, C, wh, y, t, szs⟩, [])) → ∀ (wz : World), Kb wz base b (.slice a2 LP n2) P C wh lg y t → Gd w wz b (.slice av L cv) (.slice a2 LP n2) → ∃ va v', Ending.returned (.tuple #[.agg (fcells zF nS).toArray, .bool false]) = .returned (.tuple #[.agg (fcells (hdF T.2) va).toArray, .bool (!T.2.isEmpty)]) ∧
      WOwnS wz w.heap.size va (hdF T.2).args ∧ Sd wz base b v' M T.1 ∧ Gd w wz b (.slice av L cv) v' := by
    intro y t hT wz hk hg
    have hkg := HKG.out wz (.slice a2 LP n2)
    rw [hT.out] at hkg ⊢
    exact ⟨nS, _, rfl, World.ownsRow_nil _ _ _ _, hkg hk, hg⟩
  have FIN := hid fin
  clear fin
  by_cases g1 : lg < n
  · as_aux_lemma =>
      rw [if_pos g1] at HTC
      have q1 : (lg : Int) < (n : Int) := by omega
      have q2 : decide ((lg : Int) < (n : Int)) = true := decide_eq_true q1
      go_upto_region 9 with (first
        | (refine bd_row (by rfl) 33 #[(0, .tmp 53), (1, .tmp 54)] (by rfl) _ (by simp [Act.eval]) _ (built_ft _ _) ?_)
        | (refine st_fault (by rfl) _ _ (by rfl) HK4.out 3 D (by rfl) (by rfl) ?_; intro w5 hk5 hg5))
      have HK5 := hid hk5
      have HG5 := hid (HG4.out.trans hg5)
      have HN5 := hid ((hg5.block A (hp_lt HN4.out) (by have := HLT.out; omega) (fun e => HV2.out _ e rfl)).trans HN4.out)
      clear hk5 hg5
      go_wp2_with (first
        | (refine bd_row (by rfl) 30 #[] (by rfl) _ (by simp) _ built_zf ?_)
        | (refine st_row (by rfl) 30 _ _ (by rfl) A (fcells zF nS) (by rfl) (by rfl) 30 _ HN5.out (frame_size zF nS rfl) rfl (fcells_one zF nS rfl) ?_; intro wz hwz))
      refine ret_row2 4 5 30 rfl A rfl (fcells zF nS) 30 hwz.blk _ Tryz.underlying30 rfl (frame_size zF nS rfl) _ rfl rfl ?_
      exact FIN.out 3 D HTC wz (HK5.out.far hwz.grown (by have := HLT.out; omega) (fun k e => HV2.out k e)) (HG5.out.fresh hwz.grown (by have := HAA.out; omega))
  · rw [if_neg g1] at HTC
    have q1 : ¬ (lg : Int) < (n : Int) := by omega
    have q2 : decide ((lg : Int) < (n : Int)) = false := decide_eq_false q1
    by_cases g2 : E ≠ 0
    · as_aux_lemma =>
        rw [if_pos g2] at HTC
        have q3 : ((E : Int) != 0) = true := by simp; omega
        have q4 : ¬ (E : Int) = 0 := by omega
        go_upto_region 9 with (first
          | (refine bd_row (by rfl) 33 #[(0, .tmp 53), (1, .tmp 54)] (by rfl) _ (by simp [Act.eval]) _ (built_ft _ _) ?_)
          | (refine st_fault (by rfl) _ _ (by rfl) HK4.out (E : Int) D (by rfl) (by rfl) ?_; intro w5 hk5 hg5))
        have HK5 := hid hk5
        have HG5 := hid (HG4.out.trans hg5)
        have HN5 := hid ((hg5.block A (hp_lt HN4.out) (by have := HLT.out; omega) (fun e => HV2.out _ e rfl)).trans HN4.out)
        clear hk5 hg5
        go_wp2_with (first
          | (refine bd_row (by rfl) 30 #[] (by rfl) _ (by simp) _ built_zf ?_)
          | (refine st_row (by rfl) 30 _ _ (by rfl) A (fcells zF nS) (by rfl) (by rfl) 30 _ HN5.out (frame_size zF nS rfl) rfl (fcells_one zF nS rfl) ?_; intro wz hwz))
        refine ret_row2 4 5 30 rfl A rfl (fcells zF nS) 30 hwz.blk _ Tryz.underlying30 rfl (frame_size zF nS rfl) _ rfl rfl ?_
        exact FIN.out (E : Int) D HTC wz (HK5.out.far hwz.grown (by have := HLT.out; omega) (fun k e => HV2.out k e)) (HG5.out.fresh hwz.grown (by have := HAA.out; omega))
    · rw [if_neg g2] at HTC
      obtain rfl : E = 0 := by omega
      by_cases g3 : n = 0 ∨ LP < n
      · rw [if_pos g3] at HTC
        by_cases g4 : n = 0
        · as_aux_lemma =>
            subst g4
            go_wp2_with (first
              | (refine bd_row (by rfl) 30 #[] (by rfl) _ (by simp) _ built_zf ?_)
              | (refine st_row (by rfl) 30 _ _ (by rfl) A (fcells zF nS) (by rfl) (by rfl) 30 _ HN4.out (frame_size zF nS rfl) rfl (fcells_one zF nS rfl) ?_; intro wz hwz))
            refine ret_row2 4 5 30 rfl A rfl (fcells zF nS) 30 hwz.blk _ Tryz.underlying30 rfl (frame_size zF nS rfl) _ rfl rfl ?_
            exact FIN.out 0 0 HTC wz (HK4.out.far hwz.grown (by have := HLT.out; omega) (fun k e => HV2.out k e)) (HG4.out.fresh hwz.grown (by have := HAA.out; omega))
        · as_aux_lemma =>
            have q3 : ((n : Int) == 0) = false := by simp; omega
            have q4 : ¬ (n : Int) = 0 := by omega
            have q5 : (LP : Int) < (n : Int) := by omega
            have q6 : decide ((LP : Int) < (n : Int)) = true := decide_eq_true q5
            have HSZ := hid (ksz_any HK4.out)
            rw [HLP.out] at HSZ
            go_wp2_with fail
            refine HSZ.out.mono ?_
            rintro e w5 ⟨rfl, hw5⟩
            subst hw5
            go_wp2_with (first
              | (refine bd_row (by rfl) 30 #[] (by rfl) _ (by simp) _ built_zf ?_)
              | (refine st_row (by rfl) 30 _ _ (by rfl) A (fcells zF nS) (by rfl) (by rfl) 30 _ HN4.out (frame_size zF nS rfl) rfl (fcells_one zF nS rfl) ?_; intro wz hwz))
            refine ret_row2 4 5 30 rfl A rfl (fcells zF nS) 30 hwz.blk _ Tryz.underlying30 rfl (frame_size zF nS rfl) _ rfl rfl ?_
            exact FIN.out 0 0 HTC wz (HK4.out.far hwz.grown (by have := HLT.out; omega) (fun k e => HV2.out k e)) (HG4.out.fresh hwz.grown (by have := HAA.out; omega))
      · rw [if_neg g3] at HTC
        have q3 : ((n : Int) == 0) = false := by simp; omega
        have q4 : ¬ (n : Int) = 0 := by omega
        have q5 : ¬ (LP : Int) < (n : Int) := by omega
        have q6 : decide ((LP : Int) < (n : Int)) = false := decide_eq_false q5
        have HSZ := hid (ksz_any HK4.out)
        rw [HLP.out] at HSZ
        have HOK := hid (kopen_ok HK4.out D (by rw [HLP.out]; have := HRX.out; omega) (by have := HWL.out; omega))
        have HBD := hid (kopen_bad HK4.out D (by rw [HLP.out]; have := HRX.out; omega) (by have := HWL.out; omega))
        have HTL := hid (dec_tool P)
        obtain ⟨f, HF⟩ : ∃ f, Hid ((decP P).1 = f) := ⟨_, rfl⟩
        obtain ⟨E1, HE1⟩ : ∃ f, Hid ((decP P).2.1 = f) := ⟨_, rfl⟩
        obtain ⟨E2, HE2⟩ : ∃ f, Hid ((decP P).2.2 = f) := ⟨_, rfl⟩
        rw [HF.out, HE1.out, HE2.out] at HTC
        rw [HF.out, HE1.out] at HOK
        rw [HE1.out, HE2.out] at HBD
        rw [HF.out] at HTL
        go_wp2_with fail
        refine HSZ.out.mono ?_
        rintro e w5 ⟨rfl, hw5⟩
        subst hw5
        by_cases g4 : E1 = 0
        · as_aux_lemma =>
            have HOP := hid (HOK.out g4)
            clear HOK HBD
            subst g4
            rw [if_neg (by simp)] at HTC
            go_wp2_with fail
            refine HOP.out.mono ?_
            rintro e w6 ⟨va, rfl, hoa, hk6, hg6⟩
            have HN6 := hid ((hg6.block A (hp_lt HN4.out) (by have := HLT.out; omega) (fun e => HV2.out _ e rfl)).trans HN4.out)
            have HK6 := hid hk6
            have HG6 := hid (HG4.out.trans hg6)
            have HOA := hid hoa
            have HW4 := hid (hp_lt HN4.out)
            obtain ⟨aV, cV, eV⟩ := wowns_shape hoa
            have HSY := hid (frame_size f va HTL.out)
            have HON := hid (fcells_one f va (by rw [eV]; rfl))
            have HOS := hid (show (fcells zF nS).toArray.size = (fcells f va).length by rw [fcells_length _ _ HTL.out]; rfl)
            have HKG2 := hid HKG.out
            rw [HTC.out] at HKG2
            obtain ⟨FF, HFF⟩ : ∃ L, Hid (fcells f va = L) := ⟨_, rfl⟩
            rw [HFF.out] at HSY HON HOS ⊢
            clear hk6 hg6 hoa HOP eV
            go_wp2_with (first
              | (refine st_row (by rfl) 30 _ _ (by rfl) A FF (by rfl) (by rfl) 30 _ HN6.out HSY.out HOS.out HON.out ?_; intro wz hwz))
            refine ret_row2 4 5 30 rfl A rfl FF 30 hwz.blk _ Tryz.underlying30 rfl HSY.out _ rfl rfl ?_
            rw [HTC.out]
            refine ⟨va, _, by rw [← HFF.out]; rfl, own_le (own_far HOA.out hwz.grown HW4.out) (by have := HAA.out; have := HW4.out; omega), HKG2.out _ _ (HK6.out.far hwz.grown (by have := HLT.out; omega) (fun k e => by cases e)), HG6.out.fresh hwz.grown (by have := HAA.out; omega)⟩
        · as_aux_lemma =>
            rw [if_pos (by simpa using g4)] at HTC
            go_wp2_with fail
            refine (HBD.out g4).mono ?_
            rintro e w6 ⟨rfl, hk6, hg6⟩
            have HN6 := hid ((hg6.block A (hp_lt HN4.out) (by have := HLT.out; omega) (fun e => HV2.out _ e rfl)).trans HN4.out)
            have HK6 := hid hk6
            have HG6 := hid (HG4.out.trans hg6)
            clear hk6 hg6 HOK HBD
            go_wp2_with (first
              | (refine st_row (by rfl) 30 _ _ (by rfl) A (fcells zF nS) (by rfl) (by rfl) 30 _ HN6.out (frame_size zF nS rfl) rfl (fcells_one zF nS rfl) ?_; intro wz hwz))
            refine ret_row2 4 5 30 rfl A rfl (fcells zF nS) 30 hwz.blk _ Tryz.underlying30 rfl (frame_size zF nS rfl) _ rfl rfl ?_
            exact FIN.out _ _ HTC wz (HK6.out.far hwz.grown (by have := HLT.out; omega) (fun k e => HV2.out k e)) (HG6.out.fresh hwz.grown (by have := HAA.out; omega))
end
end Go.Proofs.YtiibhccbbpgehaaGreat

/- A decoder takes bytes until so many frames are whole. -/
namespace Go.Proofs.YtiibhccbbpgehaaGreat
open Go.RowKit Go.BigFrame

theorem cut_range {w : World} {v : Value} {bs : List UInt8} (h : Src w v bs) (i j : Nat) (hij : i ≤ j) (hj : j ≤ bs.length) :
    ∃ vx, Src w vx ((bs.drop i).take (j - i)) ∧ (∀ k, vx.ownBlock = some k → v.ownBlock = some k) ∧ (∀ W, (Instr.sliceAt 22 v (some (.int .i64 (i : Int))) (some (.int .i64 (j : Int))) none).run Tryz.prog W = .ok vx W) := by
  obtain ⟨hl, ⟨rfl, rfl⟩ | ⟨ad, cap, rfl, h1, h2, hlt, hc⟩⟩ := h
  · simp at hj
    subst hj
    obtain rfl : i = 0 := by omega
    exact ⟨.slice none 0 0, ⟨by simp, Or.inl ⟨rfl, rfl⟩⟩, fun k e => e, fun W => by go_simp⟩
  · have hlen : ((bs.drop i).take (j - i)).length = j - i := by simp; omega
    have hi2 : (i : Int) ≤ (j : Int) := by omega
    have hj2 : (j : Int) ≤ (cap : Int) := by omega
    refine ⟨.slice (if cap = i then some ad else some (ad.add i)) (j - i) (cap - i), ⟨by omega, Or.inr ?_⟩, fun k e => ?_, fun W => ?_⟩
    · by_cases hck : cap = i
      · rw [if_pos hck]
        refine ⟨ad, cap - i, by rw [hlen], by omega, by unfold maxLen at *; omega, fun h => by rw [hlen] at h; omega, fun q hq => by rw [hlen] at hq; omega⟩
      · rw [if_neg hck]
        refine ⟨ad.add i, cap - i, by rw [hlen], by omega, by unfold maxLen at *; omega, fun h => ?_, fun q hq => ?_⟩
        · rw [addr_block]
          exact hlt (by rw [hlen] at h; omega)
        · rw [hlen] at hq
          have e : (ad.add i).add q = ad.add (i + q) := by simp [Addr.add]; split <;> split <;> simp_all <;> omega
          rw [e, hc (i + q) (by omega)]
          simp [List.getD_eq_getElem?_getD, hq]
    · by_cases hck : cap = i
      · rw [if_pos hck] at e; exact e
      · rw [if_neg hck] at e
        simpa [Value.ownBlock, addr_block] using e
    · go_simp

theorem bs_frame {w : World} {ops : Array Oper} {rest : List Oper} {o : Oper} {a : Act} {Q : Exit → Act → World → Prop} (hg : o.guard = none) (x : Operand) (ho : o.op = .buildSlice 62 1 #[(0, x)])
    (cs : List Value) (hx : a.eval x = .agg cs.toArray) (hl : cs.length = 42) (g : Nat) (hg2 : w.heap.size = g)
    (h : wpList Tryz.prog ops Q rest (a.put o.dst (.slice (some ⟨g, 0, none⟩) 1 1)) (w.alloc (.cells cs.toArray 30))) : wpList Tryz.prog ops Q (o :: rest) a w := by
  subst hg2
  obtain ⟨i0, hi, hz0, hz1, hz2⟩ := info_parts Tryz.infoFrame
  refine wpList_buildSlice hg 62 30 1 #[(0, x)] ho cs.toArray i0 _ Tryz.underlying62 hi hz0 (by rw [hz1]; decide) (by rw [hz1]; decide) ?_ h
  rw [hz1]
  have e : (#[(0, x)].map fun (i, x) => (i, a.eval x)).toList = (([Value.agg cs.toArray]).zipIdx 0).map fun x => (x.2, x.1) := by simp [hx]
  rw [e, Great.fill_whole (s := 42) (by decide) [Value.agg cs.toArray] _ (by intro v hv; simp at hv; subst hv; simpa [Value.cells] using hl) (by simp)]
  simp [Value.cells]
theorem frs_one (w : World) (f : Fr) (va : Value) (hr : Rng f) (hs : Strs w va f.args) : Frs (w.alloc (.cells (fcells f va).toArray 30)) (.slice (some ⟨w.heap.size, 0, none⟩) 1 1) [(f, va)] := by
  refine Or.inr ⟨w.heap.size, 0, 1, rfl, by simp, fun j hj => ?_⟩
  simp at hj
  subst hj
  refine ⟨fun i u hu => ?_, hs.below (below_walk w _), hr⟩
  rw [show 0 + 0 * 42 + i = i by omega, cell_of_row _ _ i _ _ _ (hp_new w _)]
  simpa using hu
section
variable {w w' : World} {base b : Nat} {v : Value} {M : Nat} {s : Sx}
theorem OFs.sd {lo : Nat} {vo v' : Value} {fs : List FV} (h : OFs w lo vo fs) (g : Gd w w' b v v') (k : Sd w base b v M s) : OFs w' lo vo fs := h.gd g k.kb.blk k.kb.own

theorem Gd.newer {w1 w2 : World} {vg v1 : Value} (h : Gd w w1 b v v1) (g : w1.grownBy w2 vg.ownBlock) (hn : ∀ k, vg.ownBlock = some k → w.heap.size ≤ k) : Gd w w2 b v v1 :=
  ⟨g.os.trans h.os, g.tape.trans h.tape, g.output.trans h.output, Nat.le_trans h.size g.size,
    fun k hk hb hv => (g.block k (Nat.lt_of_lt_of_le hk h.size) (fun e => by have := hn k e.symm; omega)).trans (h.block k hk hb hv), h.lies⟩
theorem Sd.apart {lo : Nat} {vg : Value} {fs : List FV} (h : Sd w base b v M s) (g : w.grownBy w' vg.ownBlock) (k : OFs w lo vg fs) : Sd w' base b v M s := by
  refine ⟨⟨h.kb.lo, (g.block b h.kb.lt (fun e => own_block k.own h.kb.blk (by decide) e.symm)).trans h.kb.blk, h.kb.own.kept g ?_⟩, h.good, h.one, h.big⟩
  cases hk : v.ownBlock with
  | none => exact Or.inl rfl
  | some j => exact Or.inr (fun e => own_apart h.kb.own k.own (by decide) hk e.symm)
theorem takeC_hd (M : Nat) (s : Sx) (X : List UInt8) (va : Value) : (if (takeC M s X).2.isEmpty then ([] : List FV) else [(hdF (takeC M s X).2, va)]).map (·.1) = (takeC M s X).2 := by
  unfold takeC
  repeat' split
  all_goals first | rfl | (rename_i h; simp at h)
theorem takeC_rng (M : Nat) (s : Sx) (X : List UInt8) (hl : (s.r ++ X).length ≤ 140737488355327) (hm : (hdF (takeC M s X).2).args.length ≤ 9223372036854775807) : Rng (hdF (takeC M s X).2) := by
  have hz : Rng zF := by
    have := dec_rng [] (by simp) (by show (decP []).1.args.length ≤ _; rw [dec_none [] (by decide)]; simp [zF])
    rwa [dec_none [] (by decide)] at this
  unfold takeC at hm ⊢
  by_cases h1 : (needM M (s.r ++ X)).2 ≠ 0
  · rw [if_pos h1]; exact hz
  · rw [if_neg h1] at hm ⊢
    by_cases h2 : (needM M (s.r ++ X)).1 = 0 ∨ (s.r ++ X).length < (needM M (s.r ++ X)).1
    · rw [if_pos h2]; exact hz
    · rw [if_neg h2] at hm ⊢
      by_cases h3 : (decP (s.r ++ X)).2.1 ≠ 0
      · rw [if_pos h3]; exact hz
      · rw [if_neg h3] at hm ⊢
        exact dec_rng _ hl hm

def UntP (w : World) (base b : Nat) (v : Value) (M : Nat) (a : Ra) (e : Ending) (w' : World) : Prop :=
  ∃ vl v' fs, e = .returned (.tuple #[vl, .int .i64 (a.2.2 : Nat)]) ∧ OFs w' w.heap.size vl fs ∧ Sd w' base b v' M a.1 ∧ Gd w w' b v v' ∧ fs.map (·.1) = a.2.1

set_option maxRecDepth 100000 in
set_option maxHeartbeats 8000000 in
theorem kuntil_any (h : Sd w base b v M s) (n : Int) (vx : Value) (bs : List UInt8) (hx : ∀ W vd, Gd w W b v vd → Src W vx bs) (hc : s.came + bs.length ≤ 4611686018427387904) (hbl : bs.length ≤ 900000000000) :
    Calls Tryz.prog 55 #[.pointer (some ⟨b, 0, none⟩), .int .i64 n, vx] w (UntP w base b v M (runP M (fun j => decide (n ≤ (j : Int))) (s, [], 0) bs)) := by
  obtain ⟨q, Hq⟩ : ∃ q : Nat → Bool, Hid ((fun j : Nat => decide (n ≤ (j : Int))) = q) := ⟨_, rfl⟩
  rw [Hq.out]
  have HX := hid hx
  have H := hid h
  obtain ⟨ax, cx, rfl⟩ := src_shape (hx w v (Gd.refl _ _ _))
  clear h hx
  go_enter Tryz.func55, Tryz.ntmps55
  go_wp2
  go_loopw [8, 9] (fun vl vi wr => ∃ (K : Nat) (vd : Value) (fs : List FV) (a : Ra), K ≤ bs.length ∧ vi = .int .i64 K ∧ Hid (runP M q (s, [], 0) (bs.take K) = a) ∧ Hid (a.2.2 = K) ∧ Hid (fs.map (·.1) = a.2.1) ∧ Hid (OFs wr w.heap.size vl fs) ∧ Hid (Sd wr base b vd M a.1) ∧ Hid (Gd w wr b v vd)) (fun _ vi _ => bs.length - (intOf vi).toNat)
  case atStart => exact ⟨0, v, [], (s, [], 0), by omega, rfl, by rw [List.take_zero]; exact runP_nil _ _ _, rfl, rfl, OFs.nil _ _, H.out, Gd.refl _ _ _⟩
  case round =>
    obtain ⟨K, vd, fs, a, hk, rfl, HR, HTK, HFS, HOF, HSD, HGD⟩ := hrel
    obtain ⟨alv, clv, rfl⟩ := HOF.out.shape
    have HFL := hid (show fs.length = a.2.1.length by rw [← HFS.out, List.length_map])
    -- the end
    have FIN : Hid (runP M q a (bs.drop K) = a → UntP w base b v M (runP M q (s, [], 0) bs) (.returned (.tuple #[.slice alv fs.length clv, .int .i64 (K : Int)])) wr) := hid (by
      intro he
      have e : runP M q (s, [], 0) bs = a := by
        conv => lhs; rw [← List.take_append_drop K bs]
        rw [runP_app, HR.out, he]
      rw [e]
      exact ⟨_, vd, fs, by rw [HTK.out], HOF.out, HSD.out, HGD.out, HFS.out⟩)
    by_cases hlt : K < bs.length
    · have q1 : (K : Int) < (bs.length : Int) := by omega
      by_cases hq : n ≤ (fs.length : Int)
      · as_aux_lemma =>
          have q2 : ¬ (fs.length : Int) < n := by omega
          have HE := hid (runP_stop M q a (Or.inl (by rw [← Hq.out, ← HFL.out]; exact decide_eq_true hq)) (bs.drop K))
          go_wp2
          refine bodyPost_ret (results_tmp2 rfl _ _ _) rfl ?_
          exact FIN.out HE.out
      · have q2 : (fs.length : Int) < n := by omega
        have HQF := hid (show q a.2.1.length = false by rw [← Hq.out, ← HFL.out]; exact decide_eq_false hq)
        have HPO := hid (kpois_any HSD.out.kb)
        by_cases hy : a.1.why = 0
        · have q3 : (a.1.why != 0) = false := by simpa using hy
          rw [q3] at HPO
          have HLK := hid (klack_any HSD.out.kb (by have := HSD.out.few; omega) (by
            obtain ⟨_, h1, h2⟩ := HSD.out.good.ok hy
            rw [(needM_ok h1).1] at h2
            rcases h2 with h2 | h2
            · exact Or.inl h2
            · exact Or.inr (by omega)) (need_le _))
          have HLP := hid (lack_pos HSD.out.good hy)
          have HLL := hid (lack_le HSD.out.good hy)
          obtain ⟨lk, Hlk⟩ : ∃ n, Hid (lackP a.1.r = n) := ⟨_, rfl⟩
          rw [Hlk.out] at HLK HLP HLL
          obtain ⟨m, Hm⟩ : ∃ m : Nat, Hid (min lk (bs.length - K) = m) := ⟨_, rfl⟩
          obtain ⟨RM, HRM⟩ : ∃ n : Nat, Hid (bs.length - K = n) := ⟨_, rfl⟩
          obtain ⟨TO, HTO⟩ : ∃ n : Nat, Hid (K + m = n) := ⟨_, rfl⟩
          have hmm : IntKind.i64.wrap ((bs.length : Int) - (K : Int)) = (RM : Int) := by rw [IntKind.wrap_i64]; have := HRM.out; omega
          have hm : min (lk : Int) (RM : Int) = (m : Int) := by have := Hm.out; have := HRM.out; omega
          have hto : IntKind.i64.wrap ((K : Int) + (m : Int)) = (TO : Int) := by rw [IntKind.wrap_i64]; have := HTO.out; have := Hm.out; have := HLL.out; have := HSD.out.big; omega
          have hmp : 1 ≤ m ∧ m ≤ lk ∧ K + m ≤ bs.length := by have := Hm.out; have := HLP.out; omega
          have HSW := hid (HX.out wr vd HGD.out)
          obtain ⟨vp, hp1, _, hp2⟩ := cut_range HSW.out K (K + m) (by omega) hmp.2.2
          rw [show K + m - K = m by omega] at hp1
          rw [HTO.out] at hp2
          obtain ⟨X, HXX⟩ : ∃ X, Hid ((bs.drop K).take m = X) := ⟨_, rfl⟩
          rw [HXX.out] at hp1
          have HXL := hid (show X.length = m by rw [← HXX.out, List.length_take, List.length_drop]; omega)
          have HXN := hid (show X ≠ [] by intro e; have := HXL.out; rw [e] at this; simp at this; omega)
          have HCA := hid (show a.1.came = s.came + K by have := run_came (M := M) (q := q) (bs.take K) (s, [], 0); rw [HR.out, HTK.out] at this; simpa using this)
          have HCH := hid (run_chunk M q X a.1 a.2.1 a.2.2 HSD.out.good hy HXN.out (by rw [HXL.out, Hlk.out]; exact hmp.2.1) HQF.out)
          have HP1 := hid hp1
          clear hp1 FIN
          go_wp2_with fail
          refine HPO.out.mono ?_
          rintro e w1 ⟨rfl, hw1⟩
          subst hw1
          go_wp2_with fail
          refine HLK.out.mono ?_
          rintro e w2 ⟨rfl, hb2⟩
          have HSD2 := hid (HSD.out.below hb2)
          have HGD2 := hid (HGD.out.below hb2)
          have HOF2 := hid (HOF.out.below hb2)
          have HP2 := hid (HP1.out.below hb2)
          clear hb2 HLK HPO HSW
          have HTA := hid (ktake_any HSD2.out hy vp X HP2.out HXN.out (by rw [HXL.out, Hlk.out]; exact hmp.2.1) (by rw [HCA.out, HXL.out]; omega))
          have HFH := hid (takeC_hd M a.1 X)
          have HRG := hid (takeC_rng M a.1 X (by have := HSD2.out.few; rw [List.length_append, HXL.out]; omega))
          have HRN := hid (show runP M q (s, [], 0) (bs.take (K + m)) = ((takeC M a.1 X).1, a.2.1 ++ (takeC M a.1 X).2, K + m) by
            rw [List.take_add, runP_app, HR.out, HXX.out, show a = (a.1, a.2.1, a.2.2) from rfl, HCH.out, HTK.out, HXL.out])
          obtain ⟨T, HT⟩ : ∃ T, Hid (takeC M a.1 X = T) := ⟨_, rfl⟩
          rw [HT.out] at HTA HFH HRG HRN
          obtain ⟨sl, Hsl⟩ : ∃ L, Hid (s.came = L) := ⟨_, rfl⟩
          clear HCH HT
          go_wp2_with fail
          refine HTA.out.mono ?_
          rintro e w3 ⟨va, v3, rfl, hoa, hsd3, hg3⟩
          have HG3 := hid (HGD2.out.trans hg3)
          have HOF3 := hid (HOF2.out.sd hg3 HSD2.out)
          have HSD3 := hid hsd3
          have HOA3 := hid (own_le hoa (base' := w.heap.size) (HGD2.out.size))
          have HRG2 := hid (HRG.out (wowns_len hoa))
          obtain ⟨aV, cV, eV⟩ := wowns_shape hoa
          have HSY := hid (frame_size (hdF T.2) va HRG2.out.tool)
          have HON := hid (fcells_one (hdF T.2) va (by rw [eV]; rfl))
          have HOS := hid (show (fcells zF nS).toArray.size = (fcells (hdF T.2) va).length by rw [fcells_length _ _ HRG2.out.tool]; rfl)
          have HFO := hid (fun W (hW : Strs W va (hdF T.2).args) => frs_one W (hdF T.2) va HRG2.out hW)
          have HMP := hid (HFH.out va)
          obtain ⟨FF, HFF⟩ : ∃ L, Hid (fcells (hdF T.2) va = L) := ⟨_, rfl⟩
          rw [HFF.out] at HSY HON HOS HFO ⊢
          clear hoa hsd3 hg3 HTA HRG HOF2 HGD2 HSD2 HP2 eV
          have HW3 := hid (below_walk w3 (.cells FF.toArray 30))
          have HN4 := hid (hp_new w3 (.cells FF.toArray 30))
          have HSD4 := hid (HSD3.out.below HW3.out)
          have HG4 := hid (HG3.out.below HW3.out)
          have HOF4 := hid (HOF3.out.below HW3.out)
          have HOA4 := hid (own_below HOA3.out HW3.out)
          go_upto_region 6 with (first
            | (refine al_row (by rfl) 30 (by rfl) _ zeroFrame ?_)
            | (refine st_new (by rfl) 30 _ _ (by rfl) FF (by rfl) (by rfl) 30 _ HSY.out HOS.out HON.out ?_))
          obtain ⟨B, HBe⟩ : ∃ n, Hid (w3.heap.size = n) := ⟨_, rfl⟩
          rw [HBe.out] at HN4 ⊢
          generalize w3.alloc (.cells FF.toArray 30) = w4 at HW3 HN4 HSD4 HG4 HOF4 HOA4 ⊢
          clear HSD3 HG3 HOF3 HOA3 HW3
          cases hem : T.2.isEmpty with
          | true =>
            as_aux_lemma =>
              rw [hem, if_pos rfl] at HMP
              have HTN := hid (show T.2 = [] from List.isEmpty_iff.1 hem)
              go_wp2
              refine ⟨⟨K + m, v3, fs, _, hmp.2.2, by rw [HTO.out], HRN.out, rfl, ?_, HOF4.out, HSD4.out, HG4.out⟩, by have := HTO.out; simp [intOf]; omega⟩
              show fs.map (·.1) = a.2.1 ++ T.2
              rw [HFS.out, HTN.out, List.append_nil]
          | false =>
            as_aux_lemma =>
              rw [hem, if_neg (by simp)] at HMP
              have HST4 := hid (wowns_strs HOA4.out)
              have HW4 := hid (below_walk w4 (.cells FF.toArray 30))
              have HF1 := hid (HFO.out w4 HST4.out)
              have HOF5 := hid (HOF4.out.below HW4.out)
              have HOA5 := hid (own_below HOA4.out HW4.out)
              have HSD5 := hid (HSD4.out.below HW4.out)
              have HG5 := hid (HG4.out.below HW4.out)
              have hft : fs.length + 1 ≤ 1000000000000 := by
                have h1 := run_few (M := M) (q := q) (bs.take K) (s, [], 0)
                rw [HR.out, ← HFL.out] at h1
                simp at h1
                omega
              have HSZ4 := hid (show w.heap.size ≤ (w4.alloc (.cells FF.toArray 30)).heap.size from HG5.out.size)
              have HF42 := hid (show FF.length = 42 by rw [← HFF.out, fcells_length _ _ HRG2.out.tool])
              have HEA := hid (show ∀ f ∈ [((hdF T.2, va) : FV)], WOwnS (w4.alloc (.cells FF.toArray 30)) w.heap.size f.2 f.1.args ∧ Rng f.1 by
                intro f hf
                simp at hf
                subst hf
                exact ⟨HOA5.out, HRG2.out⟩)
              obtain ⟨B4, HB4⟩ : ∃ n, Hid (w4.heap.size = n) := ⟨_, rfl⟩
              rw [HB4.out] at HF1
              go_wp2_with (first
                | (refine ld_row (by rfl) 30 (.tmp 11) (by rfl) B (by rfl) FF 30 HN4.out _ Tryz.underlying30 rfl HSY.out ?_)
                | (refine bs_frame (by rfl) (.tmp 50) (by rfl) FF (by rfl) HF42.out B4 HB4.out ?_)
                | (at_builtin; refine app_frs (by rfl) _ _ rfl w.heap.size _ fs rfl HOF5.out [(hdF T.2, va)] _ rfl HF1.out (fun _ e => by cases e) HEA.out hft HSZ4.out ?_))
              intro v6 w6 ho6 hg6 hp6
              have HG6 := hid (HG5.out.newer hg6 (fun k e => (World.ownsRow.lt HOF5.out.own k e).1))
              have HSD6 := hid (HSD5.out.apart hg6 HOF5.out)
              have HO6 := hid ho6
              obtain ⟨a6, c6, e6⟩ := ho6.shape
              clear ho6 hg6 hp6
              have hl6 : (fs ++ [(hdF T.2, va)]).length = fs.length + 1 := by simp
              rw [hl6] at e6
              subst e6
              go_wp2
              refine ⟨⟨K + m, v3, fs ++ [(hdF T.2, va)], _, hmp.2.2, by rw [HTO.out], HRN.out, rfl, ?_, HO6.out, HSD6.out, HG6.out⟩, by have := HTO.out; simp [intOf]; omega⟩
              show (fs ++ [(hdF T.2, va)]).map (·.1) = a.2.1 ++ T.2
              rw [List.map_append, HFS.out, HMP.out]
        · as_aux_lemma =>
            have q3 : (a.1.why != 0) = true := by simpa using hy
            rw [q3] at HPO
            have HE := hid (runP_stop M q a (Or.inr hy) (bs.drop K))
            go_wp2_with fail
            refine HPO.out.mono ?_
            rintro e w1 ⟨rfl, hw1⟩
            subst hw1
            go_wp2
            refine bodyPost_ret (results_tmp2 rfl _ _ _) rfl ?_
            exact FIN.out HE.out
    · obtain rfl : K = bs.length := by omega
      as_aux_lemma =>
        have HE := hid (show runP M q a (bs.drop bs.length) = a by rw [List.drop_length]; rfl)
        go_wp2
        refine bodyPost_ret (results_tmp2 rfl _ _ _) rfl ?_
        exact FIN.out HE.out
end
end Go.Proofs.YtiibhccbbpgehaaGreat
