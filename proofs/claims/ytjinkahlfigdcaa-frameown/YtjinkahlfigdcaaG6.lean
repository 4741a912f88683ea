/- Contracts and pure facts that the proof needs, joined. -/
import Derived.Test.YtjinkahlfigdcaaG5
import Derived.Test.YtjinkahlfigdcaaG4
import Derived.Test.YtjinkahlfigdcaaG1
import Derived.Test.YtjinkahlfigdcaaG3
import Derived.Test.YtjinkahlfigdcaaG2

/- readFrame, where the kind that is read is 4. -/
namespace Go.Proofs.Ytjinkahlfigdcaa
open Go.RowKit Go.BigFrame

set_option maxRecDepth 100000 in
set_option maxHeartbeats 8000000 in
theorem readFrame_4 (v0 : Value) (bs : List UInt8) (head N : Nat) (w : World) (hs : Src w v0 bs) (hbl : bs.length ≤ 1099511627776) (hu : uS bs (0, 0, 0) = (N, head, 0, 0)) (hK : (oS bs 6 (head, 0, 0)).1 = 4) :
    Calls Try.prog 32 #[v0] w fun e w' => ∃ va, e = .returned (.tuple #[.agg (fcells (frameP bs head).1 va).toArray, .agg #[.int .i64 (frameP bs head).2.1, .int .i64 (frameP bs head).2.2]]) ∧ WOwnS w' w.heap.size va (frameP bs head).1.args ∧ Below w.heap.size w w' := by
  obtain ⟨va0, c0, rfl⟩ := src_shape hs
  obtain ⟨L0, HL0⟩ : ∃ n, Hid (bs.length = n) := ⟨_, rfl⟩
  obtain ⟨A, HAA⟩ : ∃ n, Hid (w.heap.size = n) := ⟨_, rfl⟩
  have HB0 := hid (below_walk2 w (.cells (fcells zF nS).toArray 29) (.cells #[.int .i64 0, .int .i64 0] 47))
  have HNB := hid (hp_two w (.cells (fcells zF nS).toArray 29) (.cells #[.int .i64 0, .int .i64 0] 47))
  have HZ : Hid ((w.alloc (.cells (fcells zF nS).toArray 29)).heap.size = w.heap.size + 1) := hid (by simp)
  have HZ2 : Hid (((w.alloc (.cells (fcells zF nS).toArray 29)).alloc (.cells #[.int .i64 0, .int .i64 0] 47)).heap.size = w.heap.size + 2) := hid (by simp)
  have HNR := hid (newReader_any _ bs _ (hs.below HB0.out))
  have HU := hid hu
  have HK := hid hK
  have HBL := hid hbl
  clear hs hbl hu hK
  go_enter Try.func32, Try.ntmps32
  go_upto_region 1 with (refine al_row (by rfl) 29 (by rfl) _ zeroFrame ?_)
  try rw [HZ.out]
  generalize (w.alloc (.cells (fcells zF nS).toArray 29)).alloc (.cells #[.int .i64 0, .int .i64 0] 47) = w0 at HB0 HNB HZ2 HNR ⊢
  rw [HAA.out] at HNB HZ2 ⊢
  have HR1 := hid HNB.out.1
  have HR2 := hid HNB.out.2
  clear HNB HZ
  go_wp2_with fail
  refine HNR.out.mono ?_
  rintro e w1 ⟨rb, v, rfl, hr1, hb1⟩
  obtain ⟨b, HBb⟩ : ∃ b, Hid (w1.heap.size = b) := ⟨_, rfl⟩
  have HLb : Hid (A + 2 ≤ b) := hid (by have := hb1.size; have := HZ2.out; have := HBb.out; omega)
  have HLr : Hid (A + 2 ≤ rb) := hid (by have := hr1.lo; have := HZ2.out; omega)
  have HLrb : Hid (rb < b) := hid (by have := hr1.lt; have := HBb.out; omega)
  have HAW := hid (below_walk w1 (.cells #[.pointer (some ⟨rb, 0, none⟩), .int .i64 0, .int .i64 0] 93))
  have HFD := hid (show Fd (w1.alloc (.cells #[.pointer (some ⟨rb, 0, none⟩), .int .i64 0, .int .i64 0] 93)) w0.heap.size b rb v bs (0, 0, 0) from ⟨0, 0, 0, 0, 0, hr1.below HAW.out, HBb.out ▸ hp_new w1 _, by have := HLrb.out; omega, fun e => by have := (hr1.own.lt _ e).2; have := HBb.out; omega, by have := hb1.size; have := HBb.out; omega, Or.inl ⟨rfl, rfl⟩⟩)
  have HR1a := hid (bel_keep HAW.out (bel_keep hb1 HR1.out))
  have HR2a := hid (bel_keep HAW.out (bel_keep hb1 HR2.out))
  have HB1 := hid (below_then (below_then HB0.out hb1) HAW.out)
  clear hr1 hb1 HR1 HR2 HB0 HNR HAW
  go_upto_region 2 with fail
  rw [HBb.out]
  generalize w1.alloc (.cells #[.pointer (some ⟨rb, 0, none⟩), .int .i64 0, .int .i64 0] 93) = w2 at HFD HR1a HR2a HB1 ⊢
  have p2 := HFD.out.ptr
  go_wp2_with fail
  refine (fd_uint HFD.out).mono ?_
  rintro e w3 ⟨rfl, hf3, hg3⟩
  rw [HU.out] at hf3
  have HF3 := hid (show Fd w3 w0.heap.size b rb v bs (head, 0, 0) from hf3)
  have HR1b := hid (gb_keep hg3 HR1a.out (by have := HLr.out; omega))
  have HR2b := hid (gb_keep hg3 HR2a.out (by have := HLr.out; omega))
  have HB3 := hid (Below.of_gb HB1.out hg3 (by have := HLr.out; have := HAA.out; omega))
  clear hf3 hg3 p2 HFD HR1a HR2a HB1
  have p3 := HF3.out.ptr
  go_wp2_with fail
  refine (fd_at HF3.out).mono ?_
  rintro e w4 ⟨A4, rfl, hw4, hA4⟩
  have hw4 := hw4.symm
  subst hw4
  obtain rfl : A4 = head := hA4 rfl
  clear hA4 p3
  go_wp2_with fail
  refine (fd_some w0.heap.size b rb v bs (A4, 0, 0) 6 w3 (by omega) HF3.out).mono ?_
  rintro e w5 ⟨rfl, hf5, hg5⟩
  rw [show ((oS bs 6 (A4, 0, 0)).1 : Int) = 4 by rw [HK.out]; rfl]
  have HF5 := hid hf5
  have HR1c := hid (hg5.keep HR1b.out (by have := HLb.out; omega) (by have := HLr.out; omega))
  have HR2c := hid (hg5.keep HR2b.out (by have := HLb.out; omega) (by have := HLr.out; omega))
  have HB5 := hid (hg5.below HB3.out (by have := HLb.out; have := HAA.out; omega) (by have := HLr.out; have := HAA.out; omega))
  clear hf5 hg5 HF3 HR1b HR2b HB3
  go_upto_region 5 with (first
    | (refine bd_row (by rfl) 29 #[(0, .tmp 25)] (by rfl) _ (by simp [Act.eval]) _ built_k4 ?_)
    | (refine al_row (by rfl) 29 (by rfl) _ zeroFrame ?_)
    | (refine st_new (by rfl) 29 _ _ (by rfl) (fcells (kF 4) nS) (by rfl) (by rfl) 29 _ (frame_size (kF 4) nS rfl) rfl (fcells_one (kF 4) nS rfl) ?_))
  have HW5 := hid (below_walk w5 (.cells (fcells (kF 4) nS).toArray 29))
  have HF6 := hid (HF5.out.below HW5.out)
  have HR1d := hid (bel_keep HW5.out HR1c.out)
  have HR2d := hid (bel_keep HW5.out HR2c.out)
  have HB6 := hid (below_then HB5.out HW5.out)
  have HFb := hid (hp_new w5 (.cells (fcells (kF 4) nS).toArray 29))
  have HLf0 : Hid (b < w5.heap.size) := hid HF5.out.lt.1
  have HVO0 := hid HF5.out.own
  obtain ⟨fb, HFBe⟩ : ∃ b, Hid (w5.heap.size = b) := ⟨_, rfl⟩
  rw [HFBe.out] at HFb HLf0 HVO0 ⊢
  have HVO : Hid (∀ k, v.ownBlock = some k → k < fb) := hid HVO0.out
  generalize w5.alloc (.cells (fcells (kF 4) nS).toArray 29) = w6 at HF6 HR1d HR2d HB6 HFb ⊢
  clear HF5 HR1c HR2c HB5 HW5
  have x0 : w6.cell? ⟨fb, 0, none⟩ = some (.int .i64 4) := (Fb.of HFb.out rfl).k
  go_wp2_with fail
  refine (kindOf_4 w6).mono ?_
  rintro e w7 ⟨rfl, hb7⟩
  have HF7 := hid (HF6.out.below hb7)
  have HR1e := hid (bel_keep hb7 HR1d.out)
  have HR2e := hid (bel_keep hb7 HR2d.out)
  have HB7 := hid (below_then HB6.out hb7)
  have HFc := hid (bel_keep hb7 HFb.out)
  clear hb7 HF6 HR1d HR2d HB6 HFb x0
  go_upto_region 6 with (first
    | (refine al_row (by rfl) 61 (by rfl) _ zeroKind ?_)
    | (refine st_new (by rfl) 61 _ _ (by rfl) k4 (by rfl) (by rfl) 61 _ kindSize rfl (kOf_one 4) ?_))
  have HW7 := hid (below_walk w7 (.cells (k4).toArray 61))
  have HF8 := hid (HF7.out.below HW7.out)
  have HR1 := hid (bel_keep HW7.out HR1e.out)
  have HR2 := hid (bel_keep HW7.out HR2e.out)
  have HB8 := hid (below_then HB7.out HW7.out)
  have HFd := hid (bel_keep HW7.out HFc.out)
  have HKb := hid (hp_new w7 (.cells (k4).toArray 61))
  have HLk : Hid (fb < w7.heap.size) := hid (hp_lt HFc.out)
  obtain ⟨kb, HKBe⟩ : ∃ b, Hid (w7.heap.size = b) := ⟨_, rfl⟩
  rw [HKBe.out] at HKb HLk ⊢
  generalize w7.alloc (.cells (k4).toArray 61) = w8 at HF8 HR1 HR2 HB8 HFd HKb ⊢
  clear HF7 HR1e HR2e HB7 HFc HW7 HZ2 HFBe HKBe
  have y4 : w8.cell? ⟨kb, 4, none⟩ = some (.func (.func 88) #[] #[]) := by rw [cell_of_row w8 kb 4 _ _ _ HKb.out]; rfl
  go_wp2_with (refine ld_row (by rfl) 29 (.tmp 6) (by rfl) fb (by rfl) (fcells (kF 4) nS) 29 HFd.out _ Try.underlying29 rfl (frame_size (kF 4) nS rfl) ?_)
  refine (readCancel_any w0.heap.size b rb v bs (oS bs 6 (A4, 0, 0)).2 w8 HBL.out HF8.out).mono ?_
  rintro e w9 ⟨va, rfl, hoa, hf9, hg9⟩
  have HLb8 : Hid (b < w8.heap.size) := hid HF8.out.lt.1
  have HLr8 : Hid (rb < w8.heap.size) := hid HF8.out.lt.2.1
  have HLk8 : Hid (kb < w8.heap.size) := hid (hp_lt HKb.out)
  have HS9 : Hid (w8.heap.size ≤ w9.heap.size) := hid hg9.size
  have HOA := hid hoa
  have HF9 := hid hf9
  have HR1f := hid (hg9.keep HR1.out (by have := HLb.out; omega) (by have := HLr.out; omega))
  have HR2f := hid (hg9.keep HR2.out (by have := HLb.out; omega) (by have := HLr.out; omega))
  have HB9 := hid (hg9.below HB8.out (by have := HLb.out; have := HAA.out; omega) (by have := HLr.out; have := HAA.out; omega))
  have HFe := hid (hg9.keep HFd.out (by have := HLf0.out; omega) (by have := HLf0.out; have := HLrb.out; omega))
  have HKc := hid (hg9.keep HKb.out (by have := HLk.out; have := HLf0.out; omega) (by have := HLk.out; have := HLf0.out; have := HLrb.out; omega))
  have HTL := hid (show (fieldsP bs 4 (oS bs 6 (A4, 0, 0)).2).1.tool.length = 32 from fieldsP_tool bs 4 (oS bs 6 (A4, 0, 0)).2)
  obtain ⟨aV, cV, eV⟩ := wowns_shape hoa
  have HSZ := hid (frame_size (fieldsP bs 4 (oS bs 6 (A4, 0, 0)).2).1 va HTL.out)
  have HON := hid (fcells_one (fieldsP bs 4 (oS bs 6 (A4, 0, 0)).2).1 va (by rw [eV]; rfl))
  have HOS := hid (show (fcells (kF 4) nS).toArray.size = (fcells (fieldsP bs 4 (oS bs 6 (A4, 0, 0)).2).1 va).length by rw [fcells_length _ _ HTL.out]; rfl)
  obtain ⟨FF, HFF⟩ : ∃ L, Hid (fcells (fieldsP bs 4 (oS bs 6 (A4, 0, 0)).2).1 va = L) := ⟨_, rfl⟩
  rw [HFF.out] at HSZ HON HOS ⊢
  have HFV : Hid (∀ k, v.ownBlock = some k → k < fb) := hid (fun k hk => by have := HVO.out k hk; omega)
  clear hoa hf9 hg9 HF8 HR1 HR2 HB8 HFd HKb y4 eV
  go_upto_region 9 with (refine st_row (by rfl) 29 _ _ (by rfl) fb FF (by rfl) (by rfl) 29 _ HFe.out HSZ.out HOS.out HON.out ?_; intro w10 hw10)
  have HF10 := hid (HF9.out.far hw10.grown (by have := HLf0.out; omega) (by have := HLf0.out; have := HLrb.out; omega) (fun k hk => by have := HFV.out k hk; omega))
  have HR1g := hid (gb_keep hw10.grown HR1f.out (by have := HLf0.out; have := HLb.out; omega))
  have HR2g := hid (gb_keep hw10.grown HR2f.out (by have := HLf0.out; have := HLb.out; omega))
  have HKd := hid (gb_keep hw10.grown HKc.out (by have := HLk.out; omega))
  have HB10 := hid (Below.of_gb HB9.out hw10.grown (by have := HLf0.out; have := HLb.out; have := HAA.out; omega))
  have HFf := hid hw10.blk
  have HOA2 := hid (WOwnS.far HOA.out hw10.grown (fun j e => by injection e with e; have := HLk.out; have := HLk8.out; omega))
  have HS10 : Hid (w8.heap.size ≤ w10.heap.size) := hid (by have := hw10.size; have := HS9.out; omega)
  clear hw10 HF9 HR1f HR2f HKc HB9 HFe HOA HOS HS9
  go_wp2_with fail
  refine (fd_end w0.heap.size b rb v bs _ w10 HF10.out).mono ?_
  rintro e w11 ⟨rfl, hg11⟩
  have HR1h := hid (hg11.keep HR1g.out (by have := HLb.out; omega) (by have := HLr.out; omega))
  have HR2h := hid (hg11.keep HR2g.out (by have := HLb.out; omega) (by have := HLr.out; omega))
  have HB11 := hid (hg11.below HB10.out (by have := HLb.out; have := HAA.out; omega) (by have := HLr.out; have := HAA.out; omega))
  have HFg := hid (hg11.keep HFf.out (by have := HLf0.out; omega) (by have := HLf0.out; have := HLrb.out; omega))
  have HKe := hid (hg11.keep HKd.out (by have := HLk.out; have := HLf0.out; omega) (by have := HLk.out; have := HLf0.out; have := HLrb.out; omega))
  have HOA3 := hid (wowns_g2 HOA2.out hg11 HLb8.out HLr8.out)
  have HS11 : Hid (w8.heap.size ≤ w11.heap.size) := hid (by have := hg11.size; have := HS10.out; omega)
  obtain ⟨E1, HE1⟩ : ∃ x, Hid ((eS bs (fieldsP bs 4 (oS bs 6 (A4, 0, 0)).2).2).1 = x) := ⟨_, rfl⟩
  obtain ⟨E2, HE2⟩ : ∃ x, Hid ((eS bs (fieldsP bs 4 (oS bs 6 (A4, 0, 0)).2).2).2 = x) := ⟨_, rfl⟩
  rw [HE1.out, HE2.out]
  clear hg11 HF10 HR1g HR2g HB10 HFf HKd HOA2 HS10
  go_upto_region 10 with fail
  have HWT := hid (below_walk w11 (.cells #[.int .i64 E1, .int .i64 E2] 47))
  have HR1i := hid (bel_keep HWT.out HR1h.out)
  have HR2i := hid (bel_keep HWT.out HR2h.out)
  have HB12 := hid (below_then HB11.out HWT.out)
  have HFh := hid (bel_keep HWT.out HFg.out)
  have HKf := hid (bel_keep HWT.out HKe.out)
  have HOA4 := hid (HOA3.out.alloc (.cells #[.int .i64 E1, .int .i64 E2] 47))
  have HTB0 := hid (hp_new w11 (.cells #[.int .i64 E1, .int .i64 E2] 47))
  have HLt0 : Hid (kb < w11.heap.size) := hid (hp_lt HKe.out)
  obtain ⟨tb, HTBe⟩ : ∃ b, Hid (w11.heap.size = b) := ⟨_, rfl⟩
  rw [HTBe.out] at HTB0 HLt0 ⊢
  generalize w11.alloc (.cells #[.int .i64 E1, .int .i64 E2] 47) = w12 at HR1i HR2i HB12 HFh HKf HOA4 HTB0 ⊢
  have HLt : Hid (A + 2 ≤ tb) := hid (by have := HLt0.out; have := HLk.out; have := HLf0.out; have := HLb.out; omega)
  have HL8t : Hid (w8.heap.size ≤ tb) := hid (by have := HS11.out; have := HTBe.out; omega)
  clear HR1h HR2h HB11 HFg HKe HOA3 HWT HTBe HS11
  have t0 : w12.cell? ⟨tb, 0, none⟩ = some (.int .i64 E1) := by simp [World.cell?, HTB0.out]
  have t1 : w12.cell? ⟨tb, 1, none⟩ = some (.int .i64 E2) := by simp [World.cell?, HTB0.out]
  have f0 := row_fz HTB0.out 0
  have f1 := row_fz HTB0.out 1
  by_cases hE : E1 = 0
  · obtain ⟨M, HM⟩ : ∃ M, Hid (mayF (fieldsP bs 4 (oS bs 6 (A4, 0, 0)).2).1 = M) := ⟨_, rfl⟩
    have HST := hid (wowns_strs HOA4.out)
    have HMN : Hid ((fieldsP bs 4 (oS bs 6 (A4, 0, 0)).2).1.args.length ≤ 9223372036854775807) := hid (wowns_len HOA4.out)
    have HMAY := hid (show Calls Try.prog 86 #[.agg FF.toArray] w12 fun e w' => e = .returned (.bool M) ∧ Below w12.heap.size w12 w' by
      rw [← HM.out, mayF_4 _ (fieldsP_kind bs 4 (oS bs 6 (A4, 0, 0)).2 (by omega)), ← HFF.out]
      exact mayAlways_any _ w12)
    subst hE
    have y2 : w12.cell? ⟨kb, 2, none⟩ = some (.func (.func 86) #[] #[]) := by rw [cell_of_row w12 kb 2 _ _ _ HKf.out]; rfl
    have HRG := hid (range_row HFh.out)
    clear HST HMN
    go_wp2_with (refine ld_gd (by rfl) 29 (.tmp 6) (by rfl) fb 0 (by rfl) FF _ HRG.out Try.underlying29 rfl HSZ.out ?_)
    refine HMAY.out.mono ?_
    rintro e w13 ⟨rfl, hb13⟩
    have HR1z := hid (bel_keep hb13 HR1i.out)
    have HR2z := hid (bel_keep hb13 HR2i.out)
    have HBz := hid (below_then HB12.out hb13)
    have HFz := hid (bel_keep hb13 HFh.out)
    have HTBz := hid (bel_keep hb13 HTB0.out)
    have HOAz := hid (WOwnS.far HOA4.out (below_gb hb13 none) (fun j e => by cases e))
    clear hb13 HR1i HR2i HB12 HFh HTB0 HKf HOA4 HMAY HRG y2 t0 t1 f0 f1
    have t0 : w13.cell? ⟨tb, 0, none⟩ = some (.int .i64 0) := by simp [World.cell?, HTBz.out]
    have t1 : w13.cell? ⟨tb, 1, none⟩ = some (.int .i64 E2) := by simp [World.cell?, HTBz.out]
    have f0 := row_fz HTBz.out 0
    have f1 := row_fz HTBz.out 1
    cases M with
    | true =>
      as_aux_lemma =>
        have HFP := hid (frameP_ok bs A4 4 HK.out (by omega) HE1.out HM.out)
        go_wp2_with (first
          | (refine ld_row (by rfl) 29 (.tmp 6) (by rfl) fb (by rfl) FF 29 HFz.out _ Try.underlying29 rfl HSZ.out ?_)
          | (refine bd_row (by rfl) 47 #[] (by rfl) _ (by simp [Act.eval]) _ built_fz ?_)
          | (refine st_row (by rfl) 29 _ _ (by rfl) A FF (by rfl) (by rfl) 29 _ HR1z.out HSZ.out (by rw [← HFF.out, fcells_length _ _ HTL.out]; rfl) HON.out ?_; intro w14 hw14)
          | (refine st_row (by rfl) 47 _ _ (by rfl) (A + 1) [Value.int .i64 0, .int .i64 0] (by rfl) (by rfl) 47 _ (gb_keep hw14.grown HR2z.out (by omega)) faultSize rfl (fault_one _ _) ?_; intro w15 hw15))
        refine ret_cc 2 3 29 47 rfl A rfl (A + 1) rfl FF 29 (gb_keep hw15.grown hw14.blk (by omega)) _ Try.underlying29 rfl HSZ.out _ 47 hw15.blk _ Try.underlying47 rfl faultSize rfl ?_
        rw [HFP.out]
        refine ⟨va, by rw [← HFF.out]; rfl, ?_, Below.of_gb (Below.of_gb HBz.out hw14.grown (by have := HAA.out; omega)) hw15.grown (by have := HAA.out; omega)⟩
        exact (WOwnS.far (WOwnS.far HOAz.out hw14.grown (fun j e => by injection e with e; have := HLk8.out; have := HLk.out; have := HLf0.out; have := HLb.out; omega)) hw15.grown (fun j e => by injection e with e; have := HLk8.out; have := HLk.out; have := HLf0.out; have := HLb.out; omega)).le (by have := HLk8.out; have := HLk.out; have := HLf0.out; have := HLb.out; have := HAA.out; omega)
    | false =>
      as_aux_lemma =>
        have HFP := hid (frameP_may bs A4 4 HK.out (by omega) HE1.out HM.out)
        go_upto_region 12 with (first
          | (refine bd_row (by rfl) 47 #[(0, .const (.int .i64 70)), (1, .tmp 55)] (by rfl) _ (by simp [Act.eval]) _ (built_ft 70 (A4 : Int)) ?_)
          | (refine st_row (by rfl) 47 _ _ (by rfl) tb [Value.int .i64 70, .int .i64 (A4 : Int)] (by rfl) (by rfl) 47 _ HTBz.out faultSize rfl (fault_one _ _) ?_; intro w14 hw14))
        have HTB := hid hw14.blk
        have HR1y := hid (gb_keep hw14.grown HR1z.out (by have := HLt.out; omega))
        have HR2y := hid (gb_keep hw14.grown HR2z.out (by have := HLt.out; omega))
        have HBy := hid (Below.of_gb HBz.out hw14.grown (by have := HLt.out; have := HAA.out; omega))
        clear hw14 HR1z HR2z HBz t0 t1 f0 f1
        have HR1z := hid HR1y.out
        have HR2z := hid HR2y.out
        have HBz := hid HBy.out
        have t0 : w14.cell? ⟨tb, 0, none⟩ = some (.int .i64 70) := by simp [World.cell?, HTB.out]
        go_upto_region 13 with fail
        have HTBc := hid HTB.out
        refine wp_noPanic (wp_region_held_drew (S := fun W => W.heap[tb]? = some (.cells [Value.int .i64 70, .int .i64 (A4 : Int)].toArray 47 (0, 0))) (by kernel_rfl) HTBc.out ?_)
        intro hHeld
        refine wpAnyH_take (i := 0) (v := .agg (fcells zF nS).toArray) rfl (by kernel_rfl) (by kernel_rfl) (by kernel_rfl) (fun _ _ _ h => h) (yields_build (by rfl) 29 #[] (by rfl) _ (by simp [Act.eval]) _ built_zf) hHeld ?_
        simp only [Act.put, List.getElem_toArray, List.getElem_cons_zero, List.setIfInBounds_toArray, List.set_cons_succ, List.set_cons_zero]
        refine wpAnyH_take (i := 1) (v := .agg [Value.int .i64 70, .int .i64 (A4 : Int)].toArray) rfl (by kernel_rfl) (by kernel_rfl) (by kernel_rfl) (fun _ _ _ h => h) (yieldsIf_load_mid (by rfl) 47 (.tmp 9) rfl tb 0 rfl [Value.int .i64 70, .int .i64 (A4 : Int)] _ (fun W hW => range_row hW) Try.underlying47 rfl faultSize) hHeld ?_
        simp only [Act.put, List.getElem_toArray, List.getElem_cons_zero, List.getElem_cons_succ, List.setIfInBounds_toArray, List.set_cons_succ, List.set_cons_zero]
        obtain ⟨wx, HWX⟩ : ∃ x, Hid (w14.drew = x) := ⟨_, rfl⟩
        have HR1x := hid (show w14.drew.heap[A]? = _ from HR1z.out)
        have HR2x := hid (show w14.drew.heap[A + 1]? = _ from HR2z.out)
        have HTBx := hid (show w14.drew.heap[tb]? = some (.cells [Value.int .i64 70, .int .i64 (A4 : Int)].toArray 47 (0, 0)) from HTB.out)
        have HBx := hid (show Below w.heap.size w w14.drew from below_tr HBz.out ⟨rfl, rfl, rfl, Nat.le_refl _, fun _ _ => rfl⟩)
        rw [HWX.out] at hHeld HR1x HR2x HTBx HBx ⊢
        refine wpAnyH_ready (rs := [2]) (by kernel_rfl) (by simp) ?_
        refine AllReadyH.cons rfl (fun K9 hK9 => ?_) AllReadyH.nil
        refine step_store_row (by rfl) 29 _ _ (by rfl) A (fcells zF nS) (by rfl) (by rfl) 29 _ HR1x.out (frame_size zF nS rfl) rfl (fcells_one zF nS rfl) ?_
        intro wy hwy
        refine hK9.out _ _ (gb_keep hwy.grown HTBx.out (by have := HLt.out; omega)) (fun hHeld => ?_)
        clear hK9 K9
        try simp only [Act.put, List.getElem_toArray, List.getElem_cons_zero, List.getElem_cons_succ]
        refine wpAnyH_ready (rs := [3]) (by kernel_rfl) (by simp) ?_
        refine AllReadyH.cons rfl (fun K9 hK9 => ?_) AllReadyH.nil
        refine step_store_row (by rfl) 47 _ _ (by rfl) (A + 1) [Value.int .i64 70, .int .i64 (A4 : Int)] (by rfl) (by rfl) 47 _ (gb_keep hwy.grown HR2x.out (by omega)) faultSize rfl (fault_one _ _) ?_
        intro wz hwz
        refine hK9.out _ _ (gb_keep hwz.grown (gb_keep hwy.grown HTBx.out (by have := HLt.out; omega)) (by have := HLt.out; omega)) (fun hHeld => ?_)
        clear hK9 K9
        try simp only [Act.put, List.getElem_toArray, List.getElem_cons_zero, List.getElem_cons_succ]
        refine wpAnyH_done (by kernel_rfl) ?_ _
        simp only [noPanic]
        clear hHeld
        go_wp2
        refine ret_cc 2 3 29 47 rfl A rfl (A + 1) rfl (fcells zF nS) 29 (gb_keep hwz.grown hwy.blk (by omega)) _ Try.underlying29 rfl (frame_size zF nS rfl) _ 47 hwz.blk _ Try.underlying47 rfl faultSize rfl ?_
        rw [HFP.out]
        refine ⟨nS, rfl, World.ownsRow_nil _ _ _ _, ?_⟩
        exact Below.of_gb (Below.of_gb HBx.out hwy.grown (by have := HAA.out; omega)) hwz.grown (by have := HAA.out; omega)

  · as_aux_lemma =>
      have q1 : (E1 == 0) = false := by simpa using hE
      have q2 : (E1 != 0) = true := by simpa using hE
      have HFP := hid (show frameP bs A4 = (zF, E1, E2) by
        rw [frameP_bad bs A4 4 HK.out (by omega) (show (eS bs (fieldsP bs 4 (oS bs 6 (A4, 0, 0)).2).2).1 ≠ 0 by rw [HE1.out]; exact hE), ← HE1.out, ← HE2.out]; rfl)
      have HR1z := hid HR1i.out
      have HR2z := hid HR2i.out
      have HBz := hid HB12.out
      have HTB := hid (show w12.heap[tb]? = some (.cells [Value.int .i64 E1, .int .i64 E2].toArray 47 (0, 0)) from HTB0.out)
      clear hE
      go_upto_region 13 with fail
      have HTBc := hid HTB.out
      refine wp_noPanic (wp_region_held_drew (S := fun W => W.heap[tb]? = some (.cells [Value.int .i64 E1, .int .i64 E2].toArray 47 (0, 0))) (by kernel_rfl) HTBc.out ?_)
      intro hHeld
      refine wpAnyH_take (i := 0) (v := .agg (fcells zF nS).toArray) rfl (by kernel_rfl) (by kernel_rfl) (by kernel_rfl) (fun _ _ _ h => h) (yields_build (by rfl) 29 #[] (by rfl) _ (by simp [Act.eval]) _ built_zf) hHeld ?_
      simp only [Act.put, List.getElem_toArray, List.getElem_cons_zero, List.setIfInBounds_toArray, List.set_cons_succ, List.set_cons_zero]
      refine wpAnyH_take (i := 1) (v := .agg [Value.int .i64 E1, .int .i64 E2].toArray) rfl (by kernel_rfl) (by kernel_rfl) (by kernel_rfl) (fun _ _ _ h => h) (yieldsIf_load_mid (by rfl) 47 (.tmp 9) rfl tb 0 rfl [Value.int .i64 E1, .int .i64 E2] _ (fun W hW => range_row hW) Try.underlying47 rfl faultSize) hHeld ?_
      simp only [Act.put, List.getElem_toArray, List.getElem_cons_zero, List.getElem_cons_succ, List.setIfInBounds_toArray, List.set_cons_succ, List.set_cons_zero]
      obtain ⟨wx, HWX⟩ : ∃ x, Hid (w12.drew = x) := ⟨_, rfl⟩
      have HR1x := hid (show w12.drew.heap[A]? = _ from HR1z.out)
      have HR2x := hid (show w12.drew.heap[A + 1]? = _ from HR2z.out)
      have HTBx := hid (show w12.drew.heap[tb]? = some (.cells [Value.int .i64 E1, .int .i64 E2].toArray 47 (0, 0)) from HTB.out)
      have HBx := hid (show Below w.heap.size w w12.drew from below_tr HBz.out ⟨rfl, rfl, rfl, Nat.le_refl _, fun _ _ => rfl⟩)
      rw [HWX.out] at hHeld HR1x HR2x HTBx HBx ⊢
      refine wpAnyH_ready (rs := [2]) (by kernel_rfl) (by simp) ?_
      refine AllReadyH.cons rfl (fun K9 hK9 => ?_) AllReadyH.nil
      refine step_store_row (by rfl) 29 _ _ (by rfl) A (fcells zF nS) (by rfl) (by rfl) 29 _ HR1x.out (frame_size zF nS rfl) rfl (fcells_one zF nS rfl) ?_
      intro wy hwy
      refine hK9.out _ _ (gb_keep hwy.grown HTBx.out (by have := HLt.out; omega)) (fun hHeld => ?_)
      clear hK9 K9
      try simp only [Act.put, List.getElem_toArray, List.getElem_cons_zero, List.getElem_cons_succ]
      refine wpAnyH_ready (rs := [3]) (by kernel_rfl) (by simp) ?_
      refine AllReadyH.cons rfl (fun K9 hK9 => ?_) AllReadyH.nil
      refine step_store_row (by rfl) 47 _ _ (by rfl) (A + 1) [Value.int .i64 E1, .int .i64 E2] (by rfl) (by rfl) 47 _ (gb_keep hwy.grown HR2x.out (by omega)) faultSize rfl (fault_one _ _) ?_
      intro wz hwz
      refine hK9.out _ _ (gb_keep hwz.grown (gb_keep hwy.grown HTBx.out (by have := HLt.out; omega)) (by have := HLt.out; omega)) (fun hHeld => ?_)
      clear hK9 K9
      try simp only [Act.put, List.getElem_toArray, List.getElem_cons_zero, List.getElem_cons_succ]
      refine wpAnyH_done (by kernel_rfl) ?_ _
      simp only [noPanic]
      clear hHeld
      go_wp2
      refine ret_cc 2 3 29 47 rfl A rfl (A + 1) rfl (fcells zF nS) 29 (gb_keep hwz.grown hwy.blk (by omega)) _ Try.underlying29 rfl (frame_size zF nS rfl) _ 47 hwz.blk _ Try.underlying47 rfl faultSize rfl ?_
      rw [HFP.out]
      refine ⟨nS, rfl, World.ownsRow_nil _ _ _ _, ?_⟩
      exact Below.of_gb (Below.of_gb HBx.out hwy.grown (by have := HAA.out; omega)) hwz.grown (by have := HAA.out; omega)

end Go.Proofs.Ytjinkahlfigdcaa

/- readFrame, where the kind that is read is 5. -/
namespace Go.Proofs.Ytjinkahlfigdcaa
open Go.RowKit Go.BigFrame

set_option maxRecDepth 100000 in
set_option maxHeartbeats 8000000 in
theorem readFrame_5 (v0 : Value) (bs : List UInt8) (head N : Nat) (w : World) (hs : Src w v0 bs) (hbl : bs.length ≤ 1099511627776) (hu : uS bs (0, 0, 0) = (N, head, 0, 0)) (hK : (oS bs 6 (head, 0, 0)).1 = 5) :
    Calls Try.prog 32 #[v0] w fun e w' => ∃ va, e = .returned (.tuple #[.agg (fcells (frameP bs head).1 va).toArray, .agg #[.int .i64 (frameP bs head).2.1, .int .i64 (frameP bs head).2.2]]) ∧ WOwnS w' w.heap.size va (frameP bs head).1.args ∧ Below w.heap.size w w' := by
  obtain ⟨va0, c0, rfl⟩ := src_shape hs
  obtain ⟨L0, HL0⟩ : ∃ n, Hid (bs.length = n) := ⟨_, rfl⟩
  obtain ⟨A, HAA⟩ : ∃ n, Hid (w.heap.size = n) := ⟨_, rfl⟩
  have HB0 := hid (below_walk2 w (.cells (fcells zF nS).toArray 29) (.cells #[.int .i64 0, .int .i64 0] 47))
  have HNB := hid (hp_two w (.cells (fcells zF nS).toArray 29) (.cells #[.int .i64 0, .int .i64 0] 47))
  have HZ : Hid ((w.alloc (.cells (fcells zF nS).toArray 29)).heap.size = w.heap.size + 1) := hid (by simp)
  have HZ2 : Hid (((w.alloc (.cells (fcells zF nS).toArray 29)).alloc (.cells #[.int .i64 0, .int .i64 0] 47)).heap.size = w.heap.size + 2) := hid (by simp)
  have HNR := hid (newReader_any _ bs _ (hs.below HB0.out))
  have HU := hid hu
  have HK := hid hK
  have HBL := hid hbl
  clear hs hbl hu hK
  go_enter Try.func32, Try.ntmps32
  go_upto_region 1 with (refine al_row (by rfl) 29 (by rfl) _ zeroFrame ?_)
  try rw [HZ.out]
  generalize (w.alloc (.cells (fcells zF nS).toArray 29)).alloc (.cells #[.int .i64 0, .int .i64 0] 47) = w0 at HB0 HNB HZ2 HNR ⊢
  rw [HAA.out] at HNB HZ2 ⊢
  have HR1 := hid HNB.out.1
  have HR2 := hid HNB.out.2
  clear HNB HZ
  go_wp2_with fail
  refine HNR.out.mono ?_
  rintro e w1 ⟨rb, v, rfl, hr1, hb1⟩
  obtain ⟨b, HBb⟩ : ∃ b, Hid (w1.heap.size = b) := ⟨_, rfl⟩
  have HLb : Hid (A + 2 ≤ b) := hid (by have := hb1.size; have := HZ2.out; have := HBb.out; omega)
  have HLr : Hid (A + 2 ≤ rb) := hid (by have := hr1.lo; have := HZ2.out; omega)
  have HLrb : Hid (rb < b) := hid (by have := hr1.lt; have := HBb.out; omega)
  have HAW := hid (below_walk w1 (.cells #[.pointer (some ⟨rb, 0, none⟩), .int .i64 0, .int .i64 0] 93))
  have HFD := hid (show Fd (w1.alloc (.cells #[.pointer (some ⟨rb, 0, none⟩), .int .i64 0, .int .i64 0] 93)) w0.heap.size b rb v bs (0, 0, 0) from ⟨0, 0, 0, 0, 0, hr1.below HAW.out, HBb.out ▸ hp_new w1 _, by have := HLrb.out; omega, fun e => by have := (hr1.own.lt _ e).2; have := HBb.out; omega, by have := hb1.size; have := HBb.out; omega, Or.inl ⟨rfl, rfl⟩⟩)
  have HR1a := hid (bel_keep HAW.out (bel_keep hb1 HR1.out))
  have HR2a := hid (bel_keep HAW.out (bel_keep hb1 HR2.out))
  have HB1 := hid (below_then (below_then HB0.out hb1) HAW.out)
  clear hr1 hb1 HR1 HR2 HB0 HNR HAW
  go_upto_region 2 with fail
  rw [HBb.out]
  generalize w1.alloc (.cells #[.pointer (some ⟨rb, 0, none⟩), .int .i64 0, .int .i64 0] 93) = w2 at HFD HR1a HR2a HB1 ⊢
  have p2 := HFD.out.ptr
  go_wp2_with fail
  refine (fd_uint HFD.out).mono ?_
  rintro e w3 ⟨rfl, hf3, hg3⟩
  rw [HU.out] at hf3
  have HF3 := hid (show Fd w3 w0.heap.size b rb v bs (head, 0, 0) from hf3)
  have HR1b := hid (gb_keep hg3 HR1a.out (by have := HLr.out; omega))
  have HR2b := hid (gb_keep hg3 HR2a.out (by have := HLr.out; omega))
  have HB3 := hid (Below.of_gb HB1.out hg3 (by have := HLr.out; have := HAA.out; omega))
  clear hf3 hg3 p2 HFD HR1a HR2a HB1
  have p3 := HF3.out.ptr
  go_wp2_with fail
  refine (fd_at HF3.out).mono ?_
  rintro e w4 ⟨A4, rfl, hw4, hA4⟩
  have hw4 := hw4.symm
  subst hw4
  obtain rfl : A4 = head := hA4 rfl
  clear hA4 p3
  go_wp2_with fail
  refine (fd_some w0.heap.size b rb v bs (A4, 0, 0) 6 w3 (by omega) HF3.out).mono ?_
  rintro e w5 ⟨rfl, hf5, hg5⟩
  rw [show ((oS bs 6 (A4, 0, 0)).1 : Int) = 5 by rw [HK.out]; rfl]
  have HF5 := hid hf5
  have HR1c := hid (hg5.keep HR1b.out (by have := HLb.out; omega) (by have := HLr.out; omega))
  have HR2c := hid (hg5.keep HR2b.out (by have := HLb.out; omega) (by have := HLr.out; omega))
  have HB5 := hid (hg5.below HB3.out (by have := HLb.out; have := HAA.out; omega) (by have := HLr.out; have := HAA.out; omega))
  clear hf5 hg5 HF3 HR1b HR2b HB3
  go_upto_region 5 with (first
    | (refine bd_row (by rfl) 29 #[(0, .tmp 25)] (by rfl) _ (by simp [Act.eval]) _ built_k5 ?_)
    | (refine al_row (by rfl) 29 (by rfl) _ zeroFrame ?_)
    | (refine st_new (by rfl) 29 _ _ (by rfl) (fcells (kF 5) nS) (by rfl) (by rfl) 29 _ (frame_size (kF 5) nS rfl) rfl (fcells_one (kF 5) nS rfl) ?_))
  have HW5 := hid (below_walk w5 (.cells (fcells (kF 5) nS).toArray 29))
  have HF6 := hid (HF5.out.below HW5.out)
  have HR1d := hid (bel_keep HW5.out HR1c.out)
  have HR2d := hid (bel_keep HW5.out HR2c.out)
  have HB6 := hid (below_then HB5.out HW5.out)
  have HFb := hid (hp_new w5 (.cells (fcells (kF 5) nS).toArray 29))
  have HLf0 : Hid (b < w5.heap.size) := hid HF5.out.lt.1
  have HVO0 := hid HF5.out.own
  obtain ⟨fb, HFBe⟩ : ∃ b, Hid (w5.heap.size = b) := ⟨_, rfl⟩
  rw [HFBe.out] at HFb HLf0 HVO0 ⊢
  have HVO : Hid (∀ k, v.ownBlock = some k → k < fb) := hid HVO0.out
  generalize w5.alloc (.cells (fcells (kF 5) nS).toArray 29) = w6 at HF6 HR1d HR2d HB6 HFb ⊢
  clear HF5 HR1c HR2c HB5 HW5
  have x0 : w6.cell? ⟨fb, 0, none⟩ = some (.int .i64 5) := (Fb.of HFb.out rfl).k
  go_wp2_with fail
  refine (kindOf_5 w6).mono ?_
  rintro e w7 ⟨rfl, hb7⟩
  have HF7 := hid (HF6.out.below hb7)
  have HR1e := hid (bel_keep hb7 HR1d.out)
  have HR2e := hid (bel_keep hb7 HR2d.out)
  have HB7 := hid (below_then HB6.out hb7)
  have HFc := hid (bel_keep hb7 HFb.out)
  clear hb7 HF6 HR1d HR2d HB6 HFb x0
  go_upto_region 6 with (first
    | (refine al_row (by rfl) 61 (by rfl) _ zeroKind ?_)
    | (refine st_new (by rfl) 61 _ _ (by rfl) k5 (by rfl) (by rfl) 61 _ kindSize rfl (kOf_one 5) ?_))
  have HW7 := hid (below_walk w7 (.cells (k5).toArray 61))
  have HF8 := hid (HF7.out.below HW7.out)
  have HR1 := hid (bel_keep HW7.out HR1e.out)
  have HR2 := hid (bel_keep HW7.out HR2e.out)
  have HB8 := hid (below_then HB7.out HW7.out)
  have HFd := hid (bel_keep HW7.out HFc.out)
  have HKb := hid (hp_new w7 (.cells (k5).toArray 61))
  have HLk : Hid (fb < w7.heap.size) := hid (hp_lt HFc.out)
  obtain ⟨kb, HKBe⟩ : ∃ b, Hid (w7.heap.size = b) := ⟨_, rfl⟩
  rw [HKBe.out] at HKb HLk ⊢
  generalize w7.alloc (.cells (k5).toArray 61) = w8 at HF8 HR1 HR2 HB8 HFd HKb ⊢
  clear HF7 HR1e HR2e HB7 HFc HW7 HZ2 HFBe HKBe
  have y4 : w8.cell? ⟨kb, 4, none⟩ = some (.func (.func 91) #[] #[]) := by rw [cell_of_row w8 kb 4 _ _ _ HKb.out]; rfl
  go_wp2_with (refine ld_row (by rfl) 29 (.tmp 6) (by rfl) fb (by rfl) (fcells (kF 5) nS) 29 HFd.out _ Try.underlying29 rfl (frame_size (kF 5) nS rfl) ?_)
  refine (readBye_any w0.heap.size b rb v bs (oS bs 6 (A4, 0, 0)).2 w8 HBL.out HF8.out).mono ?_
  rintro e w9 ⟨va, rfl, hoa, hf9, hg9⟩
  have HLb8 : Hid (b < w8.heap.size) := hid HF8.out.lt.1
  have HLr8 : Hid (rb < w8.heap.size) := hid HF8.out.lt.2.1
  have HLk8 : Hid (kb < w8.heap.size) := hid (hp_lt HKb.out)
  have HS9 : Hid (w8.heap.size ≤ w9.heap.size) := hid hg9.size
  have HOA := hid hoa
  have HF9 := hid hf9
  have HR1f := hid (hg9.keep HR1.out (by have := HLb.out; omega) (by have := HLr.out; omega))
  have HR2f := hid (hg9.keep HR2.out (by have := HLb.out; omega) (by have := HLr.out; omega))
  have HB9 := hid (hg9.below HB8.out (by have := HLb.out; have := HAA.out; omega) (by have := HLr.out; have := HAA.out; omega))
  have HFe := hid (hg9.keep HFd.out (by have := HLf0.out; omega) (by have := HLf0.out; have := HLrb.out; omega))
  have HKc := hid (hg9.keep HKb.out (by have := HLk.out; have := HLf0.out; omega) (by have := HLk.out; have := HLf0.out; have := HLrb.out; omega))
  have HTL := hid (show (fieldsP bs 5 (oS bs 6 (A4, 0, 0)).2).1.tool.length = 32 from fieldsP_tool bs 5 (oS bs 6 (A4, 0, 0)).2)
  obtain ⟨aV, cV, eV⟩ := wowns_shape hoa
  have HSZ := hid (frame_size (fieldsP bs 5 (oS bs 6 (A4, 0, 0)).2).1 va HTL.out)
  have HON := hid (fcells_one (fieldsP bs 5 (oS bs 6 (A4, 0, 0)).2).1 va (by rw [eV]; rfl))
  have HOS := hid (show (fcells (kF 5) nS).toArray.size = (fcells (fieldsP bs 5 (oS bs 6 (A4, 0, 0)).2).1 va).length by rw [fcells_length _ _ HTL.out]; rfl)
  obtain ⟨FF, HFF⟩ : ∃ L, Hid (fcells (fieldsP bs 5 (oS bs 6 (A4, 0, 0)).2).1 va = L) := ⟨_, rfl⟩
  rw [HFF.out] at HSZ HON HOS ⊢
  have HFV : Hid (∀ k, v.ownBlock = some k → k < fb) := hid (fun k hk => by have := HVO.out k hk; omega)
  clear hoa hf9 hg9 HF8 HR1 HR2 HB8 HFd HKb y4 eV
  go_upto_region 9 with (refine st_row (by rfl) 29 _ _ (by rfl) fb FF (by rfl) (by rfl) 29 _ HFe.out HSZ.out HOS.out HON.out ?_; intro w10 hw10)
  have HF10 := hid (HF9.out.far hw10.grown (by have := HLf0.out; omega) (by have := HLf0.out; have := HLrb.out; omega) (fun k hk => by have := HFV.out k hk; omega))
  have HR1g := hid (gb_keep hw10.grown HR1f.out (by have := HLf0.out; have := HLb.out; omega))
  have HR2g := hid (gb_keep hw10.grown HR2f.out (by have := HLf0.out; have := HLb.out; omega))
  have HKd := hid (gb_keep hw10.grown HKc.out (by have := HLk.out; omega))
  have HB10 := hid (Below.of_gb HB9.out hw10.grown (by have := HLf0.out; have := HLb.out; have := HAA.out; omega))
  have HFf := hid hw10.blk
  have HOA2 := hid (WOwnS.far HOA.out hw10.grown (fun j e => by injection e with e; have := HLk.out; have := HLk8.out; omega))
  have HS10 : Hid (w8.heap.size ≤ w10.heap.size) := hid (by have := hw10.size; have := HS9.out; omega)
  clear hw10 HF9 HR1f HR2f HKc HB9 HFe HOA HOS HS9
  go_wp2_with fail
  refine (fd_end w0.heap.size b rb v bs _ w10 HF10.out).mono ?_
  rintro e w11 ⟨rfl, hg11⟩
  have HR1h := hid (hg11.keep HR1g.out (by have := HLb.out; omega) (by have := HLr.out; omega))
  have HR2h := hid (hg11.keep HR2g.out (by have := HLb.out; omega) (by have := HLr.out; omega))
  have HB11 := hid (hg11.below HB10.out (by have := HLb.out; have := HAA.out; omega) (by have := HLr.out; have := HAA.out; omega))
  have HFg := hid (hg11.keep HFf.out (by have := HLf0.out; omega) (by have := HLf0.out; have := HLrb.out; omega))
  have HKe := hid (hg11.keep HKd.out (by have := HLk.out; have := HLf0.out; omega) (by have := HLk.out; have := HLf0.out; have := HLrb.out; omega))
  have HOA3 := hid (wowns_g2 HOA2.out hg11 HLb8.out HLr8.out)
  have HS11 : Hid (w8.heap.size ≤ w11.heap.size) := hid (by have := hg11.size; have := HS10.out; omega)
  obtain ⟨E1, HE1⟩ : ∃ x, Hid ((eS bs (fieldsP bs 5 (oS bs 6 (A4, 0, 0)).2).2).1 = x) := ⟨_, rfl⟩
  obtain ⟨E2, HE2⟩ : ∃ x, Hid ((eS bs (fieldsP bs 5 (oS bs 6 (A4, 0, 0)).2).2).2 = x) := ⟨_, rfl⟩
  rw [HE1.out, HE2.out]
  clear hg11 HF10 HR1g HR2g HB10 HFf HKd HOA2 HS10
  go_upto_region 10 with fail
  have HWT := hid (below_walk w11 (.cells #[.int .i64 E1, .int .i64 E2] 47))
  have HR1i := hid (bel_keep HWT.out HR1h.out)
  have HR2i := hid (bel_keep HWT.out HR2h.out)
  have HB12 := hid (below_then HB11.out HWT.out)
  have HFh := hid (bel_keep HWT.out HFg.out)
  have HKf := hid (bel_keep HWT.out HKe.out)
  have HOA4 := hid (HOA3.out.alloc (.cells #[.int .i64 E1, .int .i64 E2] 47))
  have HTB0 := hid (hp_new w11 (.cells #[.int .i64 E1, .int .i64 E2] 47))
  have HLt0 : Hid (kb < w11.heap.size) := hid (hp_lt HKe.out)
  obtain ⟨tb, HTBe⟩ : ∃ b, Hid (w11.heap.size = b) := ⟨_, rfl⟩
  rw [HTBe.out] at HTB0 HLt0 ⊢
  generalize w11.alloc (.cells #[.int .i64 E1, .int .i64 E2] 47) = w12 at HR1i HR2i HB12 HFh HKf HOA4 HTB0 ⊢
  have HLt : Hid (A + 2 ≤ tb) := hid (by have := HLt0.out; have := HLk.out; have := HLf0.out; have := HLb.out; omega)
  have HL8t : Hid (w8.heap.size ≤ tb) := hid (by have := HS11.out; have := HTBe.out; omega)
  clear HR1h HR2h HB11 HFg HKe HOA3 HWT HTBe HS11
  have t0 : w12.cell? ⟨tb, 0, none⟩ = some (.int .i64 E1) := by simp [World.cell?, HTB0.out]
  have t1 : w12.cell? ⟨tb, 1, none⟩ = some (.int .i64 E2) := by simp [World.cell?, HTB0.out]
  have f0 := row_fz HTB0.out 0
  have f1 := row_fz HTB0.out 1
  by_cases hE : E1 = 0
  · obtain ⟨M, HM⟩ : ∃ M, Hid (mayF (fieldsP bs 5 (oS bs 6 (A4, 0, 0)).2).1 = M) := ⟨_, rfl⟩
    have HST := hid (wowns_strs HOA4.out)
    have HMN : Hid ((fieldsP bs 5 (oS bs 6 (A4, 0, 0)).2).1.args.length ≤ 9223372036854775807) := hid (wowns_len HOA4.out)
    have HMAY := hid (show Calls Try.prog 86 #[.agg FF.toArray] w12 fun e w' => e = .returned (.bool M) ∧ Below w12.heap.size w12 w' by
      rw [← HM.out, mayF_5 _ (fieldsP_kind bs 5 (oS bs 6 (A4, 0, 0)).2 (by omega)), ← HFF.out]
      exact mayAlways_any _ w12)
    subst hE
    have y2 : w12.cell? ⟨kb, 2, none⟩ = some (.func (.func 86) #[] #[]) := by rw [cell_of_row w12 kb 2 _ _ _ HKf.out]; rfl
    have HRG := hid (range_row HFh.out)
    clear HST HMN
    go_wp2_with (refine ld_gd (by rfl) 29 (.tmp 6) (by rfl) fb 0 (by rfl) FF _ HRG.out Try.underlying29 rfl HSZ.out ?_)
    refine HMAY.out.mono ?_
    rintro e w13 ⟨rfl, hb13⟩
    have HR1z := hid (bel_keep hb13 HR1i.out)
    have HR2z := hid (bel_keep hb13 HR2i.out)
    have HBz := hid (below_then HB12.out hb13)
    have HFz := hid (bel_keep hb13 HFh.out)
    have HTBz := hid (bel_keep hb13 HTB0.out)
    have HOAz := hid (WOwnS.far HOA4.out (below_gb hb13 none) (fun j e => by cases e))
    clear hb13 HR1i HR2i HB12 HFh HTB0 HKf HOA4 HMAY HRG y2 t0 t1 f0 f1
    have t0 : w13.cell? ⟨tb, 0, none⟩ = some (.int .i64 0) := by simp [World.cell?, HTBz.out]
    have t1 : w13.cell? ⟨tb, 1, none⟩ = some (.int .i64 E2) := by simp [World.cell?, HTBz.out]
    have f0 := row_fz HTBz.out 0
    have f1 := row_fz HTBz.out 1
    cases M with
    | true =>
      as_aux_lemma =>
        have HFP := hid (frameP_ok bs A4 5 HK.out (by omega) HE1.out HM.out)
        go_wp2_with (first
          | (refine ld_row (by rfl) 29 (.tmp 6) (by rfl) fb (by rfl) FF 29 HFz.out _ Try.underlying29 rfl HSZ.out ?_)
          | (refine bd_row (by rfl) 47 #[] (by rfl) _ (by simp [Act.eval]) _ built_fz ?_)
          | (refine st_row (by rfl) 29 _ _ (by rfl) A FF (by rfl) (by rfl) 29 _ HR1z.out HSZ.out (by rw [← HFF.out, fcells_length _ _ HTL.out]; rfl) HON.out ?_; intro w14 hw14)
          | (refine st_row (by rfl) 47 _ _ (by rfl) (A + 1) [Value.int .i64 0, .int .i64 0] (by rfl) (by rfl) 47 _ (gb_keep hw14.grown HR2z.out (by omega)) faultSize rfl (fault_one _ _) ?_; intro w15 hw15))
        refine ret_cc 2 3 29 47 rfl A rfl (A + 1) rfl FF 29 (gb_keep hw15.grown hw14.blk (by omega)) _ Try.underlying29 rfl HSZ.out _ 47 hw15.blk _ Try.underlying47 rfl faultSize rfl ?_
        rw [HFP.out]
        refine ⟨va, by rw [← HFF.out]; rfl, ?_, Below.of_gb (Below.of_gb HBz.out hw14.grown (by have := HAA.out; omega)) hw15.grown (by have := HAA.out; omega)⟩
        exact (WOwnS.far (WOwnS.far HOAz.out hw14.grown (fun j e => by injection e with e; have := HLk8.out; have := HLk.out; have := HLf0.out; have := HLb.out; omega)) hw15.grown (fun j e => by injection e with e; have := HLk8.out; have := HLk.out; have := HLf0.out; have := HLb.out; omega)).le (by have := HLk8.out; have := HLk.out; have := HLf0.out; have := HLb.out; have := HAA.out; omega)
    | false =>
      as_aux_lemma =>
        have HFP := hid (frameP_may bs A4 5 HK.out (by omega) HE1.out HM.out)
        go_upto_region 12 with (first
          | (refine bd_row (by rfl) 47 #[(0, .const (.int .i64 70)), (1, .tmp 55)] (by rfl) _ (by simp [Act.eval]) _ (built_ft 70 (A4 : Int)) ?_)
          | (refine st_row (by rfl) 47 _ _ (by rfl) tb [Value.int .i64 70, .int .i64 (A4 : Int)] (by rfl) (by rfl) 47 _ HTBz.out faultSize rfl (fault_one _ _) ?_; intro w14 hw14))
        have HTB := hid hw14.blk
        have HR1y := hid (gb_keep hw14.grown HR1z.out (by have := HLt.out; omega))
        have HR2y := hid (gb_keep hw14.grown HR2z.out (by have := HLt.out; omega))
        have HBy := hid (Below.of_gb HBz.out hw14.grown (by have := HLt.out; have := HAA.out; omega))
        clear hw14 HR1z HR2z HBz t0 t1 f0 f1
        have HR1z := hid HR1y.out
        have HR2z := hid HR2y.out
        have HBz := hid HBy.out
        have t0 : w14.cell? ⟨tb, 0, none⟩ = some (.int .i64 70) := by simp [World.cell?, HTB.out]
        go_upto_region 13 with fail
        have HTBc := hid HTB.out
        refine wp_noPanic (wp_region_held_drew (S := fun W => W.heap[tb]? = some (.cells [Value.int .i64 70, .int .i64 (A4 : Int)].toArray 47 (0, 0))) (by kernel_rfl) HTBc.out ?_)
        intro hHeld
        refine wpAnyH_take (i := 0) (v := .agg (fcells zF nS).toArray) rfl (by kernel_rfl) (by kernel_rfl) (by kernel_rfl) (fun _ _ _ h => h) (yields_build (by rfl) 29 #[] (by rfl) _ (by simp [Act.eval]) _ built_zf) hHeld ?_
        simp only [Act.put, List.getElem_toArray, List.getElem_cons_zero, List.setIfInBounds_toArray, List.set_cons_succ, List.set_cons_zero]
        refine wpAnyH_take (i := 1) (v := .agg [Value.int .i64 70, .int .i64 (A4 : Int)].toArray) rfl (by kernel_rfl) (by kernel_rfl) (by kernel_rfl) (fun _ _ _ h => h) (yieldsIf_load_mid (by rfl) 47 (.tmp 9) rfl tb 0 rfl [Value.int .i64 70, .int .i64 (A4 : Int)] _ (fun W hW => range_row hW) Try.underlying47 rfl faultSize) hHeld ?_
        simp only [Act.put, List.getElem_toArray, List.getElem_cons_zero, List.getElem_cons_succ, List.setIfInBounds_toArray, List.set_cons_succ, List.set_cons_zero]
        obtain ⟨wx, HWX⟩ : ∃ x, Hid (w14.drew = x) := ⟨_, rfl⟩
        have HR1x := hid (show w14.drew.heap[A]? = _ from HR1z.out)
        have HR2x := hid (show w14.drew.heap[A + 1]? = _ from HR2z.out)
        have HTBx := hid (show w14.drew.heap[tb]? = some (.cells [Value.int .i64 70, .int .i64 (A4 : Int)].toArray 47 (0, 0)) from HTB.out)
        have HBx := hid (show Below w.heap.size w w14.drew from below_tr HBz.out ⟨rfl, rfl, rfl, Nat.le_refl _, fun _ _ => rfl⟩)
        rw [HWX.out] at hHeld HR1x HR2x HTBx HBx ⊢
        refine wpAnyH_ready (rs := [2]) (by kernel_rfl) (by simp) ?_
        refine AllReadyH.cons rfl (fun K9 hK9 => ?_) AllReadyH.nil
        refine step_store_row (by rfl) 29 _ _ (by rfl) A (fcells zF nS) (by rfl) (by rfl) 29 _ HR1x.out (frame_size zF nS rfl) rfl (fcells_one zF nS rfl) ?_
        intro wy hwy
        refine hK9.out _ _ (gb_keep hwy.grown HTBx.out (by have := HLt.out; omega)) (fun hHeld => ?_)
        clear hK9 K9
        try simp only [Act.put, List.getElem_toArray, List.getElem_cons_zero, List.getElem_cons_succ]
        refine wpAnyH_ready (rs := [3]) (by kernel_rfl) (by simp) ?_
        refine AllReadyH.cons rfl (fun K9 hK9 => ?_) AllReadyH.nil
        refine step_store_row (by rfl) 47 _ _ (by rfl) (A + 1) [Value.int .i64 70, .int .i64 (A4 : Int)] (by rfl) (by rfl) 47 _ (gb_keep hwy.grown HR2x.out (by omega)) faultSize rfl (fault_one _ _) ?_
        intro wz hwz
        refine hK9.out _ _ (gb_keep hwz.grown (gb_keep hwy.grown HTBx.out (by have := HLt.out; omega)) (by have := HLt.out; omega)) (fun hHeld => ?_)
        clear hK9 K9
        try simp only [Act.put, List.getElem_toArray, List.getElem_cons_zero, List.getElem_cons_succ]
        refine wpAnyH_done (by kernel_rfl) ?_ _
        simp only [noPanic]
        clear hHeld
        go_wp2
        refine ret_cc 2 3 29 47 rfl A rfl (A + 1) rfl (fcells zF nS) 29 (gb_keep hwz.grown hwy.blk (by omega)) _ Try.underlying29 rfl (frame_size zF nS rfl) _ 47 hwz.blk _ Try.underlying47 rfl faultSize rfl ?_
        rw [HFP.out]
        refine ⟨nS, rfl, World.ownsRow_nil _ _ _ _, ?_⟩
        exact Below.of_gb (Below.of_gb HBx.out hwy.grown (by have := HAA.out; omega)) hwz.grown (by have := HAA.out; omega)

  · as_aux_lemma =>
      have q1 : (E1 == 0) = false := by simpa using hE
      have q2 : (E1 != 0) = true := by simpa using hE
      have HFP := hid (show frameP bs A4 = (zF, E1, E2) by
        rw [frameP_bad bs A4 5 HK.out (by omega) (show (eS bs (fieldsP bs 5 (oS bs 6 (A4, 0, 0)).2).2).1 ≠ 0 by rw [HE1.out]; exact hE), ← HE1.out, ← HE2.out]; rfl)
      have HR1z := hid HR1i.out
      have HR2z := hid HR2i.out
      have HBz := hid HB12.out
      have HTB := hid (show w12.heap[tb]? = some (.cells [Value.int .i64 E1, .int .i64 E2].toArray 47 (0, 0)) from HTB0.out)
      clear hE
      go_upto_region 13 with fail
      have HTBc := hid HTB.out
      refine wp_noPanic (wp_region_held_drew (S := fun W => W.heap[tb]? = some (.cells [Value.int .i64 E1, .int .i64 E2].toArray 47 (0, 0))) (by kernel_rfl) HTBc.out ?_)
      intro hHeld
      refine wpAnyH_take (i := 0) (v := .agg (fcells zF nS).toArray) rfl (by kernel_rfl) (by kernel_rfl) (by kernel_rfl) (fun _ _ _ h => h) (yields_build (by rfl) 29 #[] (by rfl) _ (by simp [Act.eval]) _ built_zf) hHeld ?_
      simp only [Act.put, List.getElem_toArray, List.getElem_cons_zero, List.setIfInBounds_toArray, List.set_cons_succ, List.set_cons_zero]
      refine wpAnyH_take (i := 1) (v := .agg [Value.int .i64 E1, .int .i64 E2].toArray) rfl (by kernel_rfl) (by kernel_rfl) (by kernel_rfl) (fun _ _ _ h => h) (yieldsIf_load_mid (by rfl) 47 (.tmp 9) rfl tb 0 rfl [Value.int .i64 E1, .int .i64 E2] _ (fun W hW => range_row hW) Try.underlying47 rfl faultSize) hHeld ?_
      simp only [Act.put, List.getElem_toArray, List.getElem_cons_zero, List.getElem_cons_succ, List.setIfInBounds_toArray, List.set_cons_succ, List.set_cons_zero]
      obtain ⟨wx, HWX⟩ : ∃ x, Hid (w12.drew = x) := ⟨_, rfl⟩
      have HR1x := hid (show w12.drew.heap[A]? = _ from HR1z.out)
      have HR2x := hid (show w12.drew.heap[A + 1]? = _ from HR2z.out)
      have HTBx := hid (show w12.drew.heap[tb]? = some (.cells [Value.int .i64 E1, .int .i64 E2].toArray 47 (0, 0)) from HTB.out)
      have HBx := hid (show Below w.heap.size w w12.drew from below_tr HBz.out ⟨rfl, rfl, rfl, Nat.le_refl _, fun _ _ => rfl⟩)
      rw [HWX.out] at hHeld HR1x HR2x HTBx HBx ⊢
      refine wpAnyH_ready (rs := [2]) (by kernel_rfl) (by simp) ?_
      refine AllReadyH.cons rfl (fun K9 hK9 => ?_) AllReadyH.nil
      refine step_store_row (by rfl) 29 _ _ (by rfl) A (fcells zF nS) (by rfl) (by rfl) 29 _ HR1x.out (frame_size zF nS rfl) rfl (fcells_one zF nS rfl) ?_
      intro wy hwy
      refine hK9.out _ _ (gb_keep hwy.grown HTBx.out (by have := HLt.out; omega)) (fun hHeld => ?_)
      clear hK9 K9
      try simp only [Act.put, List.getElem_toArray, List.getElem_cons_zero, List.getElem_cons_succ]
      refine wpAnyH_ready (rs := [3]) (by kernel_rfl) (by simp) ?_
      refine AllReadyH.cons rfl (fun K9 hK9 => ?_) AllReadyH.nil
      refine step_store_row (by rfl) 47 _ _ (by rfl) (A + 1) [Value.int .i64 E1, .int .i64 E2] (by rfl) (by rfl) 47 _ (gb_keep hwy.grown HR2x.out (by omega)) faultSize rfl (fault_one _ _) ?_
      intro wz hwz
      refine hK9.out _ _ (gb_keep hwz.grown (gb_keep hwy.grown HTBx.out (by have := HLt.out; omega)) (by have := HLt.out; omega)) (fun hHeld => ?_)
      clear hK9 K9
      try simp only [Act.put, List.getElem_toArray, List.getElem_cons_zero, List.getElem_cons_succ]
      refine wpAnyH_done (by kernel_rfl) ?_ _
      simp only [noPanic]
      clear hHeld
      go_wp2
      refine ret_cc 2 3 29 47 rfl A rfl (A + 1) rfl (fcells zF nS) 29 (gb_keep hwz.grown hwy.blk (by omega)) _ Try.underlying29 rfl (frame_size zF nS rfl) _ 47 hwz.blk _ Try.underlying47 rfl faultSize rfl ?_
      rw [HFP.out]
      refine ⟨nS, rfl, World.ownsRow_nil _ _ _ _, ?_⟩
      exact Below.of_gb (Below.of_gb HBx.out hwy.grown (by have := HAA.out; omega)) hwz.grown (by have := HAA.out; omega)

end Go.Proofs.Ytjinkahlfigdcaa

/- readFrame, where the kind that is read is 6. -/
namespace Go.Proofs.Ytjinkahlfigdcaa
open Go.RowKit Go.BigFrame

set_option maxRecDepth 100000 in
set_option maxHeartbeats 8000000 in
theorem readFrame_6 (v0 : Value) (bs : List UInt8) (head N : Nat) (w : World) (hs : Src w v0 bs) (hbl : bs.length ≤ 1099511627776) (hu : uS bs (0, 0, 0) = (N, head, 0, 0)) (hK : (oS bs 6 (head, 0, 0)).1 = 6) :
    Calls Try.prog 32 #[v0] w fun e w' => ∃ va, e = .returned (.tuple #[.agg (fcells (frameP bs head).1 va).toArray, .agg #[.int .i64 (frameP bs head).2.1, .int .i64 (frameP bs head).2.2]]) ∧ WOwnS w' w.heap.size va (frameP bs head).1.args ∧ Below w.heap.size w w' := by
  obtain ⟨va0, c0, rfl⟩ := src_shape hs
  obtain ⟨L0, HL0⟩ : ∃ n, Hid (bs.length = n) := ⟨_, rfl⟩
  obtain ⟨A, HAA⟩ : ∃ n, Hid (w.heap.size = n) := ⟨_, rfl⟩
  have HB0 := hid (below_walk2 w (.cells (fcells zF nS).toArray 29) (.cells #[.int .i64 0, .int .i64 0] 47))
  have HNB := hid (hp_two w (.cells (fcells zF nS).toArray 29) (.cells #[.int .i64 0, .int .i64 0] 47))
  have HZ : Hid ((w.alloc (.cells (fcells zF nS).toArray 29)).heap.size = w.heap.size + 1) := hid (by simp)
  have HZ2 : Hid (((w.alloc (.cells (fcells zF nS).toArray 29)).alloc (.cells #[.int .i64 0, .int .i64 0] 47)).heap.size = w.heap.size + 2) := hid (by simp)
  have HNR := hid (newReader_any _ bs _ (hs.below HB0.out))
  have HU := hid hu
  have HK := hid hK
  have HBL := hid hbl
  clear hs hbl hu hK
  go_enter Try.func32, Try.ntmps32
  go_upto_region 1 with (refine al_row (by rfl) 29 (by rfl) _ zeroFrame ?_)
  try rw [HZ.out]
  generalize (w.alloc (.cells (fcells zF nS).toArray 29)).alloc (.cells #[.int .i64 0, .int .i64 0] 47) = w0 at HB0 HNB HZ2 HNR ⊢
  rw [HAA.out] at HNB HZ2 ⊢
  have HR1 := hid HNB.out.1
  have HR2 := hid HNB.out.2
  clear HNB HZ
  go_wp2_with fail
  refine HNR.out.mono ?_
  rintro e w1 ⟨rb, v, rfl, hr1, hb1⟩
  obtain ⟨b, HBb⟩ : ∃ b, Hid (w1.heap.size = b) := ⟨_, rfl⟩
  have HLb : Hid (A + 2 ≤ b) := hid (by have := hb1.size; have := HZ2.out; have := HBb.out; omega)
  have HLr : Hid (A + 2 ≤ rb) := hid (by have := hr1.lo; have := HZ2.out; omega)
  have HLrb : Hid (rb < b) := hid (by have := hr1.lt; have := HBb.out; omega)
  have HAW := hid (below_walk w1 (.cells #[.pointer (some ⟨rb, 0, none⟩), .int .i64 0, .int .i64 0] 93))
  have HFD := hid (show Fd (w1.alloc (.cells #[.pointer (some ⟨rb, 0, none⟩), .int .i64 0, .int .i64 0] 93)) w0.heap.size b rb v bs (0, 0, 0) from ⟨0, 0, 0, 0, 0, hr1.below HAW.out, HBb.out ▸ hp_new w1 _, by have := HLrb.out; omega, fun e => by have := (hr1.own.lt _ e).2; have := HBb.out; omega, by have := hb1.size; have := HBb.out; omega, Or.inl ⟨rfl, rfl⟩⟩)
  have HR1a := hid (bel_keep HAW.out (bel_keep hb1 HR1.out))
  have HR2a := hid (bel_keep HAW.out (bel_keep hb1 HR2.out))
  have HB1 := hid (below_then (below_then HB0.out hb1) HAW.out)
  clear hr1 hb1 HR1 HR2 HB0 HNR HAW
  go_upto_region 2 with fail
  rw [HBb.out]
  generalize w1.alloc (.cells #[.pointer (some ⟨rb, 0, none⟩), .int .i64 0, .int .i64 0] 93) = w2 at HFD HR1a HR2a HB1 ⊢
  have p2 := HFD.out.ptr
  go_wp2_with fail
  refine (fd_uint HFD.out).mono ?_
  rintro e w3 ⟨rfl, hf3, hg3⟩
  rw [HU.out] at hf3
  have HF3 := hid (show Fd w3 w0.heap.size b rb v bs (head, 0, 0) from hf3)
  have HR1b := hid (gb_keep hg3 HR1a.out (by have := HLr.out; omega))
  have HR2b := hid (gb_keep hg3 HR2a.out (by have := HLr.out; omega))
  have HB3 := hid (Below.of_gb HB1.out hg3 (by have := HLr.out; have := HAA.out; omega))
  clear hf3 hg3 p2 HFD HR1a HR2a HB1
  have p3 := HF3.out.ptr
  go_wp2_with fail
  refine (fd_at HF3.out).mono ?_
  rintro e w4 ⟨A4, rfl, hw4, hA4⟩
  have hw4 := hw4.symm
  subst hw4
  obtain rfl : A4 = head := hA4 rfl
  clear hA4 p3
  go_wp2_with fail
  refine (fd_some w0.heap.size b rb v bs (A4, 0, 0) 6 w3 (by omega) HF3.out).mono ?_
  rintro e w5 ⟨rfl, hf5, hg5⟩
  rw [show ((oS bs 6 (A4, 0, 0)).1 : Int) = 6 by rw [HK.out]; rfl]
  have HF5 := hid hf5
  have HR1c := hid (hg5.keep HR1b.out (by have := HLb.out; omega) (by have := HLr.out; omega))
  have HR2c := hid (hg5.keep HR2b.out (by have := HLb.out; omega) (by have := HLr.out; omega))
  have HB5 := hid (hg5.below HB3.out (by have := HLb.out; have := HAA.out; omega) (by have := HLr.out; have := HAA.out; omega))
  clear hf5 hg5 HF3 HR1b HR2b HB3
  go_upto_region 5 with (first
    | (refine bd_row (by rfl) 29 #[(0, .tmp 25)] (by rfl) _ (by simp [Act.eval]) _ built_k6 ?_)
    | (refine al_row (by rfl) 29 (by rfl) _ zeroFrame ?_)
    | (refine st_new (by rfl) 29 _ _ (by rfl) (fcells (kF 6) nS) (by rfl) (by rfl) 29 _ (frame_size (kF 6) nS rfl) rfl (fcells_one (kF 6) nS rfl) ?_))
  have HW5 := hid (below_walk w5 (.cells (fcells (kF 6) nS).toArray 29))
  have HF6 := hid (HF5.out.below HW5.out)
  have HR1d := hid (bel_keep HW5.out HR1c.out)
  have HR2d := hid (bel_keep HW5.out HR2c.out)
  have HB6 := hid (below_then HB5.out HW5.out)
  have HFb := hid (hp_new w5 (.cells (fcells (kF 6) nS).toArray 29))
  have HLf0 : Hid (b < w5.heap.size) := hid HF5.out.lt.1
  have HVO0 := hid HF5.out.own
  obtain ⟨fb, HFBe⟩ : ∃ b, Hid (w5.heap.size = b) := ⟨_, rfl⟩
  rw [HFBe.out] at HFb HLf0 HVO0 ⊢
  have HVO : Hid (∀ k, v.ownBlock = some k → k < fb) := hid HVO0.out
  generalize w5.alloc (.cells (fcells (kF 6) nS).toArray 29) = w6 at HF6 HR1d HR2d HB6 HFb ⊢
  clear HF5 HR1c HR2c HB5 HW5
  have x0 : w6.cell? ⟨fb, 0, none⟩ = some (.int .i64 6) := (Fb.of HFb.out rfl).k
  go_wp2_with fail
  refine (kindOf_6 w6).mono ?_
  rintro e w7 ⟨rfl, hb7⟩
  have HF7 := hid (HF6.out.below hb7)
  have HR1e := hid (bel_keep hb7 HR1d.out)
  have HR2e := hid (bel_keep hb7 HR2d.out)
  have HB7 := hid (below_then HB6.out hb7)
  have HFc := hid (bel_keep hb7 HFb.out)
  clear hb7 HF6 HR1d HR2d HB6 HFb x0
  go_upto_region 6 with (first
    | (refine al_row (by rfl) 61 (by rfl) _ zeroKind ?_)
    | (refine st_new (by rfl) 61 _ _ (by rfl) k6 (by rfl) (by rfl) 61 _ kindSize rfl (kOf_one 6) ?_))
  have HW7 := hid (below_walk w7 (.cells (k6).toArray 61))
  have HF8 := hid (HF7.out.below HW7.out)
  have HR1 := hid (bel_keep HW7.out HR1e.out)
  have HR2 := hid (bel_keep HW7.out HR2e.out)
  have HB8 := hid (below_then HB7.out HW7.out)
  have HFd := hid (bel_keep HW7.out HFc.out)
  have HKb := hid (hp_new w7 (.cells (k6).toArray 61))
  have HLk : Hid (fb < w7.heap.size) := hid (hp_lt HFc.out)
  obtain ⟨kb, HKBe⟩ : ∃ b, Hid (w7.heap.size = b) := ⟨_, rfl⟩
  rw [HKBe.out] at HKb HLk ⊢
  generalize w7.alloc (.cells (k6).toArray 61) = w8 at HF8 HR1 HR2 HB8 HFd HKb ⊢
  clear HF7 HR1e HR2e HB7 HFc HW7 HZ2 HFBe HKBe
  have y4 : w8.cell? ⟨kb, 4, none⟩ = some (.func (.func 94) #[] #[]) := by rw [cell_of_row w8 kb 4 _ _ _ HKb.out]; rfl
  go_wp2_with (refine ld_row (by rfl) 29 (.tmp 6) (by rfl) fb (by rfl) (fcells (kF 6) nS) 29 HFd.out _ Try.underlying29 rfl (frame_size (kF 6) nS rfl) ?_)
  refine (readNote_any w0.heap.size b rb v bs (oS bs 6 (A4, 0, 0)).2 w8 HBL.out HF8.out).mono ?_
  rintro e w9 ⟨va, rfl, hoa, hf9, hg9⟩
  have HLb8 : Hid (b < w8.heap.size) := hid HF8.out.lt.1
  have HLr8 : Hid (rb < w8.heap.size) := hid HF8.out.lt.2.1
  have HLk8 : Hid (kb < w8.heap.size) := hid (hp_lt HKb.out)
  have HS9 : Hid (w8.heap.size ≤ w9.heap.size) := hid hg9.size
  have HOA := hid hoa
  have HF9 := hid hf9
  have HR1f := hid (hg9.keep HR1.out (by have := HLb.out; omega) (by have := HLr.out; omega))
  have HR2f := hid (hg9.keep HR2.out (by have := HLb.out; omega) (by have := HLr.out; omega))
  have HB9 := hid (hg9.below HB8.out (by have := HLb.out; have := HAA.out; omega) (by have := HLr.out; have := HAA.out; omega))
  have HFe := hid (hg9.keep HFd.out (by have := HLf0.out; omega) (by have := HLf0.out; have := HLrb.out; omega))
  have HKc := hid (hg9.keep HKb.out (by have := HLk.out; have := HLf0.out; omega) (by have := HLk.out; have := HLf0.out; have := HLrb.out; omega))
  have HTL := hid (show (fieldsP bs 6 (oS bs 6 (A4, 0, 0)).2).1.tool.length = 32 from fieldsP_tool bs 6 (oS bs 6 (A4, 0, 0)).2)
  obtain ⟨aV, cV, eV⟩ := wowns_shape hoa
  have HSZ := hid (frame_size (fieldsP bs 6 (oS bs 6 (A4, 0, 0)).2).1 va HTL.out)
  have HON := hid (fcells_one (fieldsP bs 6 (oS bs 6 (A4, 0, 0)).2).1 va (by rw [eV]; rfl))
  have HOS := hid (show (fcells (kF 6) nS).toArray.size = (fcells (fieldsP bs 6 (oS bs 6 (A4, 0, 0)).2).1 va).length by rw [fcells_length _ _ HTL.out]; rfl)
  obtain ⟨FF, HFF⟩ : ∃ L, Hid (fcells (fieldsP bs 6 (oS bs 6 (A4, 0, 0)).2).1 va = L) := ⟨_, rfl⟩
  rw [HFF.out] at HSZ HON HOS ⊢
  have HFV : Hid (∀ k, v.ownBlock = some k → k < fb) := hid (fun k hk => by have := HVO.out k hk; omega)
  clear hoa hf9 hg9 HF8 HR1 HR2 HB8 HFd HKb y4 eV
  go_upto_region 9 with (refine st_row (by rfl) 29 _ _ (by rfl) fb FF (by rfl) (by rfl) 29 _ HFe.out HSZ.out HOS.out HON.out ?_; intro w10 hw10)
  have HF10 := hid (HF9.out.far hw10.grown (by have := HLf0.out; omega) (by have := HLf0.out; have := HLrb.out; omega) (fun k hk => by have := HFV.out k hk; omega))
  have HR1g := hid (gb_keep hw10.grown HR1f.out (by have := HLf0.out; have := HLb.out; omega))
  have HR2g := hid (gb_keep hw10.grown HR2f.out (by have := HLf0.out; have := HLb.out; omega))
  have HKd := hid (gb_keep hw10.grown HKc.out (by have := HLk.out; omega))
  have HB10 := hid (Below.of_gb HB9.out hw10.grown (by have := HLf0.out; have := HLb.out; have := HAA.out; omega))
  have HFf := hid hw10.blk
  have HOA2 := hid (WOwnS.far HOA.out hw10.grown (fun j e => by injection e with e; have := HLk.out; have := HLk8.out; omega))
  have HS10 : Hid (w8.heap.size ≤ w10.heap.size) := hid (by have := hw10.size; have := HS9.out; omega)
  clear hw10 HF9 HR1f HR2f HKc HB9 HFe HOA HOS HS9
  go_wp2_with fail
  refine (fd_end w0.heap.size b rb v bs _ w10 HF10.out).mono ?_
  rintro e w11 ⟨rfl, hg11⟩
  have HR1h := hid (hg11.keep HR1g.out (by have := HLb.out; omega) (by have := HLr.out; omega))
  have HR2h := hid (hg11.keep HR2g.out (by have := HLb.out; omega) (by have := HLr.out; omega))
  have HB11 := hid (hg11.below HB10.out (by have := HLb.out; have := HAA.out; omega) (by have := HLr.out; have := HAA.out; omega))
  have HFg := hid (hg11.keep HFf.out (by have := HLf0.out; omega) (by have := HLf0.out; have := HLrb.out; omega))
  have HKe := hid (hg11.keep HKd.out (by have := HLk.out; have := HLf0.out; omega) (by have := HLk.out; have := HLf0.out; have := HLrb.out; omega))
  have HOA3 := hid (wowns_g2 HOA2.out hg11 HLb8.out HLr8.out)
  have HS11 : Hid (w8.heap.size ≤ w11.heap.size) := hid (by have := hg11.size; have := HS10.out; omega)
  obtain ⟨E1, HE1⟩ : ∃ x, Hid ((eS bs (fieldsP bs 6 (oS bs 6 (A4, 0, 0)).2).2).1 = x) := ⟨_, rfl⟩
  obtain ⟨E2, HE2⟩ : ∃ x, Hid ((eS bs (fieldsP bs 6 (oS bs 6 (A4, 0, 0)).2).2).2 = x) := ⟨_, rfl⟩
  rw [HE1.out, HE2.out]
  clear hg11 HF10 HR1g HR2g HB10 HFf HKd HOA2 HS10
  go_upto_region 10 with fail
  have HWT := hid (below_walk w11 (.cells #[.int .i64 E1, .int .i64 E2] 47))
  have HR1i := hid (bel_keep HWT.out HR1h.out)
  have HR2i := hid (bel_keep HWT.out HR2h.out)
  have HB12 := hid (below_then HB11.out HWT.out)
  have HFh := hid (bel_keep HWT.out HFg.out)
  have HKf := hid (bel_keep HWT.out HKe.out)
  have HOA4 := hid (HOA3.out.alloc (.cells #[.int .i64 E1, .int .i64 E2] 47))
  have HTB0 := hid (hp_new w11 (.cells #[.int .i64 E1, .int .i64 E2] 47))
  have HLt0 : Hid (kb < w11.heap.size) := hid (hp_lt HKe.out)
  obtain ⟨tb, HTBe⟩ : ∃ b, Hid (w11.heap.size = b) := ⟨_, rfl⟩
  rw [HTBe.out] at HTB0 HLt0 ⊢
  generalize w11.alloc (.cells #[.int .i64 E1, .int .i64 E2] 47) = w12 at HR1i HR2i HB12 HFh HKf HOA4 HTB0 ⊢
  have HLt : Hid (A + 2 ≤ tb) := hid (by have := HLt0.out; have := HLk.out; have := HLf0.out; have := HLb.out; omega)
  have HL8t : Hid (w8.heap.size ≤ tb) := hid (by have := HS11.out; have := HTBe.out; omega)
  clear HR1h HR2h HB11 HFg HKe HOA3 HWT HTBe HS11
  have t0 : w12.cell? ⟨tb, 0, none⟩ = some (.int .i64 E1) := by simp [World.cell?, HTB0.out]
  have t1 : w12.cell? ⟨tb, 1, none⟩ = some (.int .i64 E2) := by simp [World.cell?, HTB0.out]
  have f0 := row_fz HTB0.out 0
  have f1 := row_fz HTB0.out 1
  by_cases hE : E1 = 0
  · obtain ⟨M, HM⟩ : ∃ M, Hid (mayF (fieldsP bs 6 (oS bs 6 (A4, 0, 0)).2).1 = M) := ⟨_, rfl⟩
    have HST := hid (wowns_strs HOA4.out)
    have HMN : Hid ((fieldsP bs 6 (oS bs 6 (A4, 0, 0)).2).1.args.length ≤ 9223372036854775807) := hid (wowns_len HOA4.out)
    have HMAY := hid (show Calls Try.prog 86 #[.agg FF.toArray] w12 fun e w' => e = .returned (.bool M) ∧ Below w12.heap.size w12 w' by
      rw [← HM.out, mayF_6 _ (fieldsP_kind bs 6 (oS bs 6 (A4, 0, 0)).2 (by omega)), ← HFF.out]
      exact mayAlways_any _ w12)
    subst hE
    have y2 : w12.cell? ⟨kb, 2, none⟩ = some (.func (.func 86) #[] #[]) := by rw [cell_of_row w12 kb 2 _ _ _ HKf.out]; rfl
    have HRG := hid (range_row HFh.out)
    clear HST HMN
    go_wp2_with (refine ld_gd (by rfl) 29 (.tmp 6) (by rfl) fb 0 (by rfl) FF _ HRG.out Try.underlying29 rfl HSZ.out ?_)
    refine HMAY.out.mono ?_
    rintro e w13 ⟨rfl, hb13⟩
    have HR1z := hid (bel_keep hb13 HR1i.out)
    have HR2z := hid (bel_keep hb13 HR2i.out)
    have HBz := hid (below_then HB12.out hb13)
    have HFz := hid (bel_keep hb13 HFh.out)
    have HTBz := hid (bel_keep hb13 HTB0.out)
    have HOAz := hid (WOwnS.far HOA4.out (below_gb hb13 none) (fun j e => by cases e))
    clear hb13 HR1i HR2i HB12 HFh HTB0 HKf HOA4 HMAY HRG y2 t0 t1 f0 f1
    have t0 : w13.cell? ⟨tb, 0, none⟩ = some (.int .i64 0) := by simp [World.cell?, HTBz.out]
    have t1 : w13.cell? ⟨tb, 1, none⟩ = some (.int .i64 E2) := by simp [World.cell?, HTBz.out]
    have f0 := row_fz HTBz.out 0
    have f1 := row_fz HTBz.out 1
    cases M with
    | true =>
      as_aux_lemma =>
        have HFP := hid (frameP_ok bs A4 6 HK.out (by omega) HE1.out HM.out)
        go_wp2_with (first
          | (refine ld_row (by rfl) 29 (.tmp 6) (by rfl) fb (by rfl) FF 29 HFz.out _ Try.underlying29 rfl HSZ.out ?_)
          | (refine bd_row (by rfl) 47 #[] (by rfl) _ (by simp [Act.eval]) _ built_fz ?_)
          | (refine st_row (by rfl) 29 _ _ (by rfl) A FF (by rfl) (by rfl) 29 _ HR1z.out HSZ.out (by rw [← HFF.out, fcells_length _ _ HTL.out]; rfl) HON.out ?_; intro w14 hw14)
          | (refine st_row (by rfl) 47 _ _ (by rfl) (A + 1) [Value.int .i64 0, .int .i64 0] (by rfl) (by rfl) 47 _ (gb_keep hw14.grown HR2z.out (by omega)) faultSize rfl (fault_one _ _) ?_; intro w15 hw15))
        refine ret_cc 2 3 29 47 rfl A rfl (A + 1) rfl FF 29 (gb_keep hw15.grown hw14.blk (by omega)) _ Try.underlying29 rfl HSZ.out _ 47 hw15.blk _ Try.underlying47 rfl faultSize rfl ?_
        rw [HFP.out]
        refine ⟨va, by rw [← HFF.out]; rfl, ?_, Below.of_gb (Below.of_gb HBz.out hw14.grown (by have := HAA.out; omega)) hw15.grown (by have := HAA.out; omega)⟩
        exact (WOwnS.far (WOwnS.far HOAz.out hw14.grown (fun j e => by injection e with e; have := HLk8.out; have := HLk.out; have := HLf0.out; have := HLb.out; omega)) hw15.grown (fun j e => by injection e with e; have := HLk8.out; have := HLk.out; have := HLf0.out; have := HLb.out; omega)).le (by have := HLk8.out; have := HLk.out; have := HLf0.out; have := HLb.out; have := HAA.out; omega)
    | false =>
      as_aux_lemma =>
        have HFP := hid (frameP_may bs A4 6 HK.out (by omega) HE1.out HM.out)
        go_upto_region 12 with (first
          | (refine bd_row (by rfl) 47 #[(0, .const (.int .i64 70)), (1, .tmp 55)] (by rfl) _ (by simp [Act.eval]) _ (built_ft 70 (A4 : Int)) ?_)
          | (refine st_row (by rfl) 47 _ _ (by rfl) tb [Value.int .i64 70, .int .i64 (A4 : Int)] (by rfl) (by rfl) 47 _ HTBz.out faultSize rfl (fault_one _ _) ?_; intro w14 hw14))
        have HTB := hid hw14.blk
        have HR1y := hid (gb_keep hw14.grown HR1z.out (by have := HLt.out; omega))
        have HR2y := hid (gb_keep hw14.grown HR2z.out (by have := HLt.out; omega))
        have HBy := hid (Below.of_gb HBz.out hw14.grown (by have := HLt.out; have := HAA.out; omega))
        clear hw14 HR1z HR2z HBz t0 t1 f0 f1
        have HR1z := hid HR1y.out
        have HR2z := hid HR2y.out
        have HBz := hid HBy.out
        have t0 : w14.cell? ⟨tb, 0, none⟩ = some (.int .i64 70) := by simp [World.cell?, HTB.out]
        go_upto_region 13 with fail
        have HTBc := hid HTB.out
        refine wp_noPanic (wp_region_held_drew (S := fun W => W.heap[tb]? = some (.cells [Value.int .i64 70, .int .i64 (A4 : Int)].toArray 47 (0, 0))) (by kernel_rfl) HTBc.out ?_)
        intro hHeld
        refine wpAnyH_take (i := 0) (v := .agg (fcells zF nS).toArray) rfl (by kernel_rfl) (by kernel_rfl) (by kernel_rfl) (fun _ _ _ h => h) (yields_build (by rfl) 29 #[] (by rfl) _ (by simp [Act.eval]) _ built_zf) hHeld ?_
        simp only [Act.put, List.getElem_toArray, List.getElem_cons_zero, List.setIfInBounds_toArray, List.set_cons_succ, List.set_cons_zero]
        refine wpAnyH_take (i := 1) (v := .agg [Value.int .i64 70, .int .i64 (A4 : Int)].toArray) rfl (by kernel_rfl) (by kernel_rfl) (by kernel_rfl) (fun _ _ _ h => h) (yieldsIf_load_mid (by rfl) 47 (.tmp 9) rfl tb 0 rfl [Value.int .i64 70, .int .i64 (A4 : Int)] _ (fun W hW => range_row hW) Try.underlying47 rfl faultSize) hHeld ?_
        simp only [Act.put, List.getElem_toArray, List.getElem_cons_zero, List.getElem_cons_succ, List.setIfInBounds_toArray, List.set_cons_succ, List.set_cons_zero]
        obtain ⟨wx, HWX⟩ : ∃ x, Hid (w14.drew = x) := ⟨_, rfl⟩
        have HR1x := hid (show w14.drew.heap[A]? = _ from HR1z.out)
        have HR2x := hid (show w14.drew.heap[A + 1]? = _ from HR2z.out)
        have HTBx := hid (show w14.drew.heap[tb]? = some (.cells [Value.int .i64 70, .int .i64 (A4 : Int)].toArray 47 (0, 0)) from HTB.out)
        have HBx := hid (show Below w.heap.size w w14.drew from below_tr HBz.out ⟨rfl, rfl, rfl, Nat.le_refl _, fun _ _ => rfl⟩)
        rw [HWX.out] at hHeld HR1x HR2x HTBx HBx ⊢
        refine wpAnyH_ready (rs := [2]) (by kernel_rfl) (by simp) ?_
        refine AllReadyH.cons rfl (fun K9 hK9 => ?_) AllReadyH.nil
        refine step_store_row (by rfl) 29 _ _ (by rfl) A (fcells zF nS) (by rfl) (by rfl) 29 _ HR1x.out (frame_size zF nS rfl) rfl (fcells_one zF nS rfl) ?_
        intro wy hwy
        refine hK9.out _ _ (gb_keep hwy.grown HTBx.out (by have := HLt.out; omega)) (fun hHeld => ?_)
        clear hK9 K9
        try simp only [Act.put, List.getElem_toArray, List.getElem_cons_zero, List.getElem_cons_succ]
        refine wpAnyH_ready (rs := [3]) (by kernel_rfl) (by simp) ?_
        refine AllReadyH.cons rfl (fun K9 hK9 => ?_) AllReadyH.nil
        refine step_store_row (by rfl) 47 _ _ (by rfl) (A + 1) [Value.int .i64 70, .int .i64 (A4 : Int)] (by rfl) (by rfl) 47 _ (gb_keep hwy.grown HR2x.out (by omega)) faultSize rfl (fault_one _ _) ?_
        intro wz hwz
        refine hK9.out _ _ (gb_keep hwz.grown (gb_keep hwy.grown HTBx.out (by have := HLt.out; omega)) (by have := HLt.out; omega)) (fun hHeld => ?_)
        clear hK9 K9
        try simp only [Act.put, List.getElem_toArray, List.getElem_cons_zero, List.getElem_cons_succ]
        refine wpAnyH_done (by kernel_rfl) ?_ _
        simp only [noPanic]
        clear hHeld
        go_wp2
        refine ret_cc 2 3 29 47 rfl A rfl (A + 1) rfl (fcells zF nS) 29 (gb_keep hwz.grown hwy.blk (by omega)) _ Try.underlying29 rfl (frame_size zF nS rfl) _ 47 hwz.blk _ Try.underlying47 rfl faultSize rfl ?_
        rw [HFP.out]
        refine ⟨nS, rfl, World.ownsRow_nil _ _ _ _, ?_⟩
        exact Below.of_gb (Below.of_gb HBx.out hwy.grown (by have := HAA.out; omega)) hwz.grown (by have := HAA.out; omega)

  · as_aux_lemma =>
      have q1 : (E1 == 0) = false := by simpa using hE
      have q2 : (E1 != 0) = true := by simpa using hE
      have HFP := hid (show frameP bs A4 = (zF, E1, E2) by
        rw [frameP_bad bs A4 6 HK.out (by omega) (show (eS bs (fieldsP bs 6 (oS bs 6 (A4, 0, 0)).2).2).1 ≠ 0 by rw [HE1.out]; exact hE), ← HE1.out, ← HE2.out]; rfl)
      have HR1z := hid HR1i.out
      have HR2z := hid HR2i.out
      have HBz := hid HB12.out
      have HTB := hid (show w12.heap[tb]? = some (.cells [Value.int .i64 E1, .int .i64 E2].toArray 47 (0, 0)) from HTB0.out)
      clear hE
      go_upto_region 13 with fail
      have HTBc := hid HTB.out
      refine wp_noPanic (wp_region_held_drew (S := fun W => W.heap[tb]? = some (.cells [Value.int .i64 E1, .int .i64 E2].toArray 47 (0, 0))) (by kernel_rfl) HTBc.out ?_)
      intro hHeld
      refine wpAnyH_take (i := 0) (v := .agg (fcells zF nS).toArray) rfl (by kernel_rfl) (by kernel_rfl) (by kernel_rfl) (fun _ _ _ h => h) (yields_build (by rfl) 29 #[] (by rfl) _ (by simp [Act.eval]) _ built_zf) hHeld ?_
      simp only [Act.put, List.getElem_toArray, List.getElem_cons_zero, List.setIfInBounds_toArray, List.set_cons_succ, List.set_cons_zero]
      refine wpAnyH_take (i := 1) (v := .agg [Value.int .i64 E1, .int .i64 E2].toArray) rfl (by kernel_rfl) (by kernel_rfl) (by kernel_rfl) (fun _ _ _ h => h) (yieldsIf_load_mid (by rfl) 47 (.tmp 9) rfl tb 0 rfl [Value.int .i64 E1, .int .i64 E2] _ (fun W hW => range_row hW) Try.underlying47 rfl faultSize) hHeld ?_
      simp only [Act.put, List.getElem_toArray, List.getElem_cons_zero, List.getElem_cons_succ, List.setIfInBounds_toArray, List.set_cons_succ, List.set_cons_zero]
      obtain ⟨wx, HWX⟩ : ∃ x, Hid (w12.drew = x) := ⟨_, rfl⟩
      have HR1x := hid (show w12.drew.heap[A]? = _ from HR1z.out)
      have HR2x := hid (show w12.drew.heap[A + 1]? = _ from HR2z.out)
      have HTBx := hid (show w12.drew.heap[tb]? = some (.cells [Value.int .i64 E1, .int .i64 E2].toArray 47 (0, 0)) from HTB.out)
      have HBx := hid (show Below w.heap.size w w12.drew from below_tr HBz.out ⟨rfl, rfl, rfl, Nat.le_refl _, fun _ _ => rfl⟩)
      rw [HWX.out] at hHeld HR1x HR2x HTBx HBx ⊢
      refine wpAnyH_ready (rs := [2]) (by kernel_rfl) (by simp) ?_
      refine AllReadyH.cons rfl (fun K9 hK9 => ?_) AllReadyH.nil
      refine step_store_row (by rfl) 29 _ _ (by rfl) A (fcells zF nS) (by rfl) (by rfl) 29 _ HR1x.out (frame_size zF nS rfl) rfl (fcells_one zF nS rfl) ?_
      intro wy hwy
      refine hK9.out _ _ (gb_keep hwy.grown HTBx.out (by have := HLt.out; omega)) (fun hHeld => ?_)
      clear hK9 K9
      try simp only [Act.put, List.getElem_toArray, List.getElem_cons_zero, List.getElem_cons_succ]
      refine wpAnyH_ready (rs := [3]) (by kernel_rfl) (by simp) ?_
      refine AllReadyH.cons rfl (fun K9 hK9 => ?_) AllReadyH.nil
      refine step_store_row (by rfl) 47 _ _ (by rfl) (A + 1) [Value.int .i64 E1, .int .i64 E2] (by rfl) (by rfl) 47 _ (gb_keep hwy.grown HR2x.out (by omega)) faultSize rfl (fault_one _ _) ?_
      intro wz hwz
      refine hK9.out _ _ (gb_keep hwz.grown (gb_keep hwy.grown HTBx.out (by have := HLt.out; omega)) (by have := HLt.out; omega)) (fun hHeld => ?_)
      clear hK9 K9
      try simp only [Act.put, List.getElem_toArray, List.getElem_cons_zero, List.getElem_cons_succ]
      refine wpAnyH_done (by kernel_rfl) ?_ _
      simp only [noPanic]
      clear hHeld
      go_wp2
      refine ret_cc 2 3 29 47 rfl A rfl (A + 1) rfl (fcells zF nS) 29 (gb_keep hwz.grown hwy.blk (by omega)) _ Try.underlying29 rfl (frame_size zF nS rfl) _ 47 hwz.blk _ Try.underlying47 rfl faultSize rfl ?_
      rw [HFP.out]
      refine ⟨nS, rfl, World.ownsRow_nil _ _ _ _, ?_⟩
      exact Below.of_gb (Below.of_gb HBx.out hwy.grown (by have := HAA.out; omega)) hwz.grown (by have := HAA.out; omega)

end Go.Proofs.Ytjinkahlfigdcaa

/- Need: the program's and the document's. -/
namespace Go.Proofs.Ytjinkahlfigdcaa
open Go.RowKit Go.BigFrame

theorem fault_why (why wat : Int) (W : World) : (Instr.field 47 (.agg #[.int .i64 why, .int .i64 wat]) 0).run Try.prog W = .ok (.int .i64 why) W := by kernel_rfl

set_option maxRecDepth 100000 in
set_option maxHeartbeats 4000000 in
theorem need_any (v : Value) (bs : List UInt8) (w : World) (hs : Src w v bs) :
    Calls Try.prog 19 #[v] w fun e w' => e = .returned (.tuple #[.int .i64 (needP bs).1, .int .i64 (needP bs).2.2]) ∧ Below w.heap.size w w' := by
  obtain ⟨vx, hx, cut⟩ := cut_at hs (min bs.length 10) (Nat.min_le_left _ _)
  have hsl := hs.1
  obtain ⟨av, cv, rfl⟩ := src_shape hs
  have HN := hid (newReader_any vx _ w hx)
  have hd := dec_head bs
  obtain ⟨E, N, K, hdec⟩ : ∃ E N K, dec bs 0 0 = (E, N, K) := ⟨_, _, _, rfl⟩
  rw [hdec] at hd
  have HU : Hid (uintF (bs.take (min bs.length 10)) 0 0 0 = (N, K, (E : Int), watOf E 0 0)) := hid (by unfold uintF; rw [if_neg (by simp), List.drop_zero, hd]; simp)
  have HLE := hid (dec_le bs hdec)
  have HTEN : Hid (K ≤ 10) := hid (by have := (dec_le _ hd).1; rw [List.length_take] at this; omega)
  have HP : Hid (needP bs = if E = 4 then (0, 0, 0) else if E ≠ 0 then (0, 0, E) else if 2097152 < N then (0, 0, 3) else if N = 0 then (0, 0, 70) else (K + N + 4, K, 0)) := hid (by unfold needP; rw [hdec])
  have hfw := fault_why
  clear hdec hd hs hx
  generalize bs.take (min bs.length 10) = X at *
  obtain ⟨M, HM⟩ : ∃ M : Nat, Hid (min bs.length 10 = M) := ⟨_, rfl⟩
  rw [HM.out] at cut
  have hm : min (bs.length : Int) 10 = (M : Int) := by have := HM.out; omega
  go_enter Try.func19, Try.ntmps19
  go_wp2_with fail
  refine HN.out.mono ?_
  rintro e w1 ⟨b, v1, rfl, hr1, hb1⟩
  have HB1 := hid hb1
  have HUI := hid (uint_R (h := hr1))
  rw [HU.out] at HUI
  clear hr1 hb1 HN cut hm
  go_wp2_with fail
  refine HUI.out.mono ?_
  rintro e w2 ⟨rfl, hr2, hg2⟩
  have HR2 := hid hr2
  have HB2 := hid (Below.of_gb HB1.out hg2 hr2.lo)
  have HFA := hid (rfault_any (h := hr2))
  clear hr2 hg2 HUI HB1
  go_wp2_with fail
  refine HFA.out.mono ?_
  rintro e w3 ⟨rfl, hb3⟩
  have HR3 := hid (HR2.out.below hb3)
  have HB3 := hid (below_then HB2.out hb3)
  clear hb3 HR2 HB2 HFA
  by_cases h4 : E = 4
  · have HV := hid (show needP bs = (0, 0, 0) by rw [HP.out, if_pos h4])
    have q1 : ((E : Int) == 4) = true := by simp [h4]
    have q2 : (E : Int) = 4 := by omega
    clear h4
    go_wp2
    go_ret2
    rw [HV.out]
    exact ⟨rfl, HB3.out⟩
  · have q1 : ((E : Int) == 4) = false := by simp; omega
    have q2 : ¬ (E : Int) = 4 := by omega
    by_cases h0 : E = 0
    · have q3 : ((E : Int) != 0) = false := by simp [h0]
      have q4 : (E : Int) = 0 := by omega
      by_cases hN : 2097152 < N
      · have HV := hid (show needP bs = (0, 0, 3) by rw [HP.out, if_neg h4, if_neg (by simpa using h0), if_pos hN])
        have q5 : (2097152 : Int) < (N : Int) := by omega
        have q6 : decide ((2097152 : Int) < (N : Int)) = true := by simpa using q5
        clear h4 h0 hN
        go_wp2
        go_ret2
        rw [HV.out]
        exact ⟨rfl, HB3.out⟩
      · have q5 : ¬ (2097152 : Int) < (N : Int) := by omega
        have q6 : decide ((2097152 : Int) < (N : Int)) = false := by simpa using q5
        by_cases hz : N = 0
        · have HV := hid (show needP bs = (0, 0, 70) by rw [HP.out, if_neg h4, if_neg (by simpa using h0), if_neg hN, if_pos hz])
          have q7 : ((N : Int) == 0) = true := by simp [hz]
          have q8 : (N : Int) = 0 := by omega
          clear h4 h0 hN hz
          go_wp2
          go_ret2
          rw [HV.out]
          exact ⟨rfl, HB3.out⟩
        · have HV := hid (show needP bs = (K + N + 4, K, 0) by rw [HP.out, if_neg h4, if_neg (by simpa using h0), if_neg hN, if_neg hz])
          have q7 : ((N : Int) == 0) = false := by simp; omega
          have q8 : ¬ (N : Int) = 0 := by omega
          have HAT := hid (rat_any (h := HR3.out))
          have w1 : IntKind.i64.wrap (N : Int) = (N : Int) := by rw [IntKind.wrap_i64]; omega
          have w2 : IntKind.i64.wrap ((K : Int) + (N : Int)) = (K : Int) + (N : Int) := by rw [IntKind.wrap_i64]; have := HTEN.out; omega
          have w4 : IntKind.i64.wrap ((K : Int) + (N : Int) + 4) = (K : Int) + (N : Int) + 4 := by rw [IntKind.wrap_i64]; have := HTEN.out; omega
          clear h4 h0 hN hz
          go_wp2_with fail
          refine HAT.out.mono ?_
          rintro e w5 ⟨rfl, hw5⟩
          subst hw5
          go_wp2
          go_ret2
          rw [HV.out]
          exact ⟨by simp, HB3.out⟩
    · have HV := hid (show needP bs = (0, 0, E) by rw [HP.out, if_neg h4, if_pos h0])
      have q3 : ((E : Int) != 0) = true := by simp; omega
      have q4 : ¬ (E : Int) = 0 := by omega
      clear h4 h0
      go_wp2
      go_ret2
      rw [HV.out]
      exact ⟨rfl, HB3.out⟩

end Go.Proofs.Ytjinkahlfigdcaa

/- Decode of the program. -/
namespace Go.Proofs.Ytjinkahlfigdcaa
open Go.RowKit Go.BigFrame

/-- what is wrong with bytes ahead of their fields -/
def unsE (b : List UInt8) : Int × Int :=
  if (needP b).2.2 ≠ 0 then (((needP b).2.2 : Int), 0)
  else if (needP b).1 = 0 ∨ b.length < (needP b).1 then (4, (b.length : Int))
  else if (needP b).1 < b.length then (6, ((needP b).1 : Int))
  else if cokP b = true then (0, 0) else (71, ((needP b).1 : Int) - 4)
theorem decP_uns (b : List UInt8) : decP b = if (unsE b).1 ≠ 0 then (zF, unsE b) else frameP (b.take (b.length - 4)) (needP b).2.1 := by
  unfold decP unsE
  by_cases h1 : (needP b).2.2 ≠ 0
  · rw [if_pos h1, if_pos h1, if_pos (by show (((needP b).2.2 : Nat) : Int) ≠ 0; omega)]
  · rw [if_neg h1, if_neg h1]
    by_cases h2 : (needP b).1 = 0 ∨ b.length < (needP b).1
    · rw [if_pos h2, if_pos h2, if_pos (by show (4 : Int) ≠ 0; decide)]
    · rw [if_neg h2, if_neg h2]
      by_cases h3 : (needP b).1 < b.length
      · rw [if_pos h3, if_pos h3, if_pos (by show (6 : Int) ≠ 0; decide)]
      · rw [if_neg h3, if_neg h3]
        by_cases h4 : cokP b = true
        · rw [if_pos h4, if_pos h4, if_neg (by show ¬ (0 : Int) ≠ 0; decide)]
        · rw [if_neg h4, if_neg h4, if_pos (by show (71 : Int) ≠ 0; decide)]
theorem need_ok {b : List UInt8} (h2 : (needP b).2.2 = 0) (h1 : (needP b).1 ≠ 0) : ∃ N, dec b 0 0 = (0, N, (needP b).2.1) ∧ 1 ≤ N ∧ N ≤ 2097152 ∧ (needP b).1 = (needP b).2.1 + N + 4 := by
  obtain ⟨E, N, K, hd⟩ : ∃ E N K, dec b 0 0 = (E, N, K) := ⟨_, _, _, rfl⟩
  have hp : needP b = if E = 4 then (0, 0, 0) else if E ≠ 0 then (0, 0, E) else if 2097152 < N then (0, 0, 3) else if N = 0 then (0, 0, 70) else (K + N + 4, K, 0) := by unfold needP; rw [hd]
  rw [hp] at h1 h2 ⊢
  by_cases e4 : E = 4
  · rw [if_pos e4] at h1
    exact absurd rfl h1
  · rw [if_neg e4] at h1 h2 ⊢
    by_cases e0 : E ≠ 0
    · rw [if_pos e0] at h2
      exact absurd h2 e0
    · rw [if_neg e0] at h1 h2 ⊢
      by_cases hN : 2097152 < N
      · rw [if_pos hN] at h2
        exact absurd h2 (by decide)
      · rw [if_neg hN] at h1 h2 ⊢
        by_cases hz : N = 0
        · rw [if_pos hz] at h2
          exact absurd h2 (by decide)
        · rw [if_neg hz]
          have : E = 0 := by omega
          subst this
          exact ⟨N, hd, by omega, by omega, rfl⟩
/-- the length that stands ahead is read again -/
theorem inner_head {b : List UInt8} (h2 : (needP b).2.2 = 0) (h1 : (needP b).1 ≠ 0) (hl : b.length = (needP b).1) : ∃ N, uS (b.take (b.length - 4)) (0, 0, 0) = (N, (needP b).2.1, 0, 0) := by
  obtain ⟨N, hd, hN1, hN2, hn⟩ := need_ok h2 h1
  obtain ⟨hk0, hk1, hk2, hk3⟩ := dec_ok hd
  refine ⟨N, ?_⟩
  have e : b.take (b.length - 4) = sn N ++ (b.drop (needP b).2.1).take N := by
    rw [← hk3]
    rw [show b.length - 4 = (needP b).2.1 + N by omega, List.take_add]
  have hd2 : dec (b.take (b.length - 4)) 0 0 = (0, N, (needP b).2.1) := by
    rw [e, dec_sn N _ hk2, ← dec_ok_len hd]
  unfold uS uintF
  rw [if_neg (by simp), List.drop_zero, hd2]
  simp [watOf]
theorem uns_ok {b : List UInt8} (h : (unsE b).1 = 0) : (needP b).2.2 = 0 ∧ (needP b).1 ≠ 0 ∧ b.length = (needP b).1 ∧ cokP b = true ∧ unsE b = (0, 0) := by
  unfold unsE at h ⊢
  by_cases h1 : (needP b).2.2 ≠ 0
  · rw [if_pos h1] at h
    exact absurd h (by show ¬ (((needP b).2.2 : Nat) : Int) = 0; omega)
  · rw [if_neg h1] at h ⊢
    by_cases h2 : (needP b).1 = 0 ∨ b.length < (needP b).1
    · rw [if_pos h2] at h
      exact absurd h (by show ¬ (4 : Int) = 0; decide)
    · rw [if_neg h2] at h ⊢
      by_cases h3 : (needP b).1 < b.length
      · rw [if_pos h3] at h
        exact absurd h (by show ¬ (6 : Int) = 0; decide)
      · rw [if_neg h3] at h ⊢
        by_cases h4 : cokP b = true
        · rw [if_pos h4]
          exact ⟨by omega, by omega, by omega, h4, rfl⟩
        · rw [if_neg h4] at h
          exact absurd h (by show ¬ (71 : Int) = 0; decide)
theorem results_tc {fn : Func} {p q : Tmp} {ty : TypeId} (h : fn.results = #[.tmp p, .cell q ty]) (tmps : Array Value) (P : Program) (w : World) :
    (results fn tmps).run P w = ((asAddr (tmps.getD q undef)).run P w).andThen fun a w₁ => ((loadVar ty a).run P w₁).andThen fun v w₂ => .ok (.tuple #[tmps.getD p undef, v]) w₂ := by
  simp only [results, h]
  simp [Sem.run_bind, Result.andThen]
theorem ret_tc {P : Program} {fn : Func} {R : Ending → World → Prop} {a : Act} {w : World} (p q : Tmp) (ty : TypeId) (h : fn.results = #[.tmp p, .cell q ty]) (v : Value) (hv : a.tmps.getD p undef = v) (g : Nat) (hp : a.tmps.getD q undef = .pointer (some ⟨g, 0, none⟩))
    (cs : List Value) (t : TypeId) (hb : w.heap[g]? = some (.cells cs.toArray t (0, 0))) (d : TypeDesc) (hu : P.underlying ty = some d) (hd : d.isRow = true) (hi : (P.info? ty).map (·.size) = some cs.length)
    (hdf : a.defers = []) (hR : R (.returned (.tuple #[v, .agg cs.toArray])) w) : bodyPost P fn R .ret a w := by
  refine bodyPost_ret (v := .tuple #[v, .agg cs.toArray]) ?_ hdf hR
  rw [results_tc h, hp, hv]
  have := run_loadVar_mid (P := P) w g 0 ty cs d (fun j v hv => by rw [Nat.zero_add, cell_of_row w g j cs.toArray t (0, 0) hb]; simpa using hv) hu hd hi
  simp [asAddr, this]
theorem built_f1 (a : Int) : Try.prog.built 47 [(0, .int .i64 a)] = some [Value.int .i64 a, .int .i64 0].toArray := by kernel_rfl

/-- what unseal answers -/
def UnsPost (w : World) (bs : List UInt8) (e : Ending) (w' : World) : Prop :=
  (if (unsE bs).1 = 0 then ∃ v', e = .returned (.tuple #[v', .agg #[.int .i64 0, .int .i64 0]]) ∧ OwnB w' w.heap.size v' (bs.take (bs.length - 4)) else e = .returned (.tuple #[.slice none 0 0, .agg #[.int .i64 (unsE bs).1, .int .i64 (unsE bs).2]])) ∧ Below w.heap.size w w'
theorem UnsPost.bad {w w' : World} {bs : List UInt8} {E1 E2 : Int} (h : unsE bs = (E1, E2)) (h0 : E1 ≠ 0) (hb : Below w.heap.size w w') : UnsPost w bs (.returned (.tuple #[.slice none 0 0, .agg #[.int .i64 E1, .int .i64 E2]])) w' := by
  unfold UnsPost
  rw [h, if_neg h0]
  exact ⟨rfl, hb⟩
theorem UnsPost.good {w w' : World} {bs : List UInt8} {v' : Value} (h : unsE bs = (0, 0)) (hb : Below w.heap.size w w') (ho : OwnB w' w.heap.size v' (bs.take (bs.length - 4))) : UnsPost w bs (.returned (.tuple #[v', .agg #[.int .i64 0, .int .i64 0]])) w' := by
  unfold UnsPost
  rw [h, if_pos rfl]
  exact ⟨⟨v', rfl, ho⟩, hb⟩

set_option maxRecDepth 100000 in
set_option maxHeartbeats 4000000 in
theorem unseal_any (v : Value) (bs : List UInt8) (w : World) (hs : Src w v bs) :
    Calls Try.prog 31 #[v] w (UnsPost w bs) := by
  obtain ⟨av, cv, rfl⟩ := src_shape hs
  obtain ⟨A, HAA⟩ : ∃ n, Hid (w.heap.size = n) := ⟨_, rfl⟩
  have HB0 := hid (below_walk w (.cells #[.int .i64 0, .int .i64 0] 47))
  have HN0 := hid (hp_new w (.cells #[.int .i64 0, .int .i64 0] 47))
  have HS0 := hid (hs.below HB0.out)
  have HNE := hid (need_any _ bs _ HS0.out)
  have hsl := hs.1
  obtain ⟨n, Hn⟩ : ∃ n, Hid ((needP bs).1 = n) := ⟨_, rfl⟩
  obtain ⟨er, Her⟩ : ∃ n, Hid ((needP bs).2.2 = n) := ⟨_, rfl⟩
  have HUE : Hid (unsE bs = if er ≠ 0 then ((er : Int), 0) else if n = 0 ∨ bs.length < n then (4, (bs.length : Int)) else if n < bs.length then (6, (n : Int)) else if cokP bs = true then (0, 0) else (71, (n : Int) - 4)) := hid (by unfold unsE; rw [Hn.out, Her.out])
  rw [Hn.out, Her.out] at HNE
  have Hn4 : Hid (n ≠ 0 → 4 ≤ n ∧ n ≤ 3000000) := hid (by
    intro h0
    by_cases h9 : er = 0
    · obtain ⟨N, hd, hN1, hN2, hn⟩ := need_ok (b := bs) (by rw [Her.out]; exact h9) (by rw [Hn.out]; exact h0)
      have := dec_ok_len hd
      have h8 := sn_length_le N
      rw [Hn.out] at hn
      omega
    · exfalso
      apply h0
      rw [← Hn.out]
      unfold needP at Her ⊢
      have h7 := Her.out
      repeat' split
      all_goals first | rfl | skip
      rename_i g1 g2 g3 g4
      rw [if_neg g1, if_neg g2, if_neg g3, if_neg g4] at h7
      exact absurd h7.symm h9)
  obtain ⟨L, HL⟩ : ∃ n, Hid (bs.length = n) := ⟨_, rfl⟩
  rw [HL.out] at hsl HUE HNE
  clear hs
  go_enter Try.func31, Try.ntmps31
  go_upto_region 1 with fail
  generalize w.alloc (.cells #[.int .i64 0, .int .i64 0] 47) = w0 at HB0 HN0 HS0 HNE ⊢
  rw [HAA.out] at HN0 ⊢
  rw [HL.out]
  go_wp2_with fail
  refine HNE.out.mono ?_
  rintro e w1 ⟨rfl, hb1⟩
  have HN1 := hid (bel_keep hb1 HN0.out)
  have HS1 := hid (HS0.out.below hb1)
  have HB1 := hid (below_then HB0.out hb1)
  clear hb1 HN0 HS0 HB0 HNE
  by_cases h1 : er ≠ 0
  · as_aux_lemma =>
      have q1 : ((er : Int) != 0) = true := by simp; omega
      have q2 : ((er : Int) == 0) = false := by simp; omega
      have q3 : ¬ (er : Int) = 0 := by omega
      rw [if_pos h1] at HUE
      clear h1
      go_wp2_with (first
        | (refine bd_row (by rfl) 47 #[(0, .tmp 15)] (by rfl) _ (by simp [Act.eval]) _ (built_f1 _) ?_)
        | (refine st_row (by rfl) 47 _ _ (by rfl) A [Value.int .i64 (er : Int), .int .i64 0] (by rfl) (by rfl) 47 _ HN1.out faultSize rfl (fault_one _ _) ?_; intro w2 hw2))
      exact ret_tc 2 3 47 rfl _ rfl A rfl _ 47 hw2.blk _ Try.underlying47 rfl faultSize rfl (UnsPost.bad HUE.out q3 (Below.of_gb HB1.out hw2.grown (by have := HAA.out; omega)))
  · obtain rfl : er = 0 := by omega
    rw [if_neg h1] at HUE
    clear h1
    by_cases h2 : n = 0 ∨ L < n
    · as_aux_lemma =>
        rw [if_pos h2] at HUE
        by_cases h3 : n = 0
        · subst h3
          clear h2
          go_wp2_with (first
            | (refine bd_row (by rfl) 47 #[(0, .const (.int .i64 4)), (1, .tmp 27)] (by rfl) _ (by simp [Act.eval]) _ (built_ft _ _) ?_)
            | (refine st_row (by rfl) 47 _ _ (by rfl) A [Value.int .i64 4, .int .i64 (L : Int)] (by rfl) (by rfl) 47 _ HN1.out faultSize rfl (fault_one _ _) ?_; intro w2 hw2))
          exact ret_tc 2 3 47 rfl _ rfl A rfl _ 47 hw2.blk _ Try.underlying47 rfl faultSize rfl (UnsPost.bad HUE.out (by decide) (Below.of_gb HB1.out hw2.grown (by have := HAA.out; omega)))
        · have q1 : ((n : Int) == 0) = false := by simp; omega
          have q2 : ¬ (n : Int) = 0 := by omega
          have q3 : (L : Int) < (n : Int) := by omega
          have q4 : decide ((L : Int) < (n : Int)) = true := decide_eq_true q3
          clear h2 h3
          go_wp2_with (first
            | (refine bd_row (by rfl) 47 #[(0, .const (.int .i64 4)), (1, .tmp 27)] (by rfl) _ (by simp [Act.eval]) _ (built_ft _ _) ?_)
            | (refine st_row (by rfl) 47 _ _ (by rfl) A [Value.int .i64 4, .int .i64 (L : Int)] (by rfl) (by rfl) 47 _ HN1.out faultSize rfl (fault_one _ _) ?_; intro w2 hw2))
          exact ret_tc 2 3 47 rfl _ rfl A rfl _ 47 hw2.blk _ Try.underlying47 rfl faultSize rfl (UnsPost.bad HUE.out (by decide) (Below.of_gb HB1.out hw2.grown (by have := HAA.out; omega)))
    · rw [if_neg h2] at HUE
      have h3 : n ≠ 0 := fun h => h2 (Or.inl h)
      have h4 : ¬ L < n := fun h => h2 (Or.inr h)
      have h5 := Hn4.out h3
      have q1 : ((n : Int) == 0) = false := by simp; omega
      have q2 : ¬ (n : Int) = 0 := by omega
      have q3 : ¬ (L : Int) < (n : Int) := by omega
      have q4 : decide ((L : Int) < (n : Int)) = false := decide_eq_false q3
      clear h2 h3
      by_cases h6 : n < L
      · as_aux_lemma =>
          rw [if_pos h6] at HUE
          have q5 : (n : Int) < (L : Int) := by omega
          have q6 : decide ((n : Int) < (L : Int)) = true := decide_eq_true q5
          clear h4 h5 h6
          go_wp2_with (first
            | (refine bd_row (by rfl) 47 #[(0, .const (.int .i64 6)), (1, .tmp 34)] (by rfl) _ (by simp [Act.eval]) _ (built_ft _ _) ?_)
            | (refine st_row (by rfl) 47 _ _ (by rfl) A [Value.int .i64 6, .int .i64 (n : Int)] (by rfl) (by rfl) 47 _ HN1.out faultSize rfl (fault_one _ _) ?_; intro w2 hw2))
          exact ret_tc 2 3 47 rfl _ rfl A rfl _ 47 hw2.blk _ Try.underlying47 rfl faultSize rfl (UnsPost.bad HUE.out (by decide) (Below.of_gb HB1.out hw2.grown (by have := HAA.out; omega)))
      · rw [if_neg h6] at HUE
        have q5 : ¬ (n : Int) < (L : Int) := by omega
        have q6 : decide ((n : Int) < (L : Int)) = false := decide_eq_false q5
        have HOP := hid (open_any w1 _ bs HS1.out (by rw [HL.out]; omega))
        rw [HL.out] at HOP
        have HW4 := hid (show IntKind.i64.wrap ((n : Int) - 4) = (n : Int) - 4 by rw [IntKind.wrap_i64]; omega)
        obtain ⟨D, HD⟩ : ∃ d : Int, Hid ((n : Int) - 4 = d) := ⟨_, rfl⟩
        rw [HD.out] at HW4 HUE
        have wD : IntKind.i64.wrap ((n : Int) - 4) = D := HW4.out ▸ (by rw [HD.out])
        clear h4 h5 h6
        go_wp2_with fail
        refine HOP.out.mono ?_
        rintro e w2 ⟨he, hb2⟩
        have HN2 := hid (bel_keep hb2 HN1.out)
        have HB2 := hid (below_then HB1.out hb2)
        by_cases hc : cokP bs = true
        · as_aux_lemma =>
            rw [if_pos hc] at HUE
            rw [if_pos hc] at he
            obtain ⟨v', rfl, ho⟩ := he
            have HO := hid (ho.le HB1.out.size)
            obtain ⟨ao, no, co, eo⟩ := src_named (ho.src (by rw [List.length_take]; have := HL.out; omega))
            subst eo
            have HON2 : Hid ((Value.slice ao no co).ownBlock = none ∨ (Value.slice ao no co).ownBlock ≠ some A) := hid (by
              cases hv : (Value.slice ao no co).ownBlock with
              | none => exact Or.inl rfl
              | some k => exact Or.inr (fun e => by injection e with e; have h9 := (ho.lt k hv).1; have h8 := hp_lt HN1.out; omega))
            clear hc ho hb2
            go_wp2_with (first
              | (refine bd_row (by rfl) 47 #[] (by rfl) _ (by simp) _ built_fz ?_)
              | (refine st_row (by rfl) 47 _ _ (by rfl) A [Value.int .i64 0, .int .i64 0] (by rfl) (by rfl) 47 _ HN2.out faultSize rfl (fault_one _ _) ?_; intro w3 hw3))
            refine ret_tc 2 3 47 rfl _ rfl A rfl _ 47 hw3.blk _ Try.underlying47 rfl faultSize rfl (UnsPost.good HUE.out (Below.of_gb HB2.out hw3.grown (by have := HAA.out; omega)) ?_)
            exact OwnB.kept HO.out hw3.grown (HON2.out)
        · as_aux_lemma =>
            rw [if_neg hc] at HUE
            rw [if_neg hc] at he
            subst he
            clear hc hb2
            go_wp2_with (first
              | (refine bd_row (by rfl) 47 #[(0, .tmp 43), (1, .tmp 45)] (by rfl) _ (by simp [Act.eval]) _ (built_ft _ _) ?_)
              | (refine st_row (by rfl) 47 _ _ (by rfl) A [Value.int .i64 71, .int .i64 D] (by rfl) (by rfl) 47 _ HN2.out faultSize rfl (fault_one _ _) ?_; intro w3 hw3))
            exact ret_tc 2 3 47 rfl _ rfl A rfl _ 47 hw3.blk _ Try.underlying47 rfl faultSize rfl (UnsPost.bad HUE.out (by decide) (Below.of_gb HB2.out hw3.grown (by have := HAA.out; omega)))

theorem readFrame_any (v0 : Value) (bs : List UInt8) (head N : Nat) (w : World) (hs : Src w v0 bs) (hbl : bs.length ≤ 1099511627776) (hu : uS bs (0, 0, 0) = (N, head, 0, 0)) :
    Calls Try.prog 32 #[v0] w fun e w' => ∃ va, e = .returned (.tuple #[.agg (fcells (frameP bs head).1 va).toArray, .agg #[.int .i64 (frameP bs head).2.1, .int .i64 (frameP bs head).2.2]]) ∧ WOwnS w' w.heap.size va (frameP bs head).1.args ∧ Below w.heap.size w w' := by
  have h := oS_le bs 6 (head, 0, 0) (by omega)
  have hc : (oS bs 6 (head, 0, 0)).1 = 0 ∨ (oS bs 6 (head, 0, 0)).1 = 1 ∨ (oS bs 6 (head, 0, 0)).1 = 2 ∨ (oS bs 6 (head, 0, 0)).1 = 3 ∨ (oS bs 6 (head, 0, 0)).1 = 4 ∨ (oS bs 6 (head, 0, 0)).1 = 5 ∨ (oS bs 6 (head, 0, 0)).1 = 6 := by omega
  rcases hc with k | k | k | k | k | k | k
  · exact readFrame_0 v0 bs head N w hs hbl hu k
  · exact readFrame_1 v0 bs head N w hs hbl hu k
  · exact readFrame_2 v0 bs head N w hs hbl hu k
  · exact readFrame_3 v0 bs head N w hs hbl hu k
  · exact readFrame_4 v0 bs head N w hs hbl hu k
  · exact readFrame_5 v0 bs head N w hs hbl hu k
  · exact readFrame_6 v0 bs head N w hs hbl hu k

set_option maxRecDepth 100000 in
set_option maxHeartbeats 4000000 in
theorem decode_any (v0 : Value) (bs : List UInt8) (w : World) (hs : Src w v0 bs) :
    Calls Try.prog 17 #[v0] w fun e w' => ∃ va, e = .returned (.tuple #[.agg (fcells (decP bs).1 va).toArray, .agg #[.int .i64 (decP bs).2.1, .int .i64 (decP bs).2.2]]) ∧ WOwnS w' w.heap.size va (decP bs).1.args ∧ Below w.heap.size w w' := by
  obtain ⟨av, cv, rfl⟩ := src_shape hs
  obtain ⟨A, HAA⟩ : ∃ n, Hid (w.heap.size = n) := ⟨_, rfl⟩
  have HB0 := hid (below_walk2 w (.cells (fcells zF nS).toArray 29) (.cells #[.int .i64 0, .int .i64 0] 47))
  have HNB := hid (hp_two w (.cells (fcells zF nS).toArray 29) (.cells #[.int .i64 0, .int .i64 0] 47))
  have HZ : Hid ((w.alloc (.cells (fcells zF nS).toArray 29)).heap.size = w.heap.size + 1) := hid (by simp)
  have HZ2 : Hid (((w.alloc (.cells (fcells zF nS).toArray 29)).alloc (.cells #[.int .i64 0, .int .i64 0] 47)).heap.size = w.heap.size + 2) := hid (by simp)
  have HUN := hid (unseal_any _ bs _ (hs.below HB0.out))
  have HDU := hid (decP_uns bs)
  have hsl := hs.1
  obtain ⟨L, HL⟩ : ∃ n, Hid (bs.length = n) := ⟨_, rfl⟩
  clear hs
  go_enter Try.func17, Try.ntmps17
  go_upto_region 1 with (refine al_row (by rfl) 29 (by rfl) _ zeroFrame ?_)
  try rw [HZ.out]
  generalize (w.alloc (.cells (fcells zF nS).toArray 29)).alloc (.cells #[.int .i64 0, .int .i64 0] 47) = w0 at HB0 HNB HZ2 HUN ⊢
  rw [HAA.out] at HNB HZ2 ⊢
  have HR1a := hid HNB.out.1
  have HR2a := hid HNB.out.2
  clear HNB HZ
  go_wp2_with fail
  refine HUN.out.mono ?_
  rintro e w1 ⟨he, hb1⟩
  have HR1b := hid (bel_keep hb1 HR1a.out)
  have HR2b := hid (bel_keep hb1 HR2a.out)
  have HB1 := hid (below_then HB0.out hb1)
  have HLt1 : Hid (A + 2 ≤ w1.heap.size) := hid (by have := hb1.size; have := HZ2.out; omega)
  by_cases h0 : (unsE bs).1 = 0
  · as_aux_lemma =>
      rw [if_pos h0] at he
      obtain ⟨v', rfl, ho⟩ := he
      obtain ⟨u1, u2, u3, u4, u5⟩ := uns_ok h0
      obtain ⟨N, hu⟩ := inner_head u1 u2 u3
      have HDP := hid (show decP bs = frameP (bs.take (bs.length - 4)) (needP bs).2.1 by rw [HDU.out, if_neg (fun h => h h0)])
      obtain ⟨NB, hNd, hN1, hN2, hNn⟩ := need_ok u1 u2
      have hlen : bs.length ≤ 3000000 := by
        have := dec_ok_len hNd
        have h8 := sn_length_le NB
        omega
      have hs1 := ho.src (by rw [List.length_take]; omega)
      have HW1 := hid (below_walk w1 (.cells #[.int .i64 0, .int .i64 0] 47))
      have HRF := hid (readFrame_any v' _ _ N _ (hs1.below HW1.out) (by rw [List.length_take]; omega) hu)
      have HR1 := hid (bel_keep HW1.out HR1b.out)
      have HR2 := hid (bel_keep HW1.out HR2b.out)
      have HB2 := hid (below_then HB1.out HW1.out)
      obtain ⟨ao, no, co, eo⟩ := src_named hs1
      obtain ⟨P, HP⟩ : ∃ p, Hid (frameP (bs.take (bs.length - 4)) (needP bs).2.1 = p) := ⟨_, rfl⟩
      rw [HP.out] at HDP HRF
      obtain ⟨pf, p1, p2⟩ := P
      subst eo
      clear ho hs1 u1 u2 u3 u4 u5 hu hNd hN1 hN2 hNn hlen h0 HR1b HR2b HB1 HDU HUN hsl
      go_upto_region 2 with fail
      have HTB := hid (hp_new w1 (.cells #[.int .i64 0, .int .i64 0] 47))
      obtain ⟨tb, HTBe⟩ : ∃ b, Hid (w1.heap.size = b) := ⟨_, rfl⟩
      rw [HTBe.out] at HTB ⊢
      generalize w1.alloc (.cells #[.int .i64 0, .int .i64 0] 47) = w2 at HW1 HRF HR1 HR2 HB2 HTB ⊢
      have t0 : w2.cell? ⟨tb, 0, none⟩ = some (.int .i64 0) := by simp [World.cell?, HTB.out]
      go_wp2_with fail
      refine HRF.out.mono ?_
      rintro e w3 ⟨va, rfl, hoa, hb3⟩
      have HOA := hid hoa
      have HR1c := hid (bel_keep hb3 HR1.out)
      have HR2c := hid (bel_keep hb3 HR2.out)
      have HB3 := hid (below_then HB2.out hb3)
      have HL2 : Hid (A + 2 ≤ w2.heap.size) := hid (by have := hp_lt HTB.out; have := HLt1.out; have := HTBe.out; omega)
      have HTL := hid (show pf.tool.length = 32 by
        have e9 := HP.out
        unfold frameP at e9
        repeat' split at e9
        all_goals (have e8 := congrArg (fun x : Fr × Int × Int => x.1.tool.length) e9; simp only at e8; rw [← e8]; first | exact fieldsP_tool _ _ _ | rfl))
      obtain ⟨aV, cV, eV⟩ := wowns_shape hoa
      have HSZ := hid (frame_size pf va HTL.out)
      have HON := hid (fcells_one pf va (by rw [eV]; rfl))
      have HOS := hid (show (fcells zF nS).toArray.size = (fcells pf va).length by rw [fcells_length _ _ HTL.out]; rfl)
      obtain ⟨FF, HFF⟩ : ∃ L, Hid (fcells pf va = L) := ⟨_, rfl⟩
      rw [HFF.out] at HSZ HON HOS ⊢
      clear hoa hb3 HR1 HR2 HB2 t0 eV
      go_wp2_with (first
        | (refine st_row (by rfl) 29 _ _ (by rfl) A FF (by rfl) (by rfl) 29 _ HR1c.out HSZ.out HOS.out HON.out ?_; intro w4 hw4)
        | (refine st_row (by rfl) 47 _ _ (by rfl) (A + 1) [Value.int .i64 p1, .int .i64 p2] (by rfl) (by rfl) 47 _ (gb_keep hw4.grown HR2c.out (by omega)) faultSize rfl (fault_one _ _) ?_; intro w5 hw5))
      refine ret_cc 2 3 29 47 rfl A rfl (A + 1) rfl FF 29 (gb_keep hw5.grown hw4.blk (by omega)) _ Try.underlying29 rfl HSZ.out _ 47 hw5.blk _ Try.underlying47 rfl faultSize rfl ?_
      rw [HDP.out]
      refine ⟨va, by rw [← HFF.out], ?_, Below.of_gb (Below.of_gb HB3.out hw4.grown (by have := HAA.out; omega)) hw5.grown (by have := HAA.out; omega)⟩
      exact (WOwnS.far (WOwnS.far HOA.out hw4.grown (fun j e => by injection e with e; have := HL2.out; omega)) hw5.grown (fun j e => by injection e with e; have := HL2.out; omega)).le (by have := HL2.out; have := HAA.out; omega)
  · as_aux_lemma =>
      rw [if_neg h0] at he
      subst he
      obtain ⟨E1, HE1⟩ : ∃ x, Hid ((unsE bs).1 = x) := ⟨_, rfl⟩
      obtain ⟨E2, HE2⟩ : ∃ x, Hid ((unsE bs).2 = x) := ⟨_, rfl⟩
      have HDP := hid (show decP bs = (zF, E1, E2) by rw [HDU.out, if_pos h0, ← HE1.out, ← HE2.out])
      rw [HE1.out] at h0 ⊢
      rw [HE2.out]
      have q1 : (E1 != 0) = true := by simpa using h0
      have q2 : (E1 == 0) = false := by simpa using h0
      have HW1 := hid (below_walk w1 (.cells #[.int .i64 E1, .int .i64 E2] 47))
      have HR1 := hid (bel_keep HW1.out HR1b.out)
      have HR2 := hid (bel_keep HW1.out HR2b.out)
      have HB2 := hid (below_then HB1.out HW1.out)
      clear hb1 HR1a HR2a HR1b HR2b HB1 HDU HUN hsl h0
      go_upto_region 2 with fail
      have HTB := hid (show (w1.alloc (.cells #[.int .i64 E1, .int .i64 E2] 47)).heap[w1.heap.size]? = some (.cells [Value.int .i64 E1, .int .i64 E2].toArray 47 (0, 0)) from hp_new w1 _)
      obtain ⟨tb, HTBe⟩ : ∃ b, Hid (w1.heap.size = b) := ⟨_, rfl⟩
      have HLt : Hid (A + 2 ≤ tb) := hid (by have := HLt1.out; have := HTBe.out; omega)
      rw [HTBe.out] at HTB ⊢
      generalize w1.alloc (.cells #[.int .i64 E1, .int .i64 E2] 47) = w2 at HR1 HR2 HB2 HTB ⊢
      have t0 : w2.cell? ⟨tb, 0, none⟩ = some (.int .i64 E1) := by simp [World.cell?, HTB.out]
      go_upto_region 3 with fail
      have HTBc := hid HTB.out
      refine wp_noPanic (wp_region_held_drew (S := fun W => W.heap[tb]? = some (.cells [Value.int .i64 E1, .int .i64 E2].toArray 47 (0, 0))) (by kernel_rfl) HTBc.out ?_)
      intro hHeld
      refine wpAnyH_take (i := 0) (v := .agg (fcells zF nS).toArray) rfl (by kernel_rfl) (by kernel_rfl) (by kernel_rfl) (fun _ _ _ h => h) (yields_build (by rfl) 29 #[] (by rfl) _ (by simp) _ built_zf) hHeld ?_
      simp only [Act.put, List.getElem_toArray, List.getElem_cons_zero, List.setIfInBounds_toArray, List.set_cons_succ, List.set_cons_zero]
      refine wpAnyH_take (i := 1) (v := .agg [Value.int .i64 E1, .int .i64 E2].toArray) rfl (by kernel_rfl) (by kernel_rfl) (by kernel_rfl) (fun _ _ _ h => h) (yieldsIf_load_mid (by rfl) 47 (.tmp 5) rfl tb 0 rfl [Value.int .i64 E1, .int .i64 E2] _ (fun W hW => range_row hW) Try.underlying47 rfl faultSize) hHeld ?_
      simp only [Act.put, List.getElem_toArray, List.getElem_cons_zero, List.getElem_cons_succ, List.setIfInBounds_toArray, List.set_cons_succ, List.set_cons_zero]
      obtain ⟨wx, HWX⟩ : ∃ x, Hid (w2.drew = x) := ⟨_, rfl⟩
      have HR1x := hid (show w2.drew.heap[A]? = _ from HR1.out)
      have HR2x := hid (show w2.drew.heap[A + 1]? = _ from HR2.out)
      have HTBx := hid (show w2.drew.heap[tb]? = some (.cells [Value.int .i64 E1, .int .i64 E2].toArray 47 (0, 0)) from HTB.out)
      have HBx := hid (show Below w.heap.size w w2.drew from below_tr HB2.out ⟨rfl, rfl, rfl, Nat.le_refl _, fun _ _ => rfl⟩)
      rw [HWX.out] at hHeld HR1x HR2x HTBx HBx ⊢
      refine wpAnyH_ready (rs := [2]) (by kernel_rfl) (by simp) ?_
      refine AllReadyH.cons rfl (fun K9 hK9 => ?_) AllReadyH.nil
      refine step_store_row (by rfl) 29 _ _ (by rfl) A (fcells zF nS) (by rfl) (by rfl) 29 _ HR1x.out (frame_size zF nS rfl) rfl (fcells_one zF nS rfl) ?_
      intro wy hwy
      refine hK9.out _ _ (gb_keep hwy.grown HTBx.out (by have := HLt.out; omega)) (fun hHeld => ?_)
      clear hK9 K9
      try simp only [Act.put, List.getElem_toArray, List.getElem_cons_zero, List.getElem_cons_succ]
      refine wpAnyH_ready (rs := [3]) (by kernel_rfl) (by simp) ?_
      refine AllReadyH.cons rfl (fun K9 hK9 => ?_) AllReadyH.nil
      refine step_store_row (by rfl) 47 _ _ (by rfl) (A + 1) [Value.int .i64 E1, .int .i64 E2] (by rfl) (by rfl) 47 _ (gb_keep hwy.grown HR2x.out (by omega)) faultSize rfl (fault_one _ _) ?_
      intro wz hwz
      refine hK9.out _ _ (gb_keep hwz.grown (gb_keep hwy.grown HTBx.out (by have := HLt.out; omega)) (by have := HLt.out; omega)) (fun hHeld => ?_)
      clear hK9 K9
      try simp only [Act.put, List.getElem_toArray, List.getElem_cons_zero, List.getElem_cons_succ]
      refine wpAnyH_done (by kernel_rfl) ?_ _
      simp only [noPanic]
      clear hHeld
      go_wp2
      refine ret_cc 2 3 29 47 rfl A rfl (A + 1) rfl (fcells zF nS) 29 (gb_keep hwz.grown hwy.blk (by omega)) _ Try.underlying29 rfl (frame_size zF nS rfl) _ 47 hwz.blk _ Try.underlying47 rfl faultSize rfl ?_
      rw [HDP.out]
      refine ⟨nS, rfl, World.ownsRow_nil _ _ _ _, ?_⟩
      exact Below.of_gb (Below.of_gb HBx.out hwy.grown (by have := HAA.out; omega)) hwz.grown (by have := HAA.out; omega)

end Go.Proofs.Ytjinkahlfigdcaa

/- What is read is in its one form, plainly. -/
namespace Go.Proofs.Ytjinkahlfigdcaa
open Go.RowKit

theorem split_drop (bs : List UInt8) (a k : Nat) : bs.drop a = (bs.drop a).take k ++ bs.drop (a + k) := by
  rw [← List.drop_drop]
  exact (List.take_append_drop k (bs.drop a)).symm
theorem u_form (bs : List UInt8) (s : St) (h : (uS bs s).2.2.1 = 0) : s.2.1 = 0 ∧ bs.drop s.1 = sn (uS bs s).1 ++ bs.drop (uS bs s).2.1 ∧ (uS bs s).1 < 18446744073709551616 := by
  by_cases h0 : s.2.1 = 0
  · obtain ⟨E, n, k, hd⟩ : ∃ E n k, dec (bs.drop s.1) 0 0 = (E, n, k) := ⟨_, _, _, rfl⟩
    have e : uS bs s = (n, s.1 + k, (E : Int), watOf E s.1 s.2.2) := by unfold uS uintF; rw [if_neg (fun h9 => h9 h0), hd]
    rw [e] at h ⊢
    have hE : E = 0 := by have : (E : Int) = 0 := h; omega
    subst hE
    obtain ⟨_, _, h3, h4⟩ := dec_ok hd
    refine ⟨h0, ?_, h3⟩
    show bs.drop s.1 = sn n ++ bs.drop (s.1 + k)
    rw [← h4]
    exact split_drop bs s.1 k
  · rw [over_u bs s h0] at h
    exact absurd h h0
theorem c_form (bs : List UInt8) (m : Int) (s : St) (hm : 0 ≤ m) (h : (cS bs m s).2.2.1 = 0) : s.2.1 = 0 ∧ bs.drop s.1 = sn (cS bs m s).1 ++ bs.drop (cS bs m s).2.1 := by
  by_cases h0 : s.2.1 = 0
  · obtain ⟨E, n, k, hd⟩ : ∃ E n k, upTo (bs.drop s.1) m.toNat 11 = (E, n, k) := ⟨_, _, _, rfl⟩
    have e : cS bs m s = (n, s.1 + k, (E : Int), watOf E s.1 s.2.2) := by unfold cS countF; rw [if_neg (fun h9 => h9 h0), if_neg (by omega), hd]
    rw [e] at h ⊢
    have hE : E = 0 := by have : (E : Int) = 0 := h; omega
    subst hE
    obtain ⟨_, _, h3, h4⟩ := dec_ok (upTo_ok (by decide) hd).1
    refine ⟨h0, ?_⟩
    show bs.drop s.1 = sn n ++ bs.drop (s.1 + k)
    rw [← h4]
    exact split_drop bs s.1 k
  · rw [over_c bs m s h0] at h
    exact absurd h h0
theorem o_form (bs : List UInt8) (m : Int) (s : St) (hm : 0 ≤ m) (h : (oS bs m s).2.2.1 = 0) : s.2.1 = 0 ∧ bs.drop s.1 = sn (oS bs m s).1 ++ bs.drop (oS bs m s).2.1 ∧ 1 ≤ (oS bs m s).1 := by
  have h1 : (oS bs m s).1 ≠ 0 := fun h2 => oS_zero bs m s h2 h
  have e : oS bs m s = cS bs m s := by
    unfold oS at h1 ⊢
    split
    · rename_i h2
      rw [if_pos h2] at h1
      exact absurd rfl h1
    · rfl
  rw [e] at h h1 ⊢
  obtain ⟨a, b⟩ := c_form bs m s hm h
  exact ⟨a, b, by omega⟩
theorem t_form (bs : List UInt8) (m : Int) (s : St) (hm : 0 ≤ m) (h : (tS bs m s).2.2.1 = 0) : s.2.1 = 0 ∧ bs.drop s.1 = tx (mk (tS bs m s).1) ++ bs.drop (tS bs m s).2.1 := by
  by_cases h0 : s.2.1 = 0
  · obtain ⟨E, n, k, hd⟩ : ∃ E n k, wtxt (bs.drop s.1) m.toNat = (E, n, k) := ⟨_, _, _, rfl⟩
    have e : tS bs m s = (n, s.1 + k, (E : Int), watOf E s.1 s.2.2) := by unfold tS textF; rw [if_neg (fun h9 => h9 h0), if_neg (by omega), hd]
    rw [e] at h ⊢
    have hE : E = 0 := by have : (E : Int) = 0 := h; omega
    subst hE
    obtain ⟨h1, _⟩ := txt_ok hd
    refine ⟨h0, ?_⟩
    show bs.drop s.1 = tx (mk n) ++ bs.drop (s.1 + k)
    rw [tx_mk, ← h1]
    exact split_drop bs s.1 k
  · rw [over_t bs m s h0] at h
    exact absurd h h0
theorem l_form (bs : List UInt8) (m n : Int) (s : St) (hm : 0 ≤ m) (hn : 0 ≤ n) (h : (lS bs m n s).2.2.1 = 0) : s.2.1 = 0 ∧ bs.drop s.1 = ls ((lS bs m n s).1.map mk) ++ bs.drop (lS bs m n s).2.1 := by
  by_cases h0 : s.2.1 = 0
  · obtain ⟨E, ts, k, hd⟩ : ∃ E n9 k, lst (bs.drop s.1) m.toNat n.toNat = (E, n9, k) := ⟨_, _, _, rfl⟩
    by_cases hE : E = 0
    · subst hE
      have e1 : (lS bs m n s).1 = ts ∧ (lS bs m n s).2.1 = s.1 + k := by
        unfold lS listF
        rw [if_neg (fun h9 => h9 h0), if_neg (by omega), hd, if_neg (fun h9 => h9 rfl)]
        exact ⟨rfl, rfl⟩
      rw [e1.1, e1.2]
      obtain ⟨h1, _⟩ := lst_ok hd
      refine ⟨h0, ?_⟩
      rw [← h1]
      exact split_drop bs s.1 k
    · exfalso
      unfold lS listF at h
      rw [if_neg (fun h9 => h9 h0), if_neg (by omega), hd, if_pos hE] at h
      have : (E : Int) = 0 := h
      omega
  · rw [over_l bs m n s h0] at h
    exact absurd h h0
theorem r_form (bs : List UInt8) (s : St) (h : (rS bs 32 s).2.2.1 = 0) : s.2.1 = 0 ∧ bs.drop s.1 = (rS bs 32 s).1 ++ bs.drop (rS bs 32 s).2.1 ∧ (rS bs 32 s).1.length = 32 := by
  by_cases h0 : s.2.1 = 0
  · by_cases hl : bs.length - s.1 < 32
    · exfalso
      unfold rS rawF at h
      rw [if_neg (fun h9 => h9 h0), if_neg (by omega), if_pos (show bs.length - s.1 < (32 : Int).toNat from hl)] at h
      exact absurd h (by show ¬ (4 : Int) = 0; decide)
    · have e : rS bs 32 s = ((bs.drop s.1).take 32, s.1 + 32, 0, s.2.2) := by unfold rS rawF; rw [if_neg (fun h9 => h9 h0), if_neg (by omega), if_neg (show ¬ bs.length - s.1 < (32 : Int).toNat from hl)]; rfl
      rw [e]
      refine ⟨h0, split_drop bs s.1 32, ?_⟩
      rw [List.length_take, List.length_drop]
      omega
  · rw [over_r bs 32 s h0] at h
    exact absurd h h0
theorem e_form (bs : List UInt8) (s : St) (h : (eS bs s).1 = 0) : s.2.1 = 0 ∧ bs.drop s.1 = [] := by
  unfold eS at h
  by_cases h0 : s.2.1 = 0
  · rw [if_neg (fun h9 => h9 h0)] at h
    by_cases h1 : s.1 < bs.length
    · rw [if_pos h1] at h
      exact absurd h (by show ¬ (6 : Int) = 0; decide)
    · exact ⟨h0, List.drop_eq_nil_iff.2 (by omega)⟩
  · rw [if_pos h0] at h
    exact absurd h h0
theorem cast_nat (n : Nat) : ((n : Int)).toNat = n := by omega

/-- fields that were read stand there in their one form -/
theorem form_fields (bs : List UInt8) (K : Nat) (s : St) (hK : 1 ≤ K ∧ K ≤ 6) (he : (eS bs (fieldsP bs (K : Int) s).2).1 = 0) : s.2.1 = 0 ∧ bs.drop s.1 = layP (fieldsP bs (K : Int) s).1 := by
  obtain ⟨e1, e2⟩ := e_form bs _ he
  have hc : K = 1 ∨ K = 2 ∨ K = 3 ∨ K = 4 ∨ K = 5 ∨ K = 6 := by omega
  rcases hc with rfl | rfl | rfl | rfl | rfl | rfl
  · rw [show ((1 : Nat) : Int) = 1 from rfl, fieldsP_1] at e1 e2 ⊢
    obtain ⟨a1, a2, a3⟩ := r_form bs _ e1
    obtain ⟨b1, b2, _⟩ := o_form bs 64 _ (by omega) a1
    obtain ⟨c1, c2, _⟩ := o_form bs 1 _ (by omega) b1
    refine ⟨c1, ?_⟩
    rw [lay_1 _ rfl, sns_two]
    show bs.drop s.1 = sn ((((oS bs 1 s).1 : Nat) : Int)).toNat ++ sn ((((oS bs 64 (oS bs 1 s).2).1 : Nat) : Int)).toNat ++ pad32 (rS bs 32 (oS bs 64 (oS bs 1 s).2).2).1
    rw [cast_nat, cast_nat, c2, b2, a2, e2, List.append_nil]
    unfold pad32
    rw [if_pos a3, List.append_assoc]
  · rw [show ((2 : Nat) : Int) = 2 from rfl, fieldsP_2] at e1 e2 ⊢
    obtain ⟨a1, a2⟩ := t_form bs 2097152 _ (by omega) e1
    obtain ⟨b1, b2⟩ := l_form bs 8 4096 _ (by omega) (by omega) a1
    obtain ⟨c1, c2⟩ := c_form bs 2147483648 _ (by omega) b1
    obtain ⟨d1, d2⟩ := c_form bs 2147483648 _ (by omega) c1
    obtain ⟨f1, f2⟩ := c_form bs 2147483648 _ (by omega) d1
    obtain ⟨g1, g2, _⟩ := u_form bs _ f1
    refine ⟨g1, ?_⟩
    rw [lay_2 _ rfl]
    unfold layReqP
    rw [sns_thr]
    simp only [reqF, cast_nat]
    rw [g2, f2, d2, c2, b2, a2, e2, List.append_nil]
    simp only [List.append_assoc]
  · rw [show ((3 : Nat) : Int) = 3 from rfl, fieldsP_3] at e1 e2 ⊢
    obtain ⟨a1, a2⟩ := t_form bs 2097152 _ (by omega) e1
    obtain ⟨b1, b2, _⟩ := o_form bs 3 _ (by omega) a1
    obtain ⟨g1, g2, _⟩ := u_form bs _ b1
    refine ⟨g1, ?_⟩
    rw [lay_3 _ rfl, sns_one]
    simp only [resF, cast_nat]
    rw [g2, b2, a2, e2, List.append_nil]
  · rw [show ((4 : Nat) : Int) = 4 from rfl, fieldsP_4] at e1 e2 ⊢
    obtain ⟨g1, g2, _⟩ := u_form bs _ e1
    refine ⟨g1, ?_⟩
    rw [lay_4 _ rfl]
    simp only [canF, cast_nat]
    rw [g2, e2, List.append_nil]
  · rw [show ((5 : Nat) : Int) = 5 from rfl, fieldsP_5] at e1 e2 ⊢
    exact ⟨e1, by rw [lay_5 _ rfl]; exact e2⟩
  · rw [show ((6 : Nat) : Int) = 6 from rfl, fieldsP_6] at e1 e2 ⊢
    obtain ⟨a1, a2⟩ := t_form bs 2097152 _ (by omega) e1
    refine ⟨a1, ?_⟩
    rw [lay_6 _ rfl]
    simp only [noteF]
    rw [a2, e2, List.append_nil]
theorem fields_own (bs : List UInt8) (K : Nat) (s : St) (hK : 1 ≤ K ∧ K ≤ 6) : sameP (fieldsP bs (K : Int) s).1 (ownF (fieldsP bs (K : Int) s).1) = true := by
  have hc : K = 1 ∨ K = 2 ∨ K = 3 ∨ K = 4 ∨ K = 5 ∨ K = 6 := by omega
  have key : ∀ f : Fr, ownF f = f → sameP f (ownF f) = true := fun f h => by rw [h]; exact sameP_self f
  apply key
  rcases hc with rfl | rfl | rfl | rfl | rfl | rfl
  · rw [show ((1 : Nat) : Int) = 1 from rfl, fieldsP_1, own_1 _ rfl]
  · rw [show ((2 : Nat) : Int) = 2 from rfl, fieldsP_2, own_2 _ rfl]; rfl
  · rw [show ((3 : Nat) : Int) = 3 from rfl, fieldsP_3, own_3 _ rfl]; rfl
  · rw [show ((4 : Nat) : Int) = 4 from rfl, fieldsP_4, own_4 _ rfl]; rfl
  · rw [show ((5 : Nat) : Int) = 5 from rfl, fieldsP_5, own_5 _ rfl]
  · rw [show ((6 : Nat) : Int) = 6 from rfl, fieldsP_6, own_6 _ rfl]; rfl
/-- bytes whose fields are taken are the frame's body -/
theorem frame_form (bs : List UInt8) (head : Nat) (h : (frameP bs head).2.1 = 0) : okFr (frameP bs head).1 = true ∧ bs.drop head = bodyP (frameP bs head).1 ∧ (frameP bs head).2 = (0, 0) := by
  have hle := oS_le bs 6 (head, 0, 0) (by omega)
  by_cases h0 : (oS bs 6 (head, 0, 0)).1 = 0
  · rw [frameP_zero bs head h0] at h
    have h1 := oS_zero bs 6 _ h0
    have h2 := (e_form bs _ h).1
    exact absurd h2 h1
  · obtain ⟨K, hK⟩ : ∃ K, (oS bs 6 (head, 0, 0)).1 = K := ⟨_, rfl⟩
    rw [hK] at h0 hle
    have hK6 : 1 ≤ K ∧ K ≤ 6 := by omega
    by_cases he : (eS bs (fieldsP bs (K : Int) (oS bs 6 (head, 0, 0)).2).2).1 = 0
    · cases hm : mayF (fieldsP bs (K : Int) (oS bs 6 (head, 0, 0)).2).1 with
      | true =>
        rw [frameP_ok bs head K hK h0 he hm]
        obtain ⟨f1, f2⟩ := form_fields bs K _ hK6 he
        obtain ⟨_, g2, _⟩ := o_form bs 6 (head, 0, 0) (by omega) f1
        refine ⟨?_, ?_, rfl⟩
        · unfold okFr
          rw [fields_own bs K _ hK6, hm, fieldsP_kind bs K _ (by omega), decide_eq_true (by omega)]
          rfl
        · unfold bodyP
          rw [fieldsP_kind bs K _ (by omega), cast_nat]
          show bs.drop head = _
          have g3 : bs.drop head = sn (oS bs 6 (head, 0, 0)).1 ++ bs.drop (oS bs 6 (head, 0, 0)).2.1 := g2
          rw [g3, hK, f2]
      | false =>
        rw [frameP_may bs head K hK h0 he hm] at h
        exact absurd h (by show ¬ (70 : Int) = 0; decide)
    · rw [frameP_bad bs head K hK h0 he] at h
      exact absurd h he
/-- bytes that are taken are the one form of their frame -/
theorem dec_form (b : List UInt8) (h : (decP b).2.1 = 0) : chkE (decP b).1 = 0 ∧ encP (decP b).1 = b ∧ (decP b).2 = (0, 0) := by
  rw [decP_uns] at h ⊢
  by_cases h0 : (unsE b).1 = 0
  · rw [if_neg (fun h9 => h9 h0)] at h ⊢
    obtain ⟨u1, u2, u3, u4, u5⟩ := uns_ok h0
    obtain ⟨NB, hd, hN1, hN2, hNn⟩ := need_ok u1 u2
    obtain ⟨f1, f2, f3⟩ := frame_form _ _ h
    obtain ⟨hk0, hk1, hk2, hk3⟩ := dec_ok hd
    have e : b.take (b.length - 4) = sn NB ++ (b.drop (needP b).2.1).take NB := by
      rw [← hk3, show b.length - 4 = (needP b).2.1 + NB by omega, List.take_add]
    have hl := dec_ok_len hd
    have e2 : (b.take (b.length - 4)).drop (needP b).2.1 = (b.drop (needP b).2.1).take NB := by
      rw [e]
      exact List.drop_left' hl.symm
    rw [e2] at f2
    have e3 : (bodyP (frameP (b.take (b.length - 4)) (needP b).2.1).1).length = NB := by
      rw [← f2, List.length_take, List.length_drop]
      omega
    refine ⟨?_, ?_, f3⟩
    · unfold chkE
      rw [if_pos f1, e3, if_neg (by omega)]
    · unfold encP
      rw [e3, ← f2, ← e]
      unfold sealP
      unfold cokP at u4
      have h9 := of_decide_eq_true u4
      rw [← h9]
      exact List.take_append_drop _ b
  · rw [if_pos h0] at h
    exact absurd h h0
/-- what is refused tells no frame -/
theorem dec_none (b : List UInt8) (h : (decP b).2.1 ≠ 0) : (decP b).1 = zF := by
  rw [decP_uns] at h ⊢
  by_cases h0 : (unsE b).1 = 0
  · rw [if_neg (fun h9 => h9 h0)] at h ⊢
    unfold frameP at h ⊢
    repeat' split
    all_goals first | rfl | skip
    rename_i g1 g2 g3
    rw [if_neg g1, if_neg g2, if_pos g3] at h
    exact absurd rfl h
  · rw [if_pos h0]
/-- a frame that is told is within its types -/
theorem uS_lt (bs : List UInt8) (s : St) : (uS bs s).1 < 18446744073709551616 := uintF_lt bs s.1 s.2.1 s.2.2
theorem fields_rng (bs : List UInt8) (K : Nat) (s : St) (hK : 1 ≤ K ∧ K ≤ 6) (hl : bs.length ≤ 140737488355327) (hm : (fieldsP bs (K : Int) s).1.args.length ≤ 9223372036854775807) : Rng (fieldsP bs (K : Int) s).1 := by
  have hc : K = 1 ∨ K = 2 ∨ K = 3 ∨ K = 4 ∨ K = 5 ∨ K = 6 := by omega
  have tl := fieldsP_tool bs (K : Int) s
  have u1 := uS_lt bs s
  have tb : ∀ s' : St, (tS bs 2097152 s').1.length ≤ bs.length := fun s' => textF_len bs s'.1 s'.2.1 s'.2.2 2097152
  rcases hc with rfl | rfl | rfl | rfl | rfl | rfl
  · rw [show ((1 : Nat) : Int) = 1 from rfl, fieldsP_1] at tl hm ⊢
    have a := oS_le bs 1 s (by omega)
    have b := oS_le bs 64 (oS bs 1 s).2 (by omega)
    exact ⟨tl, by simp, by simp, by show ((oS bs 1 s).1 : Int) ≤ _; omega, by show ((oS bs 64 (oS bs 1 s).2).1 : Int) ≤ _; omega, by simp, by simp, by simp, by simp, by simp, hm⟩
  · rw [show ((2 : Nat) : Int) = 2 from rfl, fieldsP_2] at tl hm ⊢
    have a := cS_le bs 2147483648 (uS bs s).2 (by omega)
    have b := cS_le bs 2147483648 (cS bs 2147483648 (uS bs s).2).2 (by omega)
    have c := cS_le bs 2147483648 (cS bs 2147483648 (cS bs 2147483648 (uS bs s).2).2).2 (by omega)
    exact ⟨tl, by simp [reqF], by show ((uS bs s).1 : Int) ≤ _; omega, by simp [reqF], by simp [reqF], by simp [reqF], by show ((cS bs 2147483648 (uS bs s).2).1 : Int) ≤ _; omega, by show ((cS bs 2147483648 (cS bs 2147483648 (uS bs s).2).2).1 : Int) ≤ _; omega, by show ((cS bs 2147483648 (cS bs 2147483648 (cS bs 2147483648 (uS bs s).2).2).2).1 : Int) ≤ _; omega, Nat.le_trans (tb _) hl, hm⟩
  · rw [show ((3 : Nat) : Int) = 3 from rfl, fieldsP_3] at tl hm ⊢
    have a := oS_le bs 3 (uS bs s).2 (by omega)
    exact ⟨tl, by simp [resF], by show ((uS bs s).1 : Int) ≤ _; omega, by simp [resF], by simp [resF], by show ((oS bs 3 (uS bs s).2).1 : Int) ≤ _; omega, by simp [resF], by simp [resF], by simp [resF], Nat.le_trans (tb _) hl, hm⟩
  · rw [show ((4 : Nat) : Int) = 4 from rfl, fieldsP_4] at tl hm ⊢
    exact ⟨tl, by simp [canF], by show ((uS bs s).1 : Int) ≤ _; omega, by simp [canF], by simp [canF], by simp [canF], by simp [canF], by simp [canF], by simp [canF], by simp [canF], hm⟩
  · rw [show ((5 : Nat) : Int) = 5 from rfl, fieldsP_5] at tl hm ⊢
    exact ⟨tl, by simp [byeF], by simp [byeF], by simp [byeF], by simp [byeF], by simp [byeF], by simp [byeF], by simp [byeF], by simp [byeF], by simp [byeF], hm⟩
  · rw [show ((6 : Nat) : Int) = 6 from rfl, fieldsP_6] at tl hm ⊢
    exact ⟨tl, by simp [noteF], by simp [noteF], by simp [noteF], by simp [noteF], by simp [noteF], by simp [noteF], by simp [noteF], by simp [noteF], Nat.le_trans (tb _) hl, hm⟩
theorem zF_rng : Rng zF := ⟨rfl, by simp [zF], by simp [zF], by simp [zF], by simp [zF], by simp [zF], by simp [zF], by simp [zF], by simp [zF], by simp [zF], by simp [zF]⟩
theorem dec_rng (b : List UInt8) (hl : b.length ≤ 140737488355327) (hm : (decP b).1.args.length ≤ 9223372036854775807) : Rng (decP b).1 := by
  by_cases h : (decP b).2.1 = 0
  · rw [decP_uns] at h hm ⊢
    by_cases h0 : (unsE b).1 = 0
    · rw [if_neg (fun h9 => h9 h0)] at h hm ⊢
      have hle := oS_le (b.take (b.length - 4)) 6 ((needP b).2.1, 0, 0) (by omega)
      unfold frameP at h hm ⊢
      by_cases g1 : (oS (b.take (b.length - 4)) 6 ((needP b).2.1, 0, 0)).1 = 0
      · rw [if_pos g1]
        exact zF_rng
      · rw [if_neg g1] at hm ⊢
        split
        · exact zF_rng
        · rename_i g2
          rw [if_neg g2] at hm
          split
          · rename_i g3
            rw [if_pos g3] at hm
            exact fields_rng _ _ _ (by omega) (by rw [List.length_take]; omega) hm
          · exact zF_rng
    · rw [if_pos h0]
      exact zF_rng
  · rw [dec_none b h]
    exact zF_rng
end Go.Proofs.Ytjinkahlfigdcaa

/- What was written is read back, plainly. -/
namespace Go.Proofs.Ytjinkahlfigdcaa
open Go.RowKit

theorem drop_on {bs x r : List UInt8} {a : Nat} (h : bs.drop a = x ++ r) : bs.drop (a + x.length) = r := by
  rw [← List.drop_drop, h]
  exact List.drop_left' rfl
theorem u_back (bs r : List UInt8) (a n : Nat) (T : Int) (h : bs.drop a = sn n ++ r) (hn : n < 18446744073709551616) : uS bs (a, 0, T) = (n, a + (sn n).length, 0, T) := by
  unfold uS uintF
  rw [if_neg (by simp), h, dec_sn n r hn]
  simp [watOf]
theorem c_back (bs r : List UInt8) (a n : Nat) (m T : Int) (h : bs.drop a = sn n ++ r) (hm : (n : Int) ≤ m) (hn : n < 18446744073709551616) : cS bs m (a, 0, T) = (n, a + (sn n).length, 0, T) := by
  unfold cS countF
  have hu := upTo_of (most := m.toNat) (t := 11) (dec_sn n r hn) (by omega)
  rw [if_neg (by simp), if_neg (by omega), h, hu]
  simp [watOf]
theorem c_over (bs r : List UInt8) (a n : Nat) (m T : Int) (h : bs.drop a = sn n ++ r) (h0 : 0 ≤ m) (hm : m < (n : Int)) (hn : n < 18446744073709551616) : cS bs m (a, 0, T) = (0, a, 11, (a : Int)) := by
  have hu : upTo (sn n ++ r) m.toNat 11 = (11, 0, 0) := by
    unfold upTo
    rw [dec_sn n r hn]
    simp only
    rw [if_neg (by simp), if_pos (by omega)]
  unfold cS countF
  rw [if_neg (by simp), if_neg (by omega), h, hu]
  simp [watOf]
theorem o_back (bs r : List UInt8) (a n : Nat) (m T : Int) (h : bs.drop a = sn n ++ r) (h1 : 1 ≤ n) (hm : (n : Int) ≤ m) (hn : n < 18446744073709551616) : oS bs m (a, 0, T) = (n, a + (sn n).length, 0, T) := by
  unfold oS
  rw [c_back bs r a n m T h hm hn, if_neg (by simp; omega)]
theorem t_back (bs r : List UInt8) (a : Nat) (t : List UInt8) (m T : Int) (h : bs.drop a = tx (mk t) ++ r) (hm : (t.length : Int) ≤ m) (hn : t.length < 18446744073709551616) : tS bs m (a, 0, T) = (t, a + (tx (mk t)).length, 0, T) := by
  have hb := txt_back t r m.toNat hn (by omega)
  have e : tx (mk t) ++ r = sn t.length ++ (t ++ r) := by rw [tx_mk, List.append_assoc]
  unfold tS textF
  rw [if_neg (by simp), if_neg (by omega), h, e, hb, tx_mk, List.length_append]
  simp [watOf]
theorem l_back (bs r : List UInt8) (a : Nat) (ts : List (List UInt8)) (T : Int) (h : bs.drop a = ls (ts.map mk) ++ r) (hn : ts.length ≤ 8) (he : ∀ t ∈ ts, t.length ≤ 4096) : lS bs 8 4096 (a, 0, T) = (ts, a + (ls (ts.map mk)).length, 0, T) := by
  have e1 : ls (ts.map mk) ++ r = sn ts.length ++ (txs (ts.map mk) ++ r) := by unfold ls; simp
  have hu := upTo_of (most := 8) (t := 11) (dec_sn ts.length (txs (ts.map mk) ++ r) (by omega)) hn
  have hdr : (sn ts.length ++ (txs (ts.map mk) ++ r)).drop (sn ts.length).length = txs (ts.map mk) ++ r := by simp
  have hl : lst (bs.drop a) 8 4096 = (0, ts, (ls (ts.map mk)).length) := by
    rw [h]
    unfold lst
    rw [e1, hu]
    simp only
    rw [if_neg (by simp), hdr, lstR_back ts r 4096 he (by omega)]
    unfold ls
    simp
  unfold lS listF
  rw [if_neg (by simp), if_neg (by omega), show (8 : Int).toNat = 8 from rfl, show (4096 : Int).toNat = 4096 from rfl, hl]
  simp
theorem r_back (bs r : List UInt8) (a : Nat) (t : List UInt8) (T : Int) (h : bs.drop a = t ++ r) (ht : t.length = 32) : rS bs 32 (a, 0, T) = (t, a + 32, 0, T) := by
  have hl : 32 ≤ bs.length - a := by
    have := congrArg List.length h
    rw [List.length_drop, List.length_append] at this
    omega
  unfold rS rawF
  rw [if_neg (by simp), if_neg (by omega), show (32 : Int).toNat = 32 from rfl, if_neg (by omega), h, List.take_left' ht]
theorem e_back (bs : List UInt8) (a : Nat) (T : Int) (h : bs.drop a = []) : eS bs (a, 0, T) = (0, T) := by
  unfold eS
  rw [if_neg (by simp), if_neg (by have := List.drop_eq_nil_iff.1 h; show ¬ a < bs.length; omega)]
theorem eS_over (bs : List UInt8) (s : St) (h : s.2.1 ≠ 0) : eS bs s = s.2 := by
  unfold eS
  rw [if_pos h]
/-- limits that are read -/
def limOk (f : Fr) : Bool := decide (f.lim.1 ≤ 2147483648 ∧ f.lim.2.1 ≤ 2147483648 ∧ f.lim.2.2 ≤ 2147483648)
theorem nat_lt {x : Int} (h : x ≤ 9223372036854775807) : x.toNat < 18446744073709551616 := by omega

/-- the fields of a frame that may be, read back -/
theorem fields_back (bs : List UInt8) (f : Fr) (a : Nat) (hr : Rng f) (ho : okFr f = true) (hB : f.body.length ≤ 2097152) (h : bs.drop a = layP f) (hlim : limOk f = true) :
    ∃ a', fieldsP bs f.kind (a, 0, 0) = (f, a', 0, 0) ∧ bs.drop a' = [] := by
  obtain ⟨hk, hsm, hm⟩ := okFr_of ho
  have e := same_eq hsm
  have hid : f.id.toNat < 18446744073709551616 := by have := hr.idh; omega
  have eid : ((f.id.toNat : Nat) : Int) = f.id := (toNat_eq hr.idl).symm
  have hL := of_decide_eq_true hlim
  have hc : f.kind = 1 ∨ f.kind = 2 ∨ f.kind = 3 ∨ f.kind = 4 ∨ f.kind = 5 ∨ f.kind = 6 := by omega
  rcases hc with k | k | k | k | k | k
  · rw [mayF_1 f k] at hm
    have m := mayHello_of hm
    rw [lay_1 f k, sns_two, List.append_assoc] at h
    rw [own_1 f k] at e
    have o1 := o_back bs _ a f.ver.toNat 1 0 h (by omega) (by omega) (by omega)
    have h2 := drop_on h
    have o2 := o_back bs _ _ f.slots.toNat 64 0 h2 (by omega) (by omega) (by omega)
    have h3 := drop_on h2
    have r3 := r_back bs [] _ f.tool 0 (by rw [List.append_nil]; exact h3) hr.tool
    have h4 : bs.drop (a + (sn f.ver.toNat).length + (sn f.slots.toNat).length + f.tool.length) = [] := drop_on (by rw [List.append_nil]; exact h3)
    rw [hr.tool] at h4
    refine ⟨_, ?_, h4⟩
    rw [k, fieldsP_1, o1]
    dsimp only
    rw [o2]
    dsimp only
    rw [r3]
    dsimp only
    have hp : pad32 f.tool = f.tool := by unfold pad32; rw [if_pos hr.tool]
    rw [hp, show ((f.ver.toNat : Nat) : Int) = f.ver from (toNat_eq (by omega)).symm, show ((f.slots.toNat : Nat) : Int) = f.slots from (toNat_eq (by omega)).symm, ← e]
  · rw [mayF_2 f k] at hm
    have m := mayReq_of hm
    rw [lay_2 f k] at h
    unfold layReqP at h
    rw [sns_thr] at h
    simp only [List.append_assoc] at h
    rw [own_2 f k] at e
    have l1 := hr.l1
    have l2 := hr.l2
    have l3 := hr.l3
    have o1 := u_back bs _ a f.id.toNat 0 h hid
    have h2 := drop_on h
    have o2 := c_back bs _ _ f.lim.1.toNat 2147483648 0 h2 (by omega) (by omega)
    have h3 := drop_on h2
    have o3 := c_back bs _ _ f.lim.2.1.toNat 2147483648 0 h3 (by omega) (by omega)
    have h4 := drop_on h3
    have o4 := c_back bs _ _ f.lim.2.2.toNat 2147483648 0 h4 (by omega) (by omega)
    have h5 := drop_on h4
    have o5 := l_back bs _ _ f.args 0 h5 m.2.2.2.1 (long_all m.2.2.2.2)
    have h6 := drop_on h5
    have o6 := t_back bs [] _ f.body 2097152 0 (by rw [List.append_nil]; exact h6) (by omega) (by omega)
    have h7 := drop_on (x := tx (mk f.body)) (r := []) (by rw [List.append_nil]; exact h6)
    refine ⟨_, ?_, h7⟩
    rw [k, fieldsP_2, o1]
    dsimp only
    rw [o2]
    dsimp only
    rw [o3]
    dsimp only
    rw [o4]
    dsimp only
    rw [o5]
    dsimp only
    rw [o6]
    dsimp only
    rw [eid, show ((f.lim.1.toNat : Nat) : Int) = f.lim.1 from (toNat_eq (by omega)).symm, show ((f.lim.2.1.toNat : Nat) : Int) = f.lim.2.1 from (toNat_eq (by omega)).symm, show ((f.lim.2.2.toNat : Nat) : Int) = f.lim.2.2 from (toNat_eq (by omega)).symm]
    exact congrArg (fun x => (x, _)) e.symm
  · rw [mayF_3 f k] at hm
    have m := mayRes_of hm
    rw [lay_3 f k, sns_one] at h
    rw [own_3 f k] at e
    have o1 := u_back bs _ a f.id.toNat 0 h hid
    have h2 := drop_on h
    have o2 := o_back bs _ _ f.status.toNat 3 0 h2 (by omega) (by omega) (by omega)
    have h3 := drop_on h2
    have o6 := t_back bs [] _ f.body 2097152 0 (by rw [List.append_nil]; exact h3) (by omega) (by omega)
    have h7 := drop_on (x := tx (mk f.body)) (r := []) (by rw [List.append_nil]; exact h3)
    refine ⟨_, ?_, h7⟩
    rw [k, fieldsP_3, o1]
    dsimp only
    rw [o2]
    dsimp only
    rw [o6]
    dsimp only
    rw [eid, show ((f.status.toNat : Nat) : Int) = f.status from (toNat_eq (by omega)).symm]
    exact congrArg (fun x => (x, _)) e.symm
  · rw [lay_4 f k] at h
    rw [own_4 f k] at e
    have o1 := u_back bs [] a f.id.toNat 0 (by rw [List.append_nil]; exact h) hid
    have h7 := drop_on (x := sn f.id.toNat) (r := []) (by rw [List.append_nil]; exact h)
    refine ⟨_, ?_, h7⟩
    rw [k, fieldsP_4, o1]
    dsimp only
    rw [eid]
    exact congrArg (fun x => (x, _)) e.symm
  · rw [lay_5 f k] at h
    rw [own_5 f k] at e
    refine ⟨a, ?_, h⟩
    rw [k, fieldsP_5]
    exact congrArg (fun x => (x, _)) e.symm
  · rw [lay_6 f k] at h
    rw [own_6 f k] at e
    have o6 := t_back bs [] _ f.body 2097152 0 (by rw [List.append_nil]; exact h) (by omega) (by omega)
    have h7 := drop_on (x := tx (mk f.body)) (r := []) (by rw [List.append_nil]; exact h)
    refine ⟨_, ?_, h7⟩
    rw [k, fieldsP_6, o6]
    dsimp only
    exact congrArg (fun x => (x, _)) e.symm
/-- limits that are too great are told -/
theorem fields_over (bs : List UInt8) (f : Fr) (a : Nat) (hr : Rng f) (ho : okFr f = true) (h : bs.drop a = layP f) (hlim : limOk f = false) :
    (eS bs (fieldsP bs f.kind (a, 0, 0)).2).1 = 11 := by
  obtain ⟨hk, hsm, hm⟩ := okFr_of ho
  have e := same_eq hsm
  have hid : f.id.toNat < 18446744073709551616 := by have := hr.idh; omega
  have hL : ¬ (f.lim.1 ≤ 2147483648 ∧ f.lim.2.1 ≤ 2147483648 ∧ f.lim.2.2 ≤ 2147483648) := of_decide_eq_false hlim
  have hc : f.kind = 1 ∨ f.kind = 2 ∨ f.kind = 3 ∨ f.kind = 4 ∨ f.kind = 5 ∨ f.kind = 6 := by omega
  have zero : f.lim = (0, 0, 0) → False := fun h9 => hL (by rw [h9]; simp)
  rcases hc with k | k | k | k | k | k
  · rw [own_1 f k] at e
    exact absurd (congrArg Fr.lim e) zero
  · rw [mayF_2 f k] at hm
    have m := mayReq_of hm
    rw [lay_2 f k] at h
    unfold layReqP at h
    rw [sns_thr] at h
    simp only [List.append_assoc] at h
    have l1 := hr.l1
    have l2 := hr.l2
    have l3 := hr.l3
    have o1 := u_back bs _ a f.id.toNat 0 h hid
    have h2 := drop_on h
    rw [k, fieldsP_2, o1]
    dsimp only
    by_cases g1 : f.lim.1 ≤ 2147483648
    · have o2 := c_back bs _ _ f.lim.1.toNat 2147483648 0 h2 (by omega) (by omega)
      have h3 := drop_on h2
      rw [o2]
      dsimp only
      by_cases g2 : f.lim.2.1 ≤ 2147483648
      · have o3 := c_back bs _ _ f.lim.2.1.toNat 2147483648 0 h3 (by omega) (by omega)
        have h4 := drop_on h3
        rw [o3]
        dsimp only
        have o4 := c_over bs _ _ f.lim.2.2.toNat 2147483648 0 h4 (by omega) (by omega) (by omega)
        rw [o4]
        dsimp only
        rw [over_l _ _ _ _ (by show (11 : Int) ≠ 0; decide)]
        dsimp only
        rw [over_t _ _ _ (by show (11 : Int) ≠ 0; decide), eS_over _ _ (by show (11 : Int) ≠ 0; decide)]
      · have o3 := c_over bs _ _ f.lim.2.1.toNat 2147483648 0 h3 (by omega) (by omega) (by omega)
        rw [o3]
        dsimp only
        rw [over_c _ _ _ (by show (11 : Int) ≠ 0; decide)]
        dsimp only
        rw [over_l _ _ _ _ (by show (11 : Int) ≠ 0; decide)]
        dsimp only
        rw [over_t _ _ _ (by show (11 : Int) ≠ 0; decide), eS_over _ _ (by show (11 : Int) ≠ 0; decide)]
    · have o2 := c_over bs _ _ f.lim.1.toNat 2147483648 0 h2 (by omega) (by omega) (by omega)
      rw [o2]
      dsimp only
      rw [over_c _ _ _ (by show (11 : Int) ≠ 0; decide)]
      dsimp only
      rw [over_c _ _ _ (by show (11 : Int) ≠ 0; decide)]
      dsimp only
      rw [over_l _ _ _ _ (by show (11 : Int) ≠ 0; decide)]
      dsimp only
      rw [over_t _ _ _ (by show (11 : Int) ≠ 0; decide), eS_over _ _ (by show (11 : Int) ≠ 0; decide)]
  · rw [own_3 f k] at e
    exact absurd (congrArg Fr.lim e) zero
  · rw [own_4 f k] at e
    exact absurd (congrArg Fr.lim e) zero
  · rw [own_5 f k] at e
    exact absurd (congrArg Fr.lim e) zero
  · rw [own_6 f k] at e
    exact absurd (congrArg Fr.lim e) zero

/-- how many bytes a frame's bytes say that they are, whatever comes behind -/
theorem need_enc (f : Fr) (h : chkE f = 0) (r : List UInt8) : needP (encP f ++ r) = ((encP f).length, (sn (bodyP f).length).length, 0) := by
  obtain ⟨ho, hl⟩ := chk_ok h
  have hk := (okFr_of ho).1
  have hb : 1 ≤ (bodyP f).length := by unfold bodyP; rw [List.length_append]; have := sn_length_pos f.kind.toNat; omega
  have e : encP f ++ r = sn (bodyP f).length ++ (bodyP f ++ (le4 (sumP (sn (bodyP f).length ++ bodyP f)) ++ r)) := by
    unfold encP sealP
    simp only [List.append_assoc]
  have hd : dec (encP f ++ r) 0 0 = (0, (bodyP f).length, (sn (bodyP f).length).length) := by rw [e]; exact dec_sn _ _ (by omega)
  have el : (encP f).length = (sn (bodyP f).length).length + (bodyP f).length + 4 := by
    unfold encP
    rw [sealP_length, List.length_append]
  unfold needP
  rw [hd]
  simp only
  rw [if_neg (by omega), if_neg (by omega), if_neg (by omega), if_neg (by omega), el]
theorem cok_enc (x : List UInt8) : cokP (sealP x) = true := by
  unfold cokP
  refine decide_eq_true ?_
  rw [sealP_length, show x.length + 4 - 4 = x.length by omega]
  unfold sealP
  rw [List.drop_left' rfl, List.take_left' rfl]
/-- what was written is read back -/
theorem dec_enc (f : Fr) (hr : Rng f) (h : chkE f = 0) : if limOk f = true then decP (encP f) = (f, 0, 0) else (decP (encP f)).1 = zF ∧ (decP (encP f)).2.1 = 11 := by
  obtain ⟨ho, hl⟩ := chk_ok h
  have hk := (okFr_of ho).1
  have hn := need_enc f h []
  rw [List.append_nil] at hn
  have hu : unsE (encP f) = (0, 0) := by
    unfold unsE
    rw [hn]
    simp only
    have hb := sn_length_pos (bodyP f).length
    have el : (encP f).length = (sn (bodyP f).length).length + (bodyP f).length + 4 := by
      unfold encP
      rw [sealP_length, List.length_append]
    rw [if_neg (by omega), if_neg (by omega), if_neg (by omega), if_pos (show cokP (encP f) = true from cok_enc _)]
  have ei : (encP f).take ((encP f).length - 4) = sn (bodyP f).length ++ bodyP f := by
    unfold encP
    rw [sealP_length, show (sn (bodyP f).length ++ bodyP f).length + 4 - 4 = (sn (bodyP f).length ++ bodyP f).length by omega]
    unfold sealP
    exact List.take_left' rfl
  have hd : decP (encP f) = frameP (sn (bodyP f).length ++ bodyP f) (sn (bodyP f).length).length := by
    rw [decP_uns, hu, if_neg (by simp), ei, hn]
  rw [hd]
  obtain ⟨bs, hbs⟩ : ∃ bs, sn (bodyP f).length ++ bodyP f = bs := ⟨_, rfl⟩
  obtain ⟨hd0, hhd⟩ : ∃ n, (sn (bodyP f).length).length = n := ⟨_, rfl⟩
  have hdr : bs.drop hd0 = sn f.kind.toNat ++ layP f := by
    rw [← hbs, ← hhd, List.drop_left' rfl]
    rfl
  rw [hbs, hhd]
  have hkn : f.kind = ((f.kind.toNat : Nat) : Int) := toNat_eq (by omega)
  have o1 := o_back bs _ hd0 f.kind.toNat 6 0 hdr (by omega) (by omega) (by omega)
  have h2 := drop_on hdr
  have hK : (oS bs 6 (hd0, 0, 0)).1 = f.kind.toNat := by rw [o1]
  have hBl : f.body.length ≤ 2097152 := by
    rcases Nat.lt_or_ge 2097152 f.body.length with h9 | h9
    · exfalso
      have hc : (f.kind = 1 ∨ f.kind = 4 ∨ f.kind = 5) ∨ (f.kind = 2 ∨ f.kind = 3 ∨ f.kind = 6) := by omega
      rcases hc with k | k
      · rw [same_own_body (okFr_of ho).2.1 k] at h9
        simp at h9
      · have := body_le f k hl
        omega
    · exact h9
  cases hlim : limOk f with
  | true =>
    rw [if_pos rfl]
    obtain ⟨a', hf, hz⟩ := fields_back bs f _ hr ho hBl h2 hlim
    have hf2 : fieldsP bs ((f.kind.toNat : Nat) : Int) (oS bs 6 (hd0, 0, 0)).2 = (f, a', 0, 0) := by rw [o1, ← hkn]; exact hf
    rw [frameP_ok bs hd0 f.kind.toNat hK (by omega) (by rw [hf2, e_back bs a' 0 hz]) (by rw [hf2]; exact (okFr_of ho).2.2), hf2]
  | false =>
    rw [if_neg (by decide)]
    have hf := fields_over bs f _ hr ho h2 hlim
    have hf2 : (eS bs (fieldsP bs ((f.kind.toNat : Nat) : Int) (oS bs 6 (hd0, 0, 0)).2).2).1 = 11 := by rw [o1, ← hkn]; exact hf
    rw [frameP_bad bs hd0 f.kind.toNat hK (by omega) (by rw [hf2]; decide)]
    exact ⟨rfl, hf2⟩
/-- no beginning of a frame's bytes is a frame -/
theorem dec_cut (f : Fr) (h : chkE f = 0) (c : Nat) (hc : c < (encP f).length) : decP ((encP f).take c) = (zF, 4, (c : Int)) := by
  obtain ⟨ho, hl⟩ := chk_ok h
  have hn := need_enc f h []
  rw [List.append_nil] at hn
  have hlen : ((encP f).take c).length = c := by rw [List.length_take]; omega
  have hdf : dec (encP f) 0 0 = (0, (bodyP f).length, (sn (bodyP f).length).length) := by
    have e : encP f = sn (bodyP f).length ++ (bodyP f ++ le4 (sumP (sn (bodyP f).length ++ bodyP f))) := by
      unfold encP sealP
      simp only [List.append_assoc]
    rw [e]
    exact dec_sn _ _ (by omega)
  have hu : unsE ((encP f).take c) = (4, (c : Int)) := by
    rcases dec_begin (encP f) c 0 0 with hb | hb
    · have hn2 : needP ((encP f).take c) = needP (encP f) := by unfold needP; rw [hb]
      unfold unsE
      rw [hn2, hn]
      simp only
      rw [if_neg (by omega), if_pos (by right; rw [hlen]; exact hc), hlen]
    · have hn2 : needP ((encP f).take c) = (0, 0, 0) := by unfold needP; rw [hb]; rfl
      unfold unsE
      rw [hn2]
      simp only
      rw [if_neg (by omega), if_pos (by left; trivial), hlen]
  rw [decP_uns, hu, if_pos (by show (4 : Int) ≠ 0; decide)]
end Go.Proofs.Ytjinkahlfigdcaa

/- The document's only: a frame with just the fields that its kind has. -/
namespace Go.Proofs.Ytjinkahlfigdcaa
open Go.RowKit Go.BigFrame

def setAll (a : Array Value) : Nat → List Value → Array Value
  | _, [] => a
  | o, v :: r => setAll (a.setIfInBounds o v) (o + 1) r
theorem blk_cells {b : Nat} {t : TypeId} : ∀ (cs : List Value) (o : Nat) {w : World} {a : Array Value}, w.heap[b]? = some (.cells a t (0, 0)) → (w.setCells b o cs).heap[b]? = some (.cells (setAll a o cs) t (0, 0))
  | [], _, _, _, h => h
  | _ :: r, o, _, _, h => blk_cells r (o + 1) (blk_set h _)
theorem below_cells {B b : Nat} {w0 : World} (hb : B ≤ b) : ∀ (cs : List Value) (o : Nat) {w : World}, Below B w0 w → Below B w0 (w.setCells b o cs)
  | [], _, _, h => h
  | v :: r, o, _, h => below_cells hb r (o + 1) (h.setCell (p := ⟨b, o, none⟩) hb v)
theorem there_row {w : World} {b : Nat} {a : Array Value} {t : TypeId} (h : w.heap[b]? = some (.cells a t (0, 0))) (o n : Nat) (hn : o + n ≤ a.size) : w.there b o n := fun j hj => by
  refine ⟨?_, row_fz h (o + j)⟩
  rw [cell_of_row w b (o + j) a t (0, 0) h, Array.getElem?_eq_getElem (by omega)]
  rfl
theorem step_store_mid2 {P : Program} {ops : Array Oper} {o : Oper} {a : Act} {w : World} {K : Act → World → Prop} {Q : Exit → Act → World → Prop} {E : Prop} (hgd : o.guard = none) (ty : TypeId) (x y : Operand) (ho : o.op = .store ty x y)
    (b off : Nat) (cs : List Value) (hx : a.eval x = .pointer (some ⟨b, off, none⟩)) (hy : a.eval y = .agg cs.toArray) (ht : w.there b off cs.length) (hi : (P.info? ty).map (·.size) = some cs.length) (h1 : ∀ v ∈ cs, v.oneCell' = true)
    (h : K (a.put o.dst undef) (w.setCells b off cs)) : if Region.wanted o (yielded ops a.tmps) = true then Oper.wp P o a w K Q else E := by
  rw [if_pos (by simp [Region.wanted, hgd])]
  have hrun := run_storeVar_mid (P := P) w b off ty cs.toArray (by simpa using ht) (by simpa using hi) (by simpa using h1)
  unfold Oper.wp execOp
  simp only [ho, hx, hy, Instr.storeAt, Instr.sureAddr, Sem.run_bind, Sem.run_pure, Result.andThen_ok, hrun]
  exact h
theorem heq1_32 (v s : Int) (t0 t1 t2 t3 t4 t5 t6 t7 t8 t9 t10 t11 t12 t13 t14 t15 t16 t17 t18 t19 t20 t21 t22 t23 t24 t25 t26 t27 t28 t29 t30 t31 : UInt8) : setAll ((((fcells ⟨1, 0, 0, 0, List.replicate 32 0, 0, (0, 0, 0), [], []⟩ nS).toArray).setIfInBounds 2 (.int .i64 v)).setIfInBounds 3 (.int .i64 s)) 4 (bytesV [t0, t1, t2, t3, t4, t5, t6, t7, t8, t9, t10, t11, t12, t13, t14, t15, t16, t17, t18, t19, t20, t21, t22, t23, t24, t25, t26, t27, t28, t29, t30, t31]) = (fcells ⟨1, 0, v, s, [t0, t1, t2, t3, t4, t5, t6, t7, t8, t9, t10, t11, t12, t13, t14, t15, t16, t17, t18, t19, t20, t21, t22, t23, t24, t25, t26, t27, t28, t29, t30, t31], 0, (0, 0, 0), [], []⟩ nS).toArray := by kernel_rfl
theorem heq1 (v s : Int) (T : List UInt8) (h : T.length = 32) : setAll ((((fcells ⟨1, 0, 0, 0, List.replicate 32 0, 0, (0, 0, 0), [], []⟩ nS).toArray).setIfInBounds 2 (.int .i64 v)).setIfInBounds 3 (.int .i64 s)) 4 (bytesV T) = (fcells ⟨1, 0, v, s, T, 0, (0, 0, 0), [], []⟩ nS).toArray := by
  obtain ⟨t0, t1, t2, t3, t4, t5, t6, t7, t8, t9, t10, t11, t12, t13, t14, t15, t16, t17, t18, t19, t20, t21, t22, t23, t24, t25, t26, t27, t28, t29, t30, t31, rfl⟩ := list32 h
  exact heq1_32 v s t0 t1 t2 t3 t4 t5 t6 t7 t8 t9 t10 t11 t12 t13 t14 t15 t16 t17 t18 t19 t20 t21 t22 t23 t24 t25 t26 t27 t28 t29 t30 t31
theorem eq_rowFOnly1 {w : World} {g : Nat} {a b : Array Value} {t : TypeId} (h : w.heap[g]? = some (.cells a t (0, 0))) (e : a = b) : w.heap[g]? = some (.cells b t (0, 0)) := by rw [← e]; exact h

theorem built_b1 : Try.prog.built 29 [(0, .int .i64 1)] = some (fcells ⟨1, 0, 0, 0, List.replicate 32 0, 0, (0, 0, 0), [], []⟩ nS).toArray := by kernel_rfl

set_option maxRecDepth 100000 in
set_option maxHeartbeats 4000000 in
theorem only1_any (f : Fr) (va : Value) (w : World) (hk : f.kind = 1) (hf : f.tool.length = 32) (hv : ∃ ao n c, va = .slice ao n c) :
    Calls Try.prog 45 #[.agg (fcells f va).toArray] w fun e w' => e = .returned (.agg (fcells (ownF f) (ownV f va)).toArray) ∧ Below w.heap.size w w' := by
  obtain ⟨ao, nn, cc, rfl⟩ := hv
  have HNB := hid (hp_two w (.cells (fcells f (.slice ao nn cc)).toArray 29) (.cells (fcells zF nS).toArray 29))
  have HBL := hid (below_walk2 w (.cells (fcells f (.slice ao nn cc)).toArray 29) (.cells (fcells zF nS).toArray 29))
  have HZ : Hid ((w.alloc (.cells (fcells f (.slice ao nn cc)).toArray 29)).heap.size = w.heap.size + 1) := hid (by simp)
  have HOW : Hid (fcells (ownF f) (ownV f (.slice ao nn cc)) = fcells (ownF f) (ownV f (.slice ao nn cc))) := hid rfl
  have HOT := hid (ownF_tool f hf)
  have HSZ := hid (frame_size (ownF f) (ownV f (.slice ao nn cc)) HOT.out)
  have HON := hid (fcells_one (ownF f) (ownV f (.slice ao nn cc)) (by unfold ownV; split <;> rfl))
  have HOS := hid (show (fcells zF nS).toArray.size = (fcells (ownF f) (ownV f (.slice ao nn cc))).length by rw [fcells_length _ _ HOT.out]; rfl)
  have HSB := hid (frame_size ⟨1, 0, 0, 0, List.replicate 32 0, 0, (0, 0, 0), [], []⟩ nS rfl)
  have HEQ : Hid (setAll ((((fcells ⟨1, 0, 0, 0, List.replicate 32 0, 0, (0, 0, 0), [], []⟩ nS).toArray).setIfInBounds 2 (.int .i64 f.ver)).setIfInBounds 3 (.int .i64 f.slots)) 4 (bytesV f.tool) = (fcells (ownF f) (ownV f (.slice ao nn cc))).toArray) := hid (by
    unfold ownF ownV
    rw [if_pos hk, if_neg (show ¬ f.kind = 2 by omega)]
    exact heq1 f.ver f.slots f.tool hf)
  have HK := hid hk
  have HF := hid hf
  clear hk hf HOW
  go_enter Try.func45, Try.ntmps45
  go_upto_region 1 with (refine al_row (by rfl) 29 (by rfl) _ zeroFrame ?_)
  try rw [HZ.out]
  generalize (w.alloc (.cells (fcells f (.slice ao nn cc)).toArray 29)).alloc (.cells (fcells zF nS).toArray 29) = w2 at HNB HBL ⊢
  have x0 := (Fb.of HNB.out.1 HF.out).k
  rw [HK.out] at x0
  have HL2 := hid (hp_lt HNB.out.2)
  go_upto_region 2 with (first
    | (refine bd_row (by rfl) 29 #[(0, .tmp 5)] (by rfl) _ (by simp [Act.eval]) _ built_b1 ?_)
    | (refine al_row (by rfl) 29 (by rfl) _ zeroFrame ?_)
    | (refine st_new (by rfl) 29 _ _ (by rfl) (fcells ⟨1, 0, 0, 0, List.replicate 32 0, 0, (0, 0, 0), [], []⟩ nS) (by rfl) (by rfl) 29 _ HSB.out rfl (fcells_one _ nS rfl) ?_))
  have HN1 := hid ((below_walk w2 (.cells (fcells ⟨1, 0, 0, 0, List.replicate 32 0, 0, (0, 0, 0), [], []⟩ nS).toArray 29)).block _ (by have := HL2.out; omega) |>.trans HNB.out.1)
  have HN2 := hid ((below_walk w2 (.cells (fcells ⟨1, 0, 0, 0, List.replicate 32 0, 0, (0, 0, 0), [], []⟩ nS).toArray 29)).block _ HL2.out |>.trans HNB.out.2)
  have HN3 := hid (hp_new w2 (.cells (fcells ⟨1, 0, 0, 0, List.replicate 32 0, 0, (0, 0, 0), [], []⟩ nS).toArray 29))
  have HB3 := hid (below_then HBL.out (below_walk w2 (.cells (fcells ⟨1, 0, 0, 0, List.replicate 32 0, 0, (0, 0, 0), [], []⟩ nS).toArray 29)))
  have HG3 := hid (show w.heap.size + 1 < w2.heap.size from HL2.out)
  obtain ⟨B3, HE3⟩ : ∃ b : Nat, Hid (w2.heap.size = b) := ⟨_, rfl⟩
  rw [HE3.out] at HN3 HG3 ⊢
  generalize w2.alloc (.cells (fcells ⟨1, 0, 0, 0, List.replicate 32 0, 0, (0, 0, 0), [], []⟩ nS).toArray 29) = w3 at HN1 HN2 HN3 HB3 ⊢
  clear x0 HNB HBL HL2
  have HFB := hid (Fb.of HN1.out HF.out)
  have HFC := hid (Fb.of HN3.out (show (⟨1, 0, 0, 0, List.replicate 32 0, 0, (0, 0, 0), [], []⟩ : Fr).tool.length = 32 from rfl))
  have x1 := HFB.out.k
  rw [HK.out] at x1
  have HYv := hid HFB.out.v
  have HYs := hid HFB.out.s
  have HYt := hid HFB.out.t
  have HTS := hid (tool_size f.tool HF.out)
  have ne1 : ¬ w.heap.size = B3 := by have := HG3.out; omega
  have ne2 : ¬ B3 = w.heap.size := by have := HG3.out; omega
  go_upto_region 4 with fail
  have HLB := hid (show w.heap.size < B3 by have := HG3.out; omega)
  refine wp_noPanic (wp_region_held_drew (S := fun W => Below B3 w3 W) (by kernel_rfl) ⟨rfl, rfl, rfl, Nat.le_refl _, fun _ _ => rfl⟩ ?_)
  intro hHeld
  refine wpAnyH_take (i := 0) (v := .pointer (some ⟨w.heap.size, 2, none⟩)) rfl (by kernel_rfl) (by kernel_rfl) (by kernel_rfl) (fun _ _ _ h => h) (Or.inl ⟨by rfl, fun W _ => by go_simp⟩) hHeld ?_
  simp only [Act.put, List.getElem_toArray, List.getElem_cons_zero, List.setIfInBounds_toArray, List.set_cons_succ, List.set_cons_zero]
  refine wpAnyH_take (i := 1) (v := .int .i64 f.ver) rfl (by kernel_rfl) (by kernel_rfl) (by kernel_rfl) (fun _ _ _ h => h) (Or.inl ⟨by rfl, fun W hW => by have hcell2 := (hW.cell (p := ⟨w.heap.size, 2, none⟩) HLB.out).trans HYv.out; clear hW; go_simp⟩) hHeld ?_
  simp only [Act.put, List.getElem_toArray, List.getElem_cons_zero, List.getElem_cons_succ, List.setIfInBounds_toArray, List.set_cons_succ, List.set_cons_zero]
  refine wpAnyH_take (i := 2) (v := .pointer (some ⟨w.heap.size, 3, none⟩)) rfl (by kernel_rfl) (by kernel_rfl) (by kernel_rfl) (fun _ _ _ h => h) (Or.inl ⟨by rfl, fun W _ => by go_simp⟩) hHeld ?_
  simp only [Act.put, List.getElem_toArray, List.getElem_cons_zero, List.getElem_cons_succ, List.setIfInBounds_toArray, List.set_cons_succ, List.set_cons_zero]
  refine wpAnyH_take (i := 3) (v := .int .i64 f.slots) rfl (by kernel_rfl) (by kernel_rfl) (by kernel_rfl) (fun _ _ _ h => h) (Or.inl ⟨by rfl, fun W hW => by have hcell3 := (hW.cell (p := ⟨w.heap.size, 3, none⟩) HLB.out).trans HYs.out; clear hW; go_simp⟩) hHeld ?_
  simp only [Act.put, List.getElem_toArray, List.getElem_cons_zero, List.getElem_cons_succ, List.setIfInBounds_toArray, List.set_cons_succ, List.set_cons_zero]
  refine wpAnyH_take (i := 4) (v := .pointer (some ⟨w.heap.size, 4, none⟩)) rfl (by kernel_rfl) (by kernel_rfl) (by kernel_rfl) (fun _ _ _ h => h) (Or.inl ⟨by rfl, fun W _ => by go_simp⟩) hHeld ?_
  simp only [Act.put, List.getElem_toArray, List.getElem_cons_zero, List.getElem_cons_succ, List.setIfInBounds_toArray, List.set_cons_succ, List.set_cons_zero]
  refine wpAnyH_take (i := 5) (v := .agg (bytesV f.tool).toArray) rfl (by kernel_rfl) (by kernel_rfl) (by kernel_rfl) (fun _ _ _ h => h) (yieldsIf_load_mid (by rfl) 24 (.tmp 15) rfl w.heap.size 4 rfl (bytesV f.tool) _ (fun W hW => fun j v hv => (hW.cell (p := ⟨w.heap.size, 4 + j, none⟩) HLB.out).trans (HYt.out j v hv)) Try.underlying24 rfl HTS.out) hHeld ?_
  simp only [Act.put, List.getElem_toArray, List.getElem_cons_zero, List.getElem_cons_succ, List.setIfInBounds_toArray, List.set_cons_succ, List.set_cons_zero]
  obtain ⟨wx, HWX⟩ : ∃ x, Hid (w3.drew = x) := ⟨_, rfl⟩
  rw [HWX.out] at hHeld ⊢
  have HNx0 := hid (show wx.heap[B3]? = some (.cells (fcells ⟨1, 0, 0, 0, List.replicate 32 0, 0, (0, 0, 0), [], []⟩ nS).toArray 29 (0, 0)) by rw [← HWX.out]; exact HN3.out)
  have hq0 : Below B3 w3 wx := hHeld
  refine wpAnyH_take (i := 6) (v := .pointer (some ⟨B3, 2, none⟩)) rfl (by kernel_rfl) (by kernel_rfl) (by kernel_rfl) (fun _ _ _ h => h) (Or.inl ⟨by rfl, fun W _ => by go_simp⟩) hHeld ?_
  simp only [Act.put, List.getElem_toArray, List.getElem_cons_zero, List.getElem_cons_succ, List.setIfInBounds_toArray, List.set_cons_succ, List.set_cons_zero]
  have g7 : wx.cell? ⟨B3, 2, none⟩ = some _ := cell_of_row wx B3 2 _ _ _ HNx0.out
  have z7 := row_fz HNx0.out 2
  refine wpAnyH_ready (rs := [7]) (by kernel_rfl) (by simp) ?_
  refine AllReadyH.cons rfl (fun K hK => ?_) AllReadyH.nil
  go_simp
  have hq1 : Below B3 w3 (wx.setCell ⟨B3, 2, none⟩ (.int .i64 f.ver)) := hq0.setCell (p := ⟨B3, 2, none⟩) (Nat.le_refl _) _
  have HNx1 := hid (show (wx.setCell ⟨B3, 2, none⟩ (.int .i64 f.ver)).heap[B3]? = some (.cells ((fcells ⟨1, 0, 0, 0, List.replicate 32 0, 0, (0, 0, 0), [], []⟩ nS).toArray.setIfInBounds 2 (.int .i64 f.ver)) 29 (0, 0)) from blk_set HNx0.out _)
  refine hK.out _ _ hq1 (fun hHeld => ?_)
  clear hK K g7 z7
  try simp only [Act.put, List.getElem_toArray, List.getElem_cons_zero, List.getElem_cons_succ, List.setIfInBounds_toArray, List.set_cons_succ, List.set_cons_zero]
  obtain ⟨wy1, hwy1⟩ : ∃ x, (wx.setCell ⟨B3, 2, none⟩ (.int .i64 f.ver)) = x := ⟨_, rfl⟩
  rw [hwy1] at hq1 HNx1 hHeld ⊢
  refine wpAnyH_take (i := 8) (v := .pointer (some ⟨B3, 3, none⟩)) rfl (by kernel_rfl) (by kernel_rfl) (by kernel_rfl) (fun _ _ _ h => h) (Or.inl ⟨by rfl, fun W _ => by go_simp⟩) hHeld ?_
  simp only [Act.put, List.getElem_toArray, List.getElem_cons_zero, List.getElem_cons_succ, List.setIfInBounds_toArray, List.set_cons_succ, List.set_cons_zero]
  have g9 : wy1.cell? ⟨B3, 3, none⟩ = some _ := cell_of_row wy1 B3 3 _ _ _ HNx1.out
  have z9 := row_fz HNx1.out 3
  refine wpAnyH_ready (rs := [9]) (by kernel_rfl) (by simp) ?_
  refine AllReadyH.cons rfl (fun K hK => ?_) AllReadyH.nil
  go_simp
  have hq2 : Below B3 w3 (wy1.setCell ⟨B3, 3, none⟩ (.int .i64 f.slots)) := hq1.setCell (p := ⟨B3, 3, none⟩) (Nat.le_refl _) _
  have HNx2 := hid (show (wy1.setCell ⟨B3, 3, none⟩ (.int .i64 f.slots)).heap[B3]? = some (.cells (((fcells ⟨1, 0, 0, 0, List.replicate 32 0, 0, (0, 0, 0), [], []⟩ nS).toArray.setIfInBounds 2 (.int .i64 f.ver)).setIfInBounds 3 (.int .i64 f.slots)) 29 (0, 0)) from blk_set HNx1.out _)
  refine hK.out _ _ hq2 (fun hHeld => ?_)
  clear hK K g9 z9
  try simp only [Act.put, List.getElem_toArray, List.getElem_cons_zero, List.getElem_cons_succ, List.setIfInBounds_toArray, List.set_cons_succ, List.set_cons_zero]
  obtain ⟨wy2, hwy2⟩ : ∃ x, (wy1.setCell ⟨B3, 3, none⟩ (.int .i64 f.slots)) = x := ⟨_, rfl⟩
  rw [hwy2] at hq2 HNx2 hHeld ⊢
  refine wpAnyH_take (i := 10) (v := .pointer (some ⟨B3, 4, none⟩)) rfl (by kernel_rfl) (by kernel_rfl) (by kernel_rfl) (fun _ _ _ h => h) (Or.inl ⟨by rfl, fun W _ => by go_simp⟩) hHeld ?_
  simp only [Act.put, List.getElem_toArray, List.getElem_cons_zero, List.getElem_cons_succ, List.setIfInBounds_toArray, List.set_cons_succ, List.set_cons_zero]
  refine wpAnyH_ready (rs := [11]) (by kernel_rfl) (by simp) ?_
  refine AllReadyH.cons rfl (fun K hK => ?_) AllReadyH.nil
  refine step_store_mid2 (by rfl) 24 (.tmp 19) (.tmp 16) (by rfl) B3 4 (bytesV f.tool) (by rfl) (by rfl) (there_row HNx2.out 4 _ (by rw [bytesV_length, HF.out, Array.size_setIfInBounds, Array.size_setIfInBounds]; decide)) HTS.out (bytesV_one _) ?_
  have hq3 : Below B3 w3 (wy2.setCells B3 4 (bytesV f.tool)) := below_cells (Nat.le_refl _) _ _ hq2
  have HNx3 := hid (blk_cells (bytesV f.tool) 4 HNx2.out)
  refine hK.out _ _ hq3 (fun hHeld => ?_)
  clear hK K
  try simp only [Act.put, List.getElem_toArray, List.getElem_cons_zero, List.getElem_cons_succ]
  obtain ⟨wy3, hwy3⟩ : ∃ x, wy2.setCells B3 4 (bytesV f.tool) = x := ⟨_, rfl⟩
  rw [hwy3] at hq3 HNx3 hHeld ⊢
  refine wpAnyH_done (by kernel_rfl) ?_ _
  simp only [noPanic]
  clear hHeld
  go_upto_region 13 with fail
  have HN4 := hid (eq_rowFOnly1 HNx3.out HEQ.out)
  have HN5 := hid ((hq3.block (w.heap.size + 1) HG3.out).trans HN2.out)
  have HB4 := hid (show Below w.heap.size w wy3 from below_tr HB3.out (hq3.mono (by have := HLB.out; omega)))
  obtain ⟨FO, HFO⟩ : ∃ L, Hid (fcells (ownF f) (ownV f (.slice ao nn cc)) = L) := ⟨_, rfl⟩
  rw [HFO.out] at HSZ HON HOS HN4
  go_wp2_with (first
    | (refine ld_row (by rfl) 29 (.tmp 3) (by rfl) B3 (by rfl) FO 29 HN4.out _ Try.underlying29 rfl HSZ.out ?_)
    | (refine st_row (by rfl) 29 _ _ (by rfl) (w.heap.size + 1) FO (by rfl) (by rfl) 29 _ HN5.out HSZ.out HOS.out HON.out ?_; intro w5 hw5))
  refine ret_row 2 29 rfl (w.heap.size + 1) rfl FO 29 hw5.blk _ Try.underlying29 rfl HSZ.out rfl ⟨by rw [HFO.out], Below.of_gb HB4.out hw5.grown (by omega)⟩

end Go.Proofs.Ytjinkahlfigdcaa

/- The document's only: a frame with just the fields that its kind has. -/
namespace Go.Proofs.Ytjinkahlfigdcaa
open Go.RowKit Go.BigFrame

theorem eq_rowFOnly2 {w : World} {g : Nat} {a b : Array Value} {t : TypeId} (h : w.heap[g]? = some (.cells a t (0, 0))) (e : a = b) : w.heap[g]? = some (.cells b t (0, 0)) := by rw [← e]; exact h

theorem built_b2 : Try.prog.built 29 [(0, .int .i64 2)] = some (fcells ⟨2, 0, 0, 0, List.replicate 32 0, 0, (0, 0, 0), [], []⟩ nS).toArray := by kernel_rfl

set_option maxRecDepth 100000 in
set_option maxHeartbeats 4000000 in
theorem only2_any (f : Fr) (va : Value) (w : World) (hk : f.kind = 2) (hf : f.tool.length = 32) (hv : ∃ ao n c, va = .slice ao n c) :
    Calls Try.prog 45 #[.agg (fcells f va).toArray] w fun e w' => e = .returned (.agg (fcells (ownF f) (ownV f va)).toArray) ∧ Below w.heap.size w w' := by
  obtain ⟨ao, nn, cc, rfl⟩ := hv
  have HNB := hid (hp_two w (.cells (fcells f (.slice ao nn cc)).toArray 29) (.cells (fcells zF nS).toArray 29))
  have HBL := hid (below_walk2 w (.cells (fcells f (.slice ao nn cc)).toArray 29) (.cells (fcells zF nS).toArray 29))
  have HZ : Hid ((w.alloc (.cells (fcells f (.slice ao nn cc)).toArray 29)).heap.size = w.heap.size + 1) := hid (by simp)
  have HOW : Hid (fcells (ownF f) (ownV f (.slice ao nn cc)) = fcells (ownF f) (ownV f (.slice ao nn cc))) := hid rfl
  have HOT := hid (ownF_tool f hf)
  have HSZ := hid (frame_size (ownF f) (ownV f (.slice ao nn cc)) HOT.out)
  have HON := hid (fcells_one (ownF f) (ownV f (.slice ao nn cc)) (by unfold ownV; split <;> rfl))
  have HOS := hid (show (fcells zF nS).toArray.size = (fcells (ownF f) (ownV f (.slice ao nn cc))).length by rw [fcells_length _ _ HOT.out]; rfl)
  have HSB := hid (frame_size ⟨2, 0, 0, 0, List.replicate 32 0, 0, (0, 0, 0), [], []⟩ nS rfl)
  have HEQ : Hid ((((((((fcells ⟨2, 0, 0, 0, List.replicate 32 0, 0, (0, 0, 0), [], []⟩ nS).toArray.setIfInBounds 1 (.int .u64 f.id)).setIfInBounds 37 (.int .i64 f.lim.1)).setIfInBounds 38 (.int .i64 f.lim.2.1)).setIfInBounds 39 (.int .i64 f.lim.2.2)).setIfInBounds 40 (.slice ao nn cc)).setIfInBounds 41 (.string (mk f.body))) = (fcells (ownF f) (ownV f (.slice ao nn cc))).toArray) := hid (by
    unfold ownF ownV
    rw [if_neg (show ¬ f.kind = 1 by omega), if_pos hk, if_pos hk]
    rfl)
  have HK := hid hk
  have HF := hid hf
  clear hk hf HOW
  go_enter Try.func45, Try.ntmps45
  go_upto_region 1 with (refine al_row (by rfl) 29 (by rfl) _ zeroFrame ?_)
  try rw [HZ.out]
  generalize (w.alloc (.cells (fcells f (.slice ao nn cc)).toArray 29)).alloc (.cells (fcells zF nS).toArray 29) = w2 at HNB HBL ⊢
  have x0 := (Fb.of HNB.out.1 HF.out).k
  rw [HK.out] at x0
  have HL2 := hid (hp_lt HNB.out.2)
  go_upto_region 2 with (first
    | (refine bd_row (by rfl) 29 #[(0, .tmp 5)] (by rfl) _ (by simp [Act.eval]) _ built_b2 ?_)
    | (refine al_row (by rfl) 29 (by rfl) _ zeroFrame ?_)
    | (refine st_new (by rfl) 29 _ _ (by rfl) (fcells ⟨2, 0, 0, 0, List.replicate 32 0, 0, (0, 0, 0), [], []⟩ nS) (by rfl) (by rfl) 29 _ HSB.out rfl (fcells_one _ nS rfl) ?_))
  have HN1 := hid ((below_walk w2 (.cells (fcells ⟨2, 0, 0, 0, List.replicate 32 0, 0, (0, 0, 0), [], []⟩ nS).toArray 29)).block _ (by have := HL2.out; omega) |>.trans HNB.out.1)
  have HN2 := hid ((below_walk w2 (.cells (fcells ⟨2, 0, 0, 0, List.replicate 32 0, 0, (0, 0, 0), [], []⟩ nS).toArray 29)).block _ HL2.out |>.trans HNB.out.2)
  have HN3 := hid (hp_new w2 (.cells (fcells ⟨2, 0, 0, 0, List.replicate 32 0, 0, (0, 0, 0), [], []⟩ nS).toArray 29))
  have HB3 := hid (below_then HBL.out (below_walk w2 (.cells (fcells ⟨2, 0, 0, 0, List.replicate 32 0, 0, (0, 0, 0), [], []⟩ nS).toArray 29)))
  have HG3 := hid (show w.heap.size + 1 < w2.heap.size from HL2.out)
  obtain ⟨B3, HE3⟩ : ∃ b : Nat, Hid (w2.heap.size = b) := ⟨_, rfl⟩
  rw [HE3.out] at HN3 HG3 ⊢
  generalize w2.alloc (.cells (fcells ⟨2, 0, 0, 0, List.replicate 32 0, 0, (0, 0, 0), [], []⟩ nS).toArray 29) = w3 at HN1 HN2 HN3 HB3 ⊢
  clear x0 HNB HBL HL2
  have HFB := hid (Fb.of HN1.out HF.out)
  have HFC := hid (Fb.of HN3.out (show (⟨2, 0, 0, 0, List.replicate 32 0, 0, (0, 0, 0), [], []⟩ : Fr).tool.length = 32 from rfl))
  have x1 := HFB.out.k
  rw [HK.out] at x1
  have y_i := HFB.out.i
  have y_l1 := HFB.out.l1
  have y_l2 := HFB.out.l2
  have y_l3 := HFB.out.l3
  have y_a := HFB.out.a
  have y_bd := HFB.out.bd
  have c_i := HFC.out.i
  have c_l1 := HFC.out.l1
  have c_l2 := HFC.out.l2
  have c_l3 := HFC.out.l3
  have c_a := HFC.out.a
  have c_bd := HFC.out.bd
  have f_1 := row_fz HN3.out 1
  have f_37 := row_fz HN3.out 37
  have f_38 := row_fz HN3.out 38
  have f_39 := row_fz HN3.out 39
  have f_40 := row_fz HN3.out 40
  have f_41 := row_fz HN3.out 41
  have ne1 : ¬ w.heap.size = B3 := by have := HG3.out; omega
  have ne2 : ¬ B3 = w.heap.size := by have := HG3.out; omega
  go_upto_region 6 with fail
  have HLB := hid (show w.heap.size < B3 by have := HG3.out; omega)
  have HYi := hid y_i
  have HYl1 := hid y_l1
  have HYl2 := hid y_l2
  have HYl3 := hid y_l3
  have HYa := hid y_a
  have HYbd := hid y_bd
  clear y_i y_l1 y_l2 y_l3 y_a y_bd c_i c_l1 c_l2 c_l3 c_a c_bd f_1 f_37 f_38 f_39 f_40 f_41
  refine wp_noPanic (wp_region_held_drew (S := fun W => Below B3 w3 W) (by kernel_rfl) ⟨rfl, rfl, rfl, Nat.le_refl _, fun _ _ => rfl⟩ ?_)
  intro hHeld
  refine wpAnyH_take (i := 0) (v := .pointer (some ⟨w.heap.size, 1, none⟩)) rfl (by kernel_rfl) (by kernel_rfl) (by kernel_rfl) (fun _ _ _ h => h) (Or.inl ⟨by rfl, fun W _ => by go_simp⟩) hHeld ?_
  simp only [Act.put, List.getElem_toArray, List.getElem_cons_zero, List.setIfInBounds_toArray, List.set_cons_succ, List.set_cons_zero]
  refine wpAnyH_take (i := 1) (v := .int .u64 f.id) rfl (by kernel_rfl) (by kernel_rfl) (by kernel_rfl) (fun _ _ _ h => h) (Or.inl ⟨by rfl, fun W hW => by have hcell1 := (hW.cell (p := ⟨w.heap.size, 1, none⟩) HLB.out).trans HYi.out; clear hW; go_simp⟩) hHeld ?_
  simp only [Act.put, List.getElem_toArray, List.getElem_cons_zero, List.getElem_cons_succ, List.setIfInBounds_toArray, List.set_cons_succ, List.set_cons_zero]
  refine wpAnyH_take (i := 2) (v := .pointer (some ⟨w.heap.size, 37, none⟩)) rfl (by kernel_rfl) (by kernel_rfl) (by kernel_rfl) (fun _ _ _ h => h) (Or.inl ⟨by rfl, fun W _ => by go_simp⟩) hHeld ?_
  simp only [Act.put, List.getElem_toArray, List.getElem_cons_zero, List.getElem_cons_succ, List.setIfInBounds_toArray, List.set_cons_succ, List.set_cons_zero]
  refine wpAnyH_take (i := 3) (v := .agg #[.int .i64 f.lim.1, .int .i64 f.lim.2.1, .int .i64 f.lim.2.2]) rfl (by kernel_rfl) (by kernel_rfl) (by kernel_rfl) (fun _ _ _ h => h) (Or.inl ⟨by rfl, fun W hW => by have hcell37 := (hW.cell (p := ⟨w.heap.size, 37, none⟩) HLB.out).trans HYl1.out; have hcell38 := (hW.cell (p := ⟨w.heap.size, 38, none⟩) HLB.out).trans HYl2.out; have hcell39 := (hW.cell (p := ⟨w.heap.size, 39, none⟩) HLB.out).trans HYl3.out; clear hW; go_simp⟩) hHeld ?_
  simp only [Act.put, List.getElem_toArray, List.getElem_cons_zero, List.getElem_cons_succ, List.setIfInBounds_toArray, List.set_cons_succ, List.set_cons_zero]
  refine wpAnyH_take (i := 4) (v := .pointer (some ⟨w.heap.size, 40, none⟩)) rfl (by kernel_rfl) (by kernel_rfl) (by kernel_rfl) (fun _ _ _ h => h) (Or.inl ⟨by rfl, fun W _ => by go_simp⟩) hHeld ?_
  simp only [Act.put, List.getElem_toArray, List.getElem_cons_zero, List.getElem_cons_succ, List.setIfInBounds_toArray, List.set_cons_succ, List.set_cons_zero]
  refine wpAnyH_take (i := 5) (v := .slice ao nn cc) rfl (by kernel_rfl) (by kernel_rfl) (by kernel_rfl) (fun _ _ _ h => h) (Or.inl ⟨by rfl, fun W hW => by have hcell40 := (hW.cell (p := ⟨w.heap.size, 40, none⟩) HLB.out).trans HYa.out; clear hW; go_simp⟩) hHeld ?_
  simp only [Act.put, List.getElem_toArray, List.getElem_cons_zero, List.getElem_cons_succ, List.setIfInBounds_toArray, List.set_cons_succ, List.set_cons_zero]
  refine wpAnyH_take (i := 6) (v := .pointer (some ⟨w.heap.size, 41, none⟩)) rfl (by kernel_rfl) (by kernel_rfl) (by kernel_rfl) (fun _ _ _ h => h) (Or.inl ⟨by rfl, fun W _ => by go_simp⟩) hHeld ?_
  simp only [Act.put, List.getElem_toArray, List.getElem_cons_zero, List.getElem_cons_succ, List.setIfInBounds_toArray, List.set_cons_succ, List.set_cons_zero]
  refine wpAnyH_take (i := 7) (v := .string (mk f.body)) rfl (by kernel_rfl) (by kernel_rfl) (by kernel_rfl) (fun _ _ _ h => h) (Or.inl ⟨by rfl, fun W hW => by have hcell41 := (hW.cell (p := ⟨w.heap.size, 41, none⟩) HLB.out).trans HYbd.out; clear hW; go_simp⟩) hHeld ?_
  simp only [Act.put, List.getElem_toArray, List.getElem_cons_zero, List.getElem_cons_succ, List.setIfInBounds_toArray, List.set_cons_succ, List.set_cons_zero]
  refine wpAnyH_take (i := 8) (v := .pointer (some ⟨B3, 1, none⟩)) rfl (by kernel_rfl) (by kernel_rfl) (by kernel_rfl) (fun _ _ _ h => h) (Or.inl ⟨by rfl, fun W _ => by go_simp⟩) hHeld ?_
  simp only [Act.put, List.getElem_toArray, List.getElem_cons_zero, List.getElem_cons_succ, List.setIfInBounds_toArray, List.set_cons_succ, List.set_cons_zero]
  obtain ⟨wx, HWX⟩ : ∃ x, Hid (w3.drew = x) := ⟨_, rfl⟩
  rw [HWX.out] at hHeld ⊢
  have HNx0 := hid (show wx.heap[B3]? = some (.cells (fcells ⟨2, 0, 0, 0, List.replicate 32 0, 0, (0, 0, 0), [], []⟩ nS).toArray 29 (0, 0)) by rw [← HWX.out]; exact HN3.out)
  have hq0 : Below B3 w3 wx := hHeld
  have g9_1 : wx.cell? ⟨B3, 1, none⟩ = some _ := cell_of_row wx B3 1 _ _ _ HNx0.out
  have z9_1 := row_fz HNx0.out 1
  refine wpAnyH_ready (rs := [9]) (by kernel_rfl) (by simp) ?_
  refine AllReadyH.cons rfl (fun K hK => ?_) AllReadyH.nil
  go_simp
  have hq1 : Below B3 w3 (wx.setCell ⟨B3, 1, none⟩ (.int .u64 f.id)) := (hq0.setCell (p := ⟨B3, 1, none⟩) (Nat.le_refl _) _)
  have HNx1 := hid (show (wx.setCell ⟨B3, 1, none⟩ (.int .u64 f.id)).heap[B3]? = some (.cells ((fcells ⟨2, 0, 0, 0, List.replicate 32 0, 0, (0, 0, 0), [], []⟩ nS).toArray.setIfInBounds 1 (.int .u64 f.id)) 29 (0, 0)) from (blk_set HNx0.out (.int .u64 f.id)))
  refine hK.out _ _ hq1 (fun hHeld => ?_)
  clear hK K g9_1 z9_1
  try simp only [Act.put, List.getElem_toArray, List.getElem_cons_zero, List.getElem_cons_succ, List.setIfInBounds_toArray, List.set_cons_succ, List.set_cons_zero]
  obtain ⟨wy1, hwy1⟩ : ∃ x, (wx.setCell ⟨B3, 1, none⟩ (.int .u64 f.id)) = x := ⟨_, rfl⟩
  rw [hwy1] at hq1 HNx1 hHeld ⊢
  have g11_37 : wy1.cell? ⟨B3, 37, none⟩ = some _ := cell_of_row wy1 B3 37 _ _ _ HNx1.out
  have g11_38 : wy1.cell? ⟨B3, 38, none⟩ = some _ := cell_of_row wy1 B3 38 _ _ _ HNx1.out
  have g11_39 : wy1.cell? ⟨B3, 39, none⟩ = some _ := cell_of_row wy1 B3 39 _ _ _ HNx1.out
  have z11_37 := row_fz HNx1.out 37
  have z11_38 := row_fz HNx1.out 38
  have z11_39 := row_fz HNx1.out 39
  refine wpAnyH_take (i := 10) (v := .pointer (some ⟨B3, 37, none⟩)) rfl (by kernel_rfl) (by kernel_rfl) (by kernel_rfl) (fun _ _ _ h => h) (Or.inl ⟨by rfl, fun W _ => by go_simp⟩) hHeld ?_
  simp only [Act.put, List.getElem_toArray, List.getElem_cons_zero, List.getElem_cons_succ, List.setIfInBounds_toArray, List.set_cons_succ, List.set_cons_zero]
  refine wpAnyH_ready (rs := [11]) (by kernel_rfl) (by simp) ?_
  refine AllReadyH.cons rfl (fun K hK => ?_) AllReadyH.nil
  go_simp
  have hq2 : Below B3 w3 (((wy1.setCell ⟨B3, 37, none⟩ (.int .i64 f.lim.1)).setCell ⟨B3, 38, none⟩ (.int .i64 f.lim.2.1)).setCell ⟨B3, 39, none⟩ (.int .i64 f.lim.2.2)) := (((hq1.setCell (p := ⟨B3, 37, none⟩) (Nat.le_refl _) _).setCell (p := ⟨B3, 38, none⟩) (Nat.le_refl _) _).setCell (p := ⟨B3, 39, none⟩) (Nat.le_refl _) _)
  have HNx2 := hid (show (((wy1.setCell ⟨B3, 37, none⟩ (.int .i64 f.lim.1)).setCell ⟨B3, 38, none⟩ (.int .i64 f.lim.2.1)).setCell ⟨B3, 39, none⟩ (.int .i64 f.lim.2.2)).heap[B3]? = some (.cells (((((fcells ⟨2, 0, 0, 0, List.replicate 32 0, 0, (0, 0, 0), [], []⟩ nS).toArray.setIfInBounds 1 (.int .u64 f.id)).setIfInBounds 37 (.int .i64 f.lim.1)).setIfInBounds 38 (.int .i64 f.lim.2.1)).setIfInBounds 39 (.int .i64 f.lim.2.2)) 29 (0, 0)) from (blk_set (blk_set (blk_set HNx1.out (.int .i64 f.lim.1)) (.int .i64 f.lim.2.1)) (.int .i64 f.lim.2.2)))
  refine hK.out _ _ hq2 (fun hHeld => ?_)
  clear hK K g11_37 z11_37 g11_38 z11_38 g11_39 z11_39
  try simp only [Act.put, List.getElem_toArray, List.getElem_cons_zero, List.getElem_cons_succ, List.setIfInBounds_toArray, List.set_cons_succ, List.set_cons_zero]
  obtain ⟨wy2, hwy2⟩ : ∃ x, (((wy1.setCell ⟨B3, 37, none⟩ (.int .i64 f.lim.1)).setCell ⟨B3, 38, none⟩ (.int .i64 f.lim.2.1)).setCell ⟨B3, 39, none⟩ (.int .i64 f.lim.2.2)) = x := ⟨_, rfl⟩
  rw [hwy2] at hq2 HNx2 hHeld ⊢
  have g13_40 : wy2.cell? ⟨B3, 40, none⟩ = some _ := cell_of_row wy2 B3 40 _ _ _ HNx2.out
  have z13_40 := row_fz HNx2.out 40
  refine wpAnyH_take (i := 12) (v := .pointer (some ⟨B3, 40, none⟩)) rfl (by kernel_rfl) (by kernel_rfl) (by kernel_rfl) (fun _ _ _ h => h) (Or.inl ⟨by rfl, fun W _ => by go_simp⟩) hHeld ?_
  simp only [Act.put, List.getElem_toArray, List.getElem_cons_zero, List.getElem_cons_succ, List.setIfInBounds_toArray, List.set_cons_succ, List.set_cons_zero]
  refine wpAnyH_ready (rs := [13]) (by kernel_rfl) (by simp) ?_
  refine AllReadyH.cons rfl (fun K hK => ?_) AllReadyH.nil
  go_simp
  have hq3 : Below B3 w3 (wy2.setCell ⟨B3, 40, none⟩ (.slice ao nn cc)) := (hq2.setCell (p := ⟨B3, 40, none⟩) (Nat.le_refl _) _)
  have HNx3 := hid (show (wy2.setCell ⟨B3, 40, none⟩ (.slice ao nn cc)).heap[B3]? = some (.cells ((((((fcells ⟨2, 0, 0, 0, List.replicate 32 0, 0, (0, 0, 0), [], []⟩ nS).toArray.setIfInBounds 1 (.int .u64 f.id)).setIfInBounds 37 (.int .i64 f.lim.1)).setIfInBounds 38 (.int .i64 f.lim.2.1)).setIfInBounds 39 (.int .i64 f.lim.2.2)).setIfInBounds 40 (.slice ao nn cc)) 29 (0, 0)) from (blk_set HNx2.out (.slice ao nn cc)))
  refine hK.out _ _ hq3 (fun hHeld => ?_)
  clear hK K g13_40 z13_40
  try simp only [Act.put, List.getElem_toArray, List.getElem_cons_zero, List.getElem_cons_succ, List.setIfInBounds_toArray, List.set_cons_succ, List.set_cons_zero]
  obtain ⟨wy3, hwy3⟩ : ∃ x, (wy2.setCell ⟨B3, 40, none⟩ (.slice ao nn cc)) = x := ⟨_, rfl⟩
  rw [hwy3] at hq3 HNx3 hHeld ⊢
  have g15_41 : wy3.cell? ⟨B3, 41, none⟩ = some _ := cell_of_row wy3 B3 41 _ _ _ HNx3.out
  have z15_41 := row_fz HNx3.out 41
  refine wpAnyH_take (i := 14) (v := .pointer (some ⟨B3, 41, none⟩)) rfl (by kernel_rfl) (by kernel_rfl) (by kernel_rfl) (fun _ _ _ h => h) (Or.inl ⟨by rfl, fun W _ => by go_simp⟩) hHeld ?_
  simp only [Act.put, List.getElem_toArray, List.getElem_cons_zero, List.getElem_cons_succ, List.setIfInBounds_toArray, List.set_cons_succ, List.set_cons_zero]
  refine wpAnyH_ready (rs := [15]) (by kernel_rfl) (by simp) ?_
  refine AllReadyH.cons rfl (fun K hK => ?_) AllReadyH.nil
  go_simp
  have hq4 : Below B3 w3 (wy3.setCell ⟨B3, 41, none⟩ (.string (mk f.body))) := (hq3.setCell (p := ⟨B3, 41, none⟩) (Nat.le_refl _) _)
  have HNx4 := hid (show (wy3.setCell ⟨B3, 41, none⟩ (.string (mk f.body))).heap[B3]? = some (.cells (((((((fcells ⟨2, 0, 0, 0, List.replicate 32 0, 0, (0, 0, 0), [], []⟩ nS).toArray.setIfInBounds 1 (.int .u64 f.id)).setIfInBounds 37 (.int .i64 f.lim.1)).setIfInBounds 38 (.int .i64 f.lim.2.1)).setIfInBounds 39 (.int .i64 f.lim.2.2)).setIfInBounds 40 (.slice ao nn cc)).setIfInBounds 41 (.string (mk f.body))) 29 (0, 0)) from (blk_set HNx3.out (.string (mk f.body))))
  refine hK.out _ _ hq4 (fun hHeld => ?_)
  clear hK K g15_41 z15_41
  try simp only [Act.put, List.getElem_toArray, List.getElem_cons_zero, List.getElem_cons_succ, List.setIfInBounds_toArray, List.set_cons_succ, List.set_cons_zero]
  obtain ⟨wy4, hwy4⟩ : ∃ x, (wy3.setCell ⟨B3, 41, none⟩ (.string (mk f.body))) = x := ⟨_, rfl⟩
  rw [hwy4] at hq4 HNx4 hHeld ⊢
  refine wpAnyH_done (by kernel_rfl) ?_ _
  simp only [noPanic]
  clear hHeld
  go_upto_region 13 with fail
  have HN4 := hid (eq_rowFOnly2 HNx4.out HEQ.out)
  have HN5 := hid ((hq4.block (w.heap.size + 1) HG3.out).trans HN2.out)
  have HB4 := hid (show Below w.heap.size w wy4 from below_tr HB3.out (hq4.mono (by have := HLB.out; omega)))
  obtain ⟨FO, HFO⟩ : ∃ L, Hid (fcells (ownF f) (ownV f (.slice ao nn cc)) = L) := ⟨_, rfl⟩
  rw [HFO.out] at HSZ HON HOS HN4
  go_wp2_with (first
    | (refine ld_row (by rfl) 29 (.tmp 3) (by rfl) B3 (by rfl) FO 29 HN4.out _ Try.underlying29 rfl HSZ.out ?_)
    | (refine st_row (by rfl) 29 _ _ (by rfl) (w.heap.size + 1) FO (by rfl) (by rfl) 29 _ HN5.out HSZ.out HOS.out HON.out ?_; intro w5 hw5))
  refine ret_row 2 29 rfl (w.heap.size + 1) rfl FO 29 hw5.blk _ Try.underlying29 rfl HSZ.out rfl ⟨by rw [HFO.out], Below.of_gb HB4.out hw5.grown (by omega)⟩

end Go.Proofs.Ytjinkahlfigdcaa

/- The document's only: a frame with just the fields that its kind has. -/
namespace Go.Proofs.Ytjinkahlfigdcaa
open Go.RowKit Go.BigFrame

theorem eq_rowFOnly3 {w : World} {g : Nat} {a b : Array Value} {t : TypeId} (h : w.heap[g]? = some (.cells a t (0, 0))) (e : a = b) : w.heap[g]? = some (.cells b t (0, 0)) := by rw [← e]; exact h

theorem built_b3 : Try.prog.built 29 [(0, .int .i64 3)] = some (fcells ⟨3, 0, 0, 0, List.replicate 32 0, 0, (0, 0, 0), [], []⟩ nS).toArray := by kernel_rfl

set_option maxRecDepth 100000 in
set_option maxHeartbeats 4000000 in
theorem only3_any (f : Fr) (va : Value) (w : World) (hk : f.kind = 3) (hf : f.tool.length = 32) (hv : ∃ ao n c, va = .slice ao n c) :
    Calls Try.prog 45 #[.agg (fcells f va).toArray] w fun e w' => e = .returned (.agg (fcells (ownF f) (ownV f va)).toArray) ∧ Below w.heap.size w w' := by
  obtain ⟨ao, nn, cc, rfl⟩ := hv
  have HNB := hid (hp_two w (.cells (fcells f (.slice ao nn cc)).toArray 29) (.cells (fcells zF nS).toArray 29))
  have HBL := hid (below_walk2 w (.cells (fcells f (.slice ao nn cc)).toArray 29) (.cells (fcells zF nS).toArray 29))
  have HZ : Hid ((w.alloc (.cells (fcells f (.slice ao nn cc)).toArray 29)).heap.size = w.heap.size + 1) := hid (by simp)
  have HOW : Hid (fcells (ownF f) (ownV f (.slice ao nn cc)) = fcells (ownF f) (ownV f (.slice ao nn cc))) := hid rfl
  have HOT := hid (ownF_tool f hf)
  have HSZ := hid (frame_size (ownF f) (ownV f (.slice ao nn cc)) HOT.out)
  have HON := hid (fcells_one (ownF f) (ownV f (.slice ao nn cc)) (by unfold ownV; split <;> rfl))
  have HOS := hid (show (fcells zF nS).toArray.size = (fcells (ownF f) (ownV f (.slice ao nn cc))).length by rw [fcells_length _ _ HOT.out]; rfl)
  have HSB := hid (frame_size ⟨3, 0, 0, 0, List.replicate 32 0, 0, (0, 0, 0), [], []⟩ nS rfl)
  have HEQ : Hid (((((fcells ⟨3, 0, 0, 0, List.replicate 32 0, 0, (0, 0, 0), [], []⟩ nS).toArray.setIfInBounds 1 (.int .u64 f.id)).setIfInBounds 36 (.int .i64 f.status)).setIfInBounds 41 (.string (mk f.body))) = (fcells (ownF f) (ownV f (.slice ao nn cc))).toArray) := hid (by
    unfold ownF ownV
    rw [if_neg (show ¬ f.kind = 1 by omega), if_neg (show ¬ f.kind = 2 by omega), if_pos hk, if_neg (show ¬ f.kind = 2 by omega)]
    rfl)
  have HK := hid hk
  have HF := hid hf
  clear hk hf HOW
  go_enter Try.func45, Try.ntmps45
  go_upto_region 1 with (refine al_row (by rfl) 29 (by rfl) _ zeroFrame ?_)
  try rw [HZ.out]
  generalize (w.alloc (.cells (fcells f (.slice ao nn cc)).toArray 29)).alloc (.cells (fcells zF nS).toArray 29) = w2 at HNB HBL ⊢
  have x0 := (Fb.of HNB.out.1 HF.out).k
  rw [HK.out] at x0
  have HL2 := hid (hp_lt HNB.out.2)
  go_upto_region 2 with (first
    | (refine bd_row (by rfl) 29 #[(0, .tmp 5)] (by rfl) _ (by simp [Act.eval]) _ built_b3 ?_)
    | (refine al_row (by rfl) 29 (by rfl) _ zeroFrame ?_)
    | (refine st_new (by rfl) 29 _ _ (by rfl) (fcells ⟨3, 0, 0, 0, List.replicate 32 0, 0, (0, 0, 0), [], []⟩ nS) (by rfl) (by rfl) 29 _ HSB.out rfl (fcells_one _ nS rfl) ?_))
  have HN1 := hid ((below_walk w2 (.cells (fcells ⟨3, 0, 0, 0, List.replicate 32 0, 0, (0, 0, 0), [], []⟩ nS).toArray 29)).block _ (by have := HL2.out; omega) |>.trans HNB.out.1)
  have HN2 := hid ((below_walk w2 (.cells (fcells ⟨3, 0, 0, 0, List.replicate 32 0, 0, (0, 0, 0), [], []⟩ nS).toArray 29)).block _ HL2.out |>.trans HNB.out.2)
  have HN3 := hid (hp_new w2 (.cells (fcells ⟨3, 0, 0, 0, List.replicate 32 0, 0, (0, 0, 0), [], []⟩ nS).toArray 29))
  have HB3 := hid (below_then HBL.out (below_walk w2 (.cells (fcells ⟨3, 0, 0, 0, List.replicate 32 0, 0, (0, 0, 0), [], []⟩ nS).toArray 29)))
  have HG3 := hid (show w.heap.size + 1 < w2.heap.size from HL2.out)
  obtain ⟨B3, HE3⟩ : ∃ b : Nat, Hid (w2.heap.size = b) := ⟨_, rfl⟩
  rw [HE3.out] at HN3 HG3 ⊢
  generalize w2.alloc (.cells (fcells ⟨3, 0, 0, 0, List.replicate 32 0, 0, (0, 0, 0), [], []⟩ nS).toArray 29) = w3 at HN1 HN2 HN3 HB3 ⊢
  clear x0 HNB HBL HL2
  have HFB := hid (Fb.of HN1.out HF.out)
  have HFC := hid (Fb.of HN3.out (show (⟨3, 0, 0, 0, List.replicate 32 0, 0, (0, 0, 0), [], []⟩ : Fr).tool.length = 32 from rfl))
  have x1 := HFB.out.k
  rw [HK.out] at x1
  have y_i := HFB.out.i
  have y_st := HFB.out.st
  have y_bd := HFB.out.bd
  have c_i := HFC.out.i
  have c_st := HFC.out.st
  have c_bd := HFC.out.bd
  have f_1 := row_fz HN3.out 1
  have f_36 := row_fz HN3.out 36
  have f_41 := row_fz HN3.out 41
  have ne1 : ¬ w.heap.size = B3 := by have := HG3.out; omega
  have ne2 : ¬ B3 = w.heap.size := by have := HG3.out; omega
  go_upto_region 8 with fail
  go_region
  go_upto_region 13 with fail
  have HN4 := hid (show (((w3.setCell ⟨B3, 1, none⟩ (.int .u64 f.id)).setCell ⟨B3, 36, none⟩ (.int .i64 f.status)).setCell ⟨B3, 41, none⟩ (.string (mk f.body))).drew.heap[B3]? = some (.cells (fcells (ownF f) (ownV f (.slice ao nn cc))).toArray 29 (0, 0)) from eq_rowFOnly3 (blk_set (blk_set (blk_set HN3.out (.int .u64 f.id)) (.int .i64 f.status)) (.string (mk f.body))) HEQ.out)
  have HN5 := hid (show (((w3.setCell ⟨B3, 1, none⟩ (.int .u64 f.id)).setCell ⟨B3, 36, none⟩ (.int .i64 f.status)).setCell ⟨B3, 41, none⟩ (.string (mk f.body))).drew.heap[w.heap.size + 1]? = some (.cells (fcells zF nS).toArray 29 (0, 0)) from ((Below.heap_setCell _ _ _ (w.heap.size + 1) (by have := HG3.out; simp; omega)).trans ((Below.heap_setCell _ _ _ (w.heap.size + 1) (by have := HG3.out; simp; omega)).trans ((Below.heap_setCell _ _ _ (w.heap.size + 1) (by have := HG3.out; simp; omega)).trans HN2.out))))
  have HB4 := hid (show Below w.heap.size w (((w3.setCell ⟨B3, 1, none⟩ (.int .u64 f.id)).setCell ⟨B3, 36, none⟩ (.int .i64 f.status)).setCell ⟨B3, 41, none⟩ (.string (mk f.body))).drew from below_then (((HB3.out.setCell (p := ⟨B3, 1, none⟩) (by show w.heap.size ≤ B3; have := HG3.out; omega) _).setCell (p := ⟨B3, 36, none⟩) (by show w.heap.size ≤ B3; have := HG3.out; omega) _).setCell (p := ⟨B3, 41, none⟩) (by show w.heap.size ≤ B3; have := HG3.out; omega) _) ⟨rfl, rfl, rfl, Nat.le_refl _, fun _ _ => rfl⟩)
  generalize (((w3.setCell ⟨B3, 1, none⟩ (.int .u64 f.id)).setCell ⟨B3, 36, none⟩ (.int .i64 f.status)).setCell ⟨B3, 41, none⟩ (.string (mk f.body))).drew = w4 at HN4 HN5 HB4 ⊢
  obtain ⟨FO, HFO⟩ : ∃ L, Hid (fcells (ownF f) (ownV f (.slice ao nn cc)) = L) := ⟨_, rfl⟩
  rw [HFO.out] at HSZ HON HOS HN4
  go_wp2_with (first
    | (refine ld_row (by rfl) 29 (.tmp 3) (by rfl) B3 (by rfl) FO 29 HN4.out _ Try.underlying29 rfl HSZ.out ?_)
    | (refine st_row (by rfl) 29 _ _ (by rfl) (w.heap.size + 1) FO (by rfl) (by rfl) 29 _ HN5.out HSZ.out HOS.out HON.out ?_; intro w5 hw5))
  refine ret_row 2 29 rfl (w.heap.size + 1) rfl FO 29 hw5.blk _ Try.underlying29 rfl HSZ.out rfl ⟨by rw [HFO.out], Below.of_gb HB4.out hw5.grown (by omega)⟩

end Go.Proofs.Ytjinkahlfigdcaa

/- The document's only: a frame with just the fields that its kind has. -/
namespace Go.Proofs.Ytjinkahlfigdcaa
open Go.RowKit Go.BigFrame

theorem eq_rowFOnly4 {w : World} {g : Nat} {a b : Array Value} {t : TypeId} (h : w.heap[g]? = some (.cells a t (0, 0))) (e : a = b) : w.heap[g]? = some (.cells b t (0, 0)) := by rw [← e]; exact h

theorem built_b4 : Try.prog.built 29 [(0, .int .i64 4)] = some (fcells ⟨4, 0, 0, 0, List.replicate 32 0, 0, (0, 0, 0), [], []⟩ nS).toArray := by kernel_rfl

set_option maxRecDepth 100000 in
set_option maxHeartbeats 4000000 in
theorem only4_any (f : Fr) (va : Value) (w : World) (hk : f.kind = 4) (hf : f.tool.length = 32) (hv : ∃ ao n c, va = .slice ao n c) :
    Calls Try.prog 45 #[.agg (fcells f va).toArray] w fun e w' => e = .returned (.agg (fcells (ownF f) (ownV f va)).toArray) ∧ Below w.heap.size w w' := by
  obtain ⟨ao, nn, cc, rfl⟩ := hv
  have HNB := hid (hp_two w (.cells (fcells f (.slice ao nn cc)).toArray 29) (.cells (fcells zF nS).toArray 29))
  have HBL := hid (below_walk2 w (.cells (fcells f (.slice ao nn cc)).toArray 29) (.cells (fcells zF nS).toArray 29))
  have HZ : Hid ((w.alloc (.cells (fcells f (.slice ao nn cc)).toArray 29)).heap.size = w.heap.size + 1) := hid (by simp)
  have HOW : Hid (fcells (ownF f) (ownV f (.slice ao nn cc)) = fcells (ownF f) (ownV f (.slice ao nn cc))) := hid rfl
  have HOT := hid (ownF_tool f hf)
  have HSZ := hid (frame_size (ownF f) (ownV f (.slice ao nn cc)) HOT.out)
  have HON := hid (fcells_one (ownF f) (ownV f (.slice ao nn cc)) (by unfold ownV; split <;> rfl))
  have HOS := hid (show (fcells zF nS).toArray.size = (fcells (ownF f) (ownV f (.slice ao nn cc))).length by rw [fcells_length _ _ HOT.out]; rfl)
  have HSB := hid (frame_size ⟨4, 0, 0, 0, List.replicate 32 0, 0, (0, 0, 0), [], []⟩ nS rfl)
  have HEQ : Hid (((fcells ⟨4, 0, 0, 0, List.replicate 32 0, 0, (0, 0, 0), [], []⟩ nS).toArray.setIfInBounds 1 (.int .u64 f.id)) = (fcells (ownF f) (ownV f (.slice ao nn cc))).toArray) := hid (by
    unfold ownF ownV
    rw [if_neg (show ¬ f.kind = 1 by omega), if_neg (show ¬ f.kind = 2 by omega), if_neg (show ¬ f.kind = 3 by omega), if_pos hk, if_neg (show ¬ f.kind = 2 by omega)]
    rfl)
  have HK := hid hk
  have HF := hid hf
  clear hk hf HOW
  go_enter Try.func45, Try.ntmps45
  go_upto_region 1 with (refine al_row (by rfl) 29 (by rfl) _ zeroFrame ?_)
  try rw [HZ.out]
  generalize (w.alloc (.cells (fcells f (.slice ao nn cc)).toArray 29)).alloc (.cells (fcells zF nS).toArray 29) = w2 at HNB HBL ⊢
  have x0 := (Fb.of HNB.out.1 HF.out).k
  rw [HK.out] at x0
  have HL2 := hid (hp_lt HNB.out.2)
  go_upto_region 2 with (first
    | (refine bd_row (by rfl) 29 #[(0, .tmp 5)] (by rfl) _ (by simp [Act.eval]) _ built_b4 ?_)
    | (refine al_row (by rfl) 29 (by rfl) _ zeroFrame ?_)
    | (refine st_new (by rfl) 29 _ _ (by rfl) (fcells ⟨4, 0, 0, 0, List.replicate 32 0, 0, (0, 0, 0), [], []⟩ nS) (by rfl) (by rfl) 29 _ HSB.out rfl (fcells_one _ nS rfl) ?_))
  have HN1 := hid ((below_walk w2 (.cells (fcells ⟨4, 0, 0, 0, List.replicate 32 0, 0, (0, 0, 0), [], []⟩ nS).toArray 29)).block _ (by have := HL2.out; omega) |>.trans HNB.out.1)
  have HN2 := hid ((below_walk w2 (.cells (fcells ⟨4, 0, 0, 0, List.replicate 32 0, 0, (0, 0, 0), [], []⟩ nS).toArray 29)).block _ HL2.out |>.trans HNB.out.2)
  have HN3 := hid (hp_new w2 (.cells (fcells ⟨4, 0, 0, 0, List.replicate 32 0, 0, (0, 0, 0), [], []⟩ nS).toArray 29))
  have HB3 := hid (below_then HBL.out (below_walk w2 (.cells (fcells ⟨4, 0, 0, 0, List.replicate 32 0, 0, (0, 0, 0), [], []⟩ nS).toArray 29)))
  have HG3 := hid (show w.heap.size + 1 < w2.heap.size from HL2.out)
  obtain ⟨B3, HE3⟩ : ∃ b : Nat, Hid (w2.heap.size = b) := ⟨_, rfl⟩
  rw [HE3.out] at HN3 HG3 ⊢
  generalize w2.alloc (.cells (fcells ⟨4, 0, 0, 0, List.replicate 32 0, 0, (0, 0, 0), [], []⟩ nS).toArray 29) = w3 at HN1 HN2 HN3 HB3 ⊢
  clear x0 HNB HBL HL2
  have HFB := hid (Fb.of HN1.out HF.out)
  have HFC := hid (Fb.of HN3.out (show (⟨4, 0, 0, 0, List.replicate 32 0, 0, (0, 0, 0), [], []⟩ : Fr).tool.length = 32 from rfl))
  have x1 := HFB.out.k
  rw [HK.out] at x1
  have y_i := HFB.out.i
  have c_i := HFC.out.i
  have f_1 := row_fz HN3.out 1
  have ne1 : ¬ w.heap.size = B3 := by have := HG3.out; omega
  have ne2 : ¬ B3 = w.heap.size := by have := HG3.out; omega
  go_upto_region 13 with fail
  have HN4 := hid (show (w3.setCell ⟨B3, 1, none⟩ (.int .u64 f.id)).heap[B3]? = some (.cells (fcells (ownF f) (ownV f (.slice ao nn cc))).toArray 29 (0, 0)) from eq_rowFOnly4 (blk_set HN3.out (.int .u64 f.id)) HEQ.out)
  have HN5 := hid (show (w3.setCell ⟨B3, 1, none⟩ (.int .u64 f.id)).heap[w.heap.size + 1]? = some (.cells (fcells zF nS).toArray 29 (0, 0)) from ((Below.heap_setCell _ _ _ (w.heap.size + 1) (by have := HG3.out; simp; omega)).trans HN2.out))
  have HB4 := hid (show Below w.heap.size w (w3.setCell ⟨B3, 1, none⟩ (.int .u64 f.id)) from  (HB3.out.setCell (p := ⟨B3, 1, none⟩) (by show w.heap.size ≤ B3; have := HG3.out; omega) _))
  generalize (w3.setCell ⟨B3, 1, none⟩ (.int .u64 f.id)) = w4 at HN4 HN5 HB4 ⊢
  obtain ⟨FO, HFO⟩ : ∃ L, Hid (fcells (ownF f) (ownV f (.slice ao nn cc)) = L) := ⟨_, rfl⟩
  rw [HFO.out] at HSZ HON HOS HN4
  go_wp2_with (first
    | (refine ld_row (by rfl) 29 (.tmp 3) (by rfl) B3 (by rfl) FO 29 HN4.out _ Try.underlying29 rfl HSZ.out ?_)
    | (refine st_row (by rfl) 29 _ _ (by rfl) (w.heap.size + 1) FO (by rfl) (by rfl) 29 _ HN5.out HSZ.out HOS.out HON.out ?_; intro w5 hw5))
  refine ret_row 2 29 rfl (w.heap.size + 1) rfl FO 29 hw5.blk _ Try.underlying29 rfl HSZ.out rfl ⟨by rw [HFO.out], Below.of_gb HB4.out hw5.grown (by omega)⟩

theorem built_b6 : Try.prog.built 29 [(0, .int .i64 6)] = some (fcells ⟨6, 0, 0, 0, List.replicate 32 0, 0, (0, 0, 0), [], []⟩ nS).toArray := by kernel_rfl

set_option maxRecDepth 100000 in
set_option maxHeartbeats 4000000 in
theorem only6_any (f : Fr) (va : Value) (w : World) (hk : f.kind = 6) (hf : f.tool.length = 32) (hv : ∃ ao n c, va = .slice ao n c) :
    Calls Try.prog 45 #[.agg (fcells f va).toArray] w fun e w' => e = .returned (.agg (fcells (ownF f) (ownV f va)).toArray) ∧ Below w.heap.size w w' := by
  obtain ⟨ao, nn, cc, rfl⟩ := hv
  have HNB := hid (hp_two w (.cells (fcells f (.slice ao nn cc)).toArray 29) (.cells (fcells zF nS).toArray 29))
  have HBL := hid (below_walk2 w (.cells (fcells f (.slice ao nn cc)).toArray 29) (.cells (fcells zF nS).toArray 29))
  have HZ : Hid ((w.alloc (.cells (fcells f (.slice ao nn cc)).toArray 29)).heap.size = w.heap.size + 1) := hid (by simp)
  have HOW : Hid (fcells (ownF f) (ownV f (.slice ao nn cc)) = fcells (ownF f) (ownV f (.slice ao nn cc))) := hid rfl
  have HOT := hid (ownF_tool f hf)
  have HSZ := hid (frame_size (ownF f) (ownV f (.slice ao nn cc)) HOT.out)
  have HON := hid (fcells_one (ownF f) (ownV f (.slice ao nn cc)) (by unfold ownV; split <;> rfl))
  have HOS := hid (show (fcells zF nS).toArray.size = (fcells (ownF f) (ownV f (.slice ao nn cc))).length by rw [fcells_length _ _ HOT.out]; rfl)
  have HSB := hid (frame_size ⟨6, 0, 0, 0, List.replicate 32 0, 0, (0, 0, 0), [], []⟩ nS rfl)
  have HEQ : Hid (((fcells ⟨6, 0, 0, 0, List.replicate 32 0, 0, (0, 0, 0), [], []⟩ nS).toArray.setIfInBounds 41 (.string (mk f.body))) = (fcells (ownF f) (ownV f (.slice ao nn cc))).toArray) := hid (by
    unfold ownF ownV
    rw [if_neg (show ¬ f.kind = 1 by omega), if_neg (show ¬ f.kind = 2 by omega), if_neg (show ¬ f.kind = 3 by omega), if_neg (show ¬ f.kind = 4 by omega), if_neg (show ¬ f.kind = 5 by omega), if_pos hk, if_neg (show ¬ f.kind = 2 by omega)]
    rfl)
  have HK := hid hk
  have HF := hid hf
  clear hk hf HOW
  go_enter Try.func45, Try.ntmps45
  go_upto_region 1 with (refine al_row (by rfl) 29 (by rfl) _ zeroFrame ?_)
  try rw [HZ.out]
  generalize (w.alloc (.cells (fcells f (.slice ao nn cc)).toArray 29)).alloc (.cells (fcells zF nS).toArray 29) = w2 at HNB HBL ⊢
  have x0 := (Fb.of HNB.out.1 HF.out).k
  rw [HK.out] at x0
  have HL2 := hid (hp_lt HNB.out.2)
  go_upto_region 2 with (first
    | (refine bd_row (by rfl) 29 #[(0, .tmp 5)] (by rfl) _ (by simp [Act.eval]) _ built_b6 ?_)
    | (refine al_row (by rfl) 29 (by rfl) _ zeroFrame ?_)
    | (refine st_new (by rfl) 29 _ _ (by rfl) (fcells ⟨6, 0, 0, 0, List.replicate 32 0, 0, (0, 0, 0), [], []⟩ nS) (by rfl) (by rfl) 29 _ HSB.out rfl (fcells_one _ nS rfl) ?_))
  have HN1 := hid ((below_walk w2 (.cells (fcells ⟨6, 0, 0, 0, List.replicate 32 0, 0, (0, 0, 0), [], []⟩ nS).toArray 29)).block _ (by have := HL2.out; omega) |>.trans HNB.out.1)
  have HN2 := hid ((below_walk w2 (.cells (fcells ⟨6, 0, 0, 0, List.replicate 32 0, 0, (0, 0, 0), [], []⟩ nS).toArray 29)).block _ HL2.out |>.trans HNB.out.2)
  have HN3 := hid (hp_new w2 (.cells (fcells ⟨6, 0, 0, 0, List.replicate 32 0, 0, (0, 0, 0), [], []⟩ nS).toArray 29))
  have HB3 := hid (below_then HBL.out (below_walk w2 (.cells (fcells ⟨6, 0, 0, 0, List.replicate 32 0, 0, (0, 0, 0), [], []⟩ nS).toArray 29)))
  have HG3 := hid (show w.heap.size + 1 < w2.heap.size from HL2.out)
  obtain ⟨B3, HE3⟩ : ∃ b : Nat, Hid (w2.heap.size = b) := ⟨_, rfl⟩
  rw [HE3.out] at HN3 HG3 ⊢
  generalize w2.alloc (.cells (fcells ⟨6, 0, 0, 0, List.replicate 32 0, 0, (0, 0, 0), [], []⟩ nS).toArray 29) = w3 at HN1 HN2 HN3 HB3 ⊢
  clear x0 HNB HBL HL2
  have HFB := hid (Fb.of HN1.out HF.out)
  have HFC := hid (Fb.of HN3.out (show (⟨6, 0, 0, 0, List.replicate 32 0, 0, (0, 0, 0), [], []⟩ : Fr).tool.length = 32 from rfl))
  have x1 := HFB.out.k
  rw [HK.out] at x1
  have y_bd := HFB.out.bd
  have c_bd := HFC.out.bd
  have f_41 := row_fz HN3.out 41
  have ne1 : ¬ w.heap.size = B3 := by have := HG3.out; omega
  have ne2 : ¬ B3 = w.heap.size := by have := HG3.out; omega
  go_upto_region 13 with fail
  have HN4 := hid (show (w3.setCell ⟨B3, 41, none⟩ (.string (mk f.body))).heap[B3]? = some (.cells (fcells (ownF f) (ownV f (.slice ao nn cc))).toArray 29 (0, 0)) from eq_rowFOnly4 (blk_set HN3.out (.string (mk f.body))) HEQ.out)
  have HN5 := hid (show (w3.setCell ⟨B3, 41, none⟩ (.string (mk f.body))).heap[w.heap.size + 1]? = some (.cells (fcells zF nS).toArray 29 (0, 0)) from ((Below.heap_setCell _ _ _ (w.heap.size + 1) (by have := HG3.out; simp; omega)).trans HN2.out))
  have HB4 := hid (show Below w.heap.size w (w3.setCell ⟨B3, 41, none⟩ (.string (mk f.body))) from  (HB3.out.setCell (p := ⟨B3, 41, none⟩) (by show w.heap.size ≤ B3; have := HG3.out; omega) _))
  generalize (w3.setCell ⟨B3, 41, none⟩ (.string (mk f.body))) = w4 at HN4 HN5 HB4 ⊢
  obtain ⟨FO, HFO⟩ : ∃ L, Hid (fcells (ownF f) (ownV f (.slice ao nn cc)) = L) := ⟨_, rfl⟩
  rw [HFO.out] at HSZ HON HOS HN4
  go_wp2_with (first
    | (refine ld_row (by rfl) 29 (.tmp 3) (by rfl) B3 (by rfl) FO 29 HN4.out _ Try.underlying29 rfl HSZ.out ?_)
    | (refine st_row (by rfl) 29 _ _ (by rfl) (w.heap.size + 1) FO (by rfl) (by rfl) 29 _ HN5.out HSZ.out HOS.out HON.out ?_; intro w5 hw5))
  refine ret_row 2 29 rfl (w.heap.size + 1) rfl FO 29 hw5.blk _ Try.underlying29 rfl HSZ.out rfl ⟨by rw [HFO.out], Below.of_gb HB4.out hw5.grown (by omega)⟩

end Go.Proofs.Ytjinkahlfigdcaa

/- The document's only: a frame with just the fields that its kind has. -/
namespace Go.Proofs.Ytjinkahlfigdcaa
open Go.RowKit Go.BigFrame

theorem eq_rowFOnly5 {w : World} {g : Nat} {a b : Array Value} {t : TypeId} (h : w.heap[g]? = some (.cells a t (0, 0))) (e : a = b) : w.heap[g]? = some (.cells b t (0, 0)) := by rw [← e]; exact h

theorem built_b5 : Try.prog.built 29 [(0, .int .i64 5)] = some (fcells ⟨5, 0, 0, 0, List.replicate 32 0, 0, (0, 0, 0), [], []⟩ nS).toArray := by kernel_rfl

set_option maxRecDepth 100000 in
set_option maxHeartbeats 4000000 in
theorem only5_any (f : Fr) (va : Value) (w : World) (hk : f.kind = 5) (hf : f.tool.length = 32) (hv : ∃ ao n c, va = .slice ao n c) :
    Calls Try.prog 45 #[.agg (fcells f va).toArray] w fun e w' => e = .returned (.agg (fcells (ownF f) (ownV f va)).toArray) ∧ Below w.heap.size w w' := by
  obtain ⟨ao, nn, cc, rfl⟩ := hv
  have HNB := hid (hp_two w (.cells (fcells f (.slice ao nn cc)).toArray 29) (.cells (fcells zF nS).toArray 29))
  have HBL := hid (below_walk2 w (.cells (fcells f (.slice ao nn cc)).toArray 29) (.cells (fcells zF nS).toArray 29))
  have HZ : Hid ((w.alloc (.cells (fcells f (.slice ao nn cc)).toArray 29)).heap.size = w.heap.size + 1) := hid (by simp)
  have HOW : Hid (fcells (ownF f) (ownV f (.slice ao nn cc)) = fcells (ownF f) (ownV f (.slice ao nn cc))) := hid rfl
  have HOT := hid (ownF_tool f hf)
  have HSZ := hid (frame_size (ownF f) (ownV f (.slice ao nn cc)) HOT.out)
  have HON := hid (fcells_one (ownF f) (ownV f (.slice ao nn cc)) (by unfold ownV; split <;> rfl))
  have HOS := hid (show (fcells zF nS).toArray.size = (fcells (ownF f) (ownV f (.slice ao nn cc))).length by rw [fcells_length _ _ HOT.out]; rfl)
  have HSB := hid (frame_size ⟨5, 0, 0, 0, List.replicate 32 0, 0, (0, 0, 0), [], []⟩ nS rfl)
  have HEQ : Hid ((fcells ⟨5, 0, 0, 0, List.replicate 32 0, 0, (0, 0, 0), [], []⟩ nS).toArray = (fcells (ownF f) (ownV f (.slice ao nn cc))).toArray) := hid (by
    unfold ownF ownV
    rw [if_neg (show ¬ f.kind = 1 by omega), if_neg (show ¬ f.kind = 2 by omega), if_neg (show ¬ f.kind = 3 by omega), if_neg (show ¬ f.kind = 4 by omega), if_pos hk, if_neg (show ¬ f.kind = 2 by omega)]
    rfl)
  have HK := hid hk
  have HF := hid hf
  clear hk hf HOW
  go_enter Try.func45, Try.ntmps45
  go_upto_region 1 with (refine al_row (by rfl) 29 (by rfl) _ zeroFrame ?_)
  try rw [HZ.out]
  generalize (w.alloc (.cells (fcells f (.slice ao nn cc)).toArray 29)).alloc (.cells (fcells zF nS).toArray 29) = w2 at HNB HBL ⊢
  have x0 := (Fb.of HNB.out.1 HF.out).k
  rw [HK.out] at x0
  have HL2 := hid (hp_lt HNB.out.2)
  go_upto_region 2 with (first
    | (refine bd_row (by rfl) 29 #[(0, .tmp 5)] (by rfl) _ (by simp [Act.eval]) _ built_b5 ?_)
    | (refine al_row (by rfl) 29 (by rfl) _ zeroFrame ?_)
    | (refine st_new (by rfl) 29 _ _ (by rfl) (fcells ⟨5, 0, 0, 0, List.replicate 32 0, 0, (0, 0, 0), [], []⟩ nS) (by rfl) (by rfl) 29 _ HSB.out rfl (fcells_one _ nS rfl) ?_))
  have HN1 := hid ((below_walk w2 (.cells (fcells ⟨5, 0, 0, 0, List.replicate 32 0, 0, (0, 0, 0), [], []⟩ nS).toArray 29)).block _ (by have := HL2.out; omega) |>.trans HNB.out.1)
  have HN2 := hid ((below_walk w2 (.cells (fcells ⟨5, 0, 0, 0, List.replicate 32 0, 0, (0, 0, 0), [], []⟩ nS).toArray 29)).block _ HL2.out |>.trans HNB.out.2)
  have HN3 := hid (hp_new w2 (.cells (fcells ⟨5, 0, 0, 0, List.replicate 32 0, 0, (0, 0, 0), [], []⟩ nS).toArray 29))
  have HB3 := hid (below_then HBL.out (below_walk w2 (.cells (fcells ⟨5, 0, 0, 0, List.replicate 32 0, 0, (0, 0, 0), [], []⟩ nS).toArray 29)))
  have HG3 := hid (show w.heap.size + 1 < w2.heap.size from HL2.out)
  obtain ⟨B3, HE3⟩ : ∃ b : Nat, Hid (w2.heap.size = b) := ⟨_, rfl⟩
  rw [HE3.out] at HN3 HG3 ⊢
  generalize w2.alloc (.cells (fcells ⟨5, 0, 0, 0, List.replicate 32 0, 0, (0, 0, 0), [], []⟩ nS).toArray 29) = w3 at HN1 HN2 HN3 HB3 ⊢
  clear x0 HNB HBL HL2
  have HFB := hid (Fb.of HN1.out HF.out)
  have HFC := hid (Fb.of HN3.out (show (⟨5, 0, 0, 0, List.replicate 32 0, 0, (0, 0, 0), [], []⟩ : Fr).tool.length = 32 from rfl))
  have x1 := HFB.out.k
  rw [HK.out] at x1
  have ne1 : ¬ w.heap.size = B3 := by have := HG3.out; omega
  have ne2 : ¬ B3 = w.heap.size := by have := HG3.out; omega
  go_upto_region 13 with fail
  have HN4 := hid (show w3.heap[B3]? = some (.cells (fcells (ownF f) (ownV f (.slice ao nn cc))).toArray 29 (0, 0)) from eq_rowFOnly5 HN3.out HEQ.out)
  have HN5 := hid (show w3.heap[w.heap.size + 1]? = some (.cells (fcells zF nS).toArray 29 (0, 0)) from HN2.out)
  have HB4 := hid (show Below w.heap.size w w3 from  HB3.out)
  generalize w3 = w4 at HN4 HN5 HB4 ⊢
  obtain ⟨FO, HFO⟩ : ∃ L, Hid (fcells (ownF f) (ownV f (.slice ao nn cc)) = L) := ⟨_, rfl⟩
  rw [HFO.out] at HSZ HON HOS HN4
  go_wp2_with (first
    | (refine ld_row (by rfl) 29 (.tmp 3) (by rfl) B3 (by rfl) FO 29 HN4.out _ Try.underlying29 rfl HSZ.out ?_)
    | (refine st_row (by rfl) 29 _ _ (by rfl) (w.heap.size + 1) FO (by rfl) (by rfl) 29 _ HN5.out HSZ.out HOS.out HON.out ?_; intro w5 hw5))
  refine ret_row 2 29 rfl (w.heap.size + 1) rfl FO 29 hw5.blk _ Try.underlying29 rfl HSZ.out rfl ⟨by rw [HFO.out], Below.of_gb HB4.out hw5.grown (by omega)⟩

end Go.Proofs.Ytjinkahlfigdcaa

/- The document's only, of every kind. -/
namespace Go.Proofs.Ytjinkahlfigdcaa
open Go.RowKit Go.BigFrame

theorem only_any (f : Fr) (va : Value) (w : World) (hk : 1 ≤ f.kind ∧ f.kind ≤ 6) (hf : f.tool.length = 32) (hv : ∃ ao n c, va = .slice ao n c) :
    Calls Try.prog 45 #[.agg (fcells f va).toArray] w fun e w' => e = .returned (.agg (fcells (ownF f) (ownV f va)).toArray) ∧ Below w.heap.size w w' := by
  have h : f.kind = 1 ∨ f.kind = 2 ∨ f.kind = 3 ∨ f.kind = 4 ∨ f.kind = 5 ∨ f.kind = 6 := by omega
  rcases h with h | h | h | h | h | h
  · exact only1_any f va w h hf hv
  · exact only2_any f va w h hf hv
  · exact only3_any f va w h hf hv
  · exact only4_any f va w h hf hv
  · exact only5_any f va w h hf hv
  · exact only6_any f va w h hf hv

/-- whether a frame is what its kind owns, as the document asks it -/
theorem rsame_own (f : Fr) (va : Value) (w : World) (hf : f.tool.length = 32) (ha : Strs w va f.args) (hn : f.args.length ≤ 9223372036854775807) :
    Calls Try.prog 18 #[.agg (fcells f va).toArray, .agg (fcells (ownF f) (ownV f va)).toArray] w fun e w' => e = .returned (.bool (sameP f (ownF f))) ∧ Below w.heap.size w w' :=
  rsame_any f (ownF f) va (ownV f va) w hf (ownF_tool f hf) ha (own_strs ha) hn

end Go.Proofs.Ytjinkahlfigdcaa
