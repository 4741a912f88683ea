/- Contracts and pure facts that the proof needs, joined. -/
import Derived.Test.YtjinkahlfigdcaaG5
import Derived.Test.YtjinkahlfigdcaaG4
import Derived.Test.YtjinkahlfigdcaaG1
import Derived.Test.YtjinkahlfigdcaaG3
import Derived.Test.YtjinkahlfigdcaaG2

/- readFrame, where the kind that is read is 5. -/
namespace Go.Proofs.Ytjinkahlfigdcaa
open Go.RowKit Go.BigFrame

set_option maxRecDepth 100000 in
set_option maxHeartbeats 8000000 in
theorem readFrame_5 (v0 : Value) (bs : List UInt8) (head N : Nat) (w : World) (hs : Src w v0 bs) (hbl : bs.length ≤ 1099511627776) (hu : uS bs (0, 0, 0) = (N, head, 0, 0)) (hK : (oS bs 6 (head, 0, 0)).1 = 5) :
    Calls Try.prog 32 #[v0] w fun e w' => ∃ va, e = .returned (.tuple #[.agg (fcells (frameP bs head).1 va).toArray, .agg #[.int .i64 (frameP bs head).2.1, .int .i64 (frameP bs head).2.2]]) ∧ WOwnS w' w.heap.size va (frameP bs head).1.args ∧ Below w.heap.size w w' := by
  obtain ⟨va0, c0, rfl⟩ := src_shape hs
  obtain ⟨L0, HL0⟩ : ∃ n, Hid (bs.length = n) := ⟨_, rfl⟩
  obtain ⟨A, HAA⟩ : ∃ n, Hid (w.heap.size = n) := ⟨_, rfl⟩
  have HB0 := hid (below_walk2 w (.cells (fcells zF nS).toArray 29) (.cells #[.int .i64 0, .int .i64 0] 47))
  have HNB := hid (hp_two w (.cells (fcells zF nS).toArray 29) (.cells #[.int .i64 0, .int .i64 0] 47))
  have HZ : Hid ((w.alloc (.cells (fcells zF nS).toArray 29)).heap.size = w.heap.size + 1) := hid (by simp)
  have HZ2 : Hid (((w.alloc (.cells (fcells zF nS).toArray 29)).alloc (.cells #[.int .i64 0, .int .i64 0] 47)).heap.size = w.heap.size + 2) := hid (by simp)
  have HNR := hid (newReader_any _ bs _ (hs.below HB0.out))
  have HU := hid hu
  have HK := hid hK
  have HBL := hid hbl
  clear hs hbl hu hK
  go_enter Try.func32, Try.ntmps32
  go_upto_region 1 with (refine al_row (by rfl) 29 (by rfl) _ zeroFrame ?_)
  try rw [HZ.out]
  generalize (w.alloc (.cells (fcells zF nS).toArray 29)).alloc (.cells #[.int .i64 0, .int .i64 0] 47) = w0 at HB0 HNB HZ2 HNR ⊢
  rw [HAA.out] at HNB HZ2 ⊢
  have HR1 := hid HNB.out.1
  have HR2 := hid HNB.out.2
  clear HNB HZ
  go_wp2_with fail
  refine HNR.out.mono ?_
  rintro e w1 ⟨rb, v, rfl, hr1, hb1⟩
  obtain ⟨b, HBb⟩ : ∃ b, Hid (w1.heap.size = b) := ⟨_, rfl⟩
  have HLb : Hid (A + 2 ≤ b) := hid (by have := hb1.size; have := HZ2.out; have := HBb.out; omega)
  have HLr : Hid (A + 2 ≤ rb) := hid (by have := hr1.lo; have := HZ2.out; omega)
  have HLrb : Hid (rb < b) := hid (by have := hr1.lt; have := HBb.out; omega)
  have HAW := hid (below_walk w1 (.cells #[.pointer (some ⟨rb, 0, none⟩), .int .i64 0, .int .i64 0] 93))
  have HFD := hid (show Fd (w1.alloc (.cells #[.pointer (some ⟨rb, 0, none⟩), .int .i64 0, .int .i64 0] 93)) w0.heap.size b rb v bs (0, 0, 0) from ⟨0, 0, 0, 0, 0, hr1.below HAW.out, HBb.out ▸ hp_new w1 _, by have := HLrb.out; omega, fun e => by have := (hr1.own.lt _ e).2; have := HBb.out; omega, by have := hb1.size; have := HBb.out; omega, Or.inl ⟨rfl, rfl⟩⟩)
  have HR1a := hid (bel_keep HAW.out (bel_keep hb1 HR1.out))
  have HR2a := hid (bel_keep HAW.out (bel_keep hb1 HR2.out))
  have HB1 := hid (below_then (below_then HB0.out hb1) HAW.out)
  clear hr1 hb1 HR1 HR2 HB0 HNR HAW
  go_upto_region 2 with fail
  rw [HBb.out]
  generalize w1.alloc (.cells #[.pointer (some ⟨rb, 0, none⟩), .int .i64 0, .int .i64 0] 93) = w2 at HFD HR1a HR2a HB1 ⊢
  have p2 := HFD.out.ptr
  go_wp2_with fail
  refine (fd_uint HFD.out).mono ?_
  rintro e w3 ⟨rfl, hf3, hg3⟩
  rw [HU.out] at hf3
  have HF3 := hid (show Fd w3 w0.heap.size b rb v bs (head, 0, 0) from hf3)
  have HR1b := hid (gb_keep hg3 HR1a.out (by have := HLr.out; omega))
  have HR2b := hid (gb_keep hg3 HR2a.out (by have := HLr.out; omega))
  have HB3 := hid (Below.of_gb HB1.out hg3 (by have := HLr.out; have := HAA.out; omega))
  clear hf3 hg3 p2 HFD HR1a HR2a HB1
  have p3 := HF3.out.ptr
  go_wp2_with fail
  refine (fd_at HF3.out).mono ?_
  rintro e w4 ⟨A4, rfl, hw4, hA4⟩
  have hw4 := hw4.symm
  subst hw4
  obtain rfl : A4 = head := hA4 rfl
  clear hA4 p3
  go_wp2_with fail
  refine (fd_some w0.heap.size b rb v bs (A4, 0, 0) 6 w3 (by omega) HF3.out).mono ?_
  rintro e w5 ⟨rfl, hf5, hg5⟩
  rw [show ((oS bs 6 (A4, 0, 0)).1 : Int) = 5 by rw [HK.out]; rfl]
  have HF5 := hid hf5
  have HR1c := hid (hg5.keep HR1b.out (by have := HLb.out; omega) (by have := HLr.out; omega))
  have HR2c := hid (hg5.keep HR2b.out (by have := HLb.out; omega) (by have := HLr.out; omega))
  have HB5 := hid (hg5.below HB3.out (by have := HLb.out; have := HAA.out; omega) (by have := HLr.out; have := HAA.out; omega))
  clear hf5 hg5 HF3 HR1b HR2b HB3
  go_upto_region 5 with (first
    | (refine bd_row (by rfl) 29 #[(0, .tmp 25)] (by rfl) _ (by simp [Act.eval]) _ built_k5 ?_)
    | (refine al_row (by rfl) 29 (by rfl) _ zeroFrame ?_)
    | (refine st_new (by rfl) 29 _ _ (by rfl) (fcells (kF 5) nS) (by rfl) (by rfl) 29 _ (frame_size (kF 5) nS rfl) rfl (fcells_one (kF 5) nS rfl) ?_))
  have HW5 := hid (below_walk w5 (.cells (fcells (kF 5) nS).toArray 29))
  have HF6 := hid (HF5.out.below HW5.out)
  have HR1d := hid (bel_keep HW5.out HR1c.out)
  have HR2d := hid (bel_keep HW5.out HR2c.out)
  have HB6 := hid (below_then HB5.out HW5.out)
  have HFb := hid (hp_new w5 (.cells (fcells (kF 5) nS).toArray 29))
  have HLf0 : Hid (b < w5.heap.size) := hid HF5.out.lt.1
  have HVO0 := hid HF5.out.own
  obtain ⟨fb, HFBe⟩ : ∃ b, Hid (w5.heap.size = b) := ⟨_, rfl⟩
  rw [HFBe.out] at HFb HLf0 HVO0 ⊢
  have HVO : Hid (∀ k, v.ownBlock = some k → k < fb) := hid HVO0.out
  generalize w5.alloc (.cells (fcells (kF 5) nS).toArray 29) = w6 at HF6 HR1d HR2d HB6 HFb ⊢
  clear HF5 HR1c HR2c HB5 HW5
  have x0 : w6.cell? ⟨fb, 0, none⟩ = some (.int .i64 5) := (Fb.of HFb.out rfl).k
  go_wp2_with fail
  refine (kindOf_5 w6).mono ?_
  rintro e w7 ⟨rfl, hb7⟩
  have HF7 := hid (HF6.out.below hb7)
  have HR1e := hid (bel_keep hb7 HR1d.out)
  have HR2e := hid (bel_keep hb7 HR2d.out)
  have HB7 := hid (below_then HB6.out hb7)
  have HFc := hid (bel_keep hb7 HFb.out)
  clear hb7 HF6 HR1d HR2d HB6 HFb x0
  go_upto_region 6 with (first
    | (refine al_row (by rfl) 61 (by rfl) _ zeroKind ?_)
    | (refine st_new (by rfl) 61 _ _ (by rfl) k5 (by rfl) (by rfl) 61 _ kindSize rfl (kOf_one 5) ?_))
  have HW7 := hid (below_walk w7 (.cells (k5).toArray 61))
  have HF8 := hid (HF7.out.below HW7.out)
  have HR1 := hid (bel_keep HW7.out HR1e.out)
  have HR2 := hid (bel_keep HW7.out HR2e.out)
  have HB8 := hid (below_then HB7.out HW7.out)
  have HFd := hid (bel_keep HW7.out HFc.out)
  have HKb := hid (hp_new w7 (.cells (k5).toArray 61))
  have HLk : Hid (fb < w7.heap.size) := hid (hp_lt HFc.out)
  obtain ⟨kb, HKBe⟩ : ∃ b, Hid (w7.heap.size = b) := ⟨_, rfl⟩
  rw [HKBe.out] at HKb HLk ⊢
  generalize w7.alloc (.cells (k5).toArray 61) = w8 at HF8 HR1 HR2 HB8 HFd HKb ⊢
  clear HF7 HR1e HR2e HB7 HFc HW7 HZ2 HFBe HKBe
  have y4 : w8.cell? ⟨kb, 4, none⟩ = some (.func (.func 91) #[] #[]) := by rw [cell_of_row w8 kb 4 _ _ _ HKb.out]; rfl
  go_wp2_with (refine ld_row (by rfl) 29 (.tmp 6) (by rfl) fb (by rfl) (fcells (kF 5) nS) 29 HFd.out _ Try.underlying29 rfl (frame_size (kF 5) nS rfl) ?_)
  refine (readBye_any w0.heap.size b rb v bs (oS bs 6 (A4, 0, 0)).2 w8 HBL.out HF8.out).mono ?_
  rintro e w9 ⟨va, rfl, hoa, hf9, hg9⟩
  have HLb8 : Hid (b < w8.heap.size) := hid HF8.out.lt.1
  have HLr8 : Hid (rb < w8.heap.size) := hid HF8.out.lt.2.1
  have HLk8 : Hid (kb < w8.heap.size) := hid (hp_lt HKb.out)
  have HS9 : Hid (w8.heap.size ≤ w9.heap.size) := hid hg9.size
  have HOA := hid hoa
  have HF9 := hid hf9
  have HR1f := hid (hg9.keep HR1.out (by have := HLb.out; omega) (by have := HLr.out; omega))
  have HR2f := hid (hg9.keep HR2.out (by have := HLb.out; omega) (by have := HLr.out; omega))
  have HB9 := hid (hg9.below HB8.out (by have := HLb.out; have := HAA.out; omega) (by have := HLr.out; have := HAA.out; omega))
  have HFe := hid (hg9.keep HFd.out (by have := HLf0.out; omega) (by have := HLf0.out; have := HLrb.out; omega))
  have HKc := hid (hg9.keep HKb.out (by have := HLk.out; have := HLf0.out; omega) (by have := HLk.out; have := HLf0.out; have := HLrb.out; omega))
  have HTL := hid (show (fieldsP bs 5 (oS bs 6 (A4, 0, 0)).2).1.tool.length = 32 from fieldsP_tool bs 5 (oS bs 6 (A4, 0, 0)).2)
  obtain ⟨aV, cV, eV⟩ := wowns_shape hoa
  have HSZ := hid (frame_size (fieldsP bs 5 (oS bs 6 (A4, 0, 0)).2).1 va HTL.out)
  have HON := hid (fcells_one (fieldsP bs 5 (oS bs 6 (A4, 0, 0)).2).1 va (by rw [eV]; rfl))
  have HOS := hid (show (fcells (kF 5) nS).toArray.size = (fcells (fieldsP bs 5 (oS bs 6 (A4, 0, 0)).2).1 va).length by rw [fcells_length _ _ HTL.out]; rfl)
  obtain ⟨FF, HFF⟩ : ∃ L, Hid (fcells (fieldsP bs 5 (oS bs 6 (A4, 0, 0)).2).1 va = L) := ⟨_, rfl⟩
  rw [HFF.out] at HSZ HON HOS ⊢
  have HFV : Hid (∀ k, v.ownBlock = some k → k < fb) := hid (fun k hk => by have := HVO.out k hk; omega)
  clear hoa hf9 hg9 HF8 HR1 HR2 HB8 HFd HKb y4 eV
  go_upto_region 9 with (refine st_row (by rfl) 29 _ _ (by rfl) fb FF (by rfl) (by rfl) 29 _ HFe.out HSZ.out HOS.out HON.out ?_; intro w10 hw10)
  have HF10 := hid (HF9.out.far hw10.grown (by have := HLf0.out; omega) (by have := HLf0.out; have := HLrb.out; omega) (fun k hk => by have := HFV.out k hk; omega))
  have HR1g := hid (gb_keep hw10.grown HR1f.out (by have := HLf0.out; have := HLb.out; omega))
  have HR2g := hid (gb_keep hw10.grown HR2f.out (by have := HLf0.out; have := HLb.out; omega))
  have HKd := hid (gb_keep hw10.grown HKc.out (by have := HLk.out; omega))
  have HB10 := hid (Below.of_gb HB9.out hw10.grown (by have := HLf0.out; have := HLb.out; have := HAA.out; omega))
  have HFf := hid hw10.blk
  have HOA2 := hid (WOwnS.far HOA.out hw10.grown (fun j e => by injection e with e; have := HLk.out; have := HLk8.out; omega))
  have HS10 : Hid (w8.heap.size ≤ w10.heap.size) := hid (by have := hw10.size; have := HS9.out; omega)
  clear hw10 HF9 HR1f HR2f HKc HB9 HFe HOA HOS HS9
  go_wp2_with fail
  refine (fd_end w0.heap.size b rb v bs _ w10 HF10.out).mono ?_
  rintro e w11 ⟨rfl, hg11⟩
  have HR1h := hid (hg11.keep HR1g.out (by have := HLb.out; omega) (by have := HLr.out; omega))
  have HR2h := hid (hg11.keep HR2g.out (by have := HLb.out; omega) (by have := HLr.out; omega))
  have HB11 := hid (hg11.below HB10.out (by have := HLb.out; have := HAA.out; omega) (by have := HLr.out; have := HAA.out; omega))
  have HFg := hid (hg11.keep HFf.out (by have := HLf0.out; omega) (by have := HLf0.out; have := HLrb.out; omega))
  have HKe := hid (hg11.keep HKd.out (by have := HLk.out; have := HLf0.out; omega) (by have := HLk.out; have := HLf0.out; have := HLrb.out; omega))
  have HOA3 := hid (wowns_g2 HOA2.out hg11 HLb8.out HLr8.out)
  have HS11 : Hid (w8.heap.size ≤ w11.heap.size) := hid (by have := hg11.size; have := HS10.out; omega)
  obtain ⟨E1, HE1⟩ : ∃ x, Hid ((eS bs (fieldsP bs 5 (oS bs 6 (A4, 0, 0)).2).2).1 = x) := ⟨_, rfl⟩
  obtain ⟨E2, HE2⟩ : ∃ x, Hid ((eS bs (fieldsP bs 5 (oS bs 6 (A4, 0, 0)).2).2).2 = x) := ⟨_, rfl⟩
  rw [HE1.out, HE2.out]
  clear hg11 HF10 HR1g HR2g HB10 HFf HKd HOA2 HS10
  go_upto_region 10 with fail
  have HWT := hid (below_walk w11 (.cells #[.int .i64 E1, .int .i64 E2] 47))
  have HR1i := hid (bel_keep HWT.out HR1h.out)
  have HR2i := hid (bel_keep HWT.out HR2h.out)
  have HB12 := hid (below_then HB11.out HWT.out)
  have HFh := hid (bel_keep HWT.out HFg.out)
  have HKf := hid (bel_keep HWT.out HKe.out)
  have HOA4 := hid (HOA3.out.alloc (.cells #[.int .i64 E1, .int .i64 E2] 47))
  have HTB0 := hid (hp_new w11 (.cells #[.int .i64 E1, .int .i64 E2] 47))
  have HLt0 : Hid (kb < w11.heap.size) := hid (hp_lt HKe.out)
  obtain ⟨tb, HTBe⟩ : ∃ b, Hid (w11.heap.size = b) := ⟨_, rfl⟩
  rw [HTBe.out] at HTB0 HLt0 ⊢
  generalize w11.alloc (.cells #[.int .i64 E1, .int .i64 E2] 47) = w12 at HR1i HR2i HB12 HFh HKf HOA4 HTB0 ⊢
  have HLt : Hid (A + 2 ≤ tb) := hid (by have := HLt0.out; have := HLk.out; have := HLf0.out; have := HLb.out; omega)
  have HL8t : Hid (w8.heap.size ≤ tb) := hid (by have := HS11.out; have := HTBe.out; omega)
  clear HR1h HR2h HB11 HFg HKe HOA3 HWT HTBe HS11
  have t0 : w12.cell? ⟨tb, 0, none⟩ = some (.int .i64 E1) := by simp [World.cell?, HTB0.out]
  have t1 : w12.cell? ⟨tb, 1, none⟩ = some (.int .i64 E2) := by simp [World.cell?, HTB0.out]
  have f0 := row_fz HTB0.out 0
  have f1 := row_fz HTB0.out 1
  by_cases hE : E1 = 0
  · obtain ⟨M, HM⟩ : ∃ M, Hid (mayF (fieldsP bs 5 (oS bs 6 (A4, 0, 0)).2).1 = M) := ⟨_, rfl⟩
    have HST := hid (wowns_strs HOA4.out)
    have HMN : Hid ((fieldsP bs 5 (oS bs 6 (A4, 0, 0)).2).1.args.length ≤ 9223372036854775807) := hid (wowns_len HOA4.out)
    have HMAY := hid (show Calls Try.prog 86 #[.agg FF.toArray] w12 fun e w' => e = .returned (.bool M) ∧ Below w12.heap.size w12 w' by
      rw [← HM.out, mayF_5 _ (fieldsP_kind bs 5 (oS bs 6 (A4, 0, 0)).2 (by omega)), ← HFF.out]
      exact mayAlways_any _ w12)
    subst hE
    have y2 : w12.cell? ⟨kb, 2, none⟩ = some (.func (.func 86) #[] #[]) := by rw [cell_of_row w12 kb 2 _ _ _ HKf.out]; rfl
    have HRG := hid (range_row HFh.out)
    clear HST HMN
    go_wp2_with (refine ld_gd (by rfl) 29 (.tmp 6) (by rfl) fb 0 (by rfl) FF _ HRG.out Try.underlying29 rfl HSZ.out ?_)
    refine HMAY.out.mono ?_
    rintro e w13 ⟨rfl, hb13⟩
    have HR1z := hid (bel_keep hb13 HR1i.out)
    have HR2z := hid (bel_keep hb13 HR2i.out)
    have HBz := hid (below_then HB12.out hb13)
    have HFz := hid (bel_keep hb13 HFh.out)
    have HTBz := hid (bel_keep hb13 HTB0.out)
    have HOAz := hid (WOwnS.far HOA4.out (below_gb hb13 none) (fun j e => by cases e))
    clear hb13 HR1i HR2i HB12 HFh HTB0 HKf HOA4 HMAY HRG y2 t0 t1 f0 f1
    have t0 : w13.cell? ⟨tb, 0, none⟩ = some (.int .i64 0) := by simp [World.cell?, HTBz.out]
    have t1 : w13.cell? ⟨tb, 1, none⟩ = some (.int .i64 E2) := by simp [World.cell?, HTBz.out]
    have f0 := row_fz HTBz.out 0
    have f1 := row_fz HTBz.out 1
    cases M with
    | true =>
      as_aux_lemma =>
        have HFP := hid (frameP_ok bs A4 5 HK.out (by omega) HE1.out HM.out)
        go_wp2_with (first
          | (refine ld_row (by rfl) 29 (.tmp 6) (by rfl) fb (by rfl) FF 29 HFz.out _ Try.underlying29 rfl HSZ.out ?_)
          | (refine bd_row (by rfl) 47 #[] (by rfl) _ (by simp [Act.eval]) _ built_fz ?_)
          | (refine st_row (by rfl) 29 _ _ (by rfl) A FF (by rfl) (by rfl) 29 _ HR1z.out HSZ.out (by rw [← HFF.out, fcells_length _ _ HTL.out]; rfl) HON.out ?_; intro w14 hw14)
          | (refine st_row (by rfl) 47 _ _ (by rfl) (A + 1) [Value.int .i64 0, .int .i64 0] (by rfl) (by rfl) 47 _ (gb_keep hw14.grown HR2z.out (by omega)) faultSize rfl (fault_one _ _) ?_; intro w15 hw15))
        refine ret_cc 2 3 29 47 rfl A rfl (A + 1) rfl FF 29 (gb_keep hw15.grown hw14.blk (by omega)) _ Try.underlying29 rfl HSZ.out _ 47 hw15.blk _ Try.underlying47 rfl faultSize rfl ?_
        rw [HFP.out]
        refine ⟨va, by rw [← HFF.out]; rfl, ?_, Below.of_gb (Below.of_gb HBz.out hw14.grown (by have := HAA.out; omega)) hw15.grown (by have := HAA.out; omega)⟩
        exact (WOwnS.far (WOwnS.far HOAz.out hw14.grown (fun j e => by injection e with e; have := HLk8.out; have := HLk.out; have := HLf0.out; have := HLb.out; omega)) hw15.grown (fun j e => by injection e with e; have := HLk8.out; have := HLk.out; have := HLf0.out; have := HLb.out; omega)).le (by have := HLk8.out; have := HLk.out; have := HLf0.out; have := HLb.out; have := HAA.out; omega)
    | false =>
      as_aux_lemma =>
        have HFP := hid (frameP_may bs A4 5 HK.out (by omega) HE1.out HM.out)
        go_upto_region 12 with (first
          | (refine bd_row (by rfl) 47 #[(0, .const (.int .i64 70)), (1, .tmp 55)] (by rfl) _ (by simp [Act.eval]) _ (built_ft 70 (A4 : Int)) ?_)
          | (refine st_row (by rfl) 47 _ _ (by rfl) tb [Value.int .i64 70, .int .i64 (A4 : Int)] (by rfl) (by rfl) 47 _ HTBz.out faultSize rfl (fault_one _ _) ?_; intro w14 hw14))
        have HTB := hid hw14.blk
        have HR1y := hid (gb_keep hw14.grown HR1z.out (by have := HLt.out; omega))
        have HR2y := hid (gb_keep hw14.grown HR2z.out (by have := HLt.out; omega))
        have HBy := hid (Below.of_gb HBz.out hw14.grown (by have := HLt.out; have := HAA.out; omega))
        clear hw14 HR1z HR2z HBz t0 t1 f0 f1
        have HR1z := hid HR1y.out
        have HR2z := hid HR2y.out
        have HBz := hid HBy.out
        have t0 : w14.cell? ⟨tb, 0, none⟩ = some (.int .i64 70) := by simp [World.cell?, HTB.out]
        go_upto_region 13 with fail
        have HTBc := hid HTB.out
        refine wp_noPanic (wp_region_held_drew (S := fun W => W.heap[tb]? = some (.cells [Value.int .i64 70, .int .i64 (A4 : Int)].toArray 47 (0, 0))) (by kernel_rfl) HTBc.out ?_)
        intro hHeld
        refine wpAnyH_take (i := 0) (v := .agg (fcells zF nS).toArray) rfl (by kernel_rfl) (by kernel_rfl) (by kernel_rfl) (fun _ _ _ h => h) (yields_build (by rfl) 29 #[] (by rfl) _ (by simp [Act.eval]) _ built_zf) hHeld ?_
        simp only [Act.put, List.getElem_toArray, List.getElem_cons_zero, List.setIfInBounds_toArray, List.set_cons_succ, List.set_cons_zero]
        refine wpAnyH_take (i := 1) (v := .agg [Value.int .i64 70, .int .i64 (A4 : Int)].toArray) rfl (by kernel_rfl) (by kernel_rfl) (by kernel_rfl) (fun _ _ _ h => h) (yieldsIf_load_mid (by rfl) 47 (.tmp 9) rfl tb 0 rfl [Value.int .i64 70, .int .i64 (A4 : Int)] _ (fun W hW => range_row hW) Try.underlying47 rfl faultSize) hHeld ?_
        simp only [Act.put, List.getElem_toArray, List.getElem_cons_zero, List.getElem_cons_succ, List.setIfInBounds_toArray, List.set_cons_succ, List.set_cons_zero]
        obtain ⟨wx, HWX⟩ : ∃ x, Hid (w14.drew = x) := ⟨_, rfl⟩
        have HR1x := hid (show w14.drew.heap[A]? = _ from HR1z.out)
        have HR2x := hid (show w14.drew.heap[A + 1]? = _ from HR2z.out)
        have HTBx := hid (show w14.drew.heap[tb]? = some (.cells [Value.int .i64 70, .int .i64 (A4 : Int)].toArray 47 (0, 0)) from HTB.out)
        have HBx := hid (show Below w.heap.size w w14.drew from below_tr HBz.out ⟨rfl, rfl, rfl, Nat.le_refl _, fun _ _ => rfl⟩)
        rw [HWX.out] at hHeld HR1x HR2x HTBx HBx ⊢
        refine wpAnyH_ready (rs := [2]) (by kernel_rfl) (by simp) ?_
        refine AllReadyH.cons rfl (fun K9 hK9 => ?_) AllReadyH.nil
        refine step_store_row (by rfl) 29 _ _ (by rfl) A (fcells zF nS) (by rfl) (by rfl) 29 _ HR1x.out (frame_size zF nS rfl) rfl (fcells_one zF nS rfl) ?_
        intro wy hwy
        refine hK9.out _ _ (gb_keep hwy.grown HTBx.out (by have := HLt.out; omega)) (fun hHeld => ?_)
        clear hK9 K9
        try simp only [Act.put, List.getElem_toArray, List.getElem_cons_zero, List.getElem_cons_succ]
        refine wpAnyH_ready (rs := [3]) (by kernel_rfl) (by simp) ?_
        refine AllReadyH.cons rfl (fun K9 hK9 => ?_) AllReadyH.nil
        refine step_store_row (by rfl) 47 _ _ (by rfl) (A + 1) [Value.int .i64 70, .int .i64 (A4 : Int)] (by rfl) (by rfl) 47 _ (gb_keep hwy.grown HR2x.out (by omega)) faultSize rfl (fault_one _ _) ?_
        intro wz hwz
        refine hK9.out _ _ (gb_keep hwz.grown (gb_keep hwy.grown HTBx.out (by have := HLt.out; omega)) (by have := HLt.out; omega)) (fun hHeld => ?_)
        clear hK9 K9
        try simp only [Act.put, List.getElem_toArray, List.getElem_cons_zero, List.getElem_cons_succ]
        refine wpAnyH_done (by kernel_rfl) ?_ _
        simp only [noPanic]
        clear hHeld
        go_wp2
        refine ret_cc 2 3 29 47 rfl A rfl (A + 1) rfl (fcells zF nS) 29 (gb_keep hwz.grown hwy.blk (by omega)) _ Try.underlying29 rfl (frame_size zF nS rfl) _ 47 hwz.blk _ Try.underlying47 rfl faultSize rfl ?_
        rw [HFP.out]
        refine ⟨nS, rfl, World.ownsRow_nil _ _ _ _, ?_⟩
        exact Below.of_gb (Below.of_gb HBx.out hwy.grown (by have := HAA.out; omega)) hwz.grown (by have := HAA.out; omega)

  · as_aux_lemma =>
      have q1 : (E1 == 0) = false := by simpa using hE
      have q2 : (E1 != 0) = true := by simpa using hE
      have HFP := hid (show frameP bs A4 = (zF, E1, E2) by
        rw [frameP_bad bs A4 5 HK.out (by omega) (show (eS bs (fieldsP bs 5 (oS bs 6 (A4, 0, 0)).2).2).1 ≠ 0 by rw [HE1.out]; exact hE), ← HE1.out, ← HE2.out]; rfl)
      have HR1z := hid HR1i.out
      have HR2z := hid HR2i.out
      have HBz := hid HB12.out
      have HTB := hid (show w12.heap[tb]? = some (.cells [Value.int .i64 E1, .int .i64 E2].toArray 47 (0, 0)) from HTB0.out)
      clear hE
      go_upto_region 13 with fail
      have HTBc := hid HTB.out
      refine wp_noPanic (wp_region_held_drew (S := fun W => W.heap[tb]? = some (.cells [Value.int .i64 E1, .int .i64 E2].toArray 47 (0, 0))) (by kernel_rfl) HTBc.out ?_)
      intro hHeld
      refine wpAnyH_take (i := 0) (v := .agg (fcells zF nS).toArray) rfl (by kernel_rfl) (by kernel_rfl) (by kernel_rfl) (fun _ _ _ h => h) (yields_build (by rfl) 29 #[] (by rfl) _ (by simp [Act.eval]) _ built_zf) hHeld ?_
      simp only [Act.put, List.getElem_toArray, List.getElem_cons_zero, List.setIfInBounds_toArray, List.set_cons_succ, List.set_cons_zero]
      refine wpAnyH_take (i := 1) (v := .agg [Value.int .i64 E1, .int .i64 E2].toArray) rfl (by kernel_rfl) (by kernel_rfl) (by kernel_rfl) (fun _ _ _ h => h) (yieldsIf_load_mid (by rfl) 47 (.tmp 9) rfl tb 0 rfl [Value.int .i64 E1, .int .i64 E2] _ (fun W hW => range_row hW) Try.underlying47 rfl faultSize) hHeld ?_
      simp only [Act.put, List.getElem_toArray, List.getElem_cons_zero, List.getElem_cons_succ, List.setIfInBounds_toArray, List.set_cons_succ, List.set_cons_zero]
      obtain ⟨wx, HWX⟩ : ∃ x, Hid (w12.drew = x) := ⟨_, rfl⟩
      have HR1x := hid (show w12.drew.heap[A]? = _ from HR1z.out)
      have HR2x := hid (show w12.drew.heap[A + 1]? = _ from HR2z.out)
      have HTBx := hid (show w12.drew.heap[tb]? = some (.cells [Value.int .i64 E1, .int .i64 E2].toArray 47 (0, 0)) from HTB.out)
      have HBx := hid (show Below w.heap.size w w12.drew from below_tr HBz.out ⟨rfl, rfl, rfl, Nat.le_refl _, fun _ _ => rfl⟩)
      rw [HWX.out] at hHeld HR1x HR2x HTBx HBx ⊢
      refine wpAnyH_ready (rs := [2]) (by kernel_rfl) (by simp) ?_
      refine AllReadyH.cons rfl (fun K9 hK9 => ?_) AllReadyH.nil
      refine step_store_row (by rfl) 29 _ _ (by rfl) A (fcells zF nS) (by rfl) (by rfl) 29 _ HR1x.out (frame_size zF nS rfl) rfl (fcells_one zF nS rfl) ?_
      intro wy hwy
      refine hK9.out _ _ (gb_keep hwy.grown HTBx.out (by have := HLt.out; omega)) (fun hHeld => ?_)
      clear hK9 K9
      try simp only [Act.put, List.getElem_toArray, List.getElem_cons_zero, List.getElem_cons_succ]
      refine wpAnyH_ready (rs := [3]) (by kernel_rfl) (by simp) ?_
      refine AllReadyH.cons rfl (fun K9 hK9 => ?_) AllReadyH.nil
      refine step_store_row (by rfl) 47 _ _ (by rfl) (A + 1) [Value.int .i64 E1, .int .i64 E2] (by rfl) (by rfl) 47 _ (gb_keep hwy.grown HR2x.out (by omega)) faultSize rfl (fault_one _ _) ?_
      intro wz hwz
      refine hK9.out _ _ (gb_keep hwz.grown (gb_keep hwy.grown HTBx.out (by have := HLt.out; omega)) (by have := HLt.out; omega)) (fun hHeld => ?_)
      clear hK9 K9
      try simp only [Act.put, List.getElem_toArray, List.getElem_cons_zero, List.getElem_cons_succ]
      refine wpAnyH_done (by kernel_rfl) ?_ _
      simp only [noPanic]
      clear hHeld
      go_wp2
      refine ret_cc 2 3 29 47 rfl A rfl (A + 1) rfl (fcells zF nS) 29 (gb_keep hwz.grown hwy.blk (by omega)) _ Try.underlying29 rfl (frame_size zF nS rfl) _ 47 hwz.blk _ Try.underlying47 rfl faultSize rfl ?_
      rw [HFP.out]
      refine ⟨nS, rfl, World.ownsRow_nil _ _ _ _, ?_⟩
      exact Below.of_gb (Below.of_gb HBx.out hwy.grown (by have := HAA.out; omega)) hwz.grown (by have := HAA.out; omega)

end Go.Proofs.Ytjinkahlfigdcaa

/- readFrame, where the kind that is read is 6. -/
namespace Go.Proofs.Ytjinkahlfigdcaa
open Go.RowKit Go.BigFrame

set_option maxRecDepth 100000 in
set_option maxHeartbeats 8000000 in
theorem readFrame_6 (v0 : Value) (bs : List UInt8) (head N : Nat) (w : World) (hs : Src w v0 bs) (hbl : bs.length ≤ 1099511627776) (hu : uS bs (0, 0, 0) = (N, head, 0, 0)) (hK : (oS bs 6 (head, 0, 0)).1 = 6) :
    Calls Try.prog 32 #[v0] w fun e w' => ∃ va, e = .returned (.tuple #[.agg (fcells (frameP bs head).1 va).toArray, .agg #[.int .i64 (frameP bs head).2.1, .int .i64 (frameP bs head).2.2]]) ∧ WOwnS w' w.heap.size va (frameP bs head).1.args ∧ Below w.heap.size w w' := by
  obtain ⟨va0, c0, rfl⟩ := src_shape hs
  obtain ⟨L0, HL0⟩ : ∃ n, Hid (bs.length = n) := ⟨_, rfl⟩
  obtain ⟨A, HAA⟩ : ∃ n, Hid (w.heap.size = n) := ⟨_, rfl⟩
  have HB0 := hid (below_walk2 w (.cells (fcells zF nS).toArray 29) (.cells #[.int .i64 0, .int .i64 0] 47))
  have HNB := hid (hp_two w (.cells (fcells zF nS).toArray 29) (.cells #[.int .i64 0, .int .i64 0] 47))
  have HZ : Hid ((w.alloc (.cells (fcells zF nS).toArray 29)).heap.size = w.heap.size + 1) := hid (by simp)
  have HZ2 : Hid (((w.alloc (.cells (fcells zF nS).toArray 29)).alloc (.cells #[.int .i64 0, .int .i64 0] 47)).heap.size = w.heap.size + 2) := hid (by simp)
  have HNR := hid (newReader_any _ bs _ (hs.below HB0.out))
  have HU := hid hu
  have HK := hid hK
  have HBL := hid hbl
  clear hs hbl hu hK
  go_enter Try.func32, Try.ntmps32
  go_upto_region 1 with (refine al_row (by rfl) 29 (by rfl) _ zeroFrame ?_)
  try rw [HZ.out]
  generalize (w.alloc (.cells (fcells zF nS).toArray 29)).alloc (.cells #[.int .i64 0, .int .i64 0] 47) = w0 at HB0 HNB HZ2 HNR ⊢
  rw [HAA.out] at HNB HZ2 ⊢
  have HR1 := hid HNB.out.1
  have HR2 := hid HNB.out.2
  clear HNB HZ
  go_wp2_with fail
  refine HNR.out.mono ?_
  rintro e w1 ⟨rb, v, rfl, hr1, hb1⟩
  obtain ⟨b, HBb⟩ : ∃ b, Hid (w1.heap.size = b) := ⟨_, rfl⟩
  have HLb : Hid (A + 2 ≤ b) := hid (by have := hb1.size; have := HZ2.out; have := HBb.out; omega)
  have HLr : Hid (A + 2 ≤ rb) := hid (by have := hr1.lo; have := HZ2.out; omega)
  have HLrb : Hid (rb < b) := hid (by have := hr1.lt; have := HBb.out; omega)
  have HAW := hid (below_walk w1 (.cells #[.pointer (some ⟨rb, 0, none⟩), .int .i64 0, .int .i64 0] 93))
  have HFD := hid (show Fd (w1.alloc (.cells #[.pointer (some ⟨rb, 0, none⟩), .int .i64 0, .int .i64 0] 93)) w0.heap.size b rb v bs (0, 0, 0) from ⟨0, 0, 0, 0, 0, hr1.below HAW.out, HBb.out ▸ hp_new w1 _, by have := HLrb.out; omega, fun e => by have := (hr1.own.lt _ e).2; have := HBb.out; omega, by have := hb1.size; have := HBb.out; omega, Or.inl ⟨rfl, rfl⟩⟩)
  have HR1a := hid (bel_keep HAW.out (bel_keep hb1 HR1.out))
  have HR2a := hid (bel_keep HAW.out (bel_keep hb1 HR2.out))
  have HB1 := hid (below_then (below_then HB0.out hb1) HAW.out)
  clear hr1 hb1 HR1 HR2 HB0 HNR HAW
  go_upto_region 2 with fail
  rw [HBb.out]
  generalize w1.alloc (.cells #[.pointer (some ⟨rb, 0, none⟩), .int .i64 0, .int .i64 0] 93) = w2 at HFD HR1a HR2a HB1 ⊢
  have p2 := HFD.out.ptr
  go_wp2_with fail
  refine (fd_uint HFD.out).mono ?_
  rintro e w3 ⟨rfl, hf3, hg3⟩
  rw [HU.out] at hf3
  have HF3 := hid (show Fd w3 w0.heap.size b rb v bs (head, 0, 0) from hf3)
  have HR1b := hid (gb_keep hg3 HR1a.out (by have := HLr.out; omega))
  have HR2b := hid (gb_keep hg3 HR2a.out (by have := HLr.out; omega))
  have HB3 := hid (Below.of_gb HB1.out hg3 (by have := HLr.out; have := HAA.out; omega))
  clear hf3 hg3 p2 HFD HR1a HR2a HB1
  have p3 := HF3.out.ptr
  go_wp2_with fail
  refine (fd_at HF3.out).mono ?_
  rintro e w4 ⟨A4, rfl, hw4, hA4⟩
  have hw4 := hw4.symm
  subst hw4
  obtain rfl : A4 = head := hA4 rfl
  clear hA4 p3
  go_wp2_with fail
  refine (fd_some w0.heap.size b rb v bs (A4, 0, 0) 6 w3 (by omega) HF3.out).mono ?_
  rintro e w5 ⟨rfl, hf5, hg5⟩
  rw [show ((oS bs 6 (A4, 0, 0)).1 : Int) = 6 by rw [HK.out]; rfl]
  have HF5 := hid hf5
  have HR1c := hid (hg5.keep HR1b.out (by have := HLb.out; omega) (by have := HLr.out; omega))
  have HR2c := hid (hg5.keep HR2b.out (by have := HLb.out; omega) (by have := HLr.out; omega))
  have HB5 := hid (hg5.below HB3.out (by have := HLb.out; have := HAA.out; omega) (by have := HLr.out; have := HAA.out; omega))
  clear hf5 hg5 HF3 HR1b HR2b HB3
  go_upto_region 5 with (first
    | (refine bd_row (by rfl) 29 #[(0, .tmp 25)] (by rfl) _ (by simp [Act.eval]) _ built_k6 ?_)
    | (refine al_row (by rfl) 29 (by rfl) _ zeroFrame ?_)
    | (refine st_new (by rfl) 29 _ _ (by rfl) (fcells (kF 6) nS) (by rfl) (by rfl) 29 _ (frame_size (kF 6) nS rfl) rfl (fcells_one (kF 6) nS rfl) ?_))
  have HW5 := hid (below_walk w5 (.cells (fcells (kF 6) nS).toArray 29))
  have HF6 := hid (HF5.out.below HW5.out)
  have HR1d := hid (bel_keep HW5.out HR1c.out)
  have HR2d := hid (bel_keep HW5.out HR2c.out)
  have HB6 := hid (below_then HB5.out HW5.out)
  have HFb := hid (hp_new w5 (.cells (fcells (kF 6) nS).toArray 29))
  have HLf0 : Hid (b < w5.heap.size) := hid HF5.out.lt.1
  have HVO0 := hid HF5.out.own
  obtain ⟨fb, HFBe⟩ : ∃ b, Hid (w5.heap.size = b) := ⟨_, rfl⟩
  rw [HFBe.out] at HFb HLf0 HVO0 ⊢
  have HVO : Hid (∀ k, v.ownBlock = some k → k < fb) := hid HVO0.out
  generalize w5.alloc (.cells (fcells (kF 6) nS).toArray 29) = w6 at HF6 HR1d HR2d HB6 HFb ⊢
  clear HF5 HR1c HR2c HB5 HW5
  have x0 : w6.cell? ⟨fb, 0, none⟩ = some (.int .i64 6) := (Fb.of HFb.out rfl).k
  go_wp2_with fail
  refine (kindOf_6 w6).mono ?_
  rintro e w7 ⟨rfl, hb7⟩
  have HF7 := hid (HF6.out.below hb7)
  have HR1e := hid (bel_keep hb7 HR1d.out)
  have HR2e := hid (bel_keep hb7 HR2d.out)
  have HB7 := hid (below_then HB6.out hb7)
  have HFc := hid (bel_keep hb7 HFb.out)
  clear hb7 HF6 HR1d HR2d HB6 HFb x0
  go_upto_region 6 with (first
    | (refine al_row (by rfl) 61 (by rfl) _ zeroKind ?_)
    | (refine st_new (by rfl) 61 _ _ (by rfl) k6 (by rfl) (by rfl) 61 _ kindSize rfl (kOf_one 6) ?_))
  have HW7 := hid (below_walk w7 (.cells (k6).toArray 61))
  have HF8 := hid (HF7.out.below HW7.out)
  have HR1 := hid (bel_keep HW7.out HR1e.out)
  have HR2 := hid (bel_keep HW7.out HR2e.out)
  have HB8 := hid (below_then HB7.out HW7.out)
  have HFd := hid (bel_keep HW7.out HFc.out)
  have HKb := hid (hp_new w7 (.cells (k6).toArray 61))
  have HLk : Hid (fb < w7.heap.size) := hid (hp_lt HFc.out)
  obtain ⟨kb, HKBe⟩ : ∃ b, Hid (w7.heap.size = b) := ⟨_, rfl⟩
  rw [HKBe.out] at HKb HLk ⊢
  generalize w7.alloc (.cells (k6).toArray 61) = w8 at HF8 HR1 HR2 HB8 HFd HKb ⊢
  clear HF7 HR1e HR2e HB7 HFc HW7 HZ2 HFBe HKBe
  have y4 : w8.cell? ⟨kb, 4, none⟩ = some (.func (.func 94) #[] #[]) := by rw [cell_of_row w8 kb 4 _ _ _ HKb.out]; rfl
  go_wp2_with (refine ld_row (by rfl) 29 (.tmp 6) (by rfl) fb (by rfl) (fcells (kF 6) nS) 29 HFd.out _ Try.underlying29 rfl (frame_size (kF 6) nS rfl) ?_)
  refine (readNote_any w0.heap.size b rb v bs (oS bs 6 (A4, 0, 0)).2 w8 HBL.out HF8.out).mono ?_
  rintro e w9 ⟨va, rfl, hoa, hf9, hg9⟩
  have HLb8 : Hid (b < w8.heap.size) := hid HF8.out.lt.1
  have HLr8 : Hid (rb < w8.heap.size) := hid HF8.out.lt.2.1
  have HLk8 : Hid (kb < w8.heap.size) := hid (hp_lt HKb.out)
  have HS9 : Hid (w8.heap.size ≤ w9.heap.size) := hid hg9.size
  have HOA := hid hoa
  have HF9 := hid hf9
  have HR1f := hid (hg9.keep HR1.out (by have := HLb.out; omega) (by have := HLr.out; omega))
  have HR2f := hid (hg9.keep HR2.out (by have := HLb.out; omega) (by have := HLr.out; omega))
  have HB9 := hid (hg9.below HB8.out (by have := HLb.out; have := HAA.out; omega) (by have := HLr.out; have := HAA.out; omega))
  have HFe := hid (hg9.keep HFd.out (by have := HLf0.out; omega) (by have := HLf0.out; have := HLrb.out; omega))
  have HKc := hid (hg9.keep HKb.out (by have := HLk.out; have := HLf0.out; omega) (by have := HLk.out; have := HLf0.out; have := HLrb.out; omega))
  have HTL := hid (show (fieldsP bs 6 (oS bs 6 (A4, 0, 0)).2).1.tool.length = 32 from fieldsP_tool bs 6 (oS bs 6 (A4, 0, 0)).2)
  obtain ⟨aV, cV, eV⟩ := wowns_shape hoa
  have HSZ := hid (frame_size (fieldsP bs 6 (oS bs 6 (A4, 0, 0)).2).1 va HTL.out)
  have HON := hid (fcells_one (fieldsP bs 6 (oS bs 6 (A4, 0, 0)).2).1 va (by rw [eV]; rfl))
  have HOS := hid (show (fcells (kF 6) nS).toArray.size = (fcells (fieldsP bs 6 (oS bs 6 (A4, 0, 0)).2).1 va).length by rw [fcells_length _ _ HTL.out]; rfl)
  obtain ⟨FF, HFF⟩ : ∃ L, Hid (fcells (fieldsP bs 6 (oS bs 6 (A4, 0, 0)).2).1 va = L) := ⟨_, rfl⟩
  rw [HFF.out] at HSZ HON HOS ⊢
  have HFV : Hid (∀ k, v.ownBlock = some k → k < fb) := hid (fun k hk => by have := HVO.out k hk; omega)
  clear hoa hf9 hg9 HF8 HR1 HR2 HB8 HFd HKb y4 eV
  go_upto_region 9 with (refine st_row (by rfl) 29 _ _ (by rfl) fb FF (by rfl) (by rfl) 29 _ HFe.out HSZ.out HOS.out HON.out ?_; intro w10 hw10)
  have HF10 := hid (HF9.out.far hw10.grown (by have := HLf0.out; omega) (by have := HLf0.out; have := HLrb.out; omega) (fun k hk => by have := HFV.out k hk; omega))
  have HR1g := hid (gb_keep hw10.grown HR1f.out (by have := HLf0.out; have := HLb.out; omega))
  have HR2g := hid (gb_keep hw10.grown HR2f.out (by have := HLf0.out; have := HLb.out; omega))
  have HKd := hid (gb_keep hw10.grown HKc.out (by have := HLk.out; omega))
  have HB10 := hid (Below.of_gb HB9.out hw10.grown (by have := HLf0.out; have := HLb.out; have := HAA.out; omega))
  have HFf := hid hw10.blk
  have HOA2 := hid (WOwnS.far HOA.out hw10.grown (fun j e => by injection e with e; have := HLk.out; have := HLk8.out; omega))
  have HS10 : Hid (w8.heap.size ≤ w10.heap.size) := hid (by have := hw10.size; have := HS9.out; omega)
  clear hw10 HF9 HR1f HR2f HKc HB9 HFe HOA HOS HS9
  go_wp2_with fail
  refine (fd_end w0.heap.size b rb v bs _ w10 HF10.out).mono ?_
  rintro e w11 ⟨rfl, hg11⟩
  have HR1h := hid (hg11.keep HR1g.out (by have := HLb.out; omega) (by have := HLr.out; omega))
  have HR2h := hid (hg11.keep HR2g.out (by have := HLb.out; omega) (by have := HLr.out; omega))
  have HB11 := hid (hg11.below HB10.out (by have := HLb.out; have := HAA.out; omega) (by have := HLr.out; have := HAA.out; omega))
  have HFg := hid (hg11.keep HFf.out (by have := HLf0.out; omega) (by have := HLf0.out; have := HLrb.out; omega))
  have HKe := hid (hg11.keep HKd.out (by have := HLk.out; have := HLf0.out; omega) (by have := HLk.out; have := HLf0.out; have := HLrb.out; omega))
  have HOA3 := hid (wowns_g2 HOA2.out hg11 HLb8.out HLr8.out)
  have HS11 : Hid (w8.heap.size ≤ w11.heap.size) := hid (by have := hg11.size; have := HS10.out; omega)
  obtain ⟨E1, HE1⟩ : ∃ x, Hid ((eS bs (fieldsP bs 6 (oS bs 6 (A4, 0, 0)).2).2).1 = x) := ⟨_, rfl⟩
  obtain ⟨E2, HE2⟩ : ∃ x, Hid ((eS bs (fieldsP bs 6 (oS bs 6 (A4, 0, 0)).2).2).2 = x) := ⟨_, rfl⟩
  rw [HE1.out, HE2.out]
  clear hg11 HF10 HR1g HR2g HB10 HFf HKd HOA2 HS10
  go_upto_region 10 with fail
  have HWT := hid (below_walk w11 (.cells #[.int .i64 E1, .int .i64 E2] 47))
  have HR1i := hid (bel_keep HWT.out HR1h.out)
  have HR2i := hid (bel_keep HWT.out HR2h.out)
  have HB12 := hid (below_then HB11.out HWT.out)
  have HFh := hid (bel_keep HWT.out HFg.out)
  have HKf := hid (bel_keep HWT.out HKe.out)
  have HOA4 := hid (HOA3.out.alloc (.cells #[.int .i64 E1, .int .i64 E2] 47))
  have HTB0 := hid (hp_new w11 (.cells #[.int .i64 E1, .int .i64 E2] 47))
  have HLt0 : Hid (kb < w11.heap.size) := hid (hp_lt HKe.out)
  obtain ⟨tb, HTBe⟩ : ∃ b, Hid (w11.heap.size = b) := ⟨_, rfl⟩
  rw [HTBe.out] at HTB0 HLt0 ⊢
  generalize w11.alloc (.cells #[.int .i64 E1, .int .i64 E2] 47) = w12 at HR1i HR2i HB12 HFh HKf HOA4 HTB0 ⊢
  have HLt : Hid (A + 2 ≤ tb) := hid (by have := HLt0.out; have := HLk.out; have := HLf0.out; have := HLb.out; omega)
  have HL8t : Hid (w8.heap.size ≤ tb) := hid (by have := HS11.out; have := HTBe.out; omega)
  clear HR1h HR2h HB11 HFg HKe HOA3 HWT HTBe HS11
  have t0 : w12.cell? ⟨tb, 0, none⟩ = some (.int .i64 E1) := by simp [World.cell?, HTB0.out]
  have t1 : w12.cell? ⟨tb, 1, none⟩ = some (.int .i64 E2) := by simp [World.cell?, HTB0.out]
  have f0 := row_fz HTB0.out 0
  have f1 := row_fz HTB0.out 1
  by_cases hE : E1 = 0
  · obtain ⟨M, HM⟩ : ∃ M, Hid (mayF (fieldsP bs 6 (oS bs 6 (A4, 0, 0)).2).1 = M) := ⟨_, rfl⟩
    have HST := hid (wowns_strs HOA4.out)
    have HMN : Hid ((fieldsP bs 6 (oS bs 6 (A4, 0, 0)).2).1.args.length ≤ 9223372036854775807) := hid (wowns_len HOA4.out)
    have HMAY := hid (show Calls Try.prog 86 #[.agg FF.toArray] w12 fun e w' => e = .returned (.bool M) ∧ Below w12.heap.size w12 w' by
      rw [← HM.out, mayF_6 _ (fieldsP_kind bs 6 (oS bs 6 (A4, 0, 0)).2 (by omega)), ← HFF.out]
      exact mayAlways_any _ w12)
    subst hE
    have y2 : w12.cell? ⟨kb, 2, none⟩ = some (.func (.func 86) #[] #[]) := by rw [cell_of_row w12 kb 2 _ _ _ HKf.out]; rfl
    have HRG := hid (range_row HFh.out)
    clear HST HMN
    go_wp2_with (refine ld_gd (by rfl) 29 (.tmp 6) (by rfl) fb 0 (by rfl) FF _ HRG.out Try.underlying29 rfl HSZ.out ?_)
    refine HMAY.out.mono ?_
    rintro e w13 ⟨rfl, hb13⟩
    have HR1z := hid (bel_keep hb13 HR1i.out)
    have HR2z := hid (bel_keep hb13 HR2i.out)
    have HBz := hid (below_then HB12.out hb13)
    have HFz := hid (bel_keep hb13 HFh.out)
    have HTBz := hid (bel_keep hb13 HTB0.out)
    have HOAz := hid (WOwnS.far HOA4.out (below_gb hb13 none) (fun j e => by cases e))
    clear hb13 HR1i HR2i HB12 HFh HTB0 HKf HOA4 HMAY HRG y2 t0 t1 f0 f1
    have t0 : w13.cell? ⟨tb, 0, none⟩ = some (.int .i64 0) := by simp [World.cell?, HTBz.out]
    have t1 : w13.cell? ⟨tb, 1, none⟩ = some (.int .i64 E2) := by simp [World.cell?, HTBz.out]
    have f0 := row_fz HTBz.out 0
    have f1 := row_fz HTBz.out 1
    cases M with
    | true =>
      as_aux_lemma =>
        have HFP := hid (frameP_ok bs A4 6 HK.out (by omega) HE1.out HM.out)
        go_wp2_with (first
          | (refine ld_row (by rfl) 29 (.tmp 6) (by rfl) fb (by rfl) FF 29 HFz.out _ Try.underlying29 rfl HSZ.out ?_)
          | (refine bd_row (by rfl) 47 #[] (by rfl) _ (by simp [Act.eval]) _ built_fz ?_)
          | (refine st_row (by rfl) 29 _ _ (by rfl) A FF (by rfl) (by rfl) 29 _ HR1z.out HSZ.out (by rw [← HFF.out, fcells_length _ _ HTL.out]; rfl) HON.out ?_; intro w14 hw14)
          | (refine st_row (by rfl) 47 _ _ (by rfl) (A + 1) [Value.int .i64 0, .int .i64 0] (by rfl) (by rfl) 47 _ (gb_keep hw14.grown HR2z.out (by omega)) faultSize rfl (fault_one _ _) ?_; intro w15 hw15))
        refine ret_cc 2 3 29 47 rfl A rfl (A + 1) rfl FF 29 (gb_keep hw15.grown hw14.blk (by omega)) _ Try.underlying29 rfl HSZ.out _ 47 hw15.blk _ Try.underlying47 rfl faultSize rfl ?_
        rw [HFP.out]
        refine ⟨va, by rw [← HFF.out]; rfl, ?_, Below.of_gb (Below.of_gb HBz.out hw14.grown (by have := HAA.out; omega)) hw15.grown (by have := HAA.out; omega)⟩
        exact (WOwnS.far (WOwnS.far HOAz.out hw14.grown (fun j e => by injection e with e; have := HLk8.out; have := HLk.out; have := HLf0.out; have := HLb.out; omega)) hw15.grown (fun j e => by injection e with e; have := HLk8.out; have := HLk.out; have := HLf0.out; have := HLb.out; omega)).le (by have := HLk8.out; have := HLk.out; have := HLf0.out; have := HLb.out; have := HAA.out; omega)
    | false =>
      as_aux_lemma =>
        have HFP := hid (frameP_may bs A4 6 HK.out (by omega) HE1.out HM.out)
        go_upto_region 12 with (first
          | (refine bd_row (by rfl) 47 #[(0, .const (.int .i64 70)), (1, .tmp 55)] (by rfl) _ (by simp [Act.eval]) _ (built_ft 70 (A4 : Int)) ?_)
          | (refine st_row (by rfl) 47 _ _ (by rfl) tb [Value.int .i64 70, .int .i64 (A4 : Int)] (by rfl) (by rfl) 47 _ HTBz.out faultSize rfl (fault_one _ _) ?_; intro w14 hw14))
        have HTB := hid hw14.blk
        have HR1y := hid (gb_keep hw14.grown HR1z.out (by have := HLt.out; omega))
        have HR2y := hid (gb_keep hw14.grown HR2z.out (by have := HLt.out; omega))
        have HBy := hid (Below.of_gb HBz.out hw14.grown (by have := HLt.out; have := HAA.out; omega))
        clear hw14 HR1z HR2z HBz t0 t1 f0 f1
        have HR1z := hid HR1y.out
        have HR2z := hid HR2y.out
        have HBz := hid HBy.out
        have t0 : w14.cell? ⟨tb, 0, none⟩ = some (.int .i64 70) := by simp [World.cell?, HTB.out]
        go_upto_region 13 with fail
        have HTBc := hid HTB.out
        refine wp_noPanic (wp_region_held_drew (S := fun W => W.heap[tb]? = some (.cells [Value.int .i64 70, .int .i64 (A4 : Int)].toArray 47 (0, 0))) (by kernel_rfl) HTBc.out ?_)
        intro hHeld
        refine wpAnyH_take (i := 0) (v := .agg (fcells zF nS).toArray) rfl (by kernel_rfl) (by kernel_rfl) (by kernel_rfl) (fun _ _ _ h => h) (yields_build (by rfl) 29 #[] (by rfl) _ (by simp [Act.eval]) _ built_zf) hHeld ?_
        simp only [Act.put, List.getElem_toArray, List.getElem_cons_zero, List.setIfInBounds_toArray, List.set_cons_succ, List.set_cons_zero]
        refine wpAnyH_take (i := 1) (v := .agg [Value.int .i64 70, .int .i64 (A4 : Int)].toArray) rfl (by kernel_rfl) (by kernel_rfl) (by kernel_rfl) (fun _ _ _ h => h) (yieldsIf_load_mid (by rfl) 47 (.tmp 9) rfl tb 0 rfl [Value.int .i64 70, .int .i64 (A4 : Int)] _ (fun W hW => range_row hW) Try.underlying47 rfl faultSize) hHeld ?_
        simp only [Act.put, List.getElem_toArray, List.getElem_cons_zero, List.getElem_cons_succ, List.setIfInBounds_toArray, List.set_cons_succ, List.set_cons_zero]
        obtain ⟨wx, HWX⟩ : ∃ x, Hid (w14.drew = x) := ⟨_, rfl⟩
        have HR1x := hid (show w14.drew.heap[A]? = _ from HR1z.out)
        have HR2x := hid (show w14.drew.heap[A + 1]? = _ from HR2z.out)
        have HTBx := hid (show w14.drew.heap[tb]? = some (.cells [Value.int .i64 70, .int .i64 (A4 : Int)].toArray 47 (0, 0)) from HTB.out)
        have HBx := hid (show Below w.heap.size w w14.drew from below_tr HBz.out ⟨rfl, rfl, rfl, Nat.le_refl _, fun _ _ => rfl⟩)
        rw [HWX.out] at hHeld HR1x HR2x HTBx HBx ⊢
        refine wpAnyH_ready (rs := [2]) (by kernel_rfl) (by simp) ?_
        refine AllReadyH.cons rfl (fun K9 hK9 => ?_) AllReadyH.nil
        refine step_store_row (by rfl) 29 _ _ (by rfl) A (fcells zF nS) (by rfl) (by rfl) 29 _ HR1x.out (frame_size zF nS rfl) rfl (fcells_one zF nS rfl) ?_
        intro wy hwy
        refine hK9.out _ _ (gb_keep hwy.grown HTBx.out (by have := HLt.out; omega)) (fun hHeld => ?_)
        clear hK9 K9
        try simp only [Act.put, List.getElem_toArray, List.getElem_cons_zero, List.getElem_cons_succ]
        refine wpAnyH_ready (rs := [3]) (by kernel_rfl) (by simp) ?_
        refine AllReadyH.cons rfl (fun K9 hK9 => ?_) AllReadyH.nil
        refine step_store_row (by rfl) 47 _ _ (by rfl) (A + 1) [Value.int .i64 70, .int .i64 (A4 : Int)] (by rfl) (by rfl) 47 _ (gb_keep hwy.grown HR2x.out (by omega)) faultSize rfl (fault_one _ _) ?_
        intro wz hwz
        refine hK9.out _ _ (gb_keep hwz.grown (gb_keep hwy.grown HTBx.out (by have := HLt.out; omega)) (by have := HLt.out; omega)) (fun hHeld => ?_)
        clear hK9 K9
        try simp only [Act.put, List.getElem_toArray, List.getElem_cons_zero, List.getElem_cons_succ]
        refine wpAnyH_done (by kernel_rfl) ?_ _
        simp only [noPanic]
        clear hHeld
        go_wp2
        refine ret_cc 2 3 29 47 rfl A rfl (A + 1) rfl (fcells zF nS) 29 (gb_keep hwz.grown hwy.blk (by omega)) _ Try.underlying29 rfl (frame_size zF nS rfl) _ 47 hwz.blk _ Try.underlying47 rfl faultSize rfl ?_
        rw [HFP.out]
        refine ⟨nS, rfl, World.ownsRow_nil _ _ _ _, ?_⟩
        exact Below.of_gb (Below.of_gb HBx.out hwy.grown (by have := HAA.out; omega)) hwz.grown (by have := HAA.out; omega)

  · as_aux_lemma =>
      have q1 : (E1 == 0) = false := by simpa using hE
      have q2 : (E1 != 0) = true := by simpa using hE
      have HFP := hid (show frameP bs A4 = (zF, E1, E2) by
        rw [frameP_bad bs A4 6 HK.out (by omega) (show (eS bs (fieldsP bs 6 (oS bs 6 (A4, 0, 0)).2).2).1 ≠ 0 by rw [HE1.out]; exact hE), ← HE1.out, ← HE2.out]; rfl)
      have HR1z := hid HR1i.out
      have HR2z := hid HR2i.out
      have HBz := hid HB12.out
      have HTB := hid (show w12.heap[tb]? = some (.cells [Value.int .i64 E1, .int .i64 E2].toArray 47 (0, 0)) from HTB0.out)
      clear hE
      go_upto_region 13 with fail
      have HTBc := hid HTB.out
      refine wp_noPanic (wp_region_held_drew (S := fun W => W.heap[tb]? = some (.cells [Value.int .i64 E1, .int .i64 E2].toArray 47 (0, 0))) (by kernel_rfl) HTBc.out ?_)
      intro hHeld
      refine wpAnyH_take (i := 0) (v := .agg (fcells zF nS).toArray) rfl (by kernel_rfl) (by kernel_rfl) (by kernel_rfl) (fun _ _ _ h => h) (yields_build (by rfl) 29 #[] (by rfl) _ (by simp [Act.eval]) _ built_zf) hHeld ?_
      simp only [Act.put, List.getElem_toArray, List.getElem_cons_zero, List.setIfInBounds_toArray, List.set_cons_succ, List.set_cons_zero]
      refine wpAnyH_take (i := 1) (v := .agg [Value.int .i64 E1, .int .i64 E2].toArray) rfl (by kernel_rfl) (by kernel_rfl) (by kernel_rfl) (fun _ _ _ h => h) (yieldsIf_load_mid (by rfl) 47 (.tmp 9) rfl tb 0 rfl [Value.int .i64 E1, .int .i64 E2] _ (fun W hW => range_row hW) Try.underlying47 rfl faultSize) hHeld ?_
      simp only [Act.put, List.getElem_toArray, List.getElem_cons_zero, List.getElem_cons_succ, List.setIfInBounds_toArray, List.set_cons_succ, List.set_cons_zero]
      obtain ⟨wx, HWX⟩ : ∃ x, Hid (w12.drew = x) := ⟨_, rfl⟩
      have HR1x := hid (show w12.drew.heap[A]? = _ from HR1z.out)
      have HR2x := hid (show w12.drew.heap[A + 1]? = _ from HR2z.out)
      have HTBx := hid (show w12.drew.heap[tb]? = some (.cells [Value.int .i64 E1, .int .i64 E2].toArray 47 (0, 0)) from HTB.out)
      have HBx := hid (show Below w.heap.size w w12.drew from below_tr HBz.out ⟨rfl, rfl, rfl, Nat.le_refl _, fun _ _ => rfl⟩)
      rw [HWX.out] at hHeld HR1x HR2x HTBx HBx ⊢
      refine wpAnyH_ready (rs := [2]) (by kernel_rfl) (by simp) ?_
      refine AllReadyH.cons rfl (fun K9 hK9 => ?_) AllReadyH.nil
      refine step_store_row (by rfl) 29 _ _ (by rfl) A (fcells zF nS) (by rfl) (by rfl) 29 _ HR1x.out (frame_size zF nS rfl) rfl (fcells_one zF nS rfl) ?_
      intro wy hwy
      refine hK9.out _ _ (gb_keep hwy.grown HTBx.out (by have := HLt.out; omega)) (fun hHeld => ?_)
      clear hK9 K9
      try simp only [Act.put, List.getElem_toArray, List.getElem_cons_zero, List.getElem_cons_succ]
      refine wpAnyH_ready (rs := [3]) (by kernel_rfl) (by simp) ?_
      refine AllReadyH.cons rfl (fun K9 hK9 => ?_) AllReadyH.nil
      refine step_store_row (by rfl) 47 _ _ (by rfl) (A + 1) [Value.int .i64 E1, .int .i64 E2] (by rfl) (by rfl) 47 _ (gb_keep hwy.grown HR2x.out (by omega)) faultSize rfl (fault_one _ _) ?_
      intro wz hwz
      refine hK9.out _ _ (gb_keep hwz.grown (gb_keep hwy.grown HTBx.out (by have := HLt.out; omega)) (by have := HLt.out; omega)) (fun hHeld => ?_)
      clear hK9 K9
      try simp only [Act.put, List.getElem_toArray, List.getElem_cons_zero, List.getElem_cons_succ]
      refine wpAnyH_done (by kernel_rfl) ?_ _
      simp only [noPanic]
      clear hHeld
      go_wp2
      refine ret_cc 2 3 29 47 rfl A rfl (A + 1) rfl (fcells zF nS) 29 (gb_keep hwz.grown hwy.blk (by omega)) _ Try.underlying29 rfl (frame_size zF nS rfl) _ 47 hwz.blk _ Try.underlying47 rfl faultSize rfl ?_
      rw [HFP.out]
      refine ⟨nS, rfl, World.ownsRow_nil _ _ _ _, ?_⟩
      exact Below.of_gb (Below.of_gb HBx.out hwy.grown (by have := HAA.out; omega)) hwz.grown (by have := HAA.out; omega)

end Go.Proofs.Ytjinkahlfigdcaa

/- Need: the program's and the document's. -/
namespace Go.Proofs.Ytjinkahlfigdcaa
open Go.RowKit Go.BigFrame

theorem fault_why (why wat : Int) (W : World) : (Instr.field 47 (.agg #[.int .i64 why, .int .i64 wat]) 0).run Try.prog W = .ok (.int .i64 why) W := by kernel_rfl

set_option maxRecDepth 100000 in
set_option maxHeartbeats 4000000 in
theorem need_any (v : Value) (bs : List UInt8) (w : World) (hs : Src w v bs) :
    Calls Try.prog 19 #[v] w fun e w' => e = .returned (.tuple #[.int .i64 (needP bs).1, .int .i64 (needP bs).2.2]) ∧ Below w.heap.size w w' := by
  obtain ⟨vx, hx, cut⟩ := cut_at hs (min bs.length 10) (Nat.min_le_left _ _)
  have hsl := hs.1
  obtain ⟨av, cv, rfl⟩ := src_shape hs
  have HN := hid (newReader_any vx _ w hx)
  have hd := dec_head bs
  obtain ⟨E, N, K, hdec⟩ : ∃ E N K, dec bs 0 0 = (E, N, K) := ⟨_, _, _, rfl⟩
  rw [hdec] at hd
  have HU : Hid (uintF (bs.take (min bs.length 10)) 0 0 0 = (N, K, (E : Int), watOf E 0 0)) := hid (by unfold uintF; rw [if_neg (by simp), List.drop_zero, hd]; simp)
  have HLE := hid (dec_le bs hdec)
  have HTEN : Hid (K ≤ 10) := hid (by have := (dec_le _ hd).1; rw [List.length_take] at this; omega)
  have HP : Hid (needP bs = if E = 4 then (0, 0, 0) else if E ≠ 0 then (0, 0, E) else if 2097152 < N then (0, 0, 3) else if N = 0 then (0, 0, 70) else (K + N + 4, K, 0)) := hid (by unfold needP; rw [hdec])
  have hfw := fault_why
  clear hdec hd hs hx
  generalize bs.take (min bs.length 10) = X at *
  obtain ⟨M, HM⟩ : ∃ M : Nat, Hid (min bs.length 10 = M) := ⟨_, rfl⟩
  rw [HM.out] at cut
  have hm : min (bs.length : Int) 10 = (M : Int) := by have := HM.out; omega
  go_enter Try.func19, Try.ntmps19
  go_wp2_with fail
  refine HN.out.mono ?_
  rintro e w1 ⟨b, v1, rfl, hr1, hb1⟩
  have HB1 := hid hb1
  have HUI := hid (uint_R (h := hr1))
  rw [HU.out] at HUI
  clear hr1 hb1 HN cut hm
  go_wp2_with fail
  refine HUI.out.mono ?_
  rintro e w2 ⟨rfl, hr2, hg2⟩
  have HR2 := hid hr2
  have HB2 := hid (Below.of_gb HB1.out hg2 hr2.lo)
  have HFA := hid (rfault_any (h := hr2))
  clear hr2 hg2 HUI HB1
  go_wp2_with fail
  refine HFA.out.mono ?_
  rintro e w3 ⟨rfl, hb3⟩
  have HR3 := hid (HR2.out.below hb3)
  have HB3 := hid (below_then HB2.out hb3)
  clear hb3 HR2 HB2 HFA
  by_cases h4 : E = 4
  · have HV := hid (show needP bs = (0, 0, 0) by rw [HP.out, if_pos h4])
    have q1 : ((E : Int) == 4) = true := by simp [h4]
    have q2 : (E : Int) = 4 := by omega
    clear h4
    go_wp2
    go_ret2
    rw [HV.out]
    exact ⟨rfl, HB3.out⟩
  · have q1 : ((E : Int) == 4) = false := by simp; omega
    have q2 : ¬ (E : Int) = 4 := by omega
    by_cases h0 : E = 0
    · have q3 : ((E : Int) != 0) = false := by simp [h0]
      have q4 : (E : Int) = 0 := by omega
      by_cases hN : 2097152 < N
      · have HV := hid (show needP bs = (0, 0, 3) by rw [HP.out, if_neg h4, if_neg (by simpa using h0), if_pos hN])
        have q5 : (2097152 : Int) < (N : Int) := by omega
        have q6 : decide ((2097152 : Int) < (N : Int)) = true := by simpa using q5
        clear h4 h0 hN
        go_wp2
        go_ret2
        rw [HV.out]
        exact ⟨rfl, HB3.out⟩
      · have q5 : ¬ (2097152 : Int) < (N : Int) := by omega
        have q6 : decide ((2097152 : Int) < (N : Int)) = false := by simpa using q5
        by_cases hz : N = 0
        · have HV := hid (show needP bs = (0, 0, 70) by rw [HP.out, if_neg h4, if_neg (by simpa using h0), if_neg hN, if_pos hz])
          have q7 : ((N : Int) == 0) = true := by simp [hz]
          have q8 : (N : Int) = 0 := by omega
          clear h4 h0 hN hz
          go_wp2
          go_ret2
          rw [HV.out]
          exact ⟨rfl, HB3.out⟩
        · have HV := hid (show needP bs = (K + N + 4, K, 0) by rw [HP.out, if_neg h4, if_neg (by simpa using h0), if_neg hN, if_neg hz])
          have q7 : ((N : Int) == 0) = false := by simp; omega
          have q8 : ¬ (N : Int) = 0 := by omega
          have HAT := hid (rat_any (h := HR3.out))
          have w1 : IntKind.i64.wrap (N : Int) = (N : Int) := by rw [IntKind.wrap_i64]; omega
          have w2 : IntKind.i64.wrap ((K : Int) + (N : Int)) = (K : Int) + (N : Int) := by rw [IntKind.wrap_i64]; have := HTEN.out; omega
          have w4 : IntKind.i64.wrap ((K : Int) + (N : Int) + 4) = (K : Int) + (N : Int) + 4 := by rw [IntKind.wrap_i64]; have := HTEN.out; omega
          clear h4 h0 hN hz
          go_wp2_with fail
          refine HAT.out.mono ?_
          rintro e w5 ⟨rfl, hw5⟩
          subst hw5
          go_wp2
          go_ret2
          rw [HV.out]
          exact ⟨by simp, HB3.out⟩
    · have HV := hid (show needP bs = (0, 0, E) by rw [HP.out, if_neg h4, if_pos h0])
      have q3 : ((E : Int) != 0) = true := by simp; omega
      have q4 : ¬ (E : Int) = 0 := by omega
      clear h4 h0
      go_wp2
      go_ret2
      rw [HV.out]
      exact ⟨rfl, HB3.out⟩

end Go.Proofs.Ytjinkahlfigdcaa

/- Decode of the program. -/
namespace Go.Proofs.Ytjinkahlfigdcaa
open Go.RowKit Go.BigFrame

/-- what is wrong with bytes ahead of their fields -/
def unsE (b : List UInt8) : Int × Int :=
  if (needP b).2.2 ≠ 0 then (((needP b).2.2 : Int), 0)
  else if (needP b).1 = 0 ∨ b.length < (needP b).1 then (4, (b.length : Int))
  else if (needP b).1 < b.length then (6, ((needP b).1 : Int))
  else if cokP b = true then (0, 0) else (71, ((needP b).1 : Int) - 4)
theorem decP_uns (b : List UInt8) : decP b = if (unsE b).1 ≠ 0 then (zF, unsE b) else frameP (b.take (b.length - 4)) (needP b).2.1 := by
  unfold decP unsE
  by_cases h1 : (needP b).2.2 ≠ 0
  · rw [if_pos h1, if_pos h1, if_pos (by show (((needP b).2.2 : Nat) : Int) ≠ 0; omega)]
  · rw [if_neg h1, if_neg h1]
    by_cases h2 : (needP b).1 = 0 ∨ b.length < (needP b).1
    · rw [if_pos h2, if_pos h2, if_pos (by show (4 : Int) ≠ 0; decide)]
    · rw [if_neg h2, if_neg h2]
      by_cases h3 : (needP b).1 < b.length
      · rw [if_pos h3, if_pos h3, if_pos (by show (6 : Int) ≠ 0; decide)]
      · rw [if_neg h3, if_neg h3]
        by_cases h4 : cokP b = true
        · rw [if_pos h4, if_pos h4, if_neg (by show ¬ (0 : Int) ≠ 0; decide)]
        · rw [if_neg h4, if_neg h4, if_pos (by show (71 : Int) ≠ 0; decide)]
theorem need_ok {b : List UInt8} (h2 : (needP b).2.2 = 0) (h1 : (needP b).1 ≠ 0) : ∃ N, dec b 0 0 = (0, N, (needP b).2.1) ∧ 1 ≤ N ∧ N ≤ 2097152 ∧ (needP b).1 = (needP b).2.1 + N + 4 := by
  obtain ⟨E, N, K, hd⟩ : ∃ E N K, dec b 0 0 = (E, N, K) := ⟨_, _, _, rfl⟩
  have hp : needP b = if E = 4 then (0, 0, 0) else if E ≠ 0 then (0, 0, E) else if 2097152 < N then (0, 0, 3) else if N = 0 then (0, 0, 70) else (K + N + 4, K, 0) := by unfold needP; rw [hd]
  rw [hp] at h1 h2 ⊢
  by_cases e4 : E = 4
  · rw [if_pos e4] at h1
    exact absurd rfl h1
  · rw [if_neg e4] at h1 h2 ⊢
    by_cases e0 : E ≠ 0
    · rw [if_pos e0] at h2
      exact absurd h2 e0
    · rw [if_neg e0] at h1 h2 ⊢
      by_cases hN : 2097152 < N
      · rw [if_pos hN] at h2
        exact absurd h2 (by decide)
      · rw [if_neg hN] at h1 h2 ⊢
        by_cases hz : N = 0
        · rw [if_pos hz] at h2
          exact absurd h2 (by decide)
        · rw [if_neg hz]
          have : E = 0 := by omega
          subst this
          exact ⟨N, hd, by omega, by omega, rfl⟩
/-- the length that stands ahead is read again -/
theorem inner_head {b : List UInt8} (h2 : (needP b).2.2 = 0) (h1 : (needP b).1 ≠ 0) (hl : b.length = (needP b).1) : ∃ N, uS (b.take (b.length - 4)) (0, 0, 0) = (N, (needP b).2.1, 0, 0) := by
  obtain ⟨N, hd, hN1, hN2, hn⟩ := need_ok h2 h1
  obtain ⟨hk0, hk1, hk2, hk3⟩ := dec_ok hd
  refine ⟨N, ?_⟩
  have e : b.take (b.length - 4) = sn N ++ (b.drop (needP b).2.1).take N := by
    rw [← hk3]
    rw [show b.length - 4 = (needP b).2.1 + N by omega, List.take_add]
  have hd2 : dec (b.take (b.length - 4)) 0 0 = (0, N, (needP b).2.1) := by
    rw [e, dec_sn N _ hk2, ← dec_ok_len hd]
  unfold uS uintF
  rw [if_neg (by simp), List.drop_zero, hd2]
  simp [watOf]
theorem uns_ok {b : List UInt8} (h : (unsE b).1 = 0) : (needP b).2.2 = 0 ∧ (needP b).1 ≠ 0 ∧ b.length = (needP b).1 ∧ cokP b = true ∧ unsE b = (0, 0) := by
  unfold unsE at h ⊢
  by_cases h1 : (needP b).2.2 ≠ 0
  · rw [if_pos h1] at h
    exact absurd h (by show ¬ (((needP b).2.2 : Nat) : Int) = 0; omega)
  · rw [if_neg h1] at h ⊢
    by_cases h2 : (needP b).1 = 0 ∨ b.length < (needP b).1
    · rw [if_pos h2] at h
      exact absurd h (by show ¬ (4 : Int) = 0; decide)
    · rw [if_neg h2] at h ⊢
      by_cases h3 : (needP b).1 < b.length
      · rw [if_pos h3] at h
        exact absurd h (by show ¬ (6 : Int) = 0; decide)
      · rw [if_neg h3] at h ⊢
        by_cases h4 : cokP b = true
        · rw [if_pos h4]
          exact ⟨by omega, by omega, by omega, h4, rfl⟩
        · rw [if_neg h4] at h
          exact absurd h (by show ¬ (71 : Int) = 0; decide)
theorem results_tc {fn : Func} {p q : Tmp} {ty : TypeId} (h : fn.results = #[.tmp p, .cell q ty]) (tmps : Array Value) (P : Program) (w : World) :
    (results fn tmps).run P w = ((asAddr (tmps.getD q undef)).run P w).andThen fun a w₁ => ((loadVar ty a).run P w₁).andThen fun v w₂ => .ok (.tuple #[tmps.getD p undef, v]) w₂ := by
  simp only [results, h]
  simp [Sem.run_bind, Result.andThen]
theorem ret_tc {P : Program} {fn : Func} {R : Ending → World → Prop} {a : Act} {w : World} (p q : Tmp) (ty : TypeId) (h : fn.results = #[.tmp p, .cell q ty]) (v : Value) (hv : a.tmps.getD p undef = v) (g : Nat) (hp : a.tmps.getD q undef = .pointer (some ⟨g, 0, none⟩))
    (cs : List Value) (t : TypeId) (hb : w.heap[g]? = some (.cells cs.toArray t (0, 0))) (d : TypeDesc) (hu : P.underlying ty = some d) (hd : d.isRow = true) (hi : (P.info? ty).map (·.size) = some cs.length)
    (hdf : a.defers = []) (hR : R (.returned (.tuple #[v, .agg cs.toArray])) w) : bodyPost P fn R .ret a w := by
  refine bodyPost_ret (v := .tuple #[v, .agg cs.toArray]) ?_ hdf hR
  rw [results_tc h, hp, hv]
  have := run_loadVar_mid (P := P) w g 0 ty cs d (fun j v hv => by rw [Nat.zero_add, cell_of_row w g j cs.toArray t (0, 0) hb]; simpa using hv) hu hd hi
  simp [asAddr, this]
theorem built_f1 (a : Int) : Try.prog.built 47 [(0, .int .i64 a)] = some [Value.int .i64 a, .int .i64 0].toArray := by kernel_rfl

/-- what unseal answers -/
def UnsPost (w : World) (bs : List UInt8) (e : Ending) (w' : World) : Prop :=
  (if (unsE bs).1 = 0 then ∃ v', e = .returned (.tuple #[v', .agg #[.int .i64 0, .int .i64 0]]) ∧ OwnB w' w.heap.size v' (bs.take (bs.length - 4)) else e = .returned (.tuple #[.slice none 0 0, .agg #[.int .i64 (unsE bs).1, .int .i64 (unsE bs).2]])) ∧ Below w.heap.size w w'
theorem UnsPost.bad {w w' : World} {bs : List UInt8} {E1 E2 : Int} (h : unsE bs = (E1, E2)) (h0 : E1 ≠ 0) (hb : Below w.heap.size w w') : UnsPost w bs (.returned (.tuple #[.slice none 0 0, .agg #[.int .i64 E1, .int .i64 E2]])) w' := by
  unfold UnsPost
  rw [h, if_neg h0]
  exact ⟨rfl, hb⟩
theorem UnsPost.good {w w' : World} {bs : List UInt8} {v' : Value} (h : unsE bs = (0, 0)) (hb : Below w.heap.size w w') (ho : OwnB w' w.heap.size v' (bs.take (bs.length - 4))) : UnsPost w bs (.returned (.tuple #[v', .agg #[.int .i64 0, .int .i64 0]])) w' := by
  unfold UnsPost
  rw [h, if_pos rfl]
  exact ⟨⟨v', rfl, ho⟩, hb⟩

set_option maxRecDepth 100000 in
set_option maxHeartbeats 4000000 in
theorem unseal_any (v : Value) (bs : List UInt8) (w : World) (hs : Src w v bs) :
    Calls Try.prog 31 #[v] w (UnsPost w bs) := by
  obtain ⟨av, cv, rfl⟩ := src_shape hs
  obtain ⟨A, HAA⟩ : ∃ n, Hid (w.heap.size = n) := ⟨_, rfl⟩
  have HB0 := hid (below_walk w (.cells #[.int .i64 0, .int .i64 0] 47))
  have HN0 := hid (hp_new w (.cells #[.int .i64 0, .int .i64 0] 47))
  have HS0 := hid (hs.below HB0.out)
  have HNE := hid (need_any _ bs _ HS0.out)
  have hsl := hs.1
  obtain ⟨n, Hn⟩ : ∃ n, Hid ((needP bs).1 = n) := ⟨_, rfl⟩
  obtain ⟨er, Her⟩ : ∃ n, Hid ((needP bs).2.2 = n) := ⟨_, rfl⟩
  have HUE : Hid (unsE bs = if er ≠ 0 then ((er : Int), 0) else if n = 0 ∨ bs.length < n then (4, (bs.length : Int)) else if n < bs.length then (6, (n : Int)) else if cokP bs = true then (0, 0) else (71, (n : Int) - 4)) := hid (by unfold unsE; rw [Hn.out, Her.out])
  rw [Hn.out, Her.out] at HNE
  have Hn4 : Hid (n ≠ 0 → 4 ≤ n ∧ n ≤ 3000000) := hid (by
    intro h0
    by_cases h9 : er = 0
    · obtain ⟨N, hd, hN1, hN2, hn⟩ := need_ok (b := bs) (by rw [Her.out]; exact h9) (by rw [Hn.out]; exact h0)
      have := dec_ok_len hd
      have h8 := sn_length_le N
      rw [Hn.out] at hn
      omega
    · exfalso
      apply h0
      rw [← Hn.out]
      unfold needP at Her ⊢
      have h7 := Her.out
      repeat' split
      all_goals first | rfl | skip
      rename_i g1 g2 g3 g4
      rw [if_neg g1, if_neg g2, if_neg g3, if_neg g4] at h7
      exact absurd h7.symm h9)
  obtain ⟨L, HL⟩ : ∃ n, Hid (bs.length = n) := ⟨_, rfl⟩
  rw [HL.out] at hsl HUE HNE
  clear hs
  go_enter Try.func31, Try.ntmps31
  go_upto_region 1 with fail
  generalize w.alloc (.cells #[.int .i64 0, .int .i64 0] 47) = w0 at HB0 HN0 HS0 HNE ⊢
  rw [HAA.out] at HN0 ⊢
  rw [HL.out]
  go_wp2_with fail
  refine HNE.out.mono ?_
  rintro e w1 ⟨rfl, hb1⟩
  have HN1 := hid (bel_keep hb1 HN0.out)
  have HS1 := hid (HS0.out.below hb1)
  have HB1 := hid (below_then HB0.out hb1)
  clear hb1 HN0 HS0 HB0 HNE
  by_cases h1 : er ≠ 0
  · as_aux_lemma =>
      have q1 : ((er : Int) != 0) = true := by simp; omega
      have q2 : ((er : Int) == 0) = false := by simp; omega
      have q3 : ¬ (er : Int) = 0 := by omega
      rw [if_pos h1] at HUE
      clear h1
      go_wp2_with (first
        | (refine bd_row (by rfl) 47 #[(0, .tmp 15)] (by rfl) _ (by simp [Act.eval]) _ (built_f1 _) ?_)
        | (refine st_row (by rfl) 47 _ _ (by rfl) A [Value.int .i64 (er : Int), .int .i64 0] (by rfl) (by rfl) 47 _ HN1.out faultSize rfl (fault_one _ _) ?_; intro w2 hw2))
      exact ret_tc 2 3 47 rfl _ rfl A rfl _ 47 hw2.blk _ Try.underlying47 rfl faultSize rfl (UnsPost.bad HUE.out q3 (Below.of_gb HB1.out hw2.grown (by have := HAA.out; omega)))
  · obtain rfl : er = 0 := by omega
    rw [if_neg h1] at HUE
    clear h1
    by_cases h2 : n = 0 ∨ L < n
    · as_aux_lemma =>
        rw [if_pos h2] at HUE
        by_cases h3 : n = 0
        · subst h3
          clear h2
          go_wp2_with (first
            | (refine bd_row (by rfl) 47 #[(0, .const (.int .i64 4)), (1, .tmp 27)] (by rfl) _ (by simp [Act.eval]) _ (built_ft _ _) ?_)
            | (refine st_row (by rfl) 47 _ _ (by rfl) A [Value.int .i64 4, .int .i64 (L : Int)] (by rfl) (by rfl) 47 _ HN1.out faultSize rfl (fault_one _ _) ?_; intro w2 hw2))
          exact ret_tc 2 3 47 rfl _ rfl A rfl _ 47 hw2.blk _ Try.underlying47 rfl faultSize rfl (UnsPost.bad HUE.out (by decide) (Below.of_gb HB1.out hw2.grown (by have := HAA.out; omega)))
        · have q1 : ((n : Int) == 0) = false := by simp; omega
          have q2 : ¬ (n : Int) = 0 := by omega
          have q3 : (L : Int) < (n : Int) := by omega
          have q4 : decide ((L : Int) < (n : Int)) = true := decide_eq_true q3
          clear h2 h3
          go_wp2_with (first
            | (refine bd_row (by rfl) 47 #[(0, .const (.int .i64 4)), (1, .tmp 27)] (by rfl) _ (by simp [Act.eval]) _ (built_ft _ _) ?_)
            | (refine st_row (by rfl) 47 _ _ (by rfl) A [Value.int .i64 4, .int .i64 (L : Int)] (by rfl) (by rfl) 47 _ HN1.out faultSize rfl (fault_one _ _) ?_; intro w2 hw2))
          exact ret_tc 2 3 47 rfl _ rfl A rfl _ 47 hw2.blk _ Try.underlying47 rfl faultSize rfl (UnsPost.bad HUE.out (by decide) (Below.of_gb HB1.out hw2.grown (by have := HAA.out; omega)))
    · rw [if_neg h2] at HUE
      have h3 : n ≠ 0 := fun h => h2 (Or.inl h)
      have h4 : ¬ L < n := fun h => h2 (Or.inr h)
      have h5 := Hn4.out h3
      have q1 : ((n : Int) == 0) = false := by simp; omega
      have q2 : ¬ (n : Int) = 0 := by omega
      have q3 : ¬ (L : Int) < (n : Int) := by omega
      have q4 : decide ((L : Int) < (n : Int)) = false := decide_eq_false q3
      clear h2 h3
      by_cases h6 : n < L
      · as_aux_lemma =>
          rw [if_pos h6] at HUE
          have q5 : (n : Int) < (L : Int) := by omega
          have q6 : decide ((n : Int) < (L : Int)) = true := decide_eq_true q5
          clear h4 h5 h6
          go_wp2_with (first
            | (refine bd_row (by rfl) 47 #[(0, .const (.int .i64 6)), (1, .tmp 34)] (by rfl) _ (by simp [Act.eval]) _ (built_ft _ _) ?_)
            | (refine st_row (by rfl) 47 _ _ (by rfl) A [Value.int .i64 6, .int .i64 (n : Int)] (by rfl) (by rfl) 47 _ HN1.out faultSize rfl (fault_one _ _) ?_; intro w2 hw2))
          exact ret_tc 2 3 47 rfl _ rfl A rfl _ 47 hw2.blk _ Try.underlying47 rfl faultSize rfl (UnsPost.bad HUE.out (by decide) (Below.of_gb HB1.out hw2.grown (by have := HAA.out; omega)))
      · rw [if_neg h6] at HUE
        have q5 : ¬ (n : Int) < (L : Int) := by omega
        have q6 : decide ((n : Int) < (L : Int)) = false := decide_eq_false q5
        have HOP := hid (open_any w1 _ bs HS1.out (by rw [HL.out]; omega))
        rw [HL.out] at HOP
        have HW4 := hid (show IntKind.i64.wrap ((n : Int) - 4) = (n : Int) - 4 by rw [IntKind.wrap_i64]; omega)
        obtain ⟨D, HD⟩ : ∃ d : Int, Hid ((n : Int) - 4 = d) := ⟨_, rfl⟩
        rw [HD.out] at HW4 HUE
        have wD : IntKind.i64.wrap ((n : Int) - 4) = D := HW4.out ▸ (by rw [HD.out])
        clear h4 h5 h6
        go_wp2_with fail
        refine HOP.out.mono ?_
        rintro e w2 ⟨he, hb2⟩
        have HN2 := hid (bel_keep hb2 HN1.out)
        have HB2 := hid (below_then HB1.out hb2)
        by_cases hc : cokP bs = true
        · as_aux_lemma =>
            rw [if_pos hc] at HUE
            rw [if_pos hc] at he
            obtain ⟨v', rfl, ho⟩ := he
            have HO := hid (ho.le HB1.out.size)
            obtain ⟨ao, no, co, eo⟩ := src_named (ho.src (by rw [List.length_take]; have := HL.out; omega))
            subst eo
            have HON2 : Hid ((Value.slice ao no co).ownBlock = none ∨ (Value.slice ao no co).ownBlock ≠ some A) := hid (by
              cases hv : (Value.slice ao no co).ownBlock with
              | none => exact Or.inl rfl
              | some k => exact Or.inr (fun e => by injection e with e; have h9 := (ho.lt k hv).1; have h8 := hp_lt HN1.out; omega))
            clear hc ho hb2
            go_wp2_with (first
              | (refine bd_row (by rfl) 47 #[] (by rfl) _ (by simp) _ built_fz ?_)
              | (refine st_row (by rfl) 47 _ _ (by rfl) A [Value.int .i64 0, .int .i64 0] (by rfl) (by rfl) 47 _ HN2.out faultSize rfl (fault_one _ _) ?_; intro w3 hw3))
            refine ret_tc 2 3 47 rfl _ rfl A rfl _ 47 hw3.blk _ Try.underlying47 rfl faultSize rfl (UnsPost.good HUE.out (Below.of_gb HB2.out hw3.grown (by have := HAA.out; omega)) ?_)
            exact OwnB.kept HO.out hw3.grown (HON2.out)
        · as_aux_lemma =>
            rw [if_neg hc] at HUE
            rw [if_neg hc] at he
            subst he
            clear hc hb2
            go_wp2_with (first
              | (refine bd_row (by rfl) 47 #[(0, .tmp 43), (1, .tmp 45)] (by rfl) _ (by simp [Act.eval]) _ (built_ft _ _) ?_)
              | (refine st_row (by rfl) 47 _ _ (by rfl) A [Value.int .i64 71, .int .i64 D] (by rfl) (by rfl) 47 _ HN2.out faultSize rfl (fault_one _ _) ?_; intro w3 hw3))
            exact ret_tc 2 3 47 rfl _ rfl A rfl _ 47 hw3.blk _ Try.underlying47 rfl faultSize rfl (UnsPost.bad HUE.out (by decide) (Below.of_gb HB2.out hw3.grown (by have := HAA.out; omega)))

theorem readFrame_any (v0 : Value) (bs : List UInt8) (head N : Nat) (w : World) (hs : Src w v0 bs) (hbl : bs.length ≤ 1099511627776) (hu : uS bs (0, 0, 0) = (N, head, 0, 0)) :
    Calls Try.prog 32 #[v0] w fun e w' => ∃ va, e = .returned (.tuple #[.agg (fcells (frameP bs head).1 va).toArray, .agg #[.int .i64 (frameP bs head).2.1, .int .i64 (frameP bs head).2.2]]) ∧ WOwnS w' w.heap.size va (frameP bs head).1.args ∧ Below w.heap.size w w' := by
  have h := oS_le bs 6 (head, 0, 0) (by omega)
  have hc : (oS bs 6 (head, 0, 0)).1 = 0 ∨ (oS bs 6 (head, 0, 0)).1 = 1 ∨ (oS bs 6 (head, 0, 0)).1 = 2 ∨ (oS bs 6 (head, 0, 0)).1 = 3 ∨ (oS bs 6 (head, 0, 0)).1 = 4 ∨ (oS bs 6 (head, 0, 0)).1 = 5 ∨ (oS bs 6 (head, 0, 0)).1 = 6 := by omega
  rcases hc with k | k | k | k | k | k | k
  · exact readFrame_0 v0 bs head N w hs hbl hu k
  · exact readFrame_1 v0 bs head N w hs hbl hu k
  · exact readFrame_2 v0 bs head N w hs hbl hu k
  · exact readFrame_3 v0 bs head N w hs hbl hu k
  · exact readFrame_4 v0 bs head N w hs hbl hu k
  · exact readFrame_5 v0 bs head N w hs hbl hu k
  · exact readFrame_6 v0 bs head N w hs hbl hu k

set_option maxRecDepth 100000 in
set_option maxHeartbeats 4000000 in
theorem decode_any (v0 : Value) (bs : List UInt8) (w : World) (hs : Src w v0 bs) :
    Calls Try.prog 17 #[v0] w fun e w' => ∃ va, e = .returned (.tuple #[.agg (fcells (decP bs).1 va).toArray, .agg #[.int .i64 (decP bs).2.1, .int .i64 (decP bs).2.2]]) ∧ WOwnS w' w.heap.size va (decP bs).1.args ∧ Below w.heap.size w w' := by
  obtain ⟨av, cv, rfl⟩ := src_shape hs
  obtain ⟨A, HAA⟩ : ∃ n, Hid (w.heap.size = n) := ⟨_, rfl⟩
  have HB0 := hid (below_walk2 w (.cells (fcells zF nS).toArray 29) (.cells #[.int .i64 0, .int .i64 0] 47))
  have HNB := hid (hp_two w (.cells (fcells zF nS).toArray 29) (.cells #[.int .i64 0, .int .i64 0] 47))
  have HZ : Hid ((w.alloc (.cells (fcells zF nS).toArray 29)).heap.size = w.heap.size + 1) := hid (by simp)
  have HZ2 : Hid (((w.alloc (.cells (fcells zF nS).toArray 29)).alloc (.cells #[.int .i64 0, .int .i64 0] 47)).heap.size = w.heap.size + 2) := hid (by simp)
  have HUN := hid (unseal_any _ bs _ (hs.below HB0.out))
  have HDU := hid (decP_uns bs)
  have hsl := hs.1
  obtain ⟨L, HL⟩ : ∃ n, Hid (bs.length = n) := ⟨_, rfl⟩
  clear hs
  go_enter Try.func17, Try.ntmps17
  go_upto_region 1 with (refine al_row (by rfl) 29 (by rfl) _ zeroFrame ?_)
  try rw [HZ.out]
  generalize (w.alloc (.cells (fcells zF nS).toArray 29)).alloc (.cells #[.int .i64 0, .int .i64 0] 47) = w0 at HB0 HNB HZ2 HUN ⊢
  rw [HAA.out] at HNB HZ2 ⊢
  have HR1a := hid HNB.out.1
  have HR2a := hid HNB.out.2
  clear HNB HZ
  go_wp2_with fail
  refine HUN.out.mono ?_
  rintro e w1 ⟨he, hb1⟩
  have HR1b := hid (bel_keep hb1 HR1a.out)
  have HR2b := hid (bel_keep hb1 HR2a.out)
  have HB1 := hid (below_then HB0.out hb1)
  have HLt1 : Hid (A + 2 ≤ w1.heap.size) := hid (by have := hb1.size; have := HZ2.out; omega)
  by_cases h0 : (unsE bs).1 = 0
  · as_aux_lemma =>
      rw [if_pos h0] at he
      obtain ⟨v', rfl, ho⟩ := he
      obtain ⟨u1, u2, u3, u4, u5⟩ := uns_ok h0
      obtain ⟨N, hu⟩ := inner_head u1 u2 u3
      have HDP := hid (show decP bs = frameP (bs.take (bs.length - 4)) (needP bs).2.1 by rw [HDU.out, if_neg (fun h => h h0)])
      obtain ⟨NB, hNd, hN1, hN2, hNn⟩ := need_ok u1 u2
      have hlen : bs.length ≤ 3000000 := by
        have := dec_ok_len hNd
        have h8 := sn_length_le NB
        omega
      have hs1 := ho.src (by rw [List.length_take]; omega)
      have HW1 := hid (below_walk w1 (.cells #[.int .i64 0, .int .i64 0] 47))
      have HRF := hid (readFrame_any v' _ _ N _ (hs1.below HW1.out) (by rw [List.length_take]; omega) hu)
      have HR1 := hid (bel_keep HW1.out HR1b.out)
      have HR2 := hid (bel_keep HW1.out HR2b.out)
      have HB2 := hid (below_then HB1.out HW1.out)
      obtain ⟨ao, no, co, eo⟩ := src_named hs1
      obtain ⟨P, HP⟩ : ∃ p, Hid (frameP (bs.take (bs.length - 4)) (needP bs).2.1 = p) := ⟨_, rfl⟩
      rw [HP.out] at HDP HRF
      obtain ⟨pf, p1, p2⟩ := P
      subst eo
      clear ho hs1 u1 u2 u3 u4 u5 hu hNd hN1 hN2 hNn hlen h0 HR1b HR2b HB1 HDU HUN hsl
      go_upto_region 2 with fail
      have HTB := hid (hp_new w1 (.cells #[.int .i64 0, .int .i64 0] 47))
      obtain ⟨tb, HTBe⟩ : ∃ b, Hid (w1.heap.size = b) := ⟨_, rfl⟩
      rw [HTBe.out] at HTB ⊢
      generalize w1.alloc (.cells #[.int .i64 0, .int .i64 0] 47) = w2 at HW1 HRF HR1 HR2 HB2 HTB ⊢
      have t0 : w2.cell? ⟨tb, 0, none⟩ = some (.int .i64 0) := by simp [World.cell?, HTB.out]
      go_wp2_with fail
      refine HRF.out.mono ?_
      rintro e w3 ⟨va, rfl, hoa, hb3⟩
      have HOA := hid hoa
      have HR1c := hid (bel_keep hb3 HR1.out)
      have HR2c := hid (bel_keep hb3 HR2.out)
      have HB3 := hid (below_then HB2.out hb3)
      have HL2 : Hid (A + 2 ≤ w2.heap.size) := hid (by have := hp_lt HTB.out; have := HLt1.out; have := HTBe.out; omega)
      have HTL := hid (show pf.tool.length = 32 by
        have e9 := HP.out
        unfold frameP at e9
        repeat' split at e9
        all_goals (have e8 := congrArg (fun x : Fr × Int × Int => x.1.tool.length) e9; simp only at e8; rw [← e8]; first | exact fieldsP_tool _ _ _ | rfl))
      obtain ⟨aV, cV, eV⟩ := wowns_shape hoa
      have HSZ := hid (frame_size pf va HTL.out)
      have HON := hid (fcells_one pf va (by rw [eV]; rfl))
      have HOS := hid (show (fcells zF nS).toArray.size = (fcells pf va).length by rw [fcells_length _ _ HTL.out]; rfl)
      obtain ⟨FF, HFF⟩ : ∃ L, Hid (fcells pf va = L) := ⟨_, rfl⟩
      rw [HFF.out] at HSZ HON HOS ⊢
      clear hoa hb3 HR1 HR2 HB2 t0 eV
      go_wp2_with (first
        | (refine st_row (by rfl) 29 _ _ (by rfl) A FF (by rfl) (by rfl) 29 _ HR1c.out HSZ.out HOS.out HON.out ?_; intro w4 hw4)
        | (refine st_row (by rfl) 47 _ _ (by rfl) (A + 1) [Value.int .i64 p1, .int .i64 p2] (by rfl) (by rfl) 47 _ (gb_keep hw4.grown HR2c.out (by omega)) faultSize rfl (fault_one _ _) ?_; intro w5 hw5))
      refine ret_cc 2 3 29 47 rfl A rfl (A + 1) rfl FF 29 (gb_keep hw5.grown hw4.blk (by omega)) _ Try.underlying29 rfl HSZ.out _ 47 hw5.blk _ Try.underlying47 rfl faultSize rfl ?_
      rw [HDP.out]
      refine ⟨va, by rw [← HFF.out], ?_, Below.of_gb (Below.of_gb HB3.out hw4.grown (by have := HAA.out; omega)) hw5.grown (by have := HAA.out; omega)⟩
      exact (WOwnS.far (WOwnS.far HOA.out hw4.grown (fun j e => by injection e with e; have := HL2.out; omega)) hw5.grown (fun j e => by injection e with e; have := HL2.out; omega)).le (by have := HL2.out; have := HAA.out; omega)
  · as_aux_lemma =>
      rw [if_neg h0] at he
      subst he
      obtain ⟨E1, HE1⟩ : ∃ x, Hid ((unsE bs).1 = x) := ⟨_, rfl⟩
      obtain ⟨E2, HE2⟩ : ∃ x, Hid ((unsE bs).2 = x) := ⟨_, rfl⟩
      have HDP := hid (show decP bs = (zF, E1, E2) by rw [HDU.out, if_pos h0, ← HE1.out, ← HE2.out])
      rw [HE1.out] at h0 ⊢
      rw [HE2.out]
      have q1 : (E1 != 0) = true := by simpa using h0
      have q2 : (E1 == 0) = false := by simpa using h0
      have HW1 := hid (below_walk w1 (.cells #[.int .i64 E1, .int .i64 E2] 47))
      have HR1 := hid (bel_keep HW1.out HR1b.out)
      have HR2 := hid (bel_keep HW1.out HR2b.out)
      have HB2 := hid (below_then HB1.out HW1.out)
      clear hb1 HR1a HR2a HR1b HR2b HB1 HDU HUN hsl h0
      go_upto_region 2 with fail
      have HTB := hid (show (w1.alloc (.cells #[.int .i64 E1, .int .i64 E2] 47)).heap[w1.heap.size]? = some (.cells [Value.int .i64 E1, .int .i64 E2].toArray 47 (0, 0)) from hp_new w1 _)
      obtain ⟨tb, HTBe⟩ : ∃ b, Hid (w1.heap.size = b) := ⟨_, rfl⟩
      have HLt : Hid (A + 2 ≤ tb) := hid (by have := HLt1.out; have := HTBe.out; omega)
      rw [HTBe.out] at HTB ⊢
      generalize w1.alloc (.cells #[.int .i64 E1, .int .i64 E2] 47) = w2 at HR1 HR2 HB2 HTB ⊢
      have t0 : w2.cell? ⟨tb, 0, none⟩ = some (.int .i64 E1) := by simp [World.cell?, HTB.out]
      go_upto_region 3 with fail
      have HTBc := hid HTB.out
      refine wp_noPanic (wp_region_held_drew (S := fun W => W.heap[tb]? = some (.cells [Value.int .i64 E1, .int .i64 E2].toArray 47 (0, 0))) (by kernel_rfl) HTBc.out ?_)
      intro hHeld
      refine wpAnyH_take (i := 0) (v := .agg (fcells zF nS).toArray) rfl (by kernel_rfl) (by kernel_rfl) (by kernel_rfl) (fun _ _ _ h => h) (yields_build (by rfl) 29 #[] (by rfl) _ (by simp) _ built_zf) hHeld ?_
      simp only [Act.put, List.getElem_toArray, List.getElem_cons_zero, List.setIfInBounds_toArray, List.set_cons_succ, List.set_cons_zero]
      refine wpAnyH_take (i := 1) (v := .agg [Value.int .i64 E1, .int .i64 E2].toArray) rfl (by kernel_rfl) (by kernel_rfl) (by kernel_rfl) (fun _ _ _ h => h) (yieldsIf_load_mid (by rfl) 47 (.tmp 5) rfl tb 0 rfl [Value.int .i64 E1, .int .i64 E2] _ (fun W hW => range_row hW) Try.underlying47 rfl faultSize) hHeld ?_
      simp only [Act.put, List.getElem_toArray, List.getElem_cons_zero, List.getElem_cons_succ, List.setIfInBounds_toArray, List.set_cons_succ, List.set_cons_zero]
      obtain ⟨wx, HWX⟩ : ∃ x, Hid (w2.drew = x) := ⟨_, rfl⟩
      have HR1x := hid (show w2.drew.heap[A]? = _ from HR1.out)
      have HR2x := hid (show w2.drew.heap[A + 1]? = _ from HR2.out)
      have HTBx := hid (show w2.drew.heap[tb]? = some (.cells [Value.int .i64 E1, .int .i64 E2].toArray 47 (0, 0)) from HTB.out)
      have HBx := hid (show Below w.heap.size w w2.drew from below_tr HB2.out ⟨rfl, rfl, rfl, Nat.le_refl _, fun _ _ => rfl⟩)
      rw [HWX.out] at hHeld HR1x HR2x HTBx HBx ⊢
      refine wpAnyH_ready (rs := [2]) (by kernel_rfl) (by simp) ?_
      refine AllReadyH.cons rfl (fun K9 hK9 => ?_) AllReadyH.nil
      refine step_store_row (by rfl) 29 _ _ (by rfl) A (fcells zF nS) (by rfl) (by rfl) 29 _ HR1x.out (frame_size zF nS rfl) rfl (fcells_one zF nS rfl) ?_
      intro wy hwy
      refine hK9.out _ _ (gb_keep hwy.grown HTBx.out (by have := HLt.out; omega)) (fun hHeld => ?_)
      clear hK9 K9
      try simp only [Act.put, List.getElem_toArray, List.getElem_cons_zero, List.getElem_cons_succ]
      refine wpAnyH_ready (rs := [3]) (by kernel_rfl) (by simp) ?_
      refine AllReadyH.cons rfl (fun K9 hK9 => ?_) AllReadyH.nil
      refine step_store_row (by rfl) 47 _ _ (by rfl) (A + 1) [Value.int .i64 E1, .int .i64 E2] (by rfl) (by rfl) 47 _ (gb_keep hwy.grown HR2x.out (by omega)) faultSize rfl (fault_one _ _) ?_
      intro wz hwz
      refine hK9.out _ _ (gb_keep hwz.grown (gb_keep hwy.grown HTBx.out (by have := HLt.out; omega)) (by have := HLt.out; omega)) (fun hHeld => ?_)
      clear hK9 K9
      try simp only [Act.put, List.getElem_toArray, List.getElem_cons_zero, List.getElem_cons_succ]
      refine wpAnyH_done (by kernel_rfl) ?_ _
      simp only [noPanic]
      clear hHeld
      go_wp2
      refine ret_cc 2 3 29 47 rfl A rfl (A + 1) rfl (fcells zF nS) 29 (gb_keep hwz.grown hwy.blk (by omega)) _ Try.underlying29 rfl (frame_size zF nS rfl) _ 47 hwz.blk _ Try.underlying47 rfl faultSize rfl ?_
      rw [HDP.out]
      refine ⟨nS, rfl, World.ownsRow_nil _ _ _ _, ?_⟩
      exact Below.of_gb (Below.of_gb HBx.out hwy.grown (by have := HAA.out; omega)) hwz.grown (by have := HAA.out; omega)

end Go.Proofs.Ytjinkahlfigdcaa

/- What is read is in its one form, plainly. -/
namespace Go.Proofs.Ytjinkahlfigdcaa
open Go.RowKit

theorem split_drop (bs : List UInt8) (a k : Nat) : bs.drop a = (bs.drop a).take k ++ bs.drop (a + k) := by
  rw [← List.drop_drop]
  exact (List.take_append_drop k (bs.drop a)).symm
theorem u_form (bs : List UInt8) (s : St) (h : (uS bs s).2.2.1 = 0) : s.2.1 = 0 ∧ bs.drop s.1 = sn (uS bs s).1 ++ bs.drop (uS bs s).2.1 ∧ (uS bs s).1 < 18446744073709551616 := by
  by_cases h0 : s.2.1 = 0
  · obtain ⟨E, n, k, hd⟩ : ∃ E n k, dec (bs.drop s.1) 0 0 = (E, n, k) := ⟨_, _, _, rfl⟩
    have e : uS bs s = (n, s.1 + k, (E : Int), watOf E s.1 s.2.2) := by unfold uS uintF; rw [if_neg (fun h9 => h9 h0), hd]
    rw [e] at h ⊢
    have hE : E = 0 := by have : (E : Int) = 0 := h; omega
    subst hE
    obtain ⟨_, _, h3, h4⟩ := dec_ok hd
    refine ⟨h0, ?_, h3⟩
    show bs.drop s.1 = sn n ++ bs.drop (s.1 + k)
    rw [← h4]
    exact split_drop bs s.1 k
  · rw [over_u bs s h0] at h
    exact absurd h h0
theorem c_form (bs : List UInt8) (m : Int) (s : St) (hm : 0 ≤ m) (h : (cS bs m s).2.2.1 = 0) : s.2.1 = 0 ∧ bs.drop s.1 = sn (cS bs m s).1 ++ bs.drop (cS bs m s).2.1 := by
  by_cases h0 : s.2.1 = 0
  · obtain ⟨E, n, k, hd⟩ : ∃ E n k, upTo (bs.drop s.1) m.toNat 11 = (E, n, k) := ⟨_, _, _, rfl⟩
    have e : cS bs m s = (n, s.1 + k, (E : Int), watOf E s.1 s.2.2) := by unfold cS countF; rw [if_neg (fun h9 => h9 h0), if_neg (by omega), hd]
    rw [e] at h ⊢
    have hE : E = 0 := by have : (E : Int) = 0 := h; omega
    subst hE
    obtain ⟨_, _, h3, h4⟩ := dec_ok (upTo_ok (by decide) hd).1
    refine ⟨h0, ?_⟩
    show bs.drop s.1 = sn n ++ bs.drop (s.1 + k)
    rw [← h4]
    exact split_drop bs s.1 k
  · rw [over_c bs m s h0] at h
    exact absurd h h0
theorem o_form (bs : List UInt8) (m : Int) (s : St) (hm : 0 ≤ m) (h : (oS bs m s).2.2.1 = 0) : s.2.1 = 0 ∧ bs.drop s.1 = sn (oS bs m s).1 ++ bs.drop (oS bs m s).2.1 ∧ 1 ≤ (oS bs m s).1 := by
  have h1 : (oS bs m s).1 ≠ 0 := fun h2 => oS_zero bs m s h2 h
  have e : oS bs m s = cS bs m s := by
    unfold oS at h1 ⊢
    split
    · rename_i h2
      rw [if_pos h2] at h1
      exact absurd rfl h1
    · rfl
  rw [e] at h h1 ⊢
  obtain ⟨a, b⟩ := c_form bs m s hm h
  exact ⟨a, b, by omega⟩
theorem t_form (bs : List UInt8) (m : Int) (s : St) (hm : 0 ≤ m) (h : (tS bs m s).2.2.1 = 0) : s.2.1 = 0 ∧ bs.drop s.1 = tx (mk (tS bs m s).1) ++ bs.drop (tS bs m s).2.1 := by
  by_cases h0 : s.2.1 = 0
  · obtain ⟨E, n, k, hd⟩ : ∃ E n k, wtxt (bs.drop s.1) m.toNat = (E, n, k) := ⟨_, _, _, rfl⟩
    have e : tS bs m s = (n, s.1 + k, (E : Int), watOf E s.1 s.2.2) := by unfold tS textF; rw [if_neg (fun h9 => h9 h0), if_neg (by omega), hd]
    rw [e] at h ⊢
    have hE : E = 0 := by have : (E : Int) = 0 := h; omega
    subst hE
    obtain ⟨h1, _⟩ := txt_ok hd
    refine ⟨h0, ?_⟩
    show bs.drop s.1 = tx (mk n) ++ bs.drop (s.1 + k)
    rw [tx_mk, ← h1]
    exact split_drop bs s.1 k
  · rw [over_t bs m s h0] at h
    exact absurd h h0
theorem l_form (bs : List UInt8) (m n : Int) (s : St) (hm : 0 ≤ m) (hn : 0 ≤ n) (h : (lS bs m n s).2.2.1 = 0) : s.2.1 = 0 ∧ bs.drop s.1 = ls ((lS bs m n s).1.map mk) ++ bs.drop (lS bs m n s).2.1 := by
  by_cases h0 : s.2.1 = 0
  · obtain ⟨E, ts, k, hd⟩ : ∃ E n9 k, lst (bs.drop s.1) m.toNat n.toNat = (E, n9, k) := ⟨_, _, _, rfl⟩
    by_cases hE : E = 0
    · subst hE
      have e1 : (lS bs m n s).1 = ts ∧ (lS bs m n s).2.1 = s.1 + k := by
        unfold lS listF
        rw [if_neg (fun h9 => h9 h0), if_neg (by omega), hd, if_neg (fun h9 => h9 rfl)]
        exact ⟨rfl, rfl⟩
      rw [e1.1, e1.2]
      obtain ⟨h1, _⟩ := lst_ok hd
      refine ⟨h0, ?_⟩
      rw [← h1]
      exact split_drop bs s.1 k
    · exfalso
      unfold lS listF at h
      rw [if_neg (fun h9 => h9 h0), if_neg (by omega), hd, if_pos hE] at h
      have : (E : Int) = 0 := h
      omega
  · rw [over_l bs m n s h0] at h
    exact absurd h h0
theorem r_form (bs : List UInt8) (s : St) (h : (rS bs 32 s).2.2.1 = 0) : s.2.1 = 0 ∧ bs.drop s.1 = (rS bs 32 s).1 ++ bs.drop (rS bs 32 s).2.1 ∧ (rS bs 32 s).1.length = 32 := by
  by_cases h0 : s.2.1 = 0
  · by_cases hl : bs.length - s.1 < 32
    · exfalso
      unfold rS rawF at h
      rw [if_neg (fun h9 => h9 h0), if_neg (by omega), if_pos (show bs.length - s.1 < (32 : Int).toNat from hl)] at h
      exact absurd h (by show ¬ (4 : Int) = 0; decide)
    · have e : rS bs 32 s = ((bs.drop s.1).take 32, s.1 + 32, 0, s.2.2) := by unfold rS rawF; rw [if_neg (fun h9 => h9 h0), if_neg (by omega), if_neg (show ¬ bs.length - s.1 < (32 : Int).toNat from hl)]; rfl
      rw [e]
      refine ⟨h0, split_drop bs s.1 32, ?_⟩
      rw [List.length_take, List.length_drop]
      omega
  · rw [over_r bs 32 s h0] at h
    exact absurd h h0
theorem e_form (bs : List UInt8) (s : St) (h : (eS bs s).1 = 0) : s.2.1 = 0 ∧ bs.drop s.1 = [] := by
  unfold eS at h
  by_cases h0 : s.2.1 = 0
  · rw [if_neg (fun h9 => h9 h0)] at h
    by_cases h1 : s.1 < bs.length
    · rw [if_pos h1] at h
      exact absurd h (by show ¬ (6 : Int) = 0; decide)
    · exact ⟨h0, List.drop_eq_nil_iff.2 (by omega)⟩
  · rw [if_pos h0] at h
    exact absurd h h0
theorem cast_nat (n : Nat) : ((n : Int)).toNat = n := by omega

/-- fields that were read stand there in their one form -/
theorem form_fields (bs : List UInt8) (K : Nat) (s : St) (hK : 1 ≤ K ∧ K ≤ 6) (he : (eS bs (fieldsP bs (K : Int) s).2).1 = 0) : s.2.1 = 0 ∧ bs.drop s.1 = layP (fieldsP bs (K : Int) s).1 := by
  obtain ⟨e1, e2⟩ := e_form bs _ he
  have hc : K = 1 ∨ K = 2 ∨ K = 3 ∨ K = 4 ∨ K = 5 ∨ K = 6 := by omega
  rcases hc with rfl | rfl | rfl | rfl | rfl | rfl
  · rw [show ((1 : Nat) : Int) = 1 from rfl, fieldsP_1] at e1 e2 ⊢
    obtain ⟨a1, a2, a3⟩ := r_form bs _ e1
    obtain ⟨b1, b2, _⟩ := o_form bs 64 _ (by omega) a1
    obtain ⟨c1, c2, _⟩ := o_form bs 1 _ (by omega) b1
    refine ⟨c1, ?_⟩
    rw [lay_1 _ rfl, sns_two]
    show bs.drop s.1 = sn ((((oS bs 1 s).1 : Nat) : Int)).toNat ++ sn ((((oS bs 64 (oS bs 1 s).2).1 : Nat) : Int)).toNat ++ pad32 (rS bs 32 (oS bs 64 (oS bs 1 s).2).2).1
    rw [cast_nat, cast_nat, c2, b2, a2, e2, List.append_nil]
    unfold pad32
    rw [if_pos a3, List.append_assoc]
  · rw [show ((2 : Nat) : Int) = 2 from rfl, fieldsP_2] at e1 e2 ⊢
    obtain ⟨a1, a2⟩ := t_form bs 2097152 _ (by omega) e1
    obtain ⟨b1, b2⟩ := l_form bs 8 4096 _ (by omega) (by omega) a1
    obtain ⟨c1, c2⟩ := c_form bs 2147483648 _ (by omega) b1
    obtain ⟨d1, d2⟩ := c_form bs 2147483648 _ (by omega) c1
    obtain ⟨f1, f2⟩ := c_form bs 2147483648 _ (by omega) d1
    obtain ⟨g1, g2, _⟩ := u_form bs _ f1
    refine ⟨g1, ?_⟩
    rw [lay_2 _ rfl]
    unfold layReqP
    rw [sns_thr]
    simp only [reqF, cast_nat]
    rw [g2, f2, d2, c2, b2, a2, e2, List.append_nil]
    simp only [List.append_assoc]
  · rw [show ((3 : Nat) : Int) = 3 from rfl, fieldsP_3] at e1 e2 ⊢
    obtain ⟨a1, a2⟩ := t_form bs 2097152 _ (by omega) e1
    obtain ⟨b1, b2, _⟩ := o_form bs 3 _ (by omega) a1
    obtain ⟨g1, g2, _⟩ := u_form bs _ b1
    refine ⟨g1, ?_⟩
    rw [lay_3 _ rfl, sns_one]
    simp only [resF, cast_nat]
    rw [g2, b2, a2, e2, List.append_nil]
  · rw [show ((4 : Nat) : Int) = 4 from rfl, fieldsP_4] at e1 e2 ⊢
    obtain ⟨g1, g2, _⟩ := u_form bs _ e1
    refine ⟨g1, ?_⟩
    rw [lay_4 _ rfl]
    simp only [canF, cast_nat]
    rw [g2, e2, List.append_nil]
  · rw [show ((5 : Nat) : Int) = 5 from rfl, fieldsP_5] at e1 e2 ⊢
    exact ⟨e1, by rw [lay_5 _ rfl]; exact e2⟩
  · rw [show ((6 : Nat) : Int) = 6 from rfl, fieldsP_6] at e1 e2 ⊢
    obtain ⟨a1, a2⟩ := t_form bs 2097152 _ (by omega) e1
    refine ⟨a1, ?_⟩
    rw [lay_6 _ rfl]
    simp only [noteF]
    rw [a2, e2, List.append_nil]
theorem fields_own (bs : List UInt8) (K : Nat) (s : St) (hK : 1 ≤ K ∧ K ≤ 6) : sameP (fieldsP bs (K : Int) s).1 (ownF (fieldsP bs (K : Int) s).1) = true := by
  have hc : K = 1 ∨ K = 2 ∨ K = 3 ∨ K = 4 ∨ K = 5 ∨ K = 6 := by omega
  have key : ∀ f : Fr, ownF f = f → sameP f (ownF f) = true := fun f h => by rw [h]; exact sameP_self f
  apply key
  rcases hc with rfl | rfl | rfl | rfl | rfl | rfl
  · rw [show ((1 : Nat) : Int) = 1 from rfl, fieldsP_1, own_1 _ rfl]
  · rw [show ((2 : Nat) : Int) = 2 from rfl, fieldsP_2, own_2 _ rfl]; rfl
  · rw [show ((3 : Nat) : Int) = 3 from rfl, fieldsP_3, own_3 _ rfl]; rfl
  · rw [show ((4 : Nat) : Int) = 4 from rfl, fieldsP_4, own_4 _ rfl]; rfl
  · rw [show ((5 : Nat) : Int) = 5 from rfl, fieldsP_5, own_5 _ rfl]
  · rw [show ((6 : Nat) : Int) = 6 from rfl, fieldsP_6, own_6 _ rfl]; rfl
/-- bytes whose fields are taken are the frame's body -/
theorem frame_form (bs : List UInt8) (head : Nat) (h : (frameP bs head).2.1 = 0) : okFr (frameP bs head).1 = true ∧ bs.drop head = bodyP (frameP bs head).1 ∧ (frameP bs head).2 = (0, 0) := by
  have hle := oS_le bs 6 (head, 0, 0) (by omega)
  by_cases h0 : (oS bs 6 (head, 0, 0)).1 = 0
  · rw [frameP_zero bs head h0] at h
    have h1 := oS_zero bs 6 _ h0
    have h2 := (e_form bs _ h).1
    exact absurd h2 h1
  · obtain ⟨K, hK⟩ : ∃ K, (oS bs 6 (head, 0, 0)).1 = K := ⟨_, rfl⟩
    rw [hK] at h0 hle
    have hK6 : 1 ≤ K ∧ K ≤ 6 := by omega
    by_cases he : (eS bs (fieldsP bs (K : Int) (oS bs 6 (head, 0, 0)).2).2).1 = 0
    · cases hm : mayF (fieldsP bs (K : Int) (oS bs 6 (head, 0, 0)).2).1 with
      | true =>
        rw [frameP_ok bs head K hK h0 he hm]
        obtain ⟨f1, f2⟩ := form_fields bs K _ hK6 he
        obtain ⟨_, g2, _⟩ := o_form bs 6 (head, 0, 0) (by omega) f1
        refine ⟨?_, ?_, rfl⟩
        · unfold okFr
          rw [fields_own bs K _ hK6, hm, fieldsP_kind bs K _ (by omega), decide_eq_true (by omega)]
          rfl
        · unfold bodyP
          rw [fieldsP_kind bs K _ (by omega), cast_nat]
          show bs.drop head = _
          have g3 : bs.drop head = sn (oS bs 6 (head, 0, 0)).1 ++ bs.drop (oS bs 6 (head, 0, 0)).2.1 := g2
          rw [g3, hK, f2]
      | false =>
        rw [frameP_may bs head K hK h0 he hm] at h
        exact absurd h (by show ¬ (70 : Int) = 0; decide)
    · rw [frameP_bad bs head K hK h0 he] at h
      exact absurd h he
/-- bytes that are taken are the one form of their frame -/
theorem dec_form (b : List UInt8) (h : (decP b).2.1 = 0) : chkE (decP b).1 = 0 ∧ encP (decP b).1 = b ∧ (decP b).2 = (0, 0) := by
  rw [decP_uns] at h ⊢
  by_cases h0 : (unsE b).1 = 0
  · rw [if_neg (fun h9 => h9 h0)] at h ⊢
    obtain ⟨u1, u2, u3, u4, u5⟩ := uns_ok h0
    obtain ⟨NB, hd, hN1, hN2, hNn⟩ := need_ok u1 u2
    obtain ⟨f1, f2, f3⟩ := frame_form _ _ h
    obtain ⟨hk0, hk1, hk2, hk3⟩ := dec_ok hd
    have e : b.take (b.length - 4) = sn NB ++ (b.drop (needP b).2.1).take NB := by
      rw [← hk3, show b.length - 4 = (needP b).2.1 + NB by omega, List.take_add]
    have hl := dec_ok_len hd
    have e2 : (b.take (b.length - 4)).drop (needP b).2.1 = (b.drop (needP b).2.1).take NB := by
      rw [e]
      exact List.drop_left' hl.symm
    rw [e2] at f2
    have e3 : (bodyP (frameP (b.take (b.length - 4)) (needP b).2.1).1).length = NB := by
      rw [← f2, List.length_take, List.length_drop]
      omega
    refine ⟨?_, ?_, f3⟩
    · unfold chkE
      rw [if_pos f1, e3, if_neg (by omega)]
    · unfold encP
      rw [e3, ← f2, ← e]
      unfold sealP
      unfold cokP at u4
      have h9 := of_decide_eq_true u4
      rw [← h9]
      exact List.take_append_drop _ b
  · rw [if_pos h0] at h
    exact absurd h h0
/-- what is refused tells no frame -/
theorem dec_none (b : List UInt8) (h : (decP b).2.1 ≠ 0) : (decP b).1 = zF := by
  rw [decP_uns] at h ⊢
  by_cases h0 : (unsE b).1 = 0
  · rw [if_neg (fun h9 => h9 h0)] at h ⊢
    unfold frameP at h ⊢
    repeat' split
    all_goals first | rfl | skip
    rename_i g1 g2 g3
    rw [if_neg g1, if_neg g2, if_pos g3] at h
    exact absurd rfl h
  · rw [if_pos h0]
/-- a frame that is told is within its types -/
theorem uS_lt (bs : List UInt8) (s : St) : (uS bs s).1 < 18446744073709551616 := uintF_lt bs s.1 s.2.1 s.2.2
theorem fields_rng (bs : List UInt8) (K : Nat) (s : St) (hK : 1 ≤ K ∧ K ≤ 6) (hl : bs.length ≤ 140737488355327) (hm : (fieldsP bs (K : Int) s).1.args.length ≤ 9223372036854775807) : Rng (fieldsP bs (K : Int) s).1 := by
  have hc : K = 1 ∨ K = 2 ∨ K = 3 ∨ K = 4 ∨ K = 5 ∨ K = 6 := by omega
  have tl := fieldsP_tool bs (K : Int) s
  have u1 := uS_lt bs s
  have tb : ∀ s' : St, (tS bs 2097152 s').1.length ≤ bs.length := fun s' => textF_len bs s'.1 s'.2.1 s'.2.2 2097152
  rcases hc with rfl | rfl | rfl | rfl | rfl | rfl
  · rw [show ((1 : Nat) : Int) = 1 from rfl, fieldsP_1] at tl hm ⊢
    have a := oS_le bs 1 s (by omega)
    have b := oS_le bs 64 (oS bs 1 s).2 (by omega)
    exact ⟨tl, by simp, by simp, by show ((oS bs 1 s).1 : Int) ≤ _; omega, by show ((oS bs 64 (oS bs 1 s).2).1 : Int) ≤ _; omega, by simp, by simp, by simp, by simp, by simp, hm⟩
  · rw [show ((2 : Nat) : Int) = 2 from rfl, fieldsP_2] at tl hm ⊢
    have a := cS_le bs 2147483648 (uS bs s).2 (by omega)
    have b := cS_le bs 2147483648 (cS bs 2147483648 (uS bs s).2).2 (by omega)
    have c := cS_le bs 2147483648 (cS bs 2147483648 (cS bs 2147483648 (uS bs s).2).2).2 (by omega)
    exact ⟨tl, by simp [reqF], by show ((uS bs s).1 : Int) ≤ _; omega, by simp [reqF], by simp [reqF], by simp [reqF], by show ((cS bs 2147483648 (uS bs s).2).1 : Int) ≤ _; omega, by show ((cS bs 2147483648 (cS bs 2147483648 (uS bs s).2).2).1 : Int) ≤ _; omega, by show ((cS bs 2147483648 (cS bs 2147483648 (cS bs 2147483648 (uS bs s).2).2).2).1 : Int) ≤ _; omega, Nat.le_trans (tb _) hl, hm⟩
  · rw [show ((3 : Nat) : Int) = 3 from rfl, fieldsP_3] at tl hm ⊢
    have a := oS_le bs 3 (uS bs s).2 (by omega)
    exact ⟨tl, by simp [resF], by show ((uS bs s).1 : Int) ≤ _; omega, by simp [resF], by simp [resF], by show ((oS bs 3 (uS bs s).2).1 : Int) ≤ _; omega, by simp [resF], by simp [resF], by simp [resF], Nat.le_trans (tb _) hl, hm⟩
  · rw [show ((4 : Nat) : Int) = 4 from rfl, fieldsP_4] at tl hm ⊢
    exact ⟨tl, by simp [canF], by show ((uS bs s).1 : Int) ≤ _; omega, by simp [canF], by simp [canF], by simp [canF], by simp [canF], by simp [canF], by simp [canF], by simp [canF], hm⟩
  · rw [show ((5 : Nat) : Int) = 5 from rfl, fieldsP_5] at tl hm ⊢
    exact ⟨tl, by simp [byeF], by simp [byeF], by simp [byeF], by simp [byeF], by simp [byeF], by simp [byeF], by simp [byeF], by simp [byeF], by simp [byeF], hm⟩
  · rw [show ((6 : Nat) : Int) = 6 from rfl, fieldsP_6] at tl hm ⊢
    exact ⟨tl, by simp [noteF], by simp [noteF], by simp [noteF], by simp [noteF], by simp [noteF], by simp [noteF], by simp [noteF], by simp [noteF], Nat.le_trans (tb _) hl, hm⟩
theorem zF_rng : Rng zF := ⟨rfl, by simp [zF], by simp [zF], by simp [zF], by simp [zF], by simp [zF], by simp [zF], by simp [zF], by simp [zF], by simp [zF], by simp [zF]⟩
theorem dec_rng (b : List UInt8) (hl : b.length ≤ 140737488355327) (hm : (decP b).1.args.length ≤ 9223372036854775807) : Rng (decP b).1 := by
  by_cases h : (decP b).2.1 = 0
  · rw [decP_uns] at h hm ⊢
    by_cases h0 : (unsE b).1 = 0
    · rw [if_neg (fun h9 => h9 h0)] at h hm ⊢
      have hle := oS_le (b.take (b.length - 4)) 6 ((needP b).2.1, 0, 0) (by omega)
      unfold frameP at h hm ⊢
      by_cases g1 : (oS (b.take (b.length - 4)) 6 ((needP b).2.1, 0, 0)).1 = 0
      · rw [if_pos g1]
        exact zF_rng
      · rw [if_neg g1] at hm ⊢
        split
        · exact zF_rng
        · rename_i g2
          rw [if_neg g2] at hm
          split
          · rename_i g3
            rw [if_pos g3] at hm
            exact fields_rng _ _ _ (by omega) (by rw [List.length_take]; omega) hm
          · exact zF_rng
    · rw [if_pos h0]
      exact zF_rng
  · rw [dec_none b h]
    exact zF_rng
end Go.Proofs.Ytjinkahlfigdcaa

/- The document's only: a frame with just the fields that its kind has. -/
namespace Go.Proofs.Ytjinkahlfigdcaa
open Go.RowKit Go.BigFrame

def setAll (a : Array Value) : Nat → List Value → Array Value
  | _, [] => a
  | o, v :: r => setAll (a.setIfInBounds o v) (o + 1) r
theorem blk_cells {b : Nat} {t : TypeId} : ∀ (cs : List Value) (o : Nat) {w : World} {a : Array Value}, w.heap[b]? = some (.cells a t (0, 0)) → (w.setCells b o cs).heap[b]? = some (.cells (setAll a o cs) t (0, 0))
  | [], _, _, _, h => h
  | _ :: r, o, _, _, h => blk_cells r (o + 1) (blk_set h _)
theorem below_cells {B b : Nat} {w0 : World} (hb : B ≤ b) : ∀ (cs : List Value) (o : Nat) {w : World}, Below B w0 w → Below B w0 (w.setCells b o cs)
  | [], _, _, h => h
  | v :: r, o, _, h => below_cells hb r (o + 1) (h.setCell (p := ⟨b, o, none⟩) hb v)
theorem there_row {w : World} {b : Nat} {a : Array Value} {t : TypeId} (h : w.heap[b]? = some (.cells a t (0, 0))) (o n : Nat) (hn : o + n ≤ a.size) : w.there b o n := fun j hj => by
  refine ⟨?_, row_fz h (o + j)⟩
  rw [cell_of_row w b (o + j) a t (0, 0) h, Array.getElem?_eq_getElem (by omega)]
  rfl
theorem step_store_mid2 {P : Program} {ops : Array Oper} {o : Oper} {a : Act} {w : World} {K : Act → World → Prop} {Q : Exit → Act → World → Prop} {E : Prop} (hgd : o.guard = none) (ty : TypeId) (x y : Operand) (ho : o.op = .store ty x y)
    (b off : Nat) (cs : List Value) (hx : a.eval x = .pointer (some ⟨b, off, none⟩)) (hy : a.eval y = .agg cs.toArray) (ht : w.there b off cs.length) (hi : (P.info? ty).map (·.size) = some cs.length) (h1 : ∀ v ∈ cs, v.oneCell' = true)
    (h : K (a.put o.dst undef) (w.setCells b off cs)) : if Region.wanted o (yielded ops a.tmps) = true then Oper.wp P o a w K Q else E := by
  rw [if_pos (by simp [Region.wanted, hgd])]
  have hrun := run_storeVar_mid (P := P) w b off ty cs.toArray (by simpa using ht) (by simpa using hi) (by simpa using h1)
  unfold Oper.wp execOp
  simp only [ho, hx, hy, Instr.storeAt, Instr.sureAddr, Sem.run_bind, Sem.run_pure, Result.andThen_ok, hrun]
  exact h
theorem heq1_32 (v s : Int) (t0 t1 t2 t3 t4 t5 t6 t7 t8 t9 t10 t11 t12 t13 t14 t15 t16 t17 t18 t19 t20 t21 t22 t23 t24 t25 t26 t27 t28 t29 t30 t31 : UInt8) : setAll ((((fcells ⟨1, 0, 0, 0, List.replicate 32 0, 0, (0, 0, 0), [], []⟩ nS).toArray).setIfInBounds 2 (.int .i64 v)).setIfInBounds 3 (.int .i64 s)) 4 (bytesV [t0, t1, t2, t3, t4, t5, t6, t7, t8, t9, t10, t11, t12, t13, t14, t15, t16, t17, t18, t19, t20, t21, t22, t23, t24, t25, t26, t27, t28, t29, t30, t31]) = (fcells ⟨1, 0, v, s, [t0, t1, t2, t3, t4, t5, t6, t7, t8, t9, t10, t11, t12, t13, t14, t15, t16, t17, t18, t19, t20, t21, t22, t23, t24, t25, t26, t27, t28, t29, t30, t31], 0, (0, 0, 0), [], []⟩ nS).toArray := by kernel_rfl
theorem heq1 (v s : Int) (T : List UInt8) (h : T.length = 32) : setAll ((((fcells ⟨1, 0, 0, 0, List.replicate 32 0, 0, (0, 0, 0), [], []⟩ nS).toArray).setIfInBounds 2 (.int .i64 v)).setIfInBounds 3 (.int .i64 s)) 4 (bytesV T) = (fcells ⟨1, 0, v, s, T, 0, (0, 0, 0), [], []⟩ nS).toArray := by
  obtain ⟨t0, t1, t2, t3, t4, t5, t6, t7, t8, t9, t10, t11, t12, t13, t14, t15, t16, t17, t18, t19, t20, t21, t22, t23, t24, t25, t26, t27, t28, t29, t30, t31, rfl⟩ := list32 h
  exact heq1_32 v s t0 t1 t2 t3 t4 t5 t6 t7 t8 t9 t10 t11 t12 t13 t14 t15 t16 t17 t18 t19 t20 t21 t22 t23 t24 t25 t26 t27 t28 t29 t30 t31
theorem eq_rowFOnly1 {w : World} {g : Nat} {a b : Array Value} {t : TypeId} (h : w.heap[g]? = some (.cells a t (0, 0))) (e : a = b) : w.heap[g]? = some (.cells b t (0, 0)) := by rw [← e]; exact h

theorem built_b1 : Try.prog.built 29 [(0, .int .i64 1)] = some (fcells ⟨1, 0, 0, 0, List.replicate 32 0, 0, (0, 0, 0), [], []⟩ nS).toArray := by kernel_rfl

set_option maxRecDepth 100000 in
set_option maxHeartbeats 4000000 in
theorem only1_any (f : Fr) (va : Value) (w : World) (hk : f.kind = 1) (hf : f.tool.length = 32) (hv : ∃ ao n c, va = .slice ao n c) :
    Calls Try.prog 45 #[.agg (fcells f va).toArray] w fun e w' => e = .returned (.agg (fcells (ownF f) (ownV f va)).toArray) ∧ Below w.heap.size w w' := by
  obtain ⟨ao, nn, cc, rfl⟩ := hv
  have HNB := hid (hp_two w (.cells (fcells f (.slice ao nn cc)).toArray 29) (.cells (fcells zF nS).toArray 29))
  have HBL := hid (below_walk2 w (.cells (fcells f (.slice ao nn cc)).toArray 29) (.cells (fcells zF nS).toArray 29))
  have HZ : Hid ((w.alloc (.cells (fcells f (.slice ao nn cc)).toArray 29)).heap.size = w.heap.size + 1) := hid (by simp)
  have HOW : Hid (fcells (ownF f) (ownV f (.slice ao nn cc)) = fcells (ownF f) (ownV f (.slice ao nn cc))) := hid rfl
  have HOT := hid (ownF_tool f hf)
  have HSZ := hid (frame_size (ownF f) (ownV f (.slice ao nn cc)) HOT.out)
  have HON := hid (fcells_one (ownF f) (ownV f (.slice ao nn cc)) (by unfold ownV; split <;> rfl))
  have HOS := hid (show (fcells zF nS).toArray.size = (fcells (ownF f) (ownV f (.slice ao nn cc))).length by rw [fcells_length _ _ HOT.out]; rfl)
  have HSB := hid (frame_size ⟨1, 0, 0, 0, List.replicate 32 0, 0, (0, 0, 0), [], []⟩ nS rfl)
  have HEQ : Hid (setAll ((((fcells ⟨1, 0, 0, 0, List.replicate 32 0, 0, (0, 0, 0), [], []⟩ nS).toArray).setIfInBounds 2 (.int .i64 f.ver)).setIfInBounds 3 (.int .i64 f.slots)) 4 (bytesV f.tool) = (fcells (ownF f) (ownV f (.slice ao nn cc))).toArray) := hid (by
    unfold ownF ownV
    rw [if_pos hk, if_neg (show ¬ f.kind = 2 by omega)]
    exact heq1 f.ver f.slots f.tool hf)
  have HK := hid hk
  have HF := hid hf
  clear hk hf HOW
  go_enter Try.func45, Try.ntmps45
  go_upto_region 1 with (refine al_row (by rfl) 29 (by rfl) _ zeroFrame ?_)
  try rw [HZ.out]
  generalize (w.alloc (.cells (fcells f (.slice ao nn cc)).toArray 29)).alloc (.cells (fcells zF nS).toArray 29) = w2 at HNB HBL ⊢
  have x0 := (Fb.of HNB.out.1 HF.out).k
  rw [HK.out] at x0
  have HL2 := hid (hp_lt HNB.out.2)
  go_upto_region 2 with (first
    | (refine bd_row (by rfl) 29 #[(0, .tmp 5)] (by rfl) _ (by simp [Act.eval]) _ built_b1 ?_)
    | (refine al_row (by rfl) 29 (by rfl) _ zeroFrame ?_)
    | (refine st_new (by rfl) 29 _ _ (by rfl) (fcells ⟨1, 0, 0, 0, List.replicate 32 0, 0, (0, 0, 0), [], []⟩ nS) (by rfl) (by rfl) 29 _ HSB.out rfl (fcells_one _ nS rfl) ?_))
  have HN1 := hid ((below_walk w2 (.cells (fcells ⟨1, 0, 0, 0, List.replicate 32 0, 0, (0, 0, 0), [], []⟩ nS).toArray 29)).block _ (by have := HL2.out; omega) |>.trans HNB.out.1)
  have HN2 := hid ((below_walk w2 (.cells (fcells ⟨1, 0, 0, 0, List.replicate 32 0, 0, (0, 0, 0), [], []⟩ nS).toArray 29)).block _ HL2.out |>.trans HNB.out.2)
  have HN3 := hid (hp_new w2 (.cells (fcells ⟨1, 0, 0, 0, List.replicate 32 0, 0, (0, 0, 0), [], []⟩ nS).toArray 29))
  have HB3 := hid (below_then HBL.out (below_walk w2 (.cells (fcells ⟨1, 0, 0, 0, List.replicate 32 0, 0, (0, 0, 0), [], []⟩ nS).toArray 29)))
  have HG3 := hid (show w.heap.size + 1 < w2.heap.size from HL2.out)
  obtain ⟨B3, HE3⟩ : ∃ b : Nat, Hid (w2.heap.size = b) := ⟨_, rfl⟩
  rw [HE3.out] at HN3 HG3 ⊢
  generalize w2.alloc (.cells (fcells ⟨1, 0, 0, 0, List.replicate 32 0, 0, (0, 0, 0), [], []⟩ nS).toArray 29) = w3 at HN1 HN2 HN3 HB3 ⊢
  clear x0 HNB HBL HL2
  have HFB := hid (Fb.of HN1.out HF.out)
  have HFC := hid (Fb.of HN3.out (show (⟨1, 0, 0, 0, List.replicate 32 0, 0, (0, 0, 0), [], []⟩ : Fr).tool.length = 32 from rfl))
  have x1 := HFB.out.k
  rw [HK.out] at x1
  have HYv := hid HFB.out.v
  have HYs := hid HFB.out.s
  have HYt := hid HFB.out.t
  have HTS := hid (tool_size f.tool HF.out)
  have ne1 : ¬ w.heap.size = B3 := by have := HG3.out; omega
  have ne2 : ¬ B3 = w.heap.size := by have := HG3.out; omega
  go_upto_region 4 with fail
  have HLB := hid (show w.heap.size < B3 by have := HG3.out; omega)
  refine wp_noPanic (wp_region_held_drew (S := fun W => Below B3 w3 W) (by kernel_rfl) ⟨rfl, rfl, rfl, Nat.le_refl _, fun _ _ => rfl⟩ ?_)
  intro hHeld
  refine wpAnyH_take (i := 0) (v := .pointer (some ⟨w.heap.size, 2, none⟩)) rfl (by kernel_rfl) (by kernel_rfl) (by kernel_rfl) (fun _ _ _ h => h) (Or.inl ⟨by rfl, fun W _ => by go_simp⟩) hHeld ?_
  simp only [Act.put, List.getElem_toArray, List.getElem_cons_zero, List.setIfInBounds_toArray, List.set_cons_succ, List.set_cons_zero]
  refine wpAnyH_take (i := 1) (v := .int .i64 f.ver) rfl (by kernel_rfl) (by kernel_rfl) (by kernel_rfl) (fun _ _ _ h => h) (Or.inl ⟨by rfl, fun W hW => by have hcell2 := (hW.cell (p := ⟨w.heap.size, 2, none⟩) HLB.out).trans HYv.out; clear hW; go_simp⟩) hHeld ?_
  simp only [Act.put, List.getElem_toArray, List.getElem_cons_zero, List.getElem_cons_succ, List.setIfInBounds_toArray, List.set_cons_succ, List.set_cons_zero]
  refine wpAnyH_take (i := 2) (v := .pointer (some ⟨w.heap.size, 3, none⟩)) rfl (by kernel_rfl) (by kernel_rfl) (by kernel_rfl) (fun _ _ _ h => h) (Or.inl ⟨by rfl, fun W _ => by go_simp⟩) hHeld ?_
  simp only [Act.put, List.getElem_toArray, List.getElem_cons_zero, List.getElem_cons_succ, List.setIfInBounds_toArray, List.set_cons_succ, List.set_cons_zero]
  refine wpAnyH_take (i := 3) (v := .int .i64 f.slots) rfl (by kernel_rfl) (by kernel_rfl) (by kernel_rfl) (fun _ _ _ h => h) (Or.inl ⟨by rfl, fun W hW => by have hcell3 := (hW.cell (p := ⟨w.heap.size, 3, none⟩) HLB.out).trans HYs.out; clear hW; go_simp⟩) hHeld ?_
  simp only [Act.put, List.getElem_toArray, List.getElem_cons_zero, List.getElem_cons_succ, List.setIfInBounds_toArray, List.set_cons_succ, List.set_cons_zero]
  refine wpAnyH_take (i := 4) (v := .pointer (some ⟨w.heap.size, 4, none⟩)) rfl (by kernel_rfl) (by kernel_rfl) (by kernel_rfl) (fun _ _ _ h => h) (Or.inl ⟨by rfl, fun W _ => by go_simp⟩) hHeld ?_
  simp only [Act.put, List.getElem_toArray, List.getElem_cons_zero, List.getElem_cons_succ, List.setIfInBounds_toArray, List.set_cons_succ, List.set_cons_zero]
  refine wpAnyH_take (i := 5) (v := .agg (bytesV f.tool).toArray) rfl (by kernel_rfl) (by kernel_rfl) (by kernel_rfl) (fun _ _ _ h => h) (yieldsIf_load_mid (by rfl) 24 (.tmp 15) rfl w.heap.size 4 rfl (bytesV f.tool) _ (fun W hW => fun j v hv => (hW.cell (p := ⟨w.heap.size, 4 + j, none⟩) HLB.out).trans (HYt.out j v hv)) Try.underlying24 rfl HTS.out) hHeld ?_
  simp only [Act.put, List.getElem_toArray, List.getElem_cons_zero, List.getElem_cons_succ, List.setIfInBounds_toArray, List.set_cons_succ, List.set_cons_zero]
  obtain ⟨wx, HWX⟩ : ∃ x, Hid (w3.drew = x) := ⟨_, rfl⟩
  rw [HWX.out] at hHeld ⊢
  have HNx0 := hid (show wx.heap[B3]? = some (.cells (fcells ⟨1, 0, 0, 0, List.replicate 32 0, 0, (0, 0, 0), [], []⟩ nS).toArray 29 (0, 0)) by rw [← HWX.out]; exact HN3.out)
  have hq0 : Below B3 w3 wx := hHeld
  refine wpAnyH_take (i := 6) (v := .pointer (some ⟨B3, 2, none⟩)) rfl (by kernel_rfl) (by kernel_rfl) (by kernel_rfl) (fun _ _ _ h => h) (Or.inl ⟨by rfl, fun W _ => by go_simp⟩) hHeld ?_
  simp only [Act.put, List.getElem_toArray, List.getElem_cons_zero, List.getElem_cons_succ, List.setIfInBounds_toArray, List.set_cons_succ, List.set_cons_zero]
  have g7 : wx.cell? ⟨B3, 2, none⟩ = some _ := cell_of_row wx B3 2 _ _ _ HNx0.out
  have z7 := row_fz HNx0.out 2
  refine wpAnyH_ready (rs := [7]) (by kernel_rfl) (by simp) ?_
  refine AllReadyH.cons rfl (fun K hK => ?_) AllReadyH.nil
  go_simp
  have hq1 : Below B3 w3 (wx.setCell ⟨B3, 2, none⟩ (.int .i64 f.ver)) := hq0.setCell (p := ⟨B3, 2, none⟩) (Nat.le_refl _) _
  have HNx1 := hid (show (wx.setCell ⟨B3, 2, none⟩ (.int .i64 f.ver)).heap[B3]? = some (.cells ((fcells ⟨1, 0, 0, 0, List.replicate 32 0, 0, (0, 0, 0), [], []⟩ nS).toArray.setIfInBounds 2 (.int .i64 f.ver)) 29 (0, 0)) from blk_set HNx0.out _)
  refine hK.out _ _ hq1 (fun hHeld => ?_)
  clear hK K g7 z7
  try simp only [Act.put, List.getElem_toArray, List.getElem_cons_zero, List.getElem_cons_succ, List.setIfInBounds_toArray, List.set_cons_succ, List.set_cons_zero]
  obtain ⟨wy1, hwy1⟩ : ∃ x, (wx.setCell ⟨B3, 2, none⟩ (.int .i64 f.ver)) = x := ⟨_, rfl⟩
  rw [hwy1] at hq1 HNx1 hHeld ⊢
  refine wpAnyH_take (i := 8) (v := .pointer (some ⟨B3, 3, none⟩)) rfl (by kernel_rfl) (by kernel_rfl) (by kernel_rfl) (fun _ _ _ h => h) (Or.inl ⟨by rfl, fun W _ => by go_simp⟩) hHeld ?_
  simp only [Act.put, List.getElem_toArray, List.getElem_cons_zero, List.getElem_cons_succ, List.setIfInBounds_toArray, List.set_cons_succ, List.set_cons_zero]
  have g9 : wy1.cell? ⟨B3, 3, none⟩ = some _ := cell_of_row wy1 B3 3 _ _ _ HNx1.out
  have z9 := row_fz HNx1.out 3
  refine wpAnyH_ready (rs := [9]) (by kernel_rfl) (by simp) ?_
  refine AllReadyH.cons rfl (fun K hK => ?_) AllReadyH.nil
  go_simp
  have hq2 : Below B3 w3 (wy1.setCell ⟨B3, 3, none⟩ (.int .i64 f.slots)) := hq1.setCell (p := ⟨B3, 3, none⟩) (Nat.le_refl _) _
  have HNx2 := hid (show (wy1.setCell ⟨B3, 3, none⟩ (.int .i64 f.slots)).heap[B3]? = some (.cells (((fcells ⟨1, 0, 0, 0, List.replicate 32 0, 0, (0, 0, 0), [], []⟩ nS).toArray.setIfInBounds 2 (.int .i64 f.ver)).setIfInBounds 3 (.int .i64 f.slots)) 29 (0, 0)) from blk_set HNx1.out _)
  refine hK.out _ _ hq2 (fun hHeld => ?_)
  clear hK K g9 z9
  try simp only [Act.put, List.getElem_toArray, List.getElem_cons_zero, List.getElem_cons_succ, List.setIfInBounds_toArray, List.set_cons_succ, List.set_cons_zero]
  obtain ⟨wy2, hwy2⟩ : ∃ x, (wy1.setCell ⟨B3, 3, none⟩ (.int .i64 f.slots)) = x := ⟨_, rfl⟩
  rw [hwy2] at hq2 HNx2 hHeld ⊢
  refine wpAnyH_take (i := 10) (v := .pointer (some ⟨B3, 4, none⟩)) rfl (by kernel_rfl) (by kernel_rfl) (by kernel_rfl) (fun _ _ _ h => h) (Or.inl ⟨by rfl, fun W _ => by go_simp⟩) hHeld ?_
  simp only [Act.put, List.getElem_toArray, List.getElem_cons_zero, List.getElem_cons_succ, List.setIfInBounds_toArray, List.set_cons_succ, List.set_cons_zero]
  refine wpAnyH_ready (rs := [11]) (by kernel_rfl) (by simp) ?_
  refine AllReadyH.cons rfl (fun K hK => ?_) AllReadyH.nil
  refine step_store_mid2 (by rfl) 24 (.tmp 19) (.tmp 16) (by rfl) B3 4 (bytesV f.tool) (by rfl) (by rfl) (there_row HNx2.out 4 _ (by rw [bytesV_length, HF.out, Array.size_setIfInBounds, Array.size_setIfInBounds]; decide)) HTS.out (bytesV_one _) ?_
  have hq3 : Below B3 w3 (wy2.setCells B3 4 (bytesV f.tool)) := below_cells (Nat.le_refl _) _ _ hq2
  have HNx3 := hid (blk_cells (bytesV f.tool) 4 HNx2.out)
  refine hK.out _ _ hq3 (fun hHeld => ?_)
  clear hK K
  try simp only [Act.put, List.getElem_toArray, List.getElem_cons_zero, List.getElem_cons_succ]
  obtain ⟨wy3, hwy3⟩ : ∃ x, wy2.setCells B3 4 (bytesV f.tool) = x := ⟨_, rfl⟩
  rw [hwy3] at hq3 HNx3 hHeld ⊢
  refine wpAnyH_done (by kernel_rfl) ?_ _
  simp only [noPanic]
  clear hHeld
  go_upto_region 13 with fail
  have HN4 := hid (eq_rowFOnly1 HNx3.out HEQ.out)
  have HN5 := hid ((hq3.block (w.heap.size + 1) HG3.out).trans HN2.out)
  have HB4 := hid (show Below w.heap.size w wy3 from below_tr HB3.out (hq3.mono (by have := HLB.out; omega)))
  obtain ⟨FO, HFO⟩ : ∃ L, Hid (fcells (ownF f) (ownV f (.slice ao nn cc)) = L) := ⟨_, rfl⟩
  rw [HFO.out] at HSZ HON HOS HN4
  go_wp2_with (first
    | (refine ld_row (by rfl) 29 (.tmp 3) (by rfl) B3 (by rfl) FO 29 HN4.out _ Try.underlying29 rfl HSZ.out ?_)
    | (refine st_row (by rfl) 29 _ _ (by rfl) (w.heap.size + 1) FO (by rfl) (by rfl) 29 _ HN5.out HSZ.out HOS.out HON.out ?_; intro w5 hw5))
  refine ret_row 2 29 rfl (w.heap.size + 1) rfl FO 29 hw5.blk _ Try.underlying29 rfl HSZ.out rfl ⟨by rw [HFO.out], Below.of_gb HB4.out hw5.grown (by omega)⟩

end Go.Proofs.Ytjinkahlfigdcaa

/- The document's only: a frame with just the fields that its kind has. -/
namespace Go.Proofs.Ytjinkahlfigdcaa
open Go.RowKit Go.BigFrame

theorem eq_rowFOnly2 {w : World} {g : Nat} {a b : Array Value} {t : TypeId} (h : w.heap[g]? = some (.cells a t (0, 0))) (e : a = b) : w.heap[g]? = some (.cells b t (0, 0)) := by rw [← e]; exact h

theorem built_b2 : Try.prog.built 29 [(0, .int .i64 2)] = some (fcells ⟨2, 0, 0, 0, List.replicate 32 0, 0, (0, 0, 0), [], []⟩ nS).toArray := by kernel_rfl

set_option maxRecDepth 100000 in
set_option maxHeartbeats 4000000 in
theorem only2_any (f : Fr) (va : Value) (w : World) (hk : f.kind = 2) (hf : f.tool.length = 32) (hv : ∃ ao n c, va = .slice ao n c) :
    Calls Try.prog 45 #[.agg (fcells f va).toArray] w fun e w' => e = .returned (.agg (fcells (ownF f) (ownV f va)).toArray) ∧ Below w.heap.size w w' := by
  obtain ⟨ao, nn, cc, rfl⟩ := hv
  have HNB := hid (hp_two w (.cells (fcells f (.slice ao nn cc)).toArray 29) (.cells (fcells zF nS).toArray 29))
  have HBL := hid (below_walk2 w (.cells (fcells f (.slice ao nn cc)).toArray 29) (.cells (fcells zF nS).toArray 29))
  have HZ : Hid ((w.alloc (.cells (fcells f (.slice ao nn cc)).toArray 29)).heap.size = w.heap.size + 1) := hid (by simp)
  have HOW : Hid (fcells (ownF f) (ownV f (.slice ao nn cc)) = fcells (ownF f) (ownV f (.slice ao nn cc))) := hid rfl
  have HOT := hid (ownF_tool f hf)
  have HSZ := hid (frame_size (ownF f) (ownV f (.slice ao nn cc)) HOT.out)
  have HON := hid (fcells_one (ownF f) (ownV f (.slice ao nn cc)) (by unfold ownV; split <;> rfl))
  have HOS := hid (show (fcells zF nS).toArray.size = (fcells (ownF f) (ownV f (.slice ao nn cc))).length by rw [fcells_length _ _ HOT.out]; rfl)
  have HSB := hid (frame_size ⟨2, 0, 0, 0, List.replicate 32 0, 0, (0, 0, 0), [], []⟩ nS rfl)
  have HEQ : Hid ((((((((fcells ⟨2, 0, 0, 0, List.replicate 32 0, 0, (0, 0, 0), [], []⟩ nS).toArray.setIfInBounds 1 (.int .u64 f.id)).setIfInBounds 37 (.int .i64 f.lim.1)).setIfInBounds 38 (.int .i64 f.lim.2.1)).setIfInBounds 39 (.int .i64 f.lim.2.2)).setIfInBounds 40 (.slice ao nn cc)).setIfInBounds 41 (.string (mk f.body))) = (fcells (ownF f) (ownV f (.slice ao nn cc))).toArray) := hid (by
    unfold ownF ownV
    rw [if_neg (show ¬ f.kind = 1 by omega), if_pos hk, if_pos hk]
    rfl)
  have HK := hid hk
  have HF := hid hf
  clear hk hf HOW
  go_enter Try.func45, Try.ntmps45
  go_upto_region 1 with (refine al_row (by rfl) 29 (by rfl) _ zeroFrame ?_)
  try rw [HZ.out]
  generalize (w.alloc (.cells (fcells f (.slice ao nn cc)).toArray 29)).alloc (.cells (fcells zF nS).toArray 29) = w2 at HNB HBL ⊢
  have x0 := (Fb.of HNB.out.1 HF.out).k
  rw [HK.out] at x0
  have HL2 := hid (hp_lt HNB.out.2)
  go_upto_region 2 with (first
    | (refine bd_row (by rfl) 29 #[(0, .tmp 5)] (by rfl) _ (by simp [Act.eval]) _ built_b2 ?_)
    | (refine al_row (by rfl) 29 (by rfl) _ zeroFrame ?_)
    | (refine st_new (by rfl) 29 _ _ (by rfl) (fcells ⟨2, 0, 0, 0, List.replicate 32 0, 0, (0, 0, 0), [], []⟩ nS) (by rfl) (by rfl) 29 _ HSB.out rfl (fcells_one _ nS rfl) ?_))
  have HN1 := hid ((below_walk w2 (.cells (fcells ⟨2, 0, 0, 0, List.replicate 32 0, 0, (0, 0, 0), [], []⟩ nS).toArray 29)).block _ (by have := HL2.out; omega) |>.trans HNB.out.1)
  have HN2 := hid ((below_walk w2 (.cells (fcells ⟨2, 0, 0, 0, List.replicate 32 0, 0, (0, 0, 0), [], []⟩ nS).toArray 29)).block _ HL2.out |>.trans HNB.out.2)
  have HN3 := hid (hp_new w2 (.cells (fcells ⟨2, 0, 0, 0, List.replicate 32 0, 0, (0, 0, 0), [], []⟩ nS).toArray 29))
  have HB3 := hid (below_then HBL.out (below_walk w2 (.cells (fcells ⟨2, 0, 0, 0, List.replicate 32 0, 0, (0, 0, 0), [], []⟩ nS).toArray 29)))
  have HG3 := hid (show w.heap.size + 1 < w2.heap.size from HL2.out)
  obtain ⟨B3, HE3⟩ : ∃ b : Nat, Hid (w2.heap.size = b) := ⟨_, rfl⟩
  rw [HE3.out] at HN3 HG3 ⊢
  generalize w2.alloc (.cells (fcells ⟨2, 0, 0, 0, List.replicate 32 0, 0, (0, 0, 0), [], []⟩ nS).toArray 29) = w3 at HN1 HN2 HN3 HB3 ⊢
  clear x0 HNB HBL HL2
  have HFB := hid (Fb.of HN1.out HF.out)
  have HFC := hid (Fb.of HN3.out (show (⟨2, 0, 0, 0, List.replicate 32 0, 0, (0, 0, 0), [], []⟩ : Fr).tool.length = 32 from rfl))
  have x1 := HFB.out.k
  rw [HK.out] at x1
  have y_i := HFB.out.i
  have y_l1 := HFB.out.l1
  have y_l2 := HFB.out.l2
  have y_l3 := HFB.out.l3
  have y_a := HFB.out.a
  have y_bd := HFB.out.bd
  have c_i := HFC.out.i
  have c_l1 := HFC.out.l1
  have c_l2 := HFC.out.l2
  have c_l3 := HFC.out.l3
  have c_a := HFC.out.a
  have c_bd := HFC.out.bd
  have f_1 := row_fz HN3.out 1
  have f_37 := row_fz HN3.out 37
  have f_38 := row_fz HN3.out 38
  have f_39 := row_fz HN3.out 39
  have f_40 := row_fz HN3.out 40
  have f_41 := row_fz HN3.out 41
  have ne1 : ¬ w.heap.size = B3 := by have := HG3.out; omega
  have ne2 : ¬ B3 = w.heap.size := by have := HG3.out; omega
  go_upto_region 6 with fail
  have HLB := hid (show w.heap.size < B3 by have := HG3.out; omega)
  have HYi := hid y_i
  have HYl1 := hid y_l1
  have HYl2 := hid y_l2
  have HYl3 := hid y_l3
  have HYa := hid y_a
  have HYbd := hid y_bd
  clear y_i y_l1 y_l2 y_l3 y_a y_bd c_i c_l1 c_l2 c_l3 c_a c_bd f_1 f_37 f_38 f_39 f_40 f_41
  refine wp_noPanic (wp_region_held_drew (S := fun W => Below B3 w3 W) (by kernel_rfl) ⟨rfl, rfl, rfl, Nat.le_refl _, fun _ _ => rfl⟩ ?_)
  intro hHeld
  refine wpAnyH_take (i := 0) (v := .pointer (some ⟨w.heap.size, 1, none⟩)) rfl (by kernel_rfl) (by kernel_rfl) (by kernel_rfl) (fun _ _ _ h => h) (Or.inl ⟨by rfl, fun W _ => by go_simp⟩) hHeld ?_
  simp only [Act.put, List.getElem_toArray, List.getElem_cons_zero, List.setIfInBounds_toArray, List.set_cons_succ, List.set_cons_zero]
  refine wpAnyH_take (i := 1) (v := .int .u64 f.id) rfl (by kernel_rfl) (by kernel_rfl) (by kernel_rfl) (fun _ _ _ h => h) (Or.inl ⟨by rfl, fun W hW => by have hcell1 := (hW.cell (p := ⟨w.heap.size, 1, none⟩) HLB.out).trans HYi.out; clear hW; go_simp⟩) hHeld ?_
  simp only [Act.put, List.getElem_toArray, List.getElem_cons_zero, List.getElem_cons_succ, List.setIfInBounds_toArray, List.set_cons_succ, List.set_cons_zero]
  refine wpAnyH_take (i := 2) (v := .pointer (some ⟨w.heap.size, 37, none⟩)) rfl (by kernel_rfl) (by kernel_rfl) (by kernel_rfl) (fun _ _ _ h => h) (Or.inl ⟨by rfl, fun W _ => by go_simp⟩) hHeld ?_
  simp only [Act.put, List.getElem_toArray, List.getElem_cons_zero, List.getElem_cons_succ, List.setIfInBounds_toArray, List.set_cons_succ, List.set_cons_zero]
  refine wpAnyH_take (i := 3) (v := .agg #[.int .i64 f.lim.1, .int .i64 f.lim.2.1, .int .i64 f.lim.2.2]) rfl (by kernel_rfl) (by kernel_rfl) (by kernel_rfl) (fun _ _ _ h => h) (Or.inl ⟨by rfl, fun W hW => by have hcell37 := (hW.cell (p := ⟨w.heap.size, 37, none⟩) HLB.out).trans HYl1.out; have hcell38 := (hW.cell (p := ⟨w.heap.size, 38, none⟩) HLB.out).trans HYl2.out; have hcell39 := (hW.cell (p := ⟨w.heap.size, 39, none⟩) HLB.out).trans HYl3.out; clear hW; go_simp⟩) hHeld ?_
  simp only [Act.put, List.getElem_toArray, List.getElem_cons_zero, List.getElem_cons_succ, List.setIfInBounds_toArray, List.set_cons_succ, List.set_cons_zero]
  refine wpAnyH_take (i := 4) (v := .pointer (some ⟨w.heap.size, 40, none⟩)) rfl (by kernel_rfl) (by kernel_rfl) (by kernel_rfl) (fun _ _ _ h => h) (Or.inl ⟨by rfl, fun W _ => by go_simp⟩) hHeld ?_
  simp only [Act.put, List.getElem_toArray, List.getElem_cons_zero, List.getElem_cons_succ, List.setIfInBounds_toArray, List.set_cons_succ, List.set_cons_zero]
  refine wpAnyH_take (i := 5) (v := .slice ao nn cc) rfl (by kernel_rfl) (by kernel_rfl) (by kernel_rfl) (fun _ _ _ h => h) (Or.inl ⟨by rfl, fun W hW => by have hcell40 := (hW.cell (p := ⟨w.heap.size, 40, none⟩) HLB.out).trans HYa.out; clear hW; go_simp⟩) hHeld ?_
  simp only [Act.put, List.getElem_toArray, List.getElem_cons_zero, List.getElem_cons_succ, List.setIfInBounds_toArray, List.set_cons_succ, List.set_cons_zero]
  refine wpAnyH_take (i := 6) (v := .pointer (some ⟨w.heap.size, 41, none⟩)) rfl (by kernel_rfl) (by kernel_rfl) (by kernel_rfl) (fun _ _ _ h => h) (Or.inl ⟨by rfl, fun W _ => by go_simp⟩) hHeld ?_
  simp only [Act.put, List.getElem_toArray, List.getElem_cons_zero, List.getElem_cons_succ, List.setIfInBounds_toArray, List.set_cons_succ, List.set_cons_zero]
  refine wpAnyH_take (i := 7) (v := .string (mk f.body)) rfl (by kernel_rfl) (by kernel_rfl) (by kernel_rfl) (fun _ _ _ h => h) (Or.inl ⟨by rfl, fun W hW => by have hcell41 := (hW.cell (p := ⟨w.heap.size, 41, none⟩) HLB.out).trans HYbd.out; clear hW; go_simp⟩) hHeld ?_
  simp only [Act.put, List.getElem_toArray, List.getElem_cons_zero, List.getElem_cons_succ, List.setIfInBounds_toArray, List.set_cons_succ, List.set_cons_zero]
  refine wpAnyH_take (i := 8) (v := .pointer (some ⟨B3, 1, none⟩)) rfl (by kernel_rfl) (by kernel_rfl) (by kernel_rfl) (fun _ _ _ h => h) (Or.inl ⟨by rfl, fun W _ => by go_simp⟩) hHeld ?_
  simp only [Act.put, List.getElem_toArray, List.getElem_cons_zero, List.getElem_cons_succ, List.setIfInBounds_toArray, List.set_cons_succ, List.set_cons_zero]
  obtain ⟨wx, HWX⟩ : ∃ x, Hid (w3.drew = x) := ⟨_, rfl⟩
  rw [HWX.out] at hHeld ⊢
  have HNx0 := hid (show wx.heap[B3]? = some (.cells (fcells ⟨2, 0, 0, 0, List.replicate 32 0, 0, (0, 0, 0), [], []⟩ nS).toArray 29 (0, 0)) by rw [← HWX.out]; exact HN3.out)
  have hq0 : Below B3 w3 wx := hHeld
  have g9_1 : wx.cell? ⟨B3, 1, none⟩ = some _ := cell_of_row wx B3 1 _ _ _ HNx0.out
  have z9_1 := row_fz HNx0.out 1
  refine wpAnyH_ready (rs := [9]) (by kernel_rfl) (by simp) ?_
  refine AllReadyH.cons rfl (fun K hK => ?_) AllReadyH.nil
  go_simp
  have hq1 : Below B3 w3 (wx.setCell ⟨B3, 1, none⟩ (.int .u64 f.id)) := (hq0.setCell (p := ⟨B3, 1, none⟩) (Nat.le_refl _) _)
  have HNx1 := hid (show (wx.setCell ⟨B3, 1, none⟩ (.int .u64 f.id)).heap[B3]? = some (.cells ((fcells ⟨2, 0, 0, 0, List.replicate 32 0, 0, (0, 0, 0), [], []⟩ nS).toArray.setIfInBounds 1 (.int .u64 f.id)) 29 (0, 0)) from (blk_set HNx0.out (.int .u64 f.id)))
  refine hK.out _ _ hq1 (fun hHeld => ?_)
  clear hK K g9_1 z9_1
  try simp only [Act.put, List.getElem_toArray, List.getElem_cons_zero, List.getElem_cons_succ, List.setIfInBounds_toArray, List.set_cons_succ, List.set_cons_zero]
  obtain ⟨wy1, hwy1⟩ : ∃ x, (wx.setCell ⟨B3, 1, none⟩ (.int .u64 f.id)) = x := ⟨_, rfl⟩
  rw [hwy1] at hq1 HNx1 hHeld ⊢
  have g11_37 : wy1.cell? ⟨B3, 37, none⟩ = some _ := cell_of_row wy1 B3 37 _ _ _ HNx1.out
  have g11_38 : wy1.cell? ⟨B3, 38, none⟩ = some _ := cell_of_row wy1 B3 38 _ _ _ HNx1.out
  have g11_39 : wy1.cell? ⟨B3, 39, none⟩ = some _ := cell_of_row wy1 B3 39 _ _ _ HNx1.out
  have z11_37 := row_fz HNx1.out 37
  have z11_38 := row_fz HNx1.out 38
  have z11_39 := row_fz HNx1.out 39
  refine wpAnyH_take (i := 10) (v := .pointer (some ⟨B3, 37, none⟩)) rfl (by kernel_rfl) (by kernel_rfl) (by kernel_rfl) (fun _ _ _ h => h) (Or.inl ⟨by rfl, fun W _ => by go_simp⟩) hHeld ?_
  simp only [Act.put, List.getElem_toArray, List.getElem_cons_zero, List.getElem_cons_succ, List.setIfInBounds_toArray, List.set_cons_succ, List.set_cons_zero]
  refine wpAnyH_ready (rs := [11]) (by kernel_rfl) (by simp) ?_
  refine AllReadyH.cons rfl (fun K hK => ?_) AllReadyH.nil
  go_simp
  have hq2 : Below B3 w3 (((wy1.setCell ⟨B3, 37, none⟩ (.int .i64 f.lim.1)).setCell ⟨B3, 38, none⟩ (.int .i64 f.lim.2.1)).setCell ⟨B3, 39, none⟩ (.int .i64 f.lim.2.2)) := (((hq1.setCell (p := ⟨B3, 37, none⟩) (Nat.le_refl _) _).setCell (p := ⟨B3, 38, none⟩) (Nat.le_refl _) _).setCell (p := ⟨B3, 39, none⟩) (Nat.le_refl _) _)
  have HNx2 := hid (show (((wy1.setCell ⟨B3, 37, none⟩ (.int .i64 f.lim.1)).setCell ⟨B3, 38, none⟩ (.int .i64 f.lim.2.1)).setCell ⟨B3, 39, none⟩ (.int .i64 f.lim.2.2)).heap[B3]? = some (.cells (((((fcells ⟨2, 0, 0, 0, List.replicate 32 0, 0, (0, 0, 0), [], []⟩ nS).toArray.setIfInBounds 1 (.int .u64 f.id)).setIfInBounds 37 (.int .i64 f.lim.1)).setIfInBounds 38 (.int .i64 f.lim.2.1)).setIfInBounds 39 (.int .i64 f.lim.2.2)) 29 (0, 0)) from (blk_set (blk_set (blk_set HNx1.out (.int .i64 f.lim.1)) (.int .i64 f.lim.2.1)) (.int .i64 f.lim.2.2)))
  refine hK.out _ _ hq2 (fun hHeld => ?_)
  clear hK K g11_37 z11_37 g11_38 z11_38 g11_39 z11_39
  try simp only [Act.put, List.getElem_toArray, List.getElem_cons_zero, List.getElem_cons_succ, List.setIfInBounds_toArray, List.set_cons_succ, List.set_cons_zero]
  obtain ⟨wy2, hwy2⟩ : ∃ x, (((wy1.setCell ⟨B3, 37, none⟩ (.int .i64 f.lim.1)).setCell ⟨B3, 38, none⟩ (.int .i64 f.lim.2.1)).setCell ⟨B3, 39, none⟩ (.int .i64 f.lim.2.2)) = x := ⟨_, rfl⟩
  rw [hwy2] at hq2 HNx2 hHeld ⊢
  have g13_40 : wy2.cell? ⟨B3, 40, none⟩ = some _ := cell_of_row wy2 B3 40 _ _ _ HNx2.out
  have z13_40 := row_fz HNx2.out 40
  refine wpAnyH_take (i := 12) (v := .pointer (some ⟨B3, 40, none⟩)) rfl (by kernel_rfl) (by kernel_rfl) (by kernel_rfl) (fun _ _ _ h => h) (Or.inl ⟨by rfl, fun W _ => by go_simp⟩) hHeld ?_
  simp only [Act.put, List.getElem_toArray, List.getElem_cons_zero, List.getElem_cons_succ, List.setIfInBounds_toArray, List.set_cons_succ, List.set_cons_zero]
  refine wpAnyH_ready (rs := [13]) (by kernel_rfl) (by simp) ?_
  refine AllReadyH.cons rfl (fun K hK => ?_) AllReadyH.nil
  go_simp
  have hq3 : Below B3 w3 (wy2.setCell ⟨B3, 40, none⟩ (.slice ao nn cc)) := (hq2.setCell (p := ⟨B3, 40, none⟩) (Nat.le_refl _) _)
  have HNx3 := hid (show (wy2.setCell ⟨B3, 40, none⟩ (.slice ao nn cc)).heap[B3]? = some (.cells ((((((fcells ⟨2, 0, 0, 0, List.replicate 32 0, 0, (0, 0, 0), [], []⟩ nS).toArray.setIfInBounds 1 (.int .u64 f.id)).setIfInBounds 37 (.int .i64 f.lim.1)).setIfInBounds 38 (.int .i64 f.lim.2.1)).setIfInBounds 39 (.int .i64 f.lim.2.2)).setIfInBounds 40 (.slice ao nn cc)) 29 (0, 0)) from (blk_set HNx2.out (.slice ao nn cc)))
  refine hK.out _ _ hq3 (fun hHeld => ?_)
  clear hK K g13_40 z13_40
  try simp only [Act.put, List.getElem_toArray, List.getElem_cons_zero, List.getElem_cons_succ, List.setIfInBounds_toArray, List.set_cons_succ, List.set_cons_zero]
  obtain ⟨wy3, hwy3⟩ : ∃ x, (wy2.setCell ⟨B3, 40, none⟩ (.slice ao nn cc)) = x := ⟨_, rfl⟩
  rw [hwy3] at hq3 HNx3 hHeld ⊢
  have g15_41 : wy3.cell? ⟨B3, 41, none⟩ = some _ := cell_of_row wy3 B3 41 _ _ _ HNx3.out
  have z15_41 := row_fz HNx3.out 41
  refine wpAnyH_take (i := 14) (v := .pointer (some ⟨B3, 41, none⟩)) rfl (by kernel_rfl) (by kernel_rfl) (by kernel_rfl) (fun _ _ _ h => h) (Or.inl ⟨by rfl, fun W _ => by go_simp⟩) hHeld ?_
  simp only [Act.put, List.getElem_toArray, List.getElem_cons_zero, List.getElem_cons_succ, List.setIfInBounds_toArray, List.set_cons_succ, List.set_cons_zero]
  refine wpAnyH_ready (rs := [15]) (by kernel_rfl) (by simp) ?_
  refine AllReadyH.cons rfl (fun K hK => ?_) AllReadyH.nil
  go_simp
  have hq4 : Below B3 w3 (wy3.setCell ⟨B3, 41, none⟩ (.string (mk f.body))) := (hq3.setCell (p := ⟨B3, 41, none⟩) (Nat.le_refl _) _)
  have HNx4 := hid (show (wy3.setCell ⟨B3, 41, none⟩ (.string (mk f.body))).heap[B3]? = some (.cells (((((((fcells ⟨2, 0, 0, 0, List.replicate 32 0, 0, (0, 0, 0), [], []⟩ nS).toArray.setIfInBounds 1 (.int .u64 f.id)).setIfInBounds 37 (.int .i64 f.lim.1)).setIfInBounds 38 (.int .i64 f.lim.2.1)).setIfInBounds 39 (.int .i64 f.lim.2.2)).setIfInBounds 40 (.slice ao nn cc)).setIfInBounds 41 (.string (mk f.body))) 29 (0, 0)) from (blk_set HNx3.out (.string (mk f.body))))
  refine hK.out _ _ hq4 (fun hHeld => ?_)
  clear hK K g15_41 z15_41
  try simp only [Act.put, List.getElem_toArray, List.getElem_cons_zero, List.getElem_cons_succ, List.setIfInBounds_toArray, List.set_cons_succ, List.set_cons_zero]
  obtain ⟨wy4, hwy4⟩ : ∃ x, (wy3.setCell ⟨B3, 41, none⟩ (.string (mk f.body))) = x := ⟨_, rfl⟩
  rw [hwy4] at hq4 HNx4 hHeld ⊢
  refine wpAnyH_done (by kernel_rfl) ?_ _
  simp only [noPanic]
  clear hHeld
  go_upto_region 13 with fail
  have HN4 := hid (eq_rowFOnly2 HNx4.out HEQ.out)
  have HN5 := hid ((hq4.block (w.heap.size + 1) HG3.out).trans HN2.out)
  have HB4 := hid (show Below w.heap.size w wy4 from below_tr HB3.out (hq4.mono (by have := HLB.out; omega)))
  obtain ⟨FO, HFO⟩ : ∃ L, Hid (fcells (ownF f) (ownV f (.slice ao nn cc)) = L) := ⟨_, rfl⟩
  rw [HFO.out] at HSZ HON HOS HN4
  go_wp2_with (first
    | (refine ld_row (by rfl) 29 (.tmp 3) (by rfl) B3 (by rfl) FO 29 HN4.out _ Try.underlying29 rfl HSZ.out ?_)
    | (refine st_row (by rfl) 29 _ _ (by rfl) (w.heap.size + 1) FO (by rfl) (by rfl) 29 _ HN5.out HSZ.out HOS.out HON.out ?_; intro w5 hw5))
  refine ret_row 2 29 rfl (w.heap.size + 1) rfl FO 29 hw5.blk _ Try.underlying29 rfl HSZ.out rfl ⟨by rw [HFO.out], Below.of_gb HB4.out hw5.grown (by omega)⟩

end Go.Proofs.Ytjinkahlfigdcaa

/- The document's only: a frame with just the fields that its kind has. -/
namespace Go.Proofs.Ytjinkahlfigdcaa
open Go.RowKit Go.BigFrame

theorem eq_rowFOnly3 {w : World} {g : Nat} {a b : Array Value} {t : TypeId} (h : w.heap[g]? = some (.cells a t (0, 0))) (e : a = b) : w.heap[g]? = some (.cells b t (0, 0)) := by rw [← e]; exact h

theorem built_b3 : Try.prog.built 29 [(0, .int .i64 3)] = some (fcells ⟨3, 0, 0, 0, List.replicate 32 0, 0, (0, 0, 0), [], []⟩ nS).toArray := by kernel_rfl

set_option maxRecDepth 100000 in
set_option maxHeartbeats 4000000 in
theorem only3_any (f : Fr) (va : Value) (w : World) (hk : f.kind = 3) (hf : f.tool.length = 32) (hv : ∃ ao n c, va = .slice ao n c) :
    Calls Try.prog 45 #[.agg (fcells f va).toArray] w fun e w' => e = .returned (.agg (fcells (ownF f) (ownV f va)).toArray) ∧ Below w.heap.size w w' := by
  obtain ⟨ao, nn, cc, rfl⟩ := hv
  have HNB := hid (hp_two w (.cells (fcells f (.slice ao nn cc)).toArray 29) (.cells (fcells zF nS).toArray 29))
  have HBL := hid (below_walk2 w (.cells (fcells f (.slice ao nn cc)).toArray 29) (.cells (fcells zF nS).toArray 29))
  have HZ : Hid ((w.alloc (.cells (fcells f (.slice ao nn cc)).toArray 29)).heap.size = w.heap.size + 1) := hid (by simp)
  have HOW : Hid (fcells (ownF f) (ownV f (.slice ao nn cc)) = fcells (ownF f) (ownV f (.slice ao nn cc))) := hid rfl
  have HOT := hid (ownF_tool f hf)
  have HSZ := hid (frame_size (ownF f) (ownV f (.slice ao nn cc)) HOT.out)
  have HON := hid (fcells_one (ownF f) (ownV f (.slice ao nn cc)) (by unfold ownV; split <;> rfl))
  have HOS := hid (show (fcells zF nS).toArray.size = (fcells (ownF f) (ownV f (.slice ao nn cc))).length by rw [fcells_length _ _ HOT.out]; rfl)
  have HSB := hid (frame_size ⟨3, 0, 0, 0, List.replicate 32 0, 0, (0, 0, 0), [], []⟩ nS rfl)
  have HEQ : Hid (((((fcells ⟨3, 0, 0, 0, List.replicate 32 0, 0, (0, 0, 0), [], []⟩ nS).toArray.setIfInBounds 1 (.int .u64 f.id)).setIfInBounds 36 (.int .i64 f.status)).setIfInBounds 41 (.string (mk f.body))) = (fcells (ownF f) (ownV f (.slice ao nn cc))).toArray) := hid (by
    unfold ownF ownV
    rw [if_neg (show ¬ f.kind = 1 by omega), if_neg (show ¬ f.kind = 2 by omega), if_pos hk, if_neg (show ¬ f.kind = 2 by omega)]
    rfl)
  have HK := hid hk
  have HF := hid hf
  clear hk hf HOW
  go_enter Try.func45, Try.ntmps45
  go_upto_region 1 with (refine al_row (by rfl) 29 (by rfl) _ zeroFrame ?_)
  try rw [HZ.out]
  generalize (w.alloc (.cells (fcells f (.slice ao nn cc)).toArray 29)).alloc (.cells (fcells zF nS).toArray 29) = w2 at HNB HBL ⊢
  have x0 := (Fb.of HNB.out.1 HF.out).k
  rw [HK.out] at x0
  have HL2 := hid (hp_lt HNB.out.2)
  go_upto_region 2 with (first
    | (refine bd_row (by rfl) 29 #[(0, .tmp 5)] (by rfl) _ (by simp [Act.eval]) _ built_b3 ?_)
    | (refine al_row (by rfl) 29 (by rfl) _ zeroFrame ?_)
    | (refine st_new (by rfl) 29 _ _ (by rfl) (fcells ⟨3, 0, 0, 0, List.replicate 32 0, 0, (0, 0, 0), [], []⟩ nS) (by rfl) (by rfl) 29 _ HSB.out rfl (fcells_one _ nS rfl) ?_))
  have HN1 := hid ((below_walk w2 (.cells (fcells ⟨3, 0, 0, 0, List.replicate 32 0, 0, (0, 0, 0), [], []⟩ nS).toArray 29)).block _ (by have := HL2.out; omega) |>.trans HNB.out.1)
  have HN2 := hid ((below_walk w2 (.cells (fcells ⟨3, 0, 0, 0, List.replicate 32 0, 0, (0, 0, 0), [], []⟩ nS).toArray 29)).block _ HL2.out |>.trans HNB.out.2)
  have HN3 := hid (hp_new w2 (.cells (fcells ⟨3, 0, 0, 0, List.replicate 32 0, 0, (0, 0, 0), [], []⟩ nS).toArray 29))
  have HB3 := hid (below_then HBL.out (below_walk w2 (.cells (fcells ⟨3, 0, 0, 0, List.replicate 32 0, 0, (0, 0, 0), [], []⟩ nS).toArray 29)))
  have HG3 := hid (show w.heap.size + 1 < w2.heap.size from HL2.out)
  obtain ⟨B3, HE3⟩ : ∃ b : Nat, Hid (w2.heap.size = b) := ⟨_, rfl⟩
  rw [HE3.out] at HN3 HG3 ⊢
  generalize w2.alloc (.cells (fcells ⟨3, 0, 0, 0, List.replicate 32 0, 0, (0, 0, 0), [], []⟩ nS).toArray 29) = w3 at HN1 HN2 HN3 HB3 ⊢
  clear x0 HNB HBL HL2
  have HFB := hid (Fb.of HN1.out HF.out)
  have HFC := hid (Fb.of HN3.out (show (⟨3, 0, 0, 0, List.replicate 32 0, 0, (0, 0, 0), [], []⟩ : Fr).tool.length = 32 from rfl))
  have x1 := HFB.out.k
  rw [HK.out] at x1
  have y_i := HFB.out.i
  have y_st := HFB.out.st
  have y_bd := HFB.out.bd
  have c_i := HFC.out.i
  have c_st := HFC.out.st
  have c_bd := HFC.out.bd
  have f_1 := row_fz HN3.out 1
  have f_36 := row_fz HN3.out 36
  have f_41 := row_fz HN3.out 41
  have ne1 : ¬ w.heap.size = B3 := by have := HG3.out; omega
  have ne2 : ¬ B3 = w.heap.size := by have := HG3.out; omega
  go_upto_region 8 with fail
  go_region
  go_upto_region 13 with fail
  have HN4 := hid (show (((w3.setCell ⟨B3, 1, none⟩ (.int .u64 f.id)).setCell ⟨B3, 36, none⟩ (.int .i64 f.status)).setCell ⟨B3, 41, none⟩ (.string (mk f.body))).drew.heap[B3]? = some (.cells (fcells (ownF f) (ownV f (.slice ao nn cc))).toArray 29 (0, 0)) from eq_rowFOnly3 (blk_set (blk_set (blk_set HN3.out (.int .u64 f.id)) (.int .i64 f.status)) (.string (mk f.body))) HEQ.out)
  have HN5 := hid (show (((w3.setCell ⟨B3, 1, none⟩ (.int .u64 f.id)).setCell ⟨B3, 36, none⟩ (.int .i64 f.status)).setCell ⟨B3, 41, none⟩ (.string (mk f.body))).drew.heap[w.heap.size + 1]? = some (.cells (fcells zF nS).toArray 29 (0, 0)) from ((Below.heap_setCell _ _ _ (w.heap.size + 1) (by have := HG3.out; simp; omega)).trans ((Below.heap_setCell _ _ _ (w.heap.size + 1) (by have := HG3.out; simp; omega)).trans ((Below.heap_setCell _ _ _ (w.heap.size + 1) (by have := HG3.out; simp; omega)).trans HN2.out))))
  have HB4 := hid (show Below w.heap.size w (((w3.setCell ⟨B3, 1, none⟩ (.int .u64 f.id)).setCell ⟨B3, 36, none⟩ (.int .i64 f.status)).setCell ⟨B3, 41, none⟩ (.string (mk f.body))).drew from below_then (((HB3.out.setCell (p := ⟨B3, 1, none⟩) (by show w.heap.size ≤ B3; have := HG3.out; omega) _).setCell (p := ⟨B3, 36, none⟩) (by show w.heap.size ≤ B3; have := HG3.out; omega) _).setCell (p := ⟨B3, 41, none⟩) (by show w.heap.size ≤ B3; have := HG3.out; omega) _) ⟨rfl, rfl, rfl, Nat.le_refl _, fun _ _ => rfl⟩)
  generalize (((w3.setCell ⟨B3, 1, none⟩ (.int .u64 f.id)).setCell ⟨B3, 36, none⟩ (.int .i64 f.status)).setCell ⟨B3, 41, none⟩ (.string (mk f.body))).drew = w4 at HN4 HN5 HB4 ⊢
  obtain ⟨FO, HFO⟩ : ∃ L, Hid (fcells (ownF f) (ownV f (.slice ao nn cc)) = L) := ⟨_, rfl⟩
  rw [HFO.out] at HSZ HON HOS HN4
  go_wp2_with (first
    | (refine ld_row (by rfl) 29 (.tmp 3) (by rfl) B3 (by rfl) FO 29 HN4.out _ Try.underlying29 rfl HSZ.out ?_)
    | (refine st_row (by rfl) 29 _ _ (by rfl) (w.heap.size + 1) FO (by rfl) (by rfl) 29 _ HN5.out HSZ.out HOS.out HON.out ?_; intro w5 hw5))
  refine ret_row 2 29 rfl (w.heap.size + 1) rfl FO 29 hw5.blk _ Try.underlying29 rfl HSZ.out rfl ⟨by rw [HFO.out], Below.of_gb HB4.out hw5.grown (by omega)⟩

end Go.Proofs.Ytjinkahlfigdcaa

/- The document's only: a frame with just the fields that its kind has. -/
namespace Go.Proofs.Ytjinkahlfigdcaa
open Go.RowKit Go.BigFrame

theorem eq_rowFOnly4 {w : World} {g : Nat} {a b : Array Value} {t : TypeId} (h : w.heap[g]? = some (.cells a t (0, 0))) (e : a = b) : w.heap[g]? = some (.cells b t (0, 0)) := by rw [← e]; exact h

theorem built_b4 : Try.prog.built 29 [(0, .int .i64 4)] = some (fcells ⟨4, 0, 0, 0, List.replicate 32 0, 0, (0, 0, 0), [], []⟩ nS).toArray := by kernel_rfl

set_option maxRecDepth 100000 in
set_option maxHeartbeats 4000000 in
theorem only4_any (f : Fr) (va : Value) (w : World) (hk : f.kind = 4) (hf : f.tool.length = 32) (hv : ∃ ao n c, va = .slice ao n c) :
    Calls Try.prog 45 #[.agg (fcells f va).toArray] w fun e w' => e = .returned (.agg (fcells (ownF f) (ownV f va)).toArray) ∧ Below w.heap.size w w' := by
  obtain ⟨ao, nn, cc, rfl⟩ := hv
  have HNB := hid (hp_two w (.cells (fcells f (.slice ao nn cc)).toArray 29) (.cells (fcells zF nS).toArray 29))
  have HBL := hid (below_walk2 w (.cells (fcells f (.slice ao nn cc)).toArray 29) (.cells (fcells zF nS).toArray 29))
  have HZ : Hid ((w.alloc (.cells (fcells f (.slice ao nn cc)).toArray 29)).heap.size = w.heap.size + 1) := hid (by simp)
  have HOW : Hid (fcells (ownF f) (ownV f (.slice ao nn cc)) = fcells (ownF f) (ownV f (.slice ao nn cc))) := hid rfl
  have HOT := hid (ownF_tool f hf)
  have HSZ := hid (frame_size (ownF f) (ownV f (.slice ao nn cc)) HOT.out)
  have HON := hid (fcells_one (ownF f) (ownV f (.slice ao nn cc)) (by unfold ownV; split <;> rfl))
  have HOS := hid (show (fcells zF nS).toArray.size = (fcells (ownF f) (ownV f (.slice ao nn cc))).length by rw [fcells_length _ _ HOT.out]; rfl)
  have HSB := hid (frame_size ⟨4, 0, 0, 0, List.replicate 32 0, 0, (0, 0, 0), [], []⟩ nS rfl)
  have HEQ : Hid (((fcells ⟨4, 0, 0, 0, List.replicate 32 0, 0, (0, 0, 0), [], []⟩ nS).toArray.setIfInBounds 1 (.int .u64 f.id)) = (fcells (ownF f) (ownV f (.slice ao nn cc))).toArray) := hid (by
    unfold ownF ownV
    rw [if_neg (show ¬ f.kind = 1 by omega), if_neg (show ¬ f.kind = 2 by omega), if_neg (show ¬ f.kind = 3 by omega), if_pos hk, if_neg (show ¬ f.kind = 2 by omega)]
    rfl)
  have HK := hid hk
  have HF := hid hf
  clear hk hf HOW
  go_enter Try.func45, Try.ntmps45
  go_upto_region 1 with (refine al_row (by rfl) 29 (by rfl) _ zeroFrame ?_)
  try rw [HZ.out]
  generalize (w.alloc (.cells (fcells f (.slice ao nn cc)).toArray 29)).alloc (.cells (fcells zF nS).toArray 29) = w2 at HNB HBL ⊢
  have x0 := (Fb.of HNB.out.1 HF.out).k
  rw [HK.out] at x0
  have HL2 := hid (hp_lt HNB.out.2)
  go_upto_region 2 with (first
    | (refine bd_row (by rfl) 29 #[(0, .tmp 5)] (by rfl) _ (by simp [Act.eval]) _ built_b4 ?_)
    | (refine al_row (by rfl) 29 (by rfl) _ zeroFrame ?_)
    | (refine st_new (by rfl) 29 _ _ (by rfl) (fcells ⟨4, 0, 0, 0, List.replicate 32 0, 0, (0, 0, 0), [], []⟩ nS) (by rfl) (by rfl) 29 _ HSB.out rfl (fcells_one _ nS rfl) ?_))
  have HN1 := hid ((below_walk w2 (.cells (fcells ⟨4, 0, 0, 0, List.replicate 32 0, 0, (0, 0, 0), [], []⟩ nS).toArray 29)).block _ (by have := HL2.out; omega) |>.trans HNB.out.1)
  have HN2 := hid ((below_walk w2 (.cells (fcells ⟨4, 0, 0, 0, List.replicate 32 0, 0, (0, 0, 0), [], []⟩ nS).toArray 29)).block _ HL2.out |>.trans HNB.out.2)
  have HN3 := hid (hp_new w2 (.cells (fcells ⟨4, 0, 0, 0, List.replicate 32 0, 0, (0, 0, 0), [], []⟩ nS).toArray 29))
  have HB3 := hid (below_then HBL.out (below_walk w2 (.cells (fcells ⟨4, 0, 0, 0, List.replicate 32 0, 0, (0, 0, 0), [], []⟩ nS).toArray 29)))
  have HG3 := hid (show w.heap.size + 1 < w2.heap.size from HL2.out)
  obtain ⟨B3, HE3⟩ : ∃ b : Nat, Hid (w2.heap.size = b) := ⟨_, rfl⟩
  rw [HE3.out] at HN3 HG3 ⊢
  generalize w2.alloc (.cells (fcells ⟨4, 0, 0, 0, List.replicate 32 0, 0, (0, 0, 0), [], []⟩ nS).toArray 29) = w3 at HN1 HN2 HN3 HB3 ⊢
  clear x0 HNB HBL HL2
  have HFB := hid (Fb.of HN1.out HF.out)
  have HFC := hid (Fb.of HN3.out (show (⟨4, 0, 0, 0, List.replicate 32 0, 0, (0, 0, 0), [], []⟩ : Fr).tool.length = 32 from rfl))
  have x1 := HFB.out.k
  rw [HK.out] at x1
  have y_i := HFB.out.i
  have c_i := HFC.out.i
  have f_1 := row_fz HN3.out 1
  have ne1 : ¬ w.heap.size = B3 := by have := HG3.out; omega
  have ne2 : ¬ B3 = w.heap.size := by have := HG3.out; omega
  go_upto_region 13 with fail
  have HN4 := hid (show (w3.setCell ⟨B3, 1, none⟩ (.int .u64 f.id)).heap[B3]? = some (.cells (fcells (ownF f) (ownV f (.slice ao nn cc))).toArray 29 (0, 0)) from eq_rowFOnly4 (blk_set HN3.out (.int .u64 f.id)) HEQ.out)
  have HN5 := hid (show (w3.setCell ⟨B3, 1, none⟩ (.int .u64 f.id)).heap[w.heap.size + 1]? = some (.cells (fcells zF nS).toArray 29 (0, 0)) from ((Below.heap_setCell _ _ _ (w.heap.size + 1) (by have := HG3.out; simp; omega)).trans HN2.out))
  have HB4 := hid (show Below w.heap.size w (w3.setCell ⟨B3, 1, none⟩ (.int .u64 f.id)) from  (HB3.out.setCell (p := ⟨B3, 1, none⟩) (by show w.heap.size ≤ B3; have := HG3.out; omega) _))
  generalize (w3.setCell ⟨B3, 1, none⟩ (.int .u64 f.id)) = w4 at HN4 HN5 HB4 ⊢
  obtain ⟨FO, HFO⟩ : ∃ L, Hid (fcells (ownF f) (ownV f (.slice ao nn cc)) = L) := ⟨_, rfl⟩
  rw [HFO.out] at HSZ HON HOS HN4
  go_wp2_with (first
    | (refine ld_row (by rfl) 29 (.tmp 3) (by rfl) B3 (by rfl) FO 29 HN4.out _ Try.underlying29 rfl HSZ.out ?_)
    | (refine st_row (by rfl) 29 _ _ (by rfl) (w.heap.size + 1) FO (by rfl) (by rfl) 29 _ HN5.out HSZ.out HOS.out HON.out ?_; intro w5 hw5))
  refine ret_row 2 29 rfl (w.heap.size + 1) rfl FO 29 hw5.blk _ Try.underlying29 rfl HSZ.out rfl ⟨by rw [HFO.out], Below.of_gb HB4.out hw5.grown (by omega)⟩

theorem built_b6 : Try.prog.built 29 [(0, .int .i64 6)] = some (fcells ⟨6, 0, 0, 0, List.replicate 32 0, 0, (0, 0, 0), [], []⟩ nS).toArray := by kernel_rfl

set_option maxRecDepth 100000 in
set_option maxHeartbeats 4000000 in
theorem only6_any (f : Fr) (va : Value) (w : World) (hk : f.kind = 6) (hf : f.tool.length = 32) (hv : ∃ ao n c, va = .slice ao n c) :
    Calls Try.prog 45 #[.agg (fcells f va).toArray] w fun e w' => e = .returned (.agg (fcells (ownF f) (ownV f va)).toArray) ∧ Below w.heap.size w w' := by
  obtain ⟨ao, nn, cc, rfl⟩ := hv
  have HNB := hid (hp_two w (.cells (fcells f (.slice ao nn cc)).toArray 29) (.cells (fcells zF nS).toArray 29))
  have HBL := hid (below_walk2 w (.cells (fcells f (.slice ao nn cc)).toArray 29) (.cells (fcells zF nS).toArray 29))
  have HZ : Hid ((w.alloc (.cells (fcells f (.slice ao nn cc)).toArray 29)).heap.size = w.heap.size + 1) := hid (by simp)
  have HOW : Hid (fcells (ownF f) (ownV f (.slice ao nn cc)) = fcells (ownF f) (ownV f (.slice ao nn cc))) := hid rfl
  have HOT := hid (ownF_tool f hf)
  have HSZ := hid (frame_size (ownF f) (ownV f (.slice ao nn cc)) HOT.out)
  have HON := hid (fcells_one (ownF f) (ownV f (.slice ao nn cc)) (by unfold ownV; split <;> rfl))
  have HOS := hid (show (fcells zF nS).toArray.size = (fcells (ownF f) (ownV f (.slice ao nn cc))).length by rw [fcells_length _ _ HOT.out]; rfl)
  have HSB := hid (frame_size ⟨6, 0, 0, 0, List.replicate 32 0, 0, (0, 0, 0), [], []⟩ nS rfl)
  have HEQ : Hid (((fcells ⟨6, 0, 0, 0, List.replicate 32 0, 0, (0, 0, 0), [], []⟩ nS).toArray.setIfInBounds 41 (.string (mk f.body))) = (fcells (ownF f) (ownV f (.slice ao nn cc))).toArray) := hid (by
    unfold ownF ownV
    rw [if_neg (show ¬ f.kind = 1 by omega), if_neg (show ¬ f.kind = 2 by omega), if_neg (show ¬ f.kind = 3 by omega), if_neg (show ¬ f.kind = 4 by omega), if_neg (show ¬ f.kind = 5 by omega), if_pos hk, if_neg (show ¬ f.kind = 2 by omega)]
    rfl)
  have HK := hid hk
  have HF := hid hf
  clear hk hf HOW
  go_enter Try.func45, Try.ntmps45
  go_upto_region 1 with (refine al_row (by rfl) 29 (by rfl) _ zeroFrame ?_)
  try rw [HZ.out]
  generalize (w.alloc (.cells (fcells f (.slice ao nn cc)).toArray 29)).alloc (.cells (fcells zF nS).toArray 29) = w2 at HNB HBL ⊢
  have x0 := (Fb.of HNB.out.1 HF.out).k
  rw [HK.out] at x0
  have HL2 := hid (hp_lt HNB.out.2)
  go_upto_region 2 with (first
    | (refine bd_row (by rfl) 29 #[(0, .tmp 5)] (by rfl) _ (by simp [Act.eval]) _ built_b6 ?_)
    | (refine al_row (by rfl) 29 (by rfl) _ zeroFrame ?_)
    | (refine st_new (by rfl) 29 _ _ (by rfl) (fcells ⟨6, 0, 0, 0, List.replicate 32 0, 0, (0, 0, 0), [], []⟩ nS) (by rfl) (by rfl) 29 _ HSB.out rfl (fcells_one _ nS rfl) ?_))
  have HN1 := hid ((below_walk w2 (.cells (fcells ⟨6, 0, 0, 0, List.replicate 32 0, 0, (0, 0, 0), [], []⟩ nS).toArray 29)).block _ (by have := HL2.out; omega) |>.trans HNB.out.1)
  have HN2 := hid ((below_walk w2 (.cells (fcells ⟨6, 0, 0, 0, List.replicate 32 0, 0, (0, 0, 0), [], []⟩ nS).toArray 29)).block _ HL2.out |>.trans HNB.out.2)
  have HN3 := hid (hp_new w2 (.cells (fcells ⟨6, 0, 0, 0, List.replicate 32 0, 0, (0, 0, 0), [], []⟩ nS).toArray 29))
  have HB3 := hid (below_then HBL.out (below_walk w2 (.cells (fcells ⟨6, 0, 0, 0, List.replicate 32 0, 0, (0, 0, 0), [], []⟩ nS).toArray 29)))
  have HG3 := hid (show w.heap.size + 1 < w2.heap.size from HL2.out)
  obtain ⟨B3, HE3⟩ : ∃ b : Nat, Hid (w2.heap.size = b) := ⟨_, rfl⟩
  rw [HE3.out] at HN3 HG3 ⊢
  generalize w2.alloc (.cells (fcells ⟨6, 0, 0, 0, List.replicate 32 0, 0, (0, 0, 0), [], []⟩ nS).toArray 29) = w3 at HN1 HN2 HN3 HB3 ⊢
  clear x0 HNB HBL HL2
  have HFB := hid (Fb.of HN1.out HF.out)
  have HFC := hid (Fb.of HN3.out (show (⟨6, 0, 0, 0, List.replicate 32 0, 0, (0, 0, 0), [], []⟩ : Fr).tool.length = 32 from rfl))
  have x1 := HFB.out.k
  rw [HK.out] at x1
  have y_bd := HFB.out.bd
  have c_bd := HFC.out.bd
  have f_41 := row_fz HN3.out 41
  have ne1 : ¬ w.heap.size = B3 := by have := HG3.out; omega
  have ne2 : ¬ B3 = w.heap.size := by have := HG3.out; omega
  go_upto_region 13 with fail
  have HN4 := hid (show (w3.setCell ⟨B3, 41, none⟩ (.string (mk f.body))).heap[B3]? = some (.cells (fcells (ownF f) (ownV f (.slice ao nn cc))).toArray 29 (0, 0)) from eq_rowFOnly4 (blk_set HN3.out (.string (mk f.body))) HEQ.out)
  have HN5 := hid (show (w3.setCell ⟨B3, 41, none⟩ (.string (mk f.body))).heap[w.heap.size + 1]? = some (.cells (fcells zF nS).toArray 29 (0, 0)) from ((Below.heap_setCell _ _ _ (w.heap.size + 1) (by have := HG3.out; simp; omega)).trans HN2.out))
  have HB4 := hid (show Below w.heap.size w (w3.setCell ⟨B3, 41, none⟩ (.string (mk f.body))) from  (HB3.out.setCell (p := ⟨B3, 41, none⟩) (by show w.heap.size ≤ B3; have := HG3.out; omega) _))
  generalize (w3.setCell ⟨B3, 41, none⟩ (.string (mk f.body))) = w4 at HN4 HN5 HB4 ⊢
  obtain ⟨FO, HFO⟩ : ∃ L, Hid (fcells (ownF f) (ownV f (.slice ao nn cc)) = L) := ⟨_, rfl⟩
  rw [HFO.out] at HSZ HON HOS HN4
  go_wp2_with (first
    | (refine ld_row (by rfl) 29 (.tmp 3) (by rfl) B3 (by rfl) FO 29 HN4.out _ Try.underlying29 rfl HSZ.out ?_)
    | (refine st_row (by rfl) 29 _ _ (by rfl) (w.heap.size + 1) FO (by rfl) (by rfl) 29 _ HN5.out HSZ.out HOS.out HON.out ?_; intro w5 hw5))
  refine ret_row 2 29 rfl (w.heap.size + 1) rfl FO 29 hw5.blk _ Try.underlying29 rfl HSZ.out rfl ⟨by rw [HFO.out], Below.of_gb HB4.out hw5.grown (by omega)⟩

end Go.Proofs.Ytjinkahlfigdcaa

/- The document's only: a frame with just the fields that its kind has. -/
namespace Go.Proofs.Ytjinkahlfigdcaa
open Go.RowKit Go.BigFrame

theorem eq_rowFOnly5 {w : World} {g : Nat} {a b : Array Value} {t : TypeId} (h : w.heap[g]? = some (.cells a t (0, 0))) (e : a = b) : w.heap[g]? = some (.cells b t (0, 0)) := by rw [← e]; exact h

theorem built_b5 : Try.prog.built 29 [(0, .int .i64 5)] = some (fcells ⟨5, 0, 0, 0, List.replicate 32 0, 0, (0, 0, 0), [], []⟩ nS).toArray := by kernel_rfl

set_option maxRecDepth 100000 in
set_option maxHeartbeats 4000000 in
theorem only5_any (f : Fr) (va : Value) (w : World) (hk : f.kind = 5) (hf : f.tool.length = 32) (hv : ∃ ao n c, va = .slice ao n c) :
    Calls Try.prog 45 #[.agg (fcells f va).toArray] w fun e w' => e = .returned (.agg (fcells (ownF f) (ownV f va)).toArray) ∧ Below w.heap.size w w' := by
  obtain ⟨ao, nn, cc, rfl⟩ := hv
  have HNB := hid (hp_two w (.cells (fcells f (.slice ao nn cc)).toArray 29) (.cells (fcells zF nS).toArray 29))
  have HBL := hid (below_walk2 w (.cells (fcells f (.slice ao nn cc)).toArray 29) (.cells (fcells zF nS).toArray 29))
  have HZ : Hid ((w.alloc (.cells (fcells f (.slice ao nn cc)).toArray 29)).heap.size = w.heap.size + 1) := hid (by simp)
  have HOW : Hid (fcells (ownF f) (ownV f (.slice ao nn cc)) = fcells (ownF f) (ownV f (.slice ao nn cc))) := hid rfl
  have HOT := hid (ownF_tool f hf)
  have HSZ := hid (frame_size (ownF f) (ownV f (.slice ao nn cc)) HOT.out)
  have HON := hid (fcells_one (ownF f) (ownV f (.slice ao nn cc)) (by unfold ownV; split <;> rfl))
  have HOS := hid (show (fcells zF nS).toArray.size = (fcells (ownF f) (ownV f (.slice ao nn cc))).length by rw [fcells_length _ _ HOT.out]; rfl)
  have HSB := hid (frame_size ⟨5, 0, 0, 0, List.replicate 32 0, 0, (0, 0, 0), [], []⟩ nS rfl)
  have HEQ : Hid ((fcells ⟨5, 0, 0, 0, List.replicate 32 0, 0, (0, 0, 0), [], []⟩ nS).toArray = (fcells (ownF f) (ownV f (.slice ao nn cc))).toArray) := hid (by
    unfold ownF ownV
    rw [if_neg (show ¬ f.kind = 1 by omega), if_neg (show ¬ f.kind = 2 by omega), if_neg (show ¬ f.kind = 3 by omega), if_neg (show ¬ f.kind = 4 by omega), if_pos hk, if_neg (show ¬ f.kind = 2 by omega)]
    rfl)
  have HK := hid hk
  have HF := hid hf
  clear hk hf HOW
  go_enter Try.func45, Try.ntmps45
  go_upto_region 1 with (refine al_row (by rfl) 29 (by rfl) _ zeroFrame ?_)
  try rw [HZ.out]
  generalize (w.alloc (.cells (fcells f (.slice ao nn cc)).toArray 29)).alloc (.cells (fcells zF nS).toArray 29) = w2 at HNB HBL ⊢
  have x0 := (Fb.of HNB.out.1 HF.out).k
  rw [HK.out] at x0
  have HL2 := hid (hp_lt HNB.out.2)
  go_upto_region 2 with (first
    | (refine bd_row (by rfl) 29 #[(0, .tmp 5)] (by rfl) _ (by simp [Act.eval]) _ built_b5 ?_)
    | (refine al_row (by rfl) 29 (by rfl) _ zeroFrame ?_)
    | (refine st_new (by rfl) 29 _ _ (by rfl) (fcells ⟨5, 0, 0, 0, List.replicate 32 0, 0, (0, 0, 0), [], []⟩ nS) (by rfl) (by rfl) 29 _ HSB.out rfl (fcells_one _ nS rfl) ?_))
  have HN1 := hid ((below_walk w2 (.cells (fcells ⟨5, 0, 0, 0, List.replicate 32 0, 0, (0, 0, 0), [], []⟩ nS).toArray 29)).block _ (by have := HL2.out; omega) |>.trans HNB.out.1)
  have HN2 := hid ((below_walk w2 (.cells (fcells ⟨5, 0, 0, 0, List.replicate 32 0, 0, (0, 0, 0), [], []⟩ nS).toArray 29)).block _ HL2.out |>.trans HNB.out.2)
  have HN3 := hid (hp_new w2 (.cells (fcells ⟨5, 0, 0, 0, List.replicate 32 0, 0, (0, 0, 0), [], []⟩ nS).toArray 29))
  have HB3 := hid (below_then HBL.out (below_walk w2 (.cells (fcells ⟨5, 0, 0, 0, List.replicate 32 0, 0, (0, 0, 0), [], []⟩ nS).toArray 29)))
  have HG3 := hid (show w.heap.size + 1 < w2.heap.size from HL2.out)
  obtain ⟨B3, HE3⟩ : ∃ b : Nat, Hid (w2.heap.size = b) := ⟨_, rfl⟩
  rw [HE3.out] at HN3 HG3 ⊢
  generalize w2.alloc (.cells (fcells ⟨5, 0, 0, 0, List.replicate 32 0, 0, (0, 0, 0), [], []⟩ nS).toArray 29) = w3 at HN1 HN2 HN3 HB3 ⊢
  clear x0 HNB HBL HL2
  have HFB := hid (Fb.of HN1.out HF.out)
  have HFC := hid (Fb.of HN3.out (show (⟨5, 0, 0, 0, List.replicate 32 0, 0, (0, 0, 0), [], []⟩ : Fr).tool.length = 32 from rfl))
  have x1 := HFB.out.k
  rw [HK.out] at x1
  have ne1 : ¬ w.heap.size = B3 := by have := HG3.out; omega
  have ne2 : ¬ B3 = w.heap.size := by have := HG3.out; omega
  go_upto_region 13 with fail
  have HN4 := hid (show w3.heap[B3]? = some (.cells (fcells (ownF f) (ownV f (.slice ao nn cc))).toArray 29 (0, 0)) from eq_rowFOnly5 HN3.out HEQ.out)
  have HN5 := hid (show w3.heap[w.heap.size + 1]? = some (.cells (fcells zF nS).toArray 29 (0, 0)) from HN2.out)
  have HB4 := hid (show Below w.heap.size w w3 from  HB3.out)
  generalize w3 = w4 at HN4 HN5 HB4 ⊢
  obtain ⟨FO, HFO⟩ : ∃ L, Hid (fcells (ownF f) (ownV f (.slice ao nn cc)) = L) := ⟨_, rfl⟩
  rw [HFO.out] at HSZ HON HOS HN4
  go_wp2_with (first
    | (refine ld_row (by rfl) 29 (.tmp 3) (by rfl) B3 (by rfl) FO 29 HN4.out _ Try.underlying29 rfl HSZ.out ?_)
    | (refine st_row (by rfl) 29 _ _ (by rfl) (w.heap.size + 1) FO (by rfl) (by rfl) 29 _ HN5.out HSZ.out HOS.out HON.out ?_; intro w5 hw5))
  refine ret_row 2 29 rfl (w.heap.size + 1) rfl FO 29 hw5.blk _ Try.underlying29 rfl HSZ.out rfl ⟨by rw [HFO.out], Below.of_gb HB4.out hw5.grown (by omega)⟩

end Go.Proofs.Ytjinkahlfigdcaa

/- Whether all fields of two frames are the same. -/
namespace Go.Proofs.Ytjinkahlfigdcaa
open Go.RowKit

set_option maxRecDepth 100000 in
set_option maxHeartbeats 4000000 in
theorem rsame_any (f g : Fr) (va vb : Value) (w : World) (hf : f.tool.length = 32) (hg : g.tool.length = 32) (ha : Strs w va f.args) (hb : Strs w vb g.args) (hn : f.args.length ≤ 9223372036854775807) :
    Calls Try.prog 18 #[.agg (fcells f va).toArray, .agg (fcells g vb).toArray] w fun e w' => e = .returned (.bool (sameP f g)) ∧ Below w.heap.size w w' := by
  have HNA := hid (hp_two w (.cells (fcells f va).toArray 29) (.cells (fcells g vb).toArray 29))
  have HBL := hid (below_walk2 w (.cells (fcells f va).toArray 29) (.cells (fcells g vb).toArray 29))
  have HSA := hid ha
  have HSB := hid hb
  have HN := hid hn
  have HF := hid hf
  have HG := hid hg
  clear ha hb hn hf hg
  go_enter Try.func18, Try.ntmps18
  go_upto_region 1 with fail
  generalize (w.alloc (.cells (fcells f va).toArray 29)).alloc (.cells (fcells g vb).toArray 29) = w2 at HNA HBL ⊢
  have HA := hid (Fb.of HNA.out.1 HF.out)
  have HB := hid (Fb.of HNA.out.2 HG.out)
  clear HNA
  have HSA2 := hid (HSA.out.below HBL.out)
  have HSB2 := hid (HSB.out.below HBL.out)
  clear HSA HSB
  have hlg := limG
  have hdg := digG
  have HEQ := hid (wsame_any va vb f.args g.args w2 HSA2.out HSB2.out HN.out)
  obtain ⟨fk, fi, fv, fs, ft, fst, fl, fa, fb⟩ := f
  obtain ⟨gk, gi, gv, gs, gt, gst, gl, ga, gb⟩ := g
  obtain ⟨fl1, fl2, fl3⟩ := fl
  obtain ⟨gl1, gl2, gl3⟩ := gl
  obtain ⟨B2, HB2⟩ : ∃ b : Nat, Hid (w.heap.size + 1 = b) := ⟨_, rfl⟩
  obtain ⟨B1, HB1⟩ : ∃ b : Nat, Hid (w.heap.size = b) := ⟨_, rfl⟩
  rw [HB2.out] at HB ⊢
  rw [HB1.out] at HA ⊢
  clear HB1 HB2
  by_cases hne : fk = gk
  · subst hne
    by_cases hne : fi = gi
    · subst hne
      by_cases hne : fv = gv
      · subst hne
        by_cases hne : fs = gs
        · subst hne
          by_cases hne : ft = gt
          · subst hne
            by_cases hne : fst = gst
            · subst hne
              by_cases hne : (fl1, fl2, fl3) = (gl1, gl2, gl3)
              · injection hne with h1 h2; injection h2 with h2 h3; subst h1; subst h2; subst h3
                by_cases hne : fa = ga
                · subst hne
                  by_cases hne : fb = gb
                  · subst hne
                    have HR : Hid (sameP ⟨fk, fi, fv, fs, ft, fst, (fl1, fl2, fl3), fa, fb⟩ ⟨fk, fi, fv, fs, ft, fst, (fl1, fl2, fl3), fa, fb⟩ = true) := hid (sameP_self _)
                    have a0 := HA.out.k
                    have b0 := HB.out.k
                    have a1 := HA.out.i
                    have b1 := HB.out.i
                    have a2 := HA.out.v
                    have b2 := HB.out.v
                    have a3 := HA.out.s
                    have b3 := HB.out.s
                    have a4 := hid HA.out.t
                    have b4 := hid HB.out.t
                    have HS1 := hid (tool_size ft HF.out)
                    have HS2 := hid (tool_size ft HG.out)
                    have a5 := HA.out.st
                    have b5 := HB.out.st
                    have a61 := HA.out.l1
                    have b61 := HB.out.l1
                    have a62 := HA.out.l2
                    have b62 := HB.out.l2
                    have a63 := HA.out.l3
                    have b63 := HB.out.l3
                    have a7 := HA.out.a
                    have b7 := HB.out.a
                    have e4 := dig_eql ft ft HF.out HF.out
                    rw [decide_eq_true rfl] at e4
                    have e6 := lim_eql fl1 fl2 fl3 fl1 fl2 fl3
                    rw [decide_eq_true rfl] at e6
                    have HE2 := hid HEQ.out
                    simp only [decide_true] at HE2
                    have HA8 := hid (fun n => (show (w2.drewN n).cell? ⟨B1, 41, none⟩ = _ from HA.out.bd))
                    have HB8 := hid (fun n => (show (w2.drewN n).cell? ⟨B2, 41, none⟩ = _ from HB.out.bd))
                    clear HA HB HEQ HF HG
                    go_wp2_with (first | (refine ld_gd (by rfl) 24 (.tmp 32) (by rfl) B1 4 (by rfl) _ _ a4.out Try.underlying24 rfl HS1.out ?_) | (refine ld_gd (by rfl) 24 (.tmp 34) (by rfl) B2 4 (by rfl) _ _ b4.out Try.underlying24 rfl HS2.out ?_))
                    refine HE2.out.mono ?_
                    rintro e w3 ⟨rfl, n, rfl⟩
                    have a8 := HA8.out n
                    have b8 := HB8.out n
                    clear HA8 HB8
                    clear HE2
                    go_wp2
                    go_ret
                    exact ⟨ret_eq HR.out.symm, HBL.out.trans ⟨rfl, rfl, rfl, Nat.le_refl _, fun _ _ => rfl⟩⟩
                  · have HR : Hid (sameP ⟨fk, fi, fv, fs, ft, fst, (fl1, fl2, fl3), fa, fb⟩ ⟨fk, fi, fv, fs, ft, fst, (fl1, fl2, fl3), fa, gb⟩ = false) := hid (decide_eq_false (fun h9 => hne (by exact h9.2.2.2.2.2.2.2.2)))
                    have a0 := HA.out.k
                    have b0 := HB.out.k
                    have a1 := HA.out.i
                    have b1 := HB.out.i
                    have a2 := HA.out.v
                    have b2 := HB.out.v
                    have a3 := HA.out.s
                    have b3 := HB.out.s
                    have a4 := hid HA.out.t
                    have b4 := hid HB.out.t
                    have HS1 := hid (tool_size ft HF.out)
                    have HS2 := hid (tool_size ft HG.out)
                    have a5 := HA.out.st
                    have b5 := HB.out.st
                    have a61 := HA.out.l1
                    have b61 := HB.out.l1
                    have a62 := HA.out.l2
                    have b62 := HB.out.l2
                    have a63 := HA.out.l3
                    have b63 := HB.out.l3
                    have a7 := HA.out.a
                    have b7 := HB.out.a
                    have e4 := dig_eql ft ft HF.out HF.out
                    rw [decide_eq_true rfl] at e4
                    have e6 := lim_eql fl1 fl2 fl3 fl1 fl2 fl3
                    rw [decide_eq_true rfl] at e6
                    have HE2 := hid HEQ.out
                    simp only [decide_true] at HE2
                    have HA8 := hid (fun n => (show (w2.drewN n).cell? ⟨B1, 41, none⟩ = _ from HA.out.bd))
                    have HB8 := hid (fun n => (show (w2.drewN n).cell? ⟨B2, 41, none⟩ = _ from HB.out.bd))
                    have t1 : ¬ (mk fb).toList = (mk gb).toList := fun h9 => hne ((bl_mk fb).symm.trans (h9.trans (bl_mk gb)))
                    have t2 : ((mk fb).toList == (mk gb).toList) = false := by simpa using t1
                    clear HA HB HEQ HF HG
                    clear hne
                    go_wp2_with (first | (refine ld_gd (by rfl) 24 (.tmp 32) (by rfl) B1 4 (by rfl) _ _ a4.out Try.underlying24 rfl HS1.out ?_) | (refine ld_gd (by rfl) 24 (.tmp 34) (by rfl) B2 4 (by rfl) _ _ b4.out Try.underlying24 rfl HS2.out ?_))
                    refine HE2.out.mono ?_
                    rintro e w3 ⟨rfl, n, rfl⟩
                    have a8 := HA8.out n
                    have b8 := HB8.out n
                    clear HA8 HB8
                    clear HE2
                    go_wp2
                    go_ret
                    exact ⟨ret_eq HR.out.symm, HBL.out.trans ⟨rfl, rfl, rfl, Nat.le_refl _, fun _ _ => rfl⟩⟩
                · have HR : Hid (sameP ⟨fk, fi, fv, fs, ft, fst, (fl1, fl2, fl3), fa, fb⟩ ⟨fk, fi, fv, fs, ft, fst, (fl1, fl2, fl3), ga, gb⟩ = false) := hid (decide_eq_false (fun h9 => hne (by exact h9.2.2.2.2.2.2.2.1)))
                  have a0 := HA.out.k
                  have b0 := HB.out.k
                  have a1 := HA.out.i
                  have b1 := HB.out.i
                  have a2 := HA.out.v
                  have b2 := HB.out.v
                  have a3 := HA.out.s
                  have b3 := HB.out.s
                  have a4 := hid HA.out.t
                  have b4 := hid HB.out.t
                  have HS1 := hid (tool_size ft HF.out)
                  have HS2 := hid (tool_size ft HG.out)
                  have a5 := HA.out.st
                  have b5 := HB.out.st
                  have a61 := HA.out.l1
                  have b61 := HB.out.l1
                  have a62 := HA.out.l2
                  have b62 := HB.out.l2
                  have a63 := HA.out.l3
                  have b63 := HB.out.l3
                  have a7 := HA.out.a
                  have b7 := HB.out.a
                  have e4 := dig_eql ft ft HF.out HF.out
                  rw [decide_eq_true rfl] at e4
                  have e6 := lim_eql fl1 fl2 fl3 fl1 fl2 fl3
                  rw [decide_eq_true rfl] at e6
                  have HE2 := hid HEQ.out
                  simp only [decide_eq_false hne] at HE2
                  clear HA HB HEQ HF HG
                  clear hne
                  go_wp2_with (first | (refine ld_gd (by rfl) 24 (.tmp 32) (by rfl) B1 4 (by rfl) _ _ a4.out Try.underlying24 rfl HS1.out ?_) | (refine ld_gd (by rfl) 24 (.tmp 34) (by rfl) B2 4 (by rfl) _ _ b4.out Try.underlying24 rfl HS2.out ?_))
                  refine HE2.out.mono ?_
                  rintro e w3 ⟨rfl, n, rfl⟩
                  clear HE2
                  go_wp2
                  go_ret
                  exact ⟨ret_eq HR.out.symm, HBL.out.trans ⟨rfl, rfl, rfl, Nat.le_refl _, fun _ _ => rfl⟩⟩
              · have HR : Hid (sameP ⟨fk, fi, fv, fs, ft, fst, (fl1, fl2, fl3), fa, fb⟩ ⟨fk, fi, fv, fs, ft, fst, (gl1, gl2, gl3), ga, gb⟩ = false) := hid (decide_eq_false (fun h9 => hne (by exact h9.2.2.2.2.2.2.1)))
                have a0 := HA.out.k
                have b0 := HB.out.k
                have a1 := HA.out.i
                have b1 := HB.out.i
                have a2 := HA.out.v
                have b2 := HB.out.v
                have a3 := HA.out.s
                have b3 := HB.out.s
                have a4 := hid HA.out.t
                have b4 := hid HB.out.t
                have HS1 := hid (tool_size ft HF.out)
                have HS2 := hid (tool_size ft HG.out)
                have a5 := HA.out.st
                have b5 := HB.out.st
                have a61 := HA.out.l1
                have b61 := HB.out.l1
                have a62 := HA.out.l2
                have b62 := HB.out.l2
                have a63 := HA.out.l3
                have b63 := HB.out.l3
                have e4 := dig_eql ft ft HF.out HF.out
                rw [decide_eq_true rfl] at e4
                have e6 := lim_eql fl1 fl2 fl3 gl1 gl2 gl3
                rw [decide_eq_false hne] at e6
                clear HA HB HEQ HF HG
                clear hne
                go_wp2_with (first | (refine ld_gd (by rfl) 24 (.tmp 32) (by rfl) B1 4 (by rfl) _ _ a4.out Try.underlying24 rfl HS1.out ?_) | (refine ld_gd (by rfl) 24 (.tmp 34) (by rfl) B2 4 (by rfl) _ _ b4.out Try.underlying24 rfl HS2.out ?_))
                go_ret
                exact ⟨ret_eq HR.out.symm, HBL.out⟩
            · have HR : Hid (sameP ⟨fk, fi, fv, fs, ft, fst, (fl1, fl2, fl3), fa, fb⟩ ⟨fk, fi, fv, fs, ft, gst, (gl1, gl2, gl3), ga, gb⟩ = false) := hid (decide_eq_false (fun h9 => hne (by exact h9.2.2.2.2.2.1)))
              have a0 := HA.out.k
              have b0 := HB.out.k
              have a1 := HA.out.i
              have b1 := HB.out.i
              have a2 := HA.out.v
              have b2 := HB.out.v
              have a3 := HA.out.s
              have b3 := HB.out.s
              have a4 := hid HA.out.t
              have b4 := hid HB.out.t
              have HS1 := hid (tool_size ft HF.out)
              have HS2 := hid (tool_size ft HG.out)
              have a5 := HA.out.st
              have b5 := HB.out.st
              have e4 := dig_eql ft ft HF.out HF.out
              rw [decide_eq_true rfl] at e4
              have q1 : (fst == gst) = false := by simpa using hne
              clear HA HB HEQ HF HG
              go_wp2_with (first | (refine ld_gd (by rfl) 24 (.tmp 32) (by rfl) B1 4 (by rfl) _ _ a4.out Try.underlying24 rfl HS1.out ?_) | (refine ld_gd (by rfl) 24 (.tmp 34) (by rfl) B2 4 (by rfl) _ _ b4.out Try.underlying24 rfl HS2.out ?_))
              go_ret
              exact ⟨ret_eq HR.out.symm, HBL.out⟩
          · have HR : Hid (sameP ⟨fk, fi, fv, fs, ft, fst, (fl1, fl2, fl3), fa, fb⟩ ⟨fk, fi, fv, fs, gt, gst, (gl1, gl2, gl3), ga, gb⟩ = false) := hid (decide_eq_false (fun h9 => hne (by exact h9.2.2.2.2.1)))
            have a0 := HA.out.k
            have b0 := HB.out.k
            have a1 := HA.out.i
            have b1 := HB.out.i
            have a2 := HA.out.v
            have b2 := HB.out.v
            have a3 := HA.out.s
            have b3 := HB.out.s
            have a4 := hid HA.out.t
            have b4 := hid HB.out.t
            have HS1 := hid (tool_size ft HF.out)
            have HS2 := hid (tool_size gt HG.out)
            have e4 := dig_eql ft gt HF.out HG.out
            rw [decide_eq_false hne] at e4
            clear HA HB HEQ HF HG
            clear hne
            go_wp2_with (first | (refine ld_gd (by rfl) 24 (.tmp 32) (by rfl) B1 4 (by rfl) _ _ a4.out Try.underlying24 rfl HS1.out ?_) | (refine ld_gd (by rfl) 24 (.tmp 34) (by rfl) B2 4 (by rfl) _ _ b4.out Try.underlying24 rfl HS2.out ?_))
            go_ret
            exact ⟨ret_eq HR.out.symm, HBL.out⟩
        · have HR : Hid (sameP ⟨fk, fi, fv, fs, ft, fst, (fl1, fl2, fl3), fa, fb⟩ ⟨fk, fi, fv, gs, gt, gst, (gl1, gl2, gl3), ga, gb⟩ = false) := hid (decide_eq_false (fun h9 => hne (by exact h9.2.2.2.1)))
          have a0 := HA.out.k
          have b0 := HB.out.k
          have a1 := HA.out.i
          have b1 := HB.out.i
          have a2 := HA.out.v
          have b2 := HB.out.v
          have a3 := HA.out.s
          have b3 := HB.out.s
          have q1 : (fs == gs) = false := by simpa using hne
          clear HA HB HEQ HF HG
          go_wp2
          go_ret
          exact ⟨ret_eq HR.out.symm, HBL.out⟩
      · have HR : Hid (sameP ⟨fk, fi, fv, fs, ft, fst, (fl1, fl2, fl3), fa, fb⟩ ⟨fk, fi, gv, gs, gt, gst, (gl1, gl2, gl3), ga, gb⟩ = false) := hid (decide_eq_false (fun h9 => hne (by exact h9.2.2.1)))
        have a0 := HA.out.k
        have b0 := HB.out.k
        have a1 := HA.out.i
        have b1 := HB.out.i
        have a2 := HA.out.v
        have b2 := HB.out.v
        have q1 : (fv == gv) = false := by simpa using hne
        clear HA HB HEQ HF HG
        go_wp2
        go_ret
        exact ⟨ret_eq HR.out.symm, HBL.out⟩
    · have HR : Hid (sameP ⟨fk, fi, fv, fs, ft, fst, (fl1, fl2, fl3), fa, fb⟩ ⟨fk, gi, gv, gs, gt, gst, (gl1, gl2, gl3), ga, gb⟩ = false) := hid (decide_eq_false (fun h9 => hne (by exact h9.2.1)))
      have a0 := HA.out.k
      have b0 := HB.out.k
      have a1 := HA.out.i
      have b1 := HB.out.i
      have q1 : (fi == gi) = false := by simpa using hne
      clear HA HB HEQ HF HG
      go_wp2
      go_ret
      exact ⟨ret_eq HR.out.symm, HBL.out⟩
  · have HR : Hid (sameP ⟨fk, fi, fv, fs, ft, fst, (fl1, fl2, fl3), fa, fb⟩ ⟨gk, gi, gv, gs, gt, gst, (gl1, gl2, gl3), ga, gb⟩ = false) := hid (decide_eq_false (fun h9 => hne (by exact h9.1)))
    have a0 := HA.out.k
    have b0 := HB.out.k
    have q1 : (fk == gk) = false := by simpa using hne
    clear HA HB HEQ HF HG
    go_wp2
    go_ret
    exact ⟨ret_eq HR.out.symm, HBL.out⟩

end Go.Proofs.Ytjinkahlfigdcaa

/- The document's only, of every kind. -/
namespace Go.Proofs.Ytjinkahlfigdcaa
open Go.RowKit Go.BigFrame

theorem only_any (f : Fr) (va : Value) (w : World) (hk : 1 ≤ f.kind ∧ f.kind ≤ 6) (hf : f.tool.length = 32) (hv : ∃ ao n c, va = .slice ao n c) :
    Calls Try.prog 45 #[.agg (fcells f va).toArray] w fun e w' => e = .returned (.agg (fcells (ownF f) (ownV f va)).toArray) ∧ Below w.heap.size w w' := by
  have h : f.kind = 1 ∨ f.kind = 2 ∨ f.kind = 3 ∨ f.kind = 4 ∨ f.kind = 5 ∨ f.kind = 6 := by omega
  rcases h with h | h | h | h | h | h
  · exact only1_any f va w h hf hv
  · exact only2_any f va w h hf hv
  · exact only3_any f va w h hf hv
  · exact only4_any f va w h hf hv
  · exact only5_any f va w h hf hv
  · exact only6_any f va w h hf hv

/-- whether a frame is what its kind owns, as the document asks it -/
theorem rsame_own (f : Fr) (va : Value) (w : World) (hf : f.tool.length = 32) (ha : Strs w va f.args) (hn : f.args.length ≤ 9223372036854775807) :
    Calls Try.prog 18 #[.agg (fcells f va).toArray, .agg (fcells (ownF f) (ownV f va)).toArray] w fun e w' => e = .returned (.bool (sameP f (ownF f))) ∧ Below w.heap.size w w' :=
  rsame_any f (ownF f) va (ownV f va) w hf (ownF_tool f hf) ha (own_strs ha) hn

end Go.Proofs.Ytjinkahlfigdcaa

/- The document's body of a frame. -/
namespace Go.Proofs.Ytjinkahlfigdcaa
open Go.RowKit Go.BigFrame

theorem fb_at {w w' : World} {b B : Nat} {f : Fr} {va : Value} (h : Fb w b f va) (hb : b < B) (hB : Below B w w') : Fb w' b f va := by
  have c : ∀ {i : Nat} {v : Value}, w.cell? ⟨b, i, none⟩ = some v → w'.cell? ⟨b, i, none⟩ = some v := fun {i v} hc => (hB.cell (p := ⟨b, i, none⟩) hb).trans hc
  exact ⟨c h.k, c h.i, c h.v, c h.s, fun j v hv => c (h.t j v hv), c h.st, c h.l1, c h.l2, c h.l3, c h.a, c h.bd⟩
/-- texts that lay there before B lie there still -/
theorem strs_at {w0 w w' : World} {v : Value} {ts : List (List UInt8)} (h : Strs w v ts) (h0 : Strs w0 v ts) (hB : Below w0.heap.size w w') : Strs w' v ts := by
  rcases h with h | ⟨g, o, c, hv, hlt, h1, hc⟩
  · exact Or.inl h
  · rcases h0 with ⟨ao, c0, hv0, rfl, hn⟩ | ⟨g0, o0, c0, hv0, hlt0, _, _⟩
    · exact Or.inl ⟨ao, c0, hv0, rfl, hn⟩
    · have e := hv.symm.trans hv0
      injection e with e1 _ _
      injection e1 with e1
      injection e1 with e2 _ _
      exact Or.inr ⟨g, o, c, hv, Nat.lt_of_lt_of_le hlt hB.size, h1, fun j hj => (hB.cell (p := ⟨g, o + j, none⟩) (by show g < w0.heap.size; rw [e2]; exact hlt0)).trans (hc j hj)⟩

set_option maxRecDepth 100000 in
set_option maxHeartbeats 4000000 in
theorem body4_any (f : Fr) (va : Value) (w : World) (hf : f.tool.length = 32) (hk : f.kind = 4) (I : Nat) (hi : f.id = (I : Int)) (hI : I < 18446744073709551616) :
    Calls Try.prog 26 #[.agg (fcells f va).toArray] w fun e w' => ∃ v, e = .returned v ∧ Src w' v (sn 4 ++ sn I) ∧ Below w.heap.size w w' := by
  have HNB := hid (hp_new w (.cells (fcells f va).toArray 29))
  have HBL := hid (below_walk w (.cells (fcells f va).toArray 29))
  have HF := hid hf
  have HK := hid hk
  have E_i := hid hi
  have len_I := sn_length_le I
  have len0 := sn_length_le 4
  have w0 : IntKind.u64.wrap 4 = 4 := rfl
  clear hf hk hi 
  go_enter Try.func26, Try.ntmps26
  go_upto_region 1 with fail
  generalize w.alloc (.cells (fcells f va).toArray 29) = w1 at HNB HBL  ⊢
  have HFB1 := hid (Fb.of HNB.out HF.out)
  have HL1 := hid (hp_lt HNB.out)
  have x0 := HFB1.out.k
  rw [HK.out] at x0
  go_wp2_with fail
  refine (refUint_any 4 w1 (by decide)).mono ?_
  rintro e w2 ⟨v2, rfl, ho2, hb2⟩
  have HO2 := hid ho2
  have HB2 := hid (below_then HBL.out hb2)
  have HFB2 := hid (HFB1.out.below HL1.out hb2)
  have HL2 := hid (Nat.lt_of_lt_of_le HL1.out hb2.size)
  have HZ2 := hid hb2.size
  have x1 := HFB2.out.k
  rw [HK.out] at x1
  obtain ⟨a2, n2, c2, e2⟩ := src_named (ho2.src (by omega))
  subst e2
  clear ho2 hb2 x0 HFB1 HNB
  have y3 := HFB2.out.i
  rw [E_i.out] at y3
  go_wp2_with fail
  refine (refUint_any I w2 (by omega)).mono ?_
  rintro e p3 ⟨u3, rfl, hou3, hbu3⟩
  have HU3 := hid (hou3.src (by omega))
  have HP3 := hid (HO2.out.below hbu3)
  have HBP3 := hid (below_then HB2.out hbu3)
  have HFP3 := hid (HFB2.out.below HL2.out hbu3)
  have HLP3 := hid (Nat.lt_of_lt_of_le HL2.out hbu3.size)
  have HZP3 := hid (Nat.le_trans HZ2.out hbu3.size)
  obtain ⟨au3, nu3, cu3, eu3⟩ := src_named HU3.out
  subst eu3
  clear hou3 hbu3 y3 HO2 HB2 HFB2 HL2 HZ2  x1
  go_wp2_with (at_builtin; refine app_src rfl _ _ rfl w1.heap.size _ _ rfl HP3.out _ _ rfl HU3.out (by (try simp only [List.length_append]); omega) HZP3.out ?_)
  intro v3 w3 ho3 hg3
  have HO3 := hid ho3
  have hbb3 : Below w1.heap.size p3 w3 := ⟨hg3.os, hg3.tape, hg3.output, hg3.size, fun k hk => hg3.block k (by have := HZP3.out; omega) (fun e => by have := (HP3.out.lt k e.symm).1; omega)⟩
  have HB3 := hid (show Below w.heap.size w w3 from below_tr HBP3.out (hbb3.mono (by have := HBL.out.size; omega)))
  have HFB3 := hid (show Fb w3 w.heap.size f va from fb_at HFP3.out HL1.out hbb3)
  have HL3 := hid (Nat.lt_of_lt_of_le HLP3.out hg3.size)
  have HZ3 := hid (Nat.le_trans HZP3.out hg3.size)
  obtain ⟨a3, n3, c3, e3⟩ := src_named (ho3.src (by (try simp only [List.length_append]); omega))
  subst e3
  clear ho3 hg3 hbb3 HP3 HU3 HBP3 HFP3 HLP3 HZP3 
  have xz := HFB3.out.k
  have hz9 := HO3.out.src (by (try simp only [List.length_append]); omega)
  have HSZ := hid (show Src w3 (.slice a3 n3 c3) (sn 4 ++ sn I) by first | exact hz9 | simpa only [List.append_assoc] using hz9)
  clear hz9
  go_wp2
  go_ret
  exact ⟨_, rfl, HSZ.out, HB3.out⟩

set_option maxRecDepth 100000 in
set_option maxHeartbeats 4000000 in
theorem body6_any (f : Fr) (va : Value) (w : World) (hf : f.tool.length = 32) (hk : f.kind = 6) (hB : f.body.length ≤ 2097152) :
    Calls Try.prog 26 #[.agg (fcells f va).toArray] w fun e w' => ∃ v, e = .returned v ∧ Src w' v (sn 6 ++ tx (mk f.body)) ∧ Below w.heap.size w w' := by
  have HNB := hid (hp_new w (.cells (fcells f va).toArray 29))
  have HBL := hid (below_walk w (.cells (fcells f va).toArray 29))
  have HF := hid hf
  have HK := hid hk
  have HTX := hid (tx_len2 (mk f.body))
  rw [mk_size] at HTX
  have len0 := sn_length_le 6
  have w0 : IntKind.u64.wrap 6 = 6 := rfl
  clear hf hk  
  go_enter Try.func26, Try.ntmps26
  go_upto_region 1 with fail
  generalize w.alloc (.cells (fcells f va).toArray 29) = w1 at HNB HBL  ⊢
  have HFB1 := hid (Fb.of HNB.out HF.out)
  have HL1 := hid (hp_lt HNB.out)
  have x0 := HFB1.out.k
  rw [HK.out] at x0
  go_wp2_with fail
  refine (refUint_any 6 w1 (by decide)).mono ?_
  rintro e w2 ⟨v2, rfl, ho2, hb2⟩
  have HO2 := hid ho2
  have HB2 := hid (below_then HBL.out hb2)
  have HFB2 := hid (HFB1.out.below HL1.out hb2)
  have HL2 := hid (Nat.lt_of_lt_of_le HL1.out hb2.size)
  have HZ2 := hid hb2.size
  have x1 := HFB2.out.k
  rw [HK.out] at x1
  obtain ⟨a2, n2, c2, e2⟩ := src_named (ho2.src (by omega))
  subst e2
  clear ho2 hb2 x0 HFB1 HNB
  have y3 := HFB2.out.bd
  go_wp2_with fail
  refine (refText_any (mk f.body) w2 (by rw [mk_size]; omega)).mono ?_
  rintro e p3 ⟨u3, rfl, hou3, hbu3⟩
  have HU3 := hid (hou3.src (by have := HTX.out; omega))
  have HP3 := hid (HO2.out.below hbu3)
  have HBP3 := hid (below_then HB2.out hbu3)
  have HFP3 := hid (HFB2.out.below HL2.out hbu3)
  have HLP3 := hid (Nat.lt_of_lt_of_le HL2.out hbu3.size)
  have HZP3 := hid (Nat.le_trans HZ2.out hbu3.size)
  obtain ⟨au3, nu3, cu3, eu3⟩ := src_named HU3.out
  subst eu3
  clear hou3 hbu3 y3 HO2 HB2 HFB2 HL2 HZ2  x1
  go_wp2_with (at_builtin; refine app_src rfl _ _ rfl w1.heap.size _ _ rfl HP3.out _ _ rfl HU3.out (by (try simp only [List.length_append]); have := HTX.out; omega) HZP3.out ?_)
  intro v3 w3 ho3 hg3
  have HO3 := hid ho3
  have hbb3 : Below w1.heap.size p3 w3 := ⟨hg3.os, hg3.tape, hg3.output, hg3.size, fun k hk => hg3.block k (by have := HZP3.out; omega) (fun e => by have := (HP3.out.lt k e.symm).1; omega)⟩
  have HB3 := hid (show Below w.heap.size w w3 from below_tr HBP3.out (hbb3.mono (by have := HBL.out.size; omega)))
  have HFB3 := hid (show Fb w3 w.heap.size f va from fb_at HFP3.out HL1.out hbb3)
  have HL3 := hid (Nat.lt_of_lt_of_le HLP3.out hg3.size)
  have HZ3 := hid (Nat.le_trans HZP3.out hg3.size)
  obtain ⟨a3, n3, c3, e3⟩ := src_named (ho3.src (by (try simp only [List.length_append]); have := HTX.out; omega))
  subst e3
  clear ho3 hg3 hbb3 HP3 HU3 HBP3 HFP3 HLP3 HZP3 
  have xz := HFB3.out.k
  have hz9 := HO3.out.src (by (try simp only [List.length_append]); have := HTX.out; omega)
  have HSZ := hid (show Src w3 (.slice a3 n3 c3) (sn 6 ++ tx (mk f.body)) by first | exact hz9 | simpa only [List.append_assoc] using hz9)
  clear hz9
  go_wp2
  go_ret
  exact ⟨_, rfl, HSZ.out, HB3.out⟩

set_option maxRecDepth 100000 in
set_option maxHeartbeats 4000000 in
theorem body3_any (f : Fr) (va : Value) (w : World) (hf : f.tool.length = 32) (hk : f.kind = 3) (I S : Nat) (hi : f.id = (I : Int)) (hI : I < 18446744073709551616) (hst : f.status = (S : Int)) (kS : S ≤ 9223372036854775807) (hB : f.body.length ≤ 2097152) :
    Calls Try.prog 26 #[.agg (fcells f va).toArray] w fun e w' => ∃ v, e = .returned v ∧ Src w' v (sn 3 ++ sn I ++ sn S ++ tx (mk f.body)) ∧ Below w.heap.size w w' := by
  have HNB := hid (hp_new w (.cells (fcells f va).toArray 29))
  have HBL := hid (below_walk w (.cells (fcells f va).toArray 29))
  have HF := hid hf
  have HK := hid hk
  have E_i := hid hi
  have E_st := hid hst
  have HTX := hid (tx_len2 (mk f.body))
  rw [mk_size] at HTX
  have len_I := sn_length_le I
  have len_S := sn_length_le S
  have wr_S : IntKind.u64.wrap (S : Int) = (S : Int) := by rw [IntKind.wrap_u64]; omega
  have len0 := sn_length_le 3
  have w0 : IntKind.u64.wrap 3 = 3 := rfl
  clear hf hk hi hst 
  go_enter Try.func26, Try.ntmps26
  go_upto_region 1 with fail
  generalize w.alloc (.cells (fcells f va).toArray 29) = w1 at HNB HBL  ⊢
  have HFB1 := hid (Fb.of HNB.out HF.out)
  have HL1 := hid (hp_lt HNB.out)
  have x0 := HFB1.out.k
  rw [HK.out] at x0
  go_wp2_with fail
  refine (refUint_any 3 w1 (by decide)).mono ?_
  rintro e w2 ⟨v2, rfl, ho2, hb2⟩
  have HO2 := hid ho2
  have HB2 := hid (below_then HBL.out hb2)
  have HFB2 := hid (HFB1.out.below HL1.out hb2)
  have HL2 := hid (Nat.lt_of_lt_of_le HL1.out hb2.size)
  have HZ2 := hid hb2.size
  have x1 := HFB2.out.k
  rw [HK.out] at x1
  obtain ⟨a2, n2, c2, e2⟩ := src_named (ho2.src (by omega))
  subst e2
  clear ho2 hb2 x0 HFB1 HNB
  have y3 := HFB2.out.i
  rw [E_i.out] at y3
  go_wp2_with fail
  refine (refUint_any I w2 (by omega)).mono ?_
  rintro e p3 ⟨u3, rfl, hou3, hbu3⟩
  have HU3 := hid (hou3.src (by omega))
  have HP3 := hid (HO2.out.below hbu3)
  have HBP3 := hid (below_then HB2.out hbu3)
  have HFP3 := hid (HFB2.out.below HL2.out hbu3)
  have HLP3 := hid (Nat.lt_of_lt_of_le HL2.out hbu3.size)
  have HZP3 := hid (Nat.le_trans HZ2.out hbu3.size)
  obtain ⟨au3, nu3, cu3, eu3⟩ := src_named HU3.out
  subst eu3
  clear hou3 hbu3 y3 HO2 HB2 HFB2 HL2 HZ2  x1
  go_wp2_with (at_builtin; refine app_src rfl _ _ rfl w1.heap.size _ _ rfl HP3.out _ _ rfl HU3.out (by (try simp only [List.length_append]); have := HTX.out; omega) HZP3.out ?_)
  intro v3 w3 ho3 hg3
  have HO3 := hid ho3
  have hbb3 : Below w1.heap.size p3 w3 := ⟨hg3.os, hg3.tape, hg3.output, hg3.size, fun k hk => hg3.block k (by have := HZP3.out; omega) (fun e => by have := (HP3.out.lt k e.symm).1; omega)⟩
  have HB3 := hid (show Below w.heap.size w w3 from below_tr HBP3.out (hbb3.mono (by have := HBL.out.size; omega)))
  have HFB3 := hid (show Fb w3 w.heap.size f va from fb_at HFP3.out HL1.out hbb3)
  have HL3 := hid (Nat.lt_of_lt_of_le HLP3.out hg3.size)
  have HZ3 := hid (Nat.le_trans HZP3.out hg3.size)
  obtain ⟨a3, n3, c3, e3⟩ := src_named (ho3.src (by (try simp only [List.length_append]); have := HTX.out; omega))
  subst e3
  clear ho3 hg3 hbb3 HP3 HU3 HBP3 HFP3 HLP3 HZP3 
  have y4 := HFB3.out.st
  rw [E_st.out] at y4
  go_wp2_with fail
  refine (refUint_any S w3 (by omega)).mono ?_
  rintro e p4 ⟨u4, rfl, hou4, hbu4⟩
  have HU4 := hid (hou4.src (by omega))
  have HP4 := hid (HO3.out.below hbu4)
  have HBP4 := hid (below_then HB3.out hbu4)
  have HFP4 := hid (HFB3.out.below HL3.out hbu4)
  have HLP4 := hid (Nat.lt_of_lt_of_le HL3.out hbu4.size)
  have HZP4 := hid (Nat.le_trans HZ3.out hbu4.size)
  obtain ⟨au4, nu4, cu4, eu4⟩ := src_named HU4.out
  subst eu4
  clear hou4 hbu4 y4 HO3 HB3 HFB3 HL3 HZ3  
  go_wp2_with (at_builtin; refine app_src rfl _ _ rfl w1.heap.size _ _ rfl HP4.out _ _ rfl HU4.out (by (try simp only [List.length_append]); have := HTX.out; omega) HZP4.out ?_)
  intro v4 w4 ho4 hg4
  have HO4 := hid ho4
  have hbb4 : Below w1.heap.size p4 w4 := ⟨hg4.os, hg4.tape, hg4.output, hg4.size, fun k hk => hg4.block k (by have := HZP4.out; omega) (fun e => by have := (HP4.out.lt k e.symm).1; omega)⟩
  have HB4 := hid (show Below w.heap.size w w4 from below_tr HBP4.out (hbb4.mono (by have := HBL.out.size; omega)))
  have HFB4 := hid (show Fb w4 w.heap.size f va from fb_at HFP4.out HL1.out hbb4)
  have HL4 := hid (Nat.lt_of_lt_of_le HLP4.out hg4.size)
  have HZ4 := hid (Nat.le_trans HZP4.out hg4.size)
  obtain ⟨a4, n4, c4, e4⟩ := src_named (ho4.src (by (try simp only [List.length_append]); have := HTX.out; omega))
  subst e4
  clear ho4 hg4 hbb4 HP4 HU4 HBP4 HFP4 HLP4 HZP4 
  have y5 := HFB4.out.bd
  go_wp2_with fail
  refine (refText_any (mk f.body) w4 (by rw [mk_size]; omega)).mono ?_
  rintro e p5 ⟨u5, rfl, hou5, hbu5⟩
  have HU5 := hid (hou5.src (by have := HTX.out; omega))
  have HP5 := hid (HO4.out.below hbu5)
  have HBP5 := hid (below_then HB4.out hbu5)
  have HFP5 := hid (HFB4.out.below HL4.out hbu5)
  have HLP5 := hid (Nat.lt_of_lt_of_le HL4.out hbu5.size)
  have HZP5 := hid (Nat.le_trans HZ4.out hbu5.size)
  obtain ⟨au5, nu5, cu5, eu5⟩ := src_named HU5.out
  subst eu5
  clear hou5 hbu5 y5 HO4 HB4 HFB4 HL4 HZ4  
  go_wp2_with (at_builtin; refine app_src rfl _ _ rfl w1.heap.size _ _ rfl HP5.out _ _ rfl HU5.out (by (try simp only [List.length_append]); have := HTX.out; omega) HZP5.out ?_)
  intro v5 w5 ho5 hg5
  have HO5 := hid ho5
  have hbb5 : Below w1.heap.size p5 w5 := ⟨hg5.os, hg5.tape, hg5.output, hg5.size, fun k hk => hg5.block k (by have := HZP5.out; omega) (fun e => by have := (HP5.out.lt k e.symm).1; omega)⟩
  have HB5 := hid (show Below w.heap.size w w5 from below_tr HBP5.out (hbb5.mono (by have := HBL.out.size; omega)))
  have HFB5 := hid (show Fb w5 w.heap.size f va from fb_at HFP5.out HL1.out hbb5)
  have HL5 := hid (Nat.lt_of_lt_of_le HLP5.out hg5.size)
  have HZ5 := hid (Nat.le_trans HZP5.out hg5.size)
  obtain ⟨a5, n5, c5, e5⟩ := src_named (ho5.src (by (try simp only [List.length_append]); have := HTX.out; omega))
  subst e5
  clear ho5 hg5 hbb5 HP5 HU5 HBP5 HFP5 HLP5 HZP5 
  have xz := HFB5.out.k
  have hz9 := HO5.out.src (by (try simp only [List.length_append]); have := HTX.out; omega)
  have HSZ := hid (show Src w5 (.slice a5 n5 c5) (sn 3 ++ sn I ++ sn S ++ tx (mk f.body)) by first | exact hz9 | simpa only [List.append_assoc] using hz9)
  clear hz9
  go_wp2
  go_ret
  exact ⟨_, rfl, HSZ.out, HB5.out⟩

set_option maxRecDepth 100000 in
set_option maxHeartbeats 4000000 in
theorem body2_any (f : Fr) (va : Value) (w : World) (hf : f.tool.length = 32) (hk : f.kind = 2) (I a b c : Nat) (hi : f.id = (I : Int)) (hI : I < 18446744073709551616) (h1 : f.lim.1 = (a : Int)) (h2 : f.lim.2.1 = (b : Int)) (h3 : f.lim.2.2 = (c : Int)) (ka : a ≤ 9223372036854775807) (kb : b ≤ 9223372036854775807) (kc : c ≤ 9223372036854775807) (ha : Strs w va f.args) (hA : (txs (f.args.map mk)).length ≤ 100000) (hB : f.body.length ≤ 2097152) :
    Calls Try.prog 26 #[.agg (fcells f va).toArray] w fun e w' => ∃ v, e = .returned v ∧ Src w' v (sn 2 ++ sn I ++ sn a ++ sn b ++ sn c ++ ls (f.args.map mk) ++ tx (mk f.body)) ∧ Below w.heap.size w w' := by
  obtain ⟨av, cv, ev⟩ := ha.shape
  have HEV := hid ev
  clear ev
  have HNB := hid (hp_new w (.cells (fcells f va).toArray 29))
  have HBL := hid (below_walk w (.cells (fcells f va).toArray 29))
  have HSA := hid (ha.below HBL.out)
  have HF := hid hf
  have HK := hid hk
  have E_i := hid hi
  have E_l1 := hid h1
  have E_l2 := hid h2
  have E_l3 := hid h3
  have HTX := hid (tx_len2 (mk f.body))
  rw [mk_size] at HTX
  have hll : (ls (f.args.map mk)).length ≤ 100010 := by
    have := sn_length_le (f.args.map mk).length
    unfold ls
    rw [List.length_append]
    omega
  have len_I := sn_length_le I
  have len_a := sn_length_le a
  have wr_a : IntKind.u64.wrap (a : Int) = (a : Int) := by rw [IntKind.wrap_u64]; omega
  have len_b := sn_length_le b
  have wr_b : IntKind.u64.wrap (b : Int) = (b : Int) := by rw [IntKind.wrap_u64]; omega
  have len_c := sn_length_le c
  have wr_c : IntKind.u64.wrap (c : Int) = (c : Int) := by rw [IntKind.wrap_u64]; omega
  have len0 := sn_length_le 2
  have w0 : IntKind.u64.wrap 2 = 2 := rfl
  clear hf hk hi h1 h2 h3 ha
  go_enter Try.func26, Try.ntmps26
  go_upto_region 1 with fail
  generalize w.alloc (.cells (fcells f va).toArray 29) = w1 at HNB HBL HSA ⊢
  have HFB1 := hid (Fb.of HNB.out HF.out)
  have HL1 := hid (hp_lt HNB.out)
  have x0 := HFB1.out.k
  rw [HK.out] at x0
  go_wp2_with fail
  refine (refUint_any 2 w1 (by decide)).mono ?_
  rintro e w2 ⟨v2, rfl, ho2, hb2⟩
  have HO2 := hid ho2
  have HB2 := hid (below_then HBL.out hb2)
  have HFB2 := hid (HFB1.out.below HL1.out hb2)
  have HL2 := hid (Nat.lt_of_lt_of_le HL1.out hb2.size)
  have HZ2 := hid hb2.size
  have HSA2 := hid (HSA.out.below hb2)
  have x1 := HFB2.out.k
  rw [HK.out] at x1
  obtain ⟨a2, n2, c2, e2⟩ := src_named (ho2.src (by omega))
  subst e2
  clear ho2 hb2 x0 HFB1 HNB
  have y3 := HFB2.out.i
  rw [E_i.out] at y3
  go_wp2_with fail
  refine (refUint_any I w2 (by omega)).mono ?_
  rintro e p3 ⟨u3, rfl, hou3, hbu3⟩
  have HU3 := hid (hou3.src (by omega))
  have HP3 := hid (HO2.out.below hbu3)
  have HBP3 := hid (below_then HB2.out hbu3)
  have HFP3 := hid (HFB2.out.below HL2.out hbu3)
  have HLP3 := hid (Nat.lt_of_lt_of_le HL2.out hbu3.size)
  have HZP3 := hid (Nat.le_trans HZ2.out hbu3.size)
  have HSP3 := hid (HSA2.out.below hbu3)
  obtain ⟨au3, nu3, cu3, eu3⟩ := src_named HU3.out
  subst eu3
  clear hou3 hbu3 y3 HO2 HB2 HFB2 HL2 HZ2 HSA2 x1
  go_wp2_with (at_builtin; refine app_src rfl _ _ rfl w1.heap.size _ _ rfl HP3.out _ _ rfl HU3.out (by (try simp only [List.length_append]); have := HTX.out; omega) HZP3.out ?_)
  intro v3 w3 ho3 hg3
  have HO3 := hid ho3
  have hbb3 : Below w1.heap.size p3 w3 := ⟨hg3.os, hg3.tape, hg3.output, hg3.size, fun k hk => hg3.block k (by have := HZP3.out; omega) (fun e => by have := (HP3.out.lt k e.symm).1; omega)⟩
  have HB3 := hid (show Below w.heap.size w w3 from below_tr HBP3.out (hbb3.mono (by have := HBL.out.size; omega)))
  have HFB3 := hid (show Fb w3 w.heap.size f va from fb_at HFP3.out HL1.out hbb3)
  have HL3 := hid (Nat.lt_of_lt_of_le HLP3.out hg3.size)
  have HZ3 := hid (Nat.le_trans HZP3.out hg3.size)
  have HSA3 := hid (strs_at HSP3.out HSA.out hbb3)
  obtain ⟨a3, n3, c3, e3⟩ := src_named (ho3.src (by (try simp only [List.length_append]); have := HTX.out; omega))
  subst e3
  clear ho3 hg3 hbb3 HP3 HU3 HBP3 HFP3 HLP3 HZP3 HSP3
  have y4 := HFB3.out.l1
  rw [E_l1.out] at y4
  go_wp2_with fail
  refine (refUint_any a w3 (by omega)).mono ?_
  rintro e p4 ⟨u4, rfl, hou4, hbu4⟩
  have HU4 := hid (hou4.src (by omega))
  have HP4 := hid (HO3.out.below hbu4)
  have HBP4 := hid (below_then HB3.out hbu4)
  have HFP4 := hid (HFB3.out.below HL3.out hbu4)
  have HLP4 := hid (Nat.lt_of_lt_of_le HL3.out hbu4.size)
  have HZP4 := hid (Nat.le_trans HZ3.out hbu4.size)
  have HSP4 := hid (HSA3.out.below hbu4)
  obtain ⟨au4, nu4, cu4, eu4⟩ := src_named HU4.out
  subst eu4
  clear hou4 hbu4 y4 HO3 HB3 HFB3 HL3 HZ3 HSA3 
  go_wp2_with (at_builtin; refine app_src rfl _ _ rfl w1.heap.size _ _ rfl HP4.out _ _ rfl HU4.out (by (try simp only [List.length_append]); have := HTX.out; omega) HZP4.out ?_)
  intro v4 w4 ho4 hg4
  have HO4 := hid ho4
  have hbb4 : Below w1.heap.size p4 w4 := ⟨hg4.os, hg4.tape, hg4.output, hg4.size, fun k hk => hg4.block k (by have := HZP4.out; omega) (fun e => by have := (HP4.out.lt k e.symm).1; omega)⟩
  have HB4 := hid (show Below w.heap.size w w4 from below_tr HBP4.out (hbb4.mono (by have := HBL.out.size; omega)))
  have HFB4 := hid (show Fb w4 w.heap.size f va from fb_at HFP4.out HL1.out hbb4)
  have HL4 := hid (Nat.lt_of_lt_of_le HLP4.out hg4.size)
  have HZ4 := hid (Nat.le_trans HZP4.out hg4.size)
  have HSA4 := hid (strs_at HSP4.out HSA.out hbb4)
  obtain ⟨a4, n4, c4, e4⟩ := src_named (ho4.src (by (try simp only [List.length_append]); have := HTX.out; omega))
  subst e4
  clear ho4 hg4 hbb4 HP4 HU4 HBP4 HFP4 HLP4 HZP4 HSP4
  have y5 := HFB4.out.l2
  rw [E_l2.out] at y5
  go_wp2_with fail
  refine (refUint_any b w4 (by omega)).mono ?_
  rintro e p5 ⟨u5, rfl, hou5, hbu5⟩
  have HU5 := hid (hou5.src (by omega))
  have HP5 := hid (HO4.out.below hbu5)
  have HBP5 := hid (below_then HB4.out hbu5)
  have HFP5 := hid (HFB4.out.below HL4.out hbu5)
  have HLP5 := hid (Nat.lt_of_lt_of_le HL4.out hbu5.size)
  have HZP5 := hid (Nat.le_trans HZ4.out hbu5.size)
  have HSP5 := hid (HSA4.out.below hbu5)
  obtain ⟨au5, nu5, cu5, eu5⟩ := src_named HU5.out
  subst eu5
  clear hou5 hbu5 y5 HO4 HB4 HFB4 HL4 HZ4 HSA4 
  go_wp2_with (at_builtin; refine app_src rfl _ _ rfl w1.heap.size _ _ rfl HP5.out _ _ rfl HU5.out (by (try simp only [List.length_append]); have := HTX.out; omega) HZP5.out ?_)
  intro v5 w5 ho5 hg5
  have HO5 := hid ho5
  have hbb5 : Below w1.heap.size p5 w5 := ⟨hg5.os, hg5.tape, hg5.output, hg5.size, fun k hk => hg5.block k (by have := HZP5.out; omega) (fun e => by have := (HP5.out.lt k e.symm).1; omega)⟩
  have HB5 := hid (show Below w.heap.size w w5 from below_tr HBP5.out (hbb5.mono (by have := HBL.out.size; omega)))
  have HFB5 := hid (show Fb w5 w.heap.size f va from fb_at HFP5.out HL1.out hbb5)
  have HL5 := hid (Nat.lt_of_lt_of_le HLP5.out hg5.size)
  have HZ5 := hid (Nat.le_trans HZP5.out hg5.size)
  have HSA5 := hid (strs_at HSP5.out HSA.out hbb5)
  obtain ⟨a5, n5, c5, e5⟩ := src_named (ho5.src (by (try simp only [List.length_append]); have := HTX.out; omega))
  subst e5
  clear ho5 hg5 hbb5 HP5 HU5 HBP5 HFP5 HLP5 HZP5 HSP5
  have y6 := HFB5.out.l3
  rw [E_l3.out] at y6
  go_wp2_with fail
  refine (refUint_any c w5 (by omega)).mono ?_
  rintro e p6 ⟨u6, rfl, hou6, hbu6⟩
  have HU6 := hid (hou6.src (by omega))
  have HP6 := hid (HO5.out.below hbu6)
  have HBP6 := hid (below_then HB5.out hbu6)
  have HFP6 := hid (HFB5.out.below HL5.out hbu6)
  have HLP6 := hid (Nat.lt_of_lt_of_le HL5.out hbu6.size)
  have HZP6 := hid (Nat.le_trans HZ5.out hbu6.size)
  have HSP6 := hid (HSA5.out.below hbu6)
  obtain ⟨au6, nu6, cu6, eu6⟩ := src_named HU6.out
  subst eu6
  clear hou6 hbu6 y6 HO5 HB5 HFB5 HL5 HZ5 HSA5 
  go_wp2_with (at_builtin; refine app_src rfl _ _ rfl w1.heap.size _ _ rfl HP6.out _ _ rfl HU6.out (by (try simp only [List.length_append]); have := HTX.out; omega) HZP6.out ?_)
  intro v6 w6 ho6 hg6
  have HO6 := hid ho6
  have hbb6 : Below w1.heap.size p6 w6 := ⟨hg6.os, hg6.tape, hg6.output, hg6.size, fun k hk => hg6.block k (by have := HZP6.out; omega) (fun e => by have := (HP6.out.lt k e.symm).1; omega)⟩
  have HB6 := hid (show Below w.heap.size w w6 from below_tr HBP6.out (hbb6.mono (by have := HBL.out.size; omega)))
  have HFB6 := hid (show Fb w6 w.heap.size f va from fb_at HFP6.out HL1.out hbb6)
  have HL6 := hid (Nat.lt_of_lt_of_le HLP6.out hg6.size)
  have HZ6 := hid (Nat.le_trans HZP6.out hg6.size)
  have HSA6 := hid (strs_at HSP6.out HSA.out hbb6)
  obtain ⟨a6, n6, c6, e6⟩ := src_named (ho6.src (by (try simp only [List.length_append]); have := HTX.out; omega))
  subst e6
  clear ho6 hg6 hbb6 HP6 HU6 HBP6 HFP6 HLP6 HZP6 HSP6
  have y7 := HFB6.out.a
  rw [HEV.out] at y7
  go_wp2_with fail
  refine (refList_any _ (f.args.map mk) w6 (by rw [← HEV.out]; exact wstrs_of HSA6.out) (by omega)).mono ?_
  rintro e p7 ⟨u7, rfl, hou7, hbu7⟩
  have HU7 := hid (hou7.src (by omega))
  have HP7 := hid (HO6.out.below hbu7)
  have HBP7 := hid (below_then HB6.out hbu7)
  have HFP7 := hid (HFB6.out.below HL6.out hbu7)
  have HLP7 := hid (Nat.lt_of_lt_of_le HL6.out hbu7.size)
  have HZP7 := hid (Nat.le_trans HZ6.out hbu7.size)
  have HSP7 := hid (HSA6.out.below hbu7)
  obtain ⟨au7, nu7, cu7, eu7⟩ := src_named HU7.out
  subst eu7
  clear hou7 hbu7 y7 HO6 HB6 HFB6 HL6 HZ6 HSA6 
  go_wp2_with (at_builtin; refine app_src rfl _ _ rfl w1.heap.size _ _ rfl HP7.out _ _ rfl HU7.out (by (try simp only [List.length_append]); have := HTX.out; omega) HZP7.out ?_)
  intro v7 w7 ho7 hg7
  have HO7 := hid ho7
  have hbb7 : Below w1.heap.size p7 w7 := ⟨hg7.os, hg7.tape, hg7.output, hg7.size, fun k hk => hg7.block k (by have := HZP7.out; omega) (fun e => by have := (HP7.out.lt k e.symm).1; omega)⟩
  have HB7 := hid (show Below w.heap.size w w7 from below_tr HBP7.out (hbb7.mono (by have := HBL.out.size; omega)))
  have HFB7 := hid (show Fb w7 w.heap.size f va from fb_at HFP7.out HL1.out hbb7)
  have HL7 := hid (Nat.lt_of_lt_of_le HLP7.out hg7.size)
  have HZ7 := hid (Nat.le_trans HZP7.out hg7.size)
  have HSA7 := hid (strs_at HSP7.out HSA.out hbb7)
  obtain ⟨a7, n7, c7, e7⟩ := src_named (ho7.src (by (try simp only [List.length_append]); have := HTX.out; omega))
  subst e7
  clear ho7 hg7 hbb7 HP7 HU7 HBP7 HFP7 HLP7 HZP7 HSP7
  have y8 := HFB7.out.bd
  go_wp2_with fail
  refine (refText_any (mk f.body) w7 (by rw [mk_size]; omega)).mono ?_
  rintro e p8 ⟨u8, rfl, hou8, hbu8⟩
  have HU8 := hid (hou8.src (by have := HTX.out; omega))
  have HP8 := hid (HO7.out.below hbu8)
  have HBP8 := hid (below_then HB7.out hbu8)
  have HFP8 := hid (HFB7.out.below HL7.out hbu8)
  have HLP8 := hid (Nat.lt_of_lt_of_le HL7.out hbu8.size)
  have HZP8 := hid (Nat.le_trans HZ7.out hbu8.size)
  have HSP8 := hid (HSA7.out.below hbu8)
  obtain ⟨au8, nu8, cu8, eu8⟩ := src_named HU8.out
  subst eu8
  clear hou8 hbu8 y8 HO7 HB7 HFB7 HL7 HZ7 HSA7 
  go_wp2_with (at_builtin; refine app_src rfl _ _ rfl w1.heap.size _ _ rfl HP8.out _ _ rfl HU8.out (by (try simp only [List.length_append]); have := HTX.out; omega) HZP8.out ?_)
  intro v8 w8 ho8 hg8
  have HO8 := hid ho8
  have hbb8 : Below w1.heap.size p8 w8 := ⟨hg8.os, hg8.tape, hg8.output, hg8.size, fun k hk => hg8.block k (by have := HZP8.out; omega) (fun e => by have := (HP8.out.lt k e.symm).1; omega)⟩
  have HB8 := hid (show Below w.heap.size w w8 from below_tr HBP8.out (hbb8.mono (by have := HBL.out.size; omega)))
  have HFB8 := hid (show Fb w8 w.heap.size f va from fb_at HFP8.out HL1.out hbb8)
  have HL8 := hid (Nat.lt_of_lt_of_le HLP8.out hg8.size)
  have HZ8 := hid (Nat.le_trans HZP8.out hg8.size)
  have HSA8 := hid (strs_at HSP8.out HSA.out hbb8)
  obtain ⟨a8, n8, c8, e8⟩ := src_named (ho8.src (by (try simp only [List.length_append]); have := HTX.out; omega))
  subst e8
  clear ho8 hg8 hbb8 HP8 HU8 HBP8 HFP8 HLP8 HZP8 HSP8
  have xz := HFB8.out.k
  have hz9 := HO8.out.src (by (try simp only [List.length_append]); have := HTX.out; omega)
  have HSZ := hid (show Src w8 (.slice a8 n8 c8) (sn 2 ++ sn I ++ sn a ++ sn b ++ sn c ++ ls (f.args.map mk) ++ tx (mk f.body)) by first | exact hz9 | simpa only [List.append_assoc] using hz9)
  clear hz9
  go_wp2
  go_ret
  exact ⟨_, rfl, HSZ.out, HB8.out⟩

end Go.Proofs.Ytjinkahlfigdcaa
