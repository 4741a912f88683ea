/- Contracts and pure facts that the proof needs, joined. -/
import Derived.Test.YtiibhccbbpgehaaGreatG8
import Derived.Deep.CutRange
import Derived.Test.YtiibhccbbpgehaaGreatG6
import Derived.Test.YtiibhccbbpgehaaGreatG4
import Derived.Test.YtiibhccbbpgehaaGreatG7

/- The document's Some. -/
namespace Go.Proofs.YtiibhccbbpgehaaGreat
open Go.RowKit Go.BigFrame

theorem results_cttc {fn : Func} {p r q z : Tmp} {ty ty2 : TypeId} (h : fn.results = #[.cell p ty, .tmp r, .tmp q, .cell z ty2]) (tmps : Array Value) (P : Program) (w : World) :
    (results fn tmps).run P w = ((asAddr (tmps.getD p undef)).run P w).andThen fun a w₁ => ((loadVar ty a).run P w₁).andThen fun v w₂ => ((asAddr (tmps.getD z undef)).run P w₂).andThen fun a2 w₃ => ((loadVar ty2 a2).run P w₃).andThen fun v2 w₄ => .ok (.tuple #[v, tmps.getD r undef, tmps.getD q undef, v2]) w₄ := by
  simp only [results, h]
  simp [Sem.run_bind, Result.andThen]
theorem ret_cttc {P : Program} {fn : Func} {R : Ending → World → Prop} {a : Act} {w : World} (p r q z : Tmp) (ty ty2 : TypeId) (h : fn.results = #[.cell p ty, .tmp r, .tmp q, .cell z ty2]) (g : Nat) (hp : a.tmps.getD p undef = .pointer (some ⟨g, 0, none⟩)) (g2 : Nat) (hq : a.tmps.getD z undef = .pointer (some ⟨g2, 0, none⟩))
    (cs : List Value) (t : TypeId) (hb : w.heap[g]? = some (.cells cs.toArray t (0, 0))) (d : TypeDesc) (hu : P.underlying ty = some d) (hd : d.isRow = true) (hi : (P.info? ty).map (·.size) = some cs.length)
    (cs2 : List Value) (t2 : TypeId) (hb2 : w.heap[g2]? = some (.cells cs2.toArray t2 (0, 0))) (d2 : TypeDesc) (hu2 : P.underlying ty2 = some d2) (hd2 : d2.isRow = true) (hi2 : (P.info? ty2).map (·.size) = some cs2.length)
    (v : Value) (hv : a.tmps.getD r undef = v) (u : Value) (hu9 : a.tmps.getD q undef = u)
    (hdf : a.defers = []) (hR : R (.returned (.tuple #[.agg cs.toArray, v, u, .agg cs2.toArray])) w) : bodyPost P fn R .ret a w := by
  refine bodyPost_ret (v := .tuple #[.agg cs.toArray, v, u, .agg cs2.toArray]) ?_ hdf hR
  rw [results_cttc h, hp, hq, hv, hu9]
  have h1 := run_loadVar_mid (P := P) w g 0 ty cs d (fun j v hv => by rw [Nat.zero_add, cell_of_row w g j cs.toArray t (0, 0) hb]; simpa using hv) hu hd hi
  have h2 := run_loadVar_mid (P := P) w g2 0 ty2 cs2 d2 (fun j v hv => by rw [Nat.zero_add, cell_of_row w g2 j cs2.toArray t2 (0, 0) hb2]; simpa using hv) hu2 hd2 hi2
  simp [asAddr, h1, h2]
theorem hp_three (w : World) (o p q : Obj) : (((w.alloc o).alloc p).alloc q).heap[w.heap.size]? = some o ∧ (((w.alloc o).alloc p).alloc q).heap[w.heap.size + 1]? = some p ∧ (((w.alloc o).alloc p).alloc q).heap[w.heap.size + 2]? = some q := by
  have h := hp_two w o p
  have hn := hp_new ((w.alloc o).alloc p) q
  refine ⟨?_, ?_, by simpa using hn⟩
  · rw [Below.heap_alloc _ q w.heap.size (by simp; omega)]; exact h.1
  · rw [Below.heap_alloc _ q (w.heap.size + 1) (by simp)]; exact h.2
theorem range_4 {W : World} {B M : Nat} {vr vs : Value} {s : Sx} (h : W.heap[B]? = some (.cells (sxC M vr vs s).toArray 47 (0, 0))) : W.rangeAt B 4 [.int .i64 s.why, .int .i64 s.wat] := by
  intro j u hu
  match j, hu with
  | 0, hu => simp at hu; subst hu; exact (cell_of_row _ B 4 _ _ _ h).trans rfl
  | 1, hu => simp at hu; subst hu; exact (cell_of_row _ B 5 _ _ _ h).trans rfl

def RSmP (w : World) (lo M : Nat) (a : Ra) (y t : Int) (e : Ending) (w' : World) : Prop :=
  ∃ vr vs vl fs, e = .returned (.tuple #[.agg (sxC M vr vs a.1).toArray, vl, .int .i64 (a.2.2 : Nat), .agg #[.int .i64 y, .int .i64 t]]) ∧ OwnB w' lo vr a.1.r ∧ OwnI w' lo vs a.1.szs ∧ OFs w' w.heap.size vl fs ∧ fs.map (·.1) = a.2.1 ∧ Below w.heap.size w w'
def stopQ (n : Int) : Nat → Bool := fun j => decide (0 ≤ n ∧ n ≤ (j : Int))

set_option maxRecDepth 100000 in
set_option maxHeartbeats 8000000 in
theorem rsome8_any (s : Sx) (vr vs vb : Value) (n : Int) (bs : List UInt8) (w : World) (b2 M : Nat) (hM : M ≤ 2097152) (hg : Gs M s) (ho : OwnB w b2 vr s.r) (hz : OwnI w b2 vs s.szs) (hs : Src w vb bs) (h0 : s.why = 0) (hc : s.came + bs.length ≤ 4611686018427387904) (hsz : s.szs.length + bs.length ≤ 90000000000) :
    Calls Tryz.prog 51 #[.agg (sxC M vr vs s).toArray, .int .i64 n, vb] w (RSmP w w.heap.size M (runP M (stopQ n) (s, [], 0) bs) (runP M (stopQ n) (s, [], 0) bs).1.why (runP M (stopQ n) (s, [], 0) bs).1.wat) := by
  have h1 : s.wat = 0 := (hg.ok h0).1
  have hfew := hg.few
  have HCO := hid (fun W (hb : Below w.heap.size w W) => rcopy8_any s vr vs W b2 M (ho.below hb) (own_below hz hb) (by omega) (by omega))
  have HON := hid (sxC_one (M := M) (vr := vr) (vs := vs) (s := s) (by obtain ⟨a, c, e⟩ := ho.shape; rw [e]; rfl) (by obtain ⟨a, c, e⟩ := hz.shape; rw [e]; rfl))
  have HS := hid hs
  have HG := hid hg
  obtain ⟨ax, cx, ex⟩ := src_shape hs
  subst ex
  have HW1 := hid (show Below w.heap.size w (((w.alloc (.cells (sxC M vr vs s).toArray 47)).alloc (.cells #[.int .i64 0, .slice none 0 0, .int .i64 0, .int .i64 0, .int .i64 0, .int .i64 0, .slice none 0 0] 47)).alloc (.cells #[.int .i64 0, .int .i64 0] 33)) from (below_walk2 w _ _).alloc (by simp; omega) _)
  have HNN := hid (show (((w.alloc (.cells (sxC M vr vs s).toArray 47)).alloc (.cells #[.int .i64 0, .slice none 0 0, .int .i64 0, .int .i64 0, .int .i64 0, .int .i64 0, .slice none 0 0] 47)).alloc (.cells #[.int .i64 0, .int .i64 0] 33)).heap[w.heap.size]? = some (.cells (sxC M vr vs s).toArray 47 (0, 0)) ∧ (((w.alloc (.cells (sxC M vr vs s).toArray 47)).alloc (.cells #[.int .i64 0, .slice none 0 0, .int .i64 0, .int .i64 0, .int .i64 0, .int .i64 0, .slice none 0 0] 47)).alloc (.cells #[.int .i64 0, .int .i64 0] 33)).heap[w.heap.size + 1]? = some (.cells (sxC 0 (.slice none 0 0) (.slice none 0 0) zS).toArray 47 (0, 0)) ∧ (((w.alloc (.cells (sxC M vr vs s).toArray 47)).alloc (.cells #[.int .i64 0, .slice none 0 0, .int .i64 0, .int .i64 0, .int .i64 0, .int .i64 0, .slice none 0 0] 47)).alloc (.cells #[.int .i64 0, .int .i64 0] 33)).heap[w.heap.size + 2]? = some (.cells #[.int .i64 0, .int .i64 0] 33 (0, 0)) from hp_three w _ _ _)
  have HZ1 : Hid ((w.alloc (.cells (sxC M vr vs s).toArray 47)).heap.size = w.heap.size + 1) := hid (by simp)
  have HZ2 : Hid (((w.alloc (.cells (sxC M vr vs s).toArray 47)).alloc (.cells #[.int .i64 0, .slice none 0 0, .int .i64 0, .int .i64 0, .int .i64 0, .int .i64 0, .slice none 0 0] 47)).heap.size = w.heap.size + 2) := hid (by simp)
  clear ho hz hs hg hfew
  go_enter Tryz.func51, Tryz.ntmps51
  go_upto_region 1 with (first
    | (refine bx_row (by rfl) 47 _ (by rfl) _ (by rfl) ?_)
    | (refine al_row (by rfl) 47 (by rfl) _ zeroStrm ?_)
    | (refine al_row (by rfl) 33 (by rfl) _ zeroFault ?_))
  try rw [HZ2.out]
  try rw [HZ1.out]
  obtain ⟨B, HBe⟩ : ∃ n, Hid (w.heap.size = n) := ⟨_, rfl⟩
  obtain ⟨R, HRe⟩ : ∃ n, Hid (B + 1 = n) := ⟨_, rfl⟩
  obtain ⟨F, HFe⟩ : ∃ n, Hid (B + 2 = n) := ⟨_, rfl⟩
  have HBR := hid (show R = B + 1 ∧ F = B + 2 from ⟨HRe.out.symm, HFe.out.symm⟩)
  have HRF := hid (show R ≠ F by have := HBR.out; omega)
  have HLW := hid (show w.heap.size ≤ B ∧ w.heap.size ≤ R ∧ w.heap.size ≤ F by have := HBe.out; have := HBR.out; omega)
  rw [HBe.out, HRe.out, HFe.out] at HNN ⊢
  generalize ((w.alloc (.cells (sxC M vr vs s).toArray 47)).alloc (.cells #[.int .i64 0, .slice none 0 0, .int .i64 0, .int .i64 0, .int .i64 0, .int .i64 0, .slice none 0 0] 47)).alloc (.cells #[.int .i64 0, .int .i64 0] 33) = w1 at HW1 HNN ⊢
  have HK1 := hid HNN.out.1
  have HR1 := hid HNN.out.2.1
  have HF1 := hid HNN.out.2.2
  clear HNN HZ1 HZ2
  have c4 : w1.cell? ⟨B, 4, none⟩ = some (.int .i64 0) := (cell_of_row _ B 4 _ _ _ HK1.out).trans (by rw [show (sxC M vr vs s).toArray[4]? = some (.int .i64 s.why) from rfl, h0])
  have c5 : w1.cell? ⟨B, 5, none⟩ = some (.int .i64 0) := (cell_of_row _ B 5 _ _ _ HK1.out).trans (by rw [show (sxC M vr vs s).toArray[5]? = some (.int .i64 s.wat) from rfl, h1])
  have n1 : ∀ W, (binOp .neq 33 (.agg #[.int .i64 0, .int .i64 0]) (.agg #[.int .i64 0, .int .i64 0])).run Tryz.prog W = .ok (.bool false) W := fun W => by rw [fault_neq]; simp
  have HSZ0 := hid (show (Tryz.prog.info? 47).map (·.size) = some (sxC M vr vs s).length from strmSize)
  have HC1 := hid (HCO.out w1 HW1.out)
  clear HCO
  obtain ⟨S0, HS0⟩ : ∃ l, Hid (sxC M vr vs s = l) := ⟨_, rfl⟩
  rw [HS0.out] at HSZ0 HK1 HC1
  go_wp2_with (first
    | (refine bd_row (by rfl) 33 #[] (by rfl) _ (by simp) _ built_fz ?_)
    | (refine ld_row (by rfl) 47 (.tmp 3) (by rfl) B (by rfl) S0 47 HK1.out _ Tryz.underlying47 rfl HSZ0.out ?_))
  refine HC1.out.mono ?_
  rintro e w2 ⟨vr2, vs2, rfl, ho2, hz2, hb2⟩
  have HK2 := hid (bel_keep hb2 HK1.out)
  have HR2 := hid (bel_keep hb2 HR1.out)
  have HF2 := hid (bel_keep hb2 HF1.out)
  have HQ2 := hid (below_then HW1.out hb2)
  have HO2 := hid (show OwnB w2 w.heap.size vr2 s.r from own_le ho2 HW1.out.size)
  have HI2 := hid (show OwnI w2 w.heap.size vs2 s.szs from own_le hz2 HW1.out.size)
  have HSZ2 := hid (show (Tryz.prog.info? 47).map (·.size) = some (sxC M vr2 vs2 s).length from strmSize)
  have HON2 := hid (sxC_one (M := M) (vr := vr2) (vs := vs2) (s := s) (by obtain ⟨a, c, e⟩ := ho2.shape; rw [e]; rfl) (by obtain ⟨a, c, e⟩ := hz2.shape; rw [e]; rfl))
  have HOL2 := hid (show S0.toArray.size = (sxC M vr2 vs2 s).length by rw [← HS0.out]; rfl)
  clear ho2 hz2 hb2 HC1 HK1 HR1 HF1 c4 c5 n1 HSZ0 HON
  obtain ⟨S2, HS2⟩ : ∃ l, Hid (sxC M vr2 vs2 s = l) := ⟨_, rfl⟩
  rw [HS2.out] at HSZ2 HON2 HOL2 ⊢
  go_upto_region 4 with (first
    | (refine st_row (by rfl) 47 _ _ (by rfl) B S2 (by rfl) (by rfl) 47 _ HK2.out HSZ2.out HOL2.out HON2.out ?_; intro w3 hw3))
  have HSB3 := hid (show Sb w3 w.heap.size B M vr2 vs2 s from ⟨HLW.out.1, by rw [HS2.out]; exact hw3.blk, own_far2 HO2.out hw3.grown (fun _ e h => own_block HO2.out HK2.out (by decide) (h ▸ e)), own_far2 HI2.out hw3.grown (fun _ e h => own_block HI2.out HK2.out (by decide) (h ▸ e))⟩)
  have HR3 := hid (gb_blk HR2.out hw3.grown (by have := HBR.out; simp; omega))
  have HF3 := hid (gb_blk HF2.out hw3.grown (by have := HBR.out; simp; omega))
  have HQ3 := hid (Below.of_gb HQ2.out hw3.grown HLW.out.1)
  clear hw3 HK2 HR2 HF2 HQ2 HO2 HI2 HSZ2 HON2 HOL2 HS2 HS0 HW1
  obtain ⟨Z, HZZ⟩ : ∃ a, Hid (runP M (stopQ n) (s, [], 0) bs = a) := ⟨_, rfl⟩
  rw [HZZ.out]
  go_wp2
  go_loopw [10, 11] (fun vl vi wr => ∃ (K : Nat) (vr vs : Value) (fs : List FV) (a : Ra), K ≤ bs.length ∧ vi = .int .i64 K ∧ Hid (runP M (stopQ n) (s, [], 0) (bs.take K) = a) ∧ Hid (a.2.2 = K) ∧ Hid (a.1.why = 0) ∧ Hid (a.1.szs.length ≤ s.szs.length + K) ∧ Hid (fs.map (·.1) = a.2.1) ∧ Hid (OFs wr w.heap.size vl fs) ∧ Hid (Sb wr w.heap.size B M vr vs a.1) ∧ Hid (wr.heap[R]? = some (.cells (sxC 0 (.slice none 0 0) (.slice none 0 0) zS).toArray 47 (0, 0))) ∧ Hid (wr.heap[F]? = some (.cells #[.int .i64 0, .int .i64 0] 33 (0, 0))) ∧ Hid (Below w.heap.size w wr)) (fun _ vi _ => bs.length - (intOf vi).toNat)
  case atStart => exact ⟨0, vr2, vs2, [], (s, [], 0), by omega, rfl, by rw [List.take_zero]; exact runP_nil _ _ _, rfl, hid h0, hid (by show s.szs.length ≤ s.szs.length + 0; omega), rfl, OFs.nil _ _, HSB3.out, HR3.out, HF3.out, HQ3.out⟩
  case round =>
    obtain ⟨K, vr3, vs3, fs, a, hk, rfl, HR, HTK, HWY, HSL, HFS, HOF, HSB, HRr, HFr, HQ⟩ := hrel
    obtain ⟨alv, clv, rfl⟩ := HOF.out.shape
    have HFL := hid (show fs.length = a.2.1.length by rw [← HFS.out, List.length_map])
    have HGa := hid (show Gs M a.1 by have := run_good (M := M) (q := stopQ n) (bs.take K) (a := (s, [], 0)) HG.out; rw [HR.out] at this; exact this)
    have HWT := hid (HGa.out.ok HWY.out).1
    have HSZr := hid (show (Tryz.prog.info? 47).map (·.size) = some (sxC M vr3 vs3 a.1).length from strmSize)
    have HONr := hid HSB.out.one
    have HBKr := hid HSB.out.blk
    obtain ⟨SC, HSC⟩ : ∃ l, Hid (sxC M vr3 vs3 a.1 = l) := ⟨_, rfl⟩
    have HOL := hid (show (sxC 0 (.slice none 0 0) (.slice none 0 0) zS).toArray.size = SC.length by rw [← HSC.out]; rfl)
    rw [HSC.out] at HSZr HONr HBKr
    have FIN : Hid (∀ w8 w9, RowSet wr w8 R SC 47 → RowSet w8 w9 F [Value.int .i64 0, .int .i64 0] 33 → runP M (stopQ n) a (bs.drop K) = a → RSmP w w.heap.size M Z Z.1.why Z.1.wat (.returned (.tuple #[.agg SC.toArray, .slice alv fs.length clv, .int .i64 (K : Int), .agg #[.int .i64 0, .int .i64 0]])) w9) := hid (by
      intro w8 w9 h8 h9 he
      have e : Z = a := by
        rw [← HZZ.out]
        conv => lhs; rw [← List.take_append_drop K bs]
        rw [runP_app, HR.out, he]
      rw [e]
      have HF8 := gb_blk HFr.out h8.grown (by have := HRF.out; simpa using this)
      have s8 := HSB.out.far h8.grown (by have := HBR.out; omega) (own_block HSB.out.own HRr.out (by decide)) (own_block HSB.out.szs HRr.out (by decide))
      have s9 := s8.far h9.grown (by have := HBR.out; omega) (own_block s8.own HF8 (by decide)) (own_block s8.szs HF8 (by decide))
      exact ⟨vr3, vs3, _, fs, by rw [HSC.out, HTK.out, HWY.out, HWT.out], s9.own, s9.szs, (HOF.out.gone h8.grown HRr.out (by decide) (by decide)).gone h9.grown HF8 (by decide) (by decide), HFS.out, Below.of_gb (Below.of_gb HQ.out h8.grown HLW.out.2.1) h9.grown HLW.out.2.2⟩)
    by_cases hlt : K < bs.length
    · have q1 : (K : Int) < (bs.length : Int) := by omega
      by_cases hq : 0 ≤ n ∧ n ≤ (fs.length : Int)
      · as_aux_lemma =>
          obtain ⟨q2, q3⟩ := hq
          have HE := hid (runP_stop M (stopQ n) a (Or.inl (by rw [← HFL.out]; exact decide_eq_true ⟨q2, q3⟩)) (bs.drop K))
          go_wp2_with (first
            | (refine ld_row (by rfl) 47 (.tmp 3) (by rfl) B (by rfl) SC 47 HBKr.out _ Tryz.underlying47 rfl HSZr.out ?_)
            | (refine bd_row (by rfl) 33 #[] (by rfl) _ (by simp) _ built_fz ?_)
            | (refine st_row (by rfl) 47 _ _ (by rfl) R SC (by rfl) (by rfl) 47 _ HRr.out HSZr.out HOL.out HONr.out ?_; intro w8 hw8; have HF8 := hid (gb_blk HFr.out hw8.grown (by have := HRF.out; simpa using this)))
            | (refine st_row (by rfl) 33 _ _ (by rfl) F [Value.int .i64 0, .int .i64 0] (by rfl) (by rfl) 33 _ HF8.out faultSize rfl (fault_one _ _) ?_; intro w9 hw9))

          have HRz := hid (gb_blk hw8.blk hw9.grown (by have := HRF.out; simp; omega))
          refine ret_cttc 6 7 8 9 47 33 rfl R rfl F rfl SC 47 HRz.out _ Tryz.underlying47 rfl HSZr.out [Value.int .i64 0, .int .i64 0] 33 hw9.blk _ Tryz.underlying33 rfl faultSize (.slice alv fs.length clv) rfl (.int .i64 (K : Int)) rfl rfl ?_
          rw [HZZ.out]
          exact FIN.out w8 w9 hw8 hw9 HE.out
      · have HQF := hid (show stopQ n a.2.1.length = false by rw [← HFL.out]; exact decide_eq_false hq)
        clear FIN
        go_upto_region 8 with fail
        go_cut [37] from 24 to 64 (fun s37 wx => s37 = .bool false ∧ wx = wr)
        case first =>
          by_cases hn : 0 ≤ n
          · have q3 : ¬ n ≤ (fs.length : Int) := fun h => hq ⟨hn, h⟩
            go_wp2
            go_meet
            exact ⟨rfl, rfl⟩
          · go_wp2
            go_meet
            exact ⟨rfl, rfl⟩
        case rest =>
          obtain ⟨rfl, hwx⟩ := hcut
          have hwx9 := hwx.symm
          subst hwx9
          clear hq
          obtain ⟨adx, exx, hcc⟩ := src_at (HS.out.below HQ.out) K hlt
          subst exx
          have HCL := hid (World.block_lt_of_cell? wr (adx.add K) hcc)
          obtain ⟨c, HCc⟩ : ∃ c, Hid (bs.getD K 0 = c) := ⟨_, rfl⟩
          rw [HCc.out] at hcc
          have HTA := hid (fun W (hW : Below wr.heap.size wr W) => rtake8_any a.1 vr3 vs3 c W w.heap.size M (HSB.out.own.below hW) (own_below HSB.out.szs hW) (Nat.le_trans HQ.out.size hW.size) (by have := HGa.out.few; omega) (by
            have h1 := run_came (M := M) (q := stopQ n) (bs.take K) (s, [], 0)
            rw [HR.out, HTK.out] at h1
            have h2 : (s, ([] : List Fr), 0).1.came = s.came := rfl
            have h3 : (s, ([] : List Fr), 0).2.2 = 0 := rfl
            omega) (by
            have h1 := run_came (M := M) (q := stopQ n) (bs.take K) (s, [], 0)
            rw [HR.out, HTK.out] at h1
            have h2 : (s, ([] : List Fr), 0).1.came = s.came := rfl
            have h3 : (s, ([] : List Fr), 0).2.2 = 0 := rfl
            have := HGa.out.wl
            omega) (by have := HSL.out; omega) HWY.out HWT.out HGa.out.le)
          rw [HSC.out] at HTA
          have HST := hid (show runP M (stopQ n) (s, [], 0) (bs.take (K + 1)) = ((takeC M a.1 [c]).1, a.2.1 ++ (takeC M a.1 [c]).2, K + 1) by
            rw [runP_snoc _ _ _ _ K hlt, HR.out, HCc.out]
            unfold stepQ
            rw [if_neg (by rw [HQF.out, HWY.out]; simp), HTK.out])
          have HSL2 := hid (show (takeC M a.1 [c]).1.szs.length ≤ s.szs.length + (K + 1) by
            have h1 := HSL.out
            unfold takeC
            repeat' split
            all_goals first | (show a.1.szs.length ≤ _; omega) | (show (a.1.szs ++ [_]).length ≤ _; rw [List.length_append]; simp; omega))
          obtain ⟨TT, HTT⟩ : ∃ t, Hid (takeC M a.1 [c] = t) := ⟨_, rfl⟩
          rw [HTT.out] at HTA HST HSL2
          have HFT := hid (show ∀ fs3 : List FV, fs3.map (·.1) = TT.2 → fs.length + fs3.length ≤ 1000000000000 by
            intro fs3 h3
            have h1 := run_few (M := M) (q := stopQ n) (bs.take (K + 1)) (s, [], 0)
            rw [HST.out] at h1
            have h2 : (a.2.1 ++ TT.2).length ≤ 0 + (bs.take (K + 1)).length := h1
            rw [List.length_append, ← HFL.out, ← h3, List.length_map, List.length_take] at h2
            omega)
          clear HQF
          go_upto_region 10 with fail
          refine wp_noPanic (wp_region_held_drew (S := fun W => W.heap[B]? = some (.cells SC.toArray 47 (0, 0)) ∧ W.cell? (adx.add K) = some (.int .u8 (c.toNat : Int))) (by kernel_rfl) ⟨HBKr.out, hcc⟩ ?_)
          intro hHeld
          refine wpAnyH_take (i := 0) (v := .agg SC.toArray) rfl (by kernel_rfl) (by kernel_rfl) (by kernel_rfl) (fun _ _ _ h => h) (yieldsIf_load_mid (by rfl) 47 (.tmp 3) rfl B 0 rfl SC _ (fun W hW => range_row hW.1) Tryz.underlying47 rfl HSZr.out) hHeld ?_
          simp only [Act.put, List.getElem_toArray, List.getElem_cons_zero, List.setIfInBounds_toArray, List.set_cons_succ, List.set_cons_zero]
          refine wpAnyH_take (i := 1) (v := .slice (some adx) bs.length cx) rfl (by kernel_rfl) (by kernel_rfl) (by kernel_rfl) (fun _ _ _ h => h) (Or.inl ⟨by rfl, fun W _ => by go_simp⟩) hHeld ?_
          simp only [Act.put, List.getElem_toArray, List.getElem_cons_zero, List.getElem_cons_succ, List.setIfInBounds_toArray, List.set_cons_succ, List.set_cons_zero]
          refine wpAnyH_take (i := 2) (v := .int .i64 (K : Int)) rfl (by kernel_rfl) (by kernel_rfl) (by kernel_rfl) (fun _ _ _ h => h) (Or.inl ⟨by rfl, fun W _ => by go_simp⟩) hHeld ?_
          simp only [Act.put, List.getElem_toArray, List.getElem_cons_zero, List.getElem_cons_succ, List.setIfInBounds_toArray, List.set_cons_succ, List.set_cons_zero]
          refine wpAnyH_take (i := 3) (v := .pointer (some (adx.add K))) rfl (by kernel_rfl) (by kernel_rfl) (by kernel_rfl) (fun _ _ _ h => h) (Or.inl ⟨by rfl, fun W _ => by have hfact := hlt; go_simp; first | done | simp [hfact]⟩) hHeld ?_
          simp only [Act.put, List.getElem_toArray, List.getElem_cons_zero, List.getElem_cons_succ, List.setIfInBounds_toArray, List.set_cons_succ, List.set_cons_zero]
          refine wpAnyH_take (i := 4) (v := .int .u8 (c.toNat : Int)) rfl (by kernel_rfl) (by kernel_rfl) (by kernel_rfl) (fun _ _ _ h => h) (Or.inl ⟨by rfl, fun W hW => by have hcell := hW.2; clear hW; go_simp⟩) hHeld ?_
          simp only [Act.put, List.getElem_toArray, List.getElem_cons_zero, List.getElem_cons_succ, List.setIfInBounds_toArray, List.set_cons_succ, List.set_cons_zero]
          have HD1 := hid (bel_drw wr 1)
          have HSBwq := hid (HSB.out.below HD1.out)
          have HRwq := hid (bel_keep HD1.out HRr.out)
          have HFwq := hid (bel_keep HD1.out HFr.out)
          have HOFwq := hid (HOF.out.below HD1.out)
          have HQwq := hid (below_then HQ.out HD1.out)
          have HXwq := hid ((show Below wr.heap.size wr (wr.drewN 1) from HD1.out))
          obtain ⟨wq, HWX⟩ : ∃ x, Hid (wr.drewN 1 = x) := ⟨_, rfl⟩
          have HWYq := hid (show wr.drew = wq from HWX.out)
          rw [HWX.out] at HSBwq HRwq HFwq HOFwq HQwq HXwq
          rw [HWYq.out]
          clear hHeld HD1
          have HCB := hid (show (adx.add K).block < w.heap.size by rw [addr_block]; obtain ⟨_, ⟨e, _⟩ | ⟨ad, cap, e, _, _, hb9, _⟩⟩ := HS.out; cases e; injection e with e; injection e with e; subst e; exact hb9 (by omega))
          have HKwq := hid HSBwq.out.blk
          have HC5wq := hid (show wq.cell? (adx.add K) = some (.int .u8 (c.toNat : Int)) from (HXwq.out.cell HCL.out).trans hcc)
          refine wpAnyH_ready (rs := [5, 9]) (by kernel_rfl) (by simp) ?_
          refine AllReadyH.cons rfl (fun K9 hK => ?_) (AllReadyH.cons rfl (fun K9 hK => ?_) AllReadyH.nil)
          · as_aux_lemma =>
              go_simp
              refine (HTA.out wq HXwq.out).mono ?_
              rintro e wa ⟨vr5, vs5, vl5, fs5, rfl, ho5, hz5, hof5, hm5, htk5⟩
              have HKwa := hid (htk5.bk _ _ _ HSBwq.out.blk (by decide) (by decide))
              have HRwa := hid (htk5.bk _ _ _ HRwq.out (by decide) (by decide))
              have HFwa := hid (htk5.bk _ _ _ HFwq.out (by decide) (by decide))
              have HOFwa := hid (htk5.fr _ _ _ HOFwq.out)
              have HQwa := hid (HQwq.out.trans htk5.bl)
              have HO5wa := hid (hof5.le (HQwq.out.size))
              have HB5wa := hid ho5
              have HI5wa := hid hz5
              have HM5 := hid hm5
              have HC5wa := hid (show wa.cell? (adx.add K) = some (.int .u8 (c.toNat : Int)) from (World.cell?_of_block (htk5.bl.block _ (HCB.out))).trans HC5wq.out)
              obtain ⟨a5, c5, e5⟩ := hof5.shape
              subst e5
              clear ho5 hz5 hof5 hm5 htk5
              go_wp2_with fail
              refine hK.out _ _ ⟨by rw [← HSC.out]; exact HKwa.out, HC5wa.out⟩ (fun hHeld => ?_)
              clear hK K9
              try simp only [Act.put, List.getElem_toArray, List.getElem_cons_zero, List.getElem_cons_succ, List.setIfInBounds_toArray, List.set_cons_succ, List.set_cons_zero]
              refine wpAnyH_take (i := 6) (v := .tuple #[.agg (sxC M vr5 vs5 TT.1).toArray, .slice a5 fs5.length c5]) rfl (by kernel_rfl) (by kernel_rfl) (by kernel_rfl) (fun _ _ _ h => h) (Or.inl ⟨by rfl, fun W _ => by go_simp⟩) hHeld ?_
              simp only [Act.put, List.getElem_toArray, List.getElem_cons_zero, List.getElem_cons_succ, List.setIfInBounds_toArray, List.set_cons_succ, List.set_cons_zero]
              refine wpAnyH_take (i := 7) (v := .agg (sxC M vr5 vs5 TT.1).toArray) rfl (by kernel_rfl) (by kernel_rfl) (by kernel_rfl) (fun _ _ _ h => h) (Or.inl ⟨by rfl, fun W _ => by go_simp⟩) hHeld ?_
              simp only [Act.put, List.getElem_toArray, List.getElem_cons_zero, List.getElem_cons_succ, List.setIfInBounds_toArray, List.set_cons_succ, List.set_cons_zero]
              refine wpAnyH_take (i := 8) (v := .slice a5 fs5.length c5) rfl (by kernel_rfl) (by kernel_rfl) (by kernel_rfl) (fun _ _ _ h => h) (Or.inl ⟨by rfl, fun W _ => by go_simp⟩) hHeld ?_
              simp only [Act.put, List.getElem_toArray, List.getElem_cons_zero, List.getElem_cons_succ, List.setIfInBounds_toArray, List.set_cons_succ, List.set_cons_zero]
              refine wpAnyH_ready (rs := [9]) (by kernel_rfl) (by simp) ?_
              refine AllReadyH.cons rfl (fun K9 hK => ?_) AllReadyH.nil
              have HWF := hid (below_walk wa (.cells #[.int .i64 0, .slice none 0 0, .int .i64 0, .int .i64 0, .int .i64 0, .int .i64 0, .slice none 0 0] 47))
              have HEwb := hid (show (wa.alloc (.cells #[.int .i64 0, .slice none 0 0, .int .i64 0, .int .i64 0, .int .i64 0, .int .i64 0, .slice none 0 0] 47)).heap[wa.heap.size]? = some (.cells (sxC 0 (.slice none 0 0) (.slice none 0 0) zS).toArray 47 (0, 0)) from hp_new wa _)
              have HEl := hid (show w.heap.size ≤ wa.heap.size ∧ B < wa.heap.size ∧ R < wa.heap.size ∧ F < wa.heap.size from ⟨HQwa.out.size, hp_lt HKwa.out, hp_lt HRwa.out, hp_lt HFwa.out⟩)
              have HKwb := hid (bel_keep HWF.out HKwa.out)
              have HRwb := hid (bel_keep HWF.out HRwa.out)
              have HFwb := hid (bel_keep HWF.out HFwa.out)
              have HOFwb := hid (HOFwa.out.below HWF.out)
              have HQwb := hid (below_then HQwa.out HWF.out)
              have HC5wb := hid (show (wa.alloc (.cells #[.int .i64 0, .slice none 0 0, .int .i64 0, .int .i64 0, .int .i64 0, .int .i64 0, .slice none 0 0] 47)).cell? (adx.add K) = some (.int .u8 (c.toNat : Int)) from (HWF.out.cell (World.block_lt_of_cell? wa (adx.add K) HC5wa.out)).trans HC5wa.out)
              have HO5wb := hid (HO5wa.out.below HWF.out)
              have HB5wb := hid (HB5wa.out.below HWF.out)
              have HI5wb := hid (show OwnI (wa.alloc (.cells #[.int .i64 0, .slice none 0 0, .int .i64 0, .int .i64 0, .int .i64 0, .int .i64 0, .slice none 0 0] 47)) w.heap.size vs5 TT.1.szs from own_below HI5wa.out HWF.out)
              refine step_alloc_row8 (by rfl) 47 (by rfl) _ zeroStrm ?_
              refine hK.out _ _ ⟨by rw [← HSC.out]; exact HKwb.out, HC5wb.out⟩ (fun hHeld => ?_)
              clear hK K9
              try simp only [Act.put, List.getElem_toArray, List.getElem_cons_zero, List.getElem_cons_succ, List.setIfInBounds_toArray, List.set_cons_succ, List.set_cons_zero]
              obtain ⟨E, HEe⟩ : ∃ n, Hid (wa.heap.size = n) := ⟨_, rfl⟩
              rw [HEe.out] at HEwb HEl
              try rw [HEe.out]
              generalize wa.alloc (.cells #[.int .i64 0, .slice none 0 0, .int .i64 0, .int .i64 0, .int .i64 0, .int .i64 0, .slice none 0 0] 47) = wb at HKwb HRwb HFwb HOFwb HQwb HC5wb HEwb HO5wb HB5wb HI5wb hHeld ⊢
              have HSZ5 := hid (show (Tryz.prog.info? 47).map (·.size) = some (sxC M vr5 vs5 TT.1).length from strmSize)
              have HON5 := hid (sxC_one (M := M) (vr := vr5) (vs := vs5) (s := TT.1) (by obtain ⟨a, c, e⟩ := HB5wb.out.shape; rw [e]; rfl) (by obtain ⟨a, c, e⟩ := HI5wb.out.shape; rw [e]; rfl))
              have HOL5 := hid (show (sxC 0 (.slice none 0 0) (.slice none 0 0) zS).toArray.size = (sxC M vr5 vs5 TT.1).length from rfl)
              have HOB5 := hid (show SC.toArray.size = (sxC M vr5 vs5 TT.1).length by rw [← HSC.out]; rfl)
              obtain ⟨S5, HS5⟩ : ∃ l, Hid (sxC M vr5 vs5 TT.1 = l) := ⟨_, rfl⟩
              rw [HS5.out] at HSZ5 HON5 HOL5 HOB5
              try rw [HS5.out]
              refine wpAnyH_ready (rs := [10]) (by kernel_rfl) (by simp) ?_
              refine AllReadyH.cons rfl (fun K9 hK => ?_) AllReadyH.nil
              refine step_store_row (by rfl) 47 _ _ (by rfl) E S5 (by rfl) (by rfl) 47 _ HEwb.out HSZ5.out HOL5.out HON5.out ?_
              intro wz hwz
              have HKz := hid (gb_blk HKwb.out hwz.grown (by have := HEl.out; simp; omega))
              have HRz := hid (gb_blk HRwb.out hwz.grown (by have := HEl.out; simp; omega))
              have HFz := hid (gb_blk HFwb.out hwz.grown (by have := HEl.out; simp; omega))
              have HOFz := hid (HOFwb.out.gone hwz.grown HEwb.out (by decide) (by decide))
              have HO5z := hid (HO5wb.out.gone hwz.grown HEwb.out (by decide) (by decide))
              have HB5z := hid (show OwnB wz w.heap.size vr5 TT.1.r from own_far2 HB5wb.out hwz.grown (fun _ e h => own_block HB5wb.out HEwb.out (by decide) (h ▸ e)))
              have HI5z := hid (show OwnI wz w.heap.size vs5 TT.1.szs from own_far2 HI5wb.out hwz.grown (fun _ e h => own_block HI5wb.out HEwb.out (by decide) (h ▸ e)))
              have HQz := hid (Below.of_gb HQwb.out hwz.grown HEl.out.1)
              have HEz := hid hwz.blk
              have HCz := hid (show wz.cell? (adx.add K) = some (.int .u8 (c.toNat : Int)) from (World.cell?_of_block (hwz.grown.block _ (World.block_lt_of_cell? wb (adx.add K) HC5wb.out) (fun e => by have := HCB.out; have := HEl.out.1; simp at e; omega))).trans HC5wb.out)
              refine hK.out _ _ ⟨by rw [← HSC.out]; exact HKz.out, HCz.out⟩ (fun hHeld => ?_)
              clear hK K9
              try simp only [Act.put, List.getElem_toArray, List.getElem_cons_zero, List.getElem_cons_succ]
              refine wpAnyH_take (i := 11) (v := .slice a5 fs5.length c5) rfl (by kernel_rfl) (by kernel_rfl) (by kernel_rfl) (fun _ _ _ h => h) (Or.inl ⟨by rfl, fun W _ => by go_simp⟩) hHeld ?_
              simp only [Act.put, List.getElem_toArray, List.getElem_cons_zero, List.getElem_cons_succ, List.setIfInBounds_toArray, List.set_cons_succ, List.set_cons_zero]
              refine wpAnyH_done (by kernel_rfl) ?_ _
              simp only [noPanic]
              have HEB := hid (show E ≠ B ∧ E ≠ R ∧ E ≠ F by have := HEl.out; omega)
              have HTF := hid (HFT.out fs5 HM5.out)
              clear hHeld hwz
              go_upto_region 13 with (first
                | (refine ld_row (by rfl) 47 (.tmp 12) (by rfl) E (by rfl) S5 47 HEz.out _ Tryz.underlying47 rfl HSZ5.out ?_)
                | (refine st_row (by rfl) 47 _ _ (by rfl) B S5 (by rfl) (by rfl) 47 _ (by rw [← HSC.out]; exact HKz.out) HSZ5.out HOB5.out HON5.out ?_; intro w6 hw6; have HOF6 := hid (HOFz.out.gone hw6.grown HKz.out (by decide) (by decide)); have HO56 := hid (HO5z.out.gone hw6.grown HKz.out (by decide) (by decide)); have HZ6 := hid (Nat.le_trans HQz.out.size hw6.grown.size))
                | (at_builtin; refine app_frs (by rfl) _ _ rfl w.heap.size _ fs rfl HOF6.out fs5 _ rfl HO56.out.frs HO56.out.nilc (fun f hf => HO56.out.each f hf) HTF.out HZ6.out ?_; intro v7 w7 ho7 hg7 hp7; obtain ⟨a7, c7, e7⟩ := ho7.shape; rw [List.length_append] at e7; subst e7))
              have HSB6 := hid (show Sb w6 w.heap.size B M vr5 vs5 TT.1 from ⟨HLW.out.1, by rw [HS5.out]; exact hw6.blk, own_far2 HB5z.out hw6.grown (fun _ e h => own_block HB5z.out HKz.out (by decide) (h ▸ e)), own_far2 HI5z.out hw6.grown (fun _ e h => own_block HI5z.out HKz.out (by decide) (h ▸ e))⟩)
              have HR6 := hid (gb_blk HRz.out hw6.grown (by have := HBR.out; simp; omega))
              have HF6 := hid (gb_blk HFz.out hw6.grown (by have := HBR.out; simp; omega))
              have HQ6 := hid (Below.of_gb HQz.out hw6.grown HLW.out.1)
              have HSB7 := hid (show Sb w7 w.heap.size B M vr5 vs5 TT.1 from ⟨HLW.out.1, gb_blk HSB6.out.blk hg7 (own_block HOF6.out.own HSB6.out.blk (by decide)), own_grow HSB6.out.own hg7 HOF6.out.own (by decide), own_grow HSB6.out.szs hg7 HOF6.out.own (by decide)⟩)
              have HR7 := hid (gb_blk HR6.out hg7 (own_block HOF6.out.own HR6.out (by decide)))
              have HF7 := hid (gb_blk HF6.out hg7 (own_block HOF6.out.own HF6.out (by decide)))
              have HQ7 := hid (Below.of_gbo HQ6.out hg7 (fun k e => (World.ownsRow.lt HOF6.out.own k e).1))
              have HO7 := hid ho7
              clear ho7 hg7 hp7 hw6 HSB6 HR6 HF6 HQ6 HOF6 HO56 HZ6 HKz HRz HFz HOFz HO5z HB5z HI5z HQz HEz HCz
              have HG5 := hid (show Gs M TT.1 by have := run_good (M := M) (q := stopQ n) (bs.take (K + 1)) (a := (s, [], 0)) HG.out; rw [HST.out] at this; exact this)
              obtain ⟨y5, HY5⟩ : ∃ y, Hid (TT.1.why = y) := ⟨_, rfl⟩
              obtain ⟨t5, HT5⟩ : ∃ y, Hid (TT.1.wat = y) := ⟨_, rfl⟩
              have k4 : w7.cell? ⟨B, 4, none⟩ = some (.int .i64 y5) := by rw [← HY5.out]; exact HSB7.out.c4
              have k5 : w7.cell? ⟨B, 5, none⟩ = some (.int .i64 t5) := by rw [← HT5.out]; exact HSB7.out.c5
              have hwk : IntKind.i64.wrap ((K : Int) + 1) = ((K + 1 : Nat) : Int) := by rw [IntKind.wrap_i64]; omega
              by_cases hy5 : y5 = 0
              · as_aux_lemma =>
                  have ht5 : t5 = 0 := by rw [← HT5.out]; exact (HG5.out.ok (HY5.out.trans hy5)).1
                  have HY0 := hid (HY5.out.trans hy5)
                  subst hy5 ht5
                  have n1 : ∀ W, (binOp .neq 33 (.agg #[.int .i64 0, .int .i64 0]) (.agg #[.int .i64 0, .int .i64 0])).run Tryz.prog W = .ok (.bool false) W := fun W => by rw [fault_neq]; simp
                  go_wp2_with (first | (refine bd_row (by rfl) 33 #[] (by rfl) _ (by simp) _ built_fz ?_))
                  refine ⟨⟨K + 1, vr5, vs5, fs ++ fs5, _, hlt, by simp, HST.out, rfl, HY0.out, HSL2.out, ?_, HO7.out, HSB7.out, HR7.out, HF7.out, HQ7.out⟩, by simp [intOf]; omega⟩
                  rw [List.map_append, HFS.out, HM5.out]
                  exact hid rfl
              · as_aux_lemma =>
                  have n1 : ∀ W, (binOp .neq 33 (.agg #[.int .i64 y5, .int .i64 t5]) (.agg #[.int .i64 0, .int .i64 0])).run Tryz.prog W = .ok (.bool true) W := fun W => by rw [fault_neq]; simp [hy5]
                  have HZE := hid (show Z = (TT.1, a.2.1 ++ TT.2, K + 1) by
                    rw [← HZZ.out]
                    conv => lhs; rw [← List.take_append_drop (K + 1) bs]
                    rw [runP_app, HST.out]
                    exact runP_stop _ _ _ (Or.inr (by show TT.1.why ≠ 0; rw [HY5.out]; exact hy5)) _)
                  have HBK7 := hid HSB7.out.blk
                  have HRG4 := hid (fun (W : World) (h : W.heap[B]? = some (.cells S5.toArray 47 (0, 0))) => (show W.rangeAt B 4 [.int .i64 y5, .int .i64 t5] by rw [← HS5.out] at h; have := range_4 h; rw [HY5.out, HT5.out] at this; exact this))
                  rw [HS5.out] at HBK7
                  have HRZ := hid (show (sxC 0 (.slice none 0 0) (.slice none 0 0) zS).toArray.size = S5.length by rw [← HS5.out]; rfl)
                  clear hy5
                  go_upto_region 14 with (first | (refine bd_row (by rfl) 33 #[] (by rfl) _ (by simp) _ built_fz ?_))
                  refine wp_noPanic (wp_region_held_drew (S := fun W => W.heap[B]? = some (.cells S5.toArray 47 (0, 0))) (by kernel_rfl) HBK7.out ?_)
                  intro hHeld
                  refine wpAnyH_take (i := 0) (v := .agg S5.toArray) rfl (by kernel_rfl) (by kernel_rfl) (by kernel_rfl) (fun _ _ _ h => h) (yieldsIf_load_mid (by rfl) 47 (.tmp 3) rfl B 0 rfl S5 _ (fun W hW => range_row hW) Tryz.underlying47 rfl HSZ5.out) hHeld ?_
                  simp only [Act.put, List.getElem_toArray, List.getElem_cons_zero, List.setIfInBounds_toArray, List.set_cons_succ, List.set_cons_zero]
                  refine wpAnyH_take (i := 1) (v := .slice a7 (fs.length + fs5.length) c7) rfl (by kernel_rfl) (by kernel_rfl) (by kernel_rfl) (fun _ _ _ h => h) (Or.inl ⟨by rfl, fun W _ => by go_simp⟩) hHeld ?_
                  simp only [Act.put, List.getElem_toArray, List.getElem_cons_zero, List.getElem_cons_succ, List.setIfInBounds_toArray, List.set_cons_succ, List.set_cons_zero]
                  refine wpAnyH_take (i := 2) (v := .int .i64 (K : Int)) rfl (by kernel_rfl) (by kernel_rfl) (by kernel_rfl) (fun _ _ _ h => h) (Or.inl ⟨by rfl, fun W _ => by go_simp⟩) hHeld ?_
                  simp only [Act.put, List.getElem_toArray, List.getElem_cons_zero, List.getElem_cons_succ, List.setIfInBounds_toArray, List.set_cons_succ, List.set_cons_zero]
                  refine wpAnyH_take (i := 3) (v := .int .i64 ((K + 1 : Nat) : Int)) rfl (by kernel_rfl) (by kernel_rfl) (by kernel_rfl) (fun _ _ _ h => h) (Or.inl ⟨by rfl, fun W _ => by have hfact := hwk; go_simp; first | done | simp [hfact]⟩) hHeld ?_
                  simp only [Act.put, List.getElem_toArray, List.getElem_cons_zero, List.getElem_cons_succ, List.setIfInBounds_toArray, List.set_cons_succ, List.set_cons_zero]
                  refine wpAnyH_take (i := 4) (v := .pointer (some ⟨B, 4, none⟩)) rfl (by kernel_rfl) (by kernel_rfl) (by kernel_rfl) (fun _ _ _ h => h) (Or.inl ⟨by rfl, fun W _ => by go_simp⟩) hHeld ?_
                  simp only [Act.put, List.getElem_toArray, List.getElem_cons_zero, List.getElem_cons_succ, List.setIfInBounds_toArray, List.set_cons_succ, List.set_cons_zero]
                  refine wpAnyH_take (i := 5) (v := .agg [Value.int .i64 y5, .int .i64 t5].toArray) rfl (by kernel_rfl) (by kernel_rfl) (by kernel_rfl) (fun _ _ _ h => h) (yieldsIf_load_mid (by rfl) 33 (.tmp 63) rfl B 4 rfl [Value.int .i64 y5, .int .i64 t5] _ (fun W hW => HRG4.out W hW) Tryz.underlying33 rfl faultSize) hHeld ?_
                  simp only [Act.put, List.getElem_toArray, List.getElem_cons_zero, List.getElem_cons_succ, List.setIfInBounds_toArray, List.set_cons_succ, List.set_cons_zero]
                  have HD7 := hid (bel_drw w7 1)
                  have HSB8 := hid (HSB7.out.below HD7.out)
                  have HR8 := hid (bel_keep HD7.out HR7.out)
                  have HF8 := hid (bel_keep HD7.out HF7.out)
                  have HO8 := hid (HO7.out.below HD7.out)
                  have HQ8 := hid (below_then HQ7.out HD7.out)
                  obtain ⟨wp, HWX7⟩ : ∃ x, Hid (w7.drewN 1 = x) := ⟨_, rfl⟩
                  have HWY7 := hid (show w7.drew = wp from HWX7.out)
                  rw [HWX7.out] at HSB8 HR8 HF8 HO8 HQ8
                  rw [HWY7.out]
                  clear hHeld HD7
                  refine wpAnyH_ready (rs := [6]) (by kernel_rfl) (by simp) ?_
                  refine AllReadyH.cons rfl (fun K9 hK => ?_) AllReadyH.nil
                  refine step_store_row (by rfl) 47 _ _ (by rfl) R S5 (by rfl) (by rfl) 47 _ HR8.out HSZ5.out HRZ.out HON5.out ?_
                  intro w8 hw8
                  have HSB9 := hid (HSB8.out.far hw8.grown (by have := HBR.out; omega) (own_block HSB8.out.own HR8.out (by decide)) (own_block HSB8.out.szs HR8.out (by decide)))
                  have HF9 := hid (gb_blk HF8.out hw8.grown (by have := HRF.out; simpa using this))
                  have HO9 := hid (HO8.out.gone hw8.grown HR8.out (by decide) (by decide))
                  have HQ9 := hid (Below.of_gb HQ8.out hw8.grown HLW.out.2.1)
                  refine hK.out _ _ (by rw [← HS5.out]; exact HSB9.out.blk) (fun hHeld => ?_)
                  clear hK K9
                  try simp only [Act.put, List.getElem_toArray, List.getElem_cons_zero, List.getElem_cons_succ]
                  refine wpAnyH_take (i := 7) (v := .slice a7 (fs.length + fs5.length) c7) rfl (by kernel_rfl) (by kernel_rfl) (by kernel_rfl) (fun _ _ _ h => h) (Or.inl ⟨by rfl, fun W _ => by go_simp⟩) hHeld ?_
                  simp only [Act.put, List.getElem_toArray, List.getElem_cons_zero, List.getElem_cons_succ, List.setIfInBounds_toArray, List.set_cons_succ, List.set_cons_zero]
                  refine wpAnyH_take (i := 8) (v := .int .i64 ((K + 1 : Nat) : Int)) rfl (by kernel_rfl) (by kernel_rfl) (by kernel_rfl) (fun _ _ _ h => h) (Or.inl ⟨by rfl, fun W _ => by go_simp⟩) hHeld ?_
                  simp only [Act.put, List.getElem_toArray, List.getElem_cons_zero, List.getElem_cons_succ, List.setIfInBounds_toArray, List.set_cons_succ, List.set_cons_zero]
                  refine wpAnyH_ready (rs := [9]) (by kernel_rfl) (by simp) ?_
                  refine AllReadyH.cons rfl (fun K9 hK => ?_) AllReadyH.nil
                  refine step_store_row (by rfl) 33 _ _ (by rfl) F [Value.int .i64 y5, .int .i64 t5] (by rfl) (by rfl) 33 _ HF9.out faultSize rfl (fault_one _ _) ?_
                  intro w9 hw9
                  have HSBz := hid (HSB9.out.far hw9.grown (by have := HBR.out; omega) (own_block HSB9.out.own HF9.out (by decide)) (own_block HSB9.out.szs HF9.out (by decide)))
                  have HRz9 := hid (gb_blk hw8.blk hw9.grown (by have := HRF.out; simp; omega))
                  have HOz9 := hid (HO9.out.gone hw9.grown HF9.out (by decide) (by decide))
                  have HQz9 := hid (Below.of_gb HQ9.out hw9.grown HLW.out.2.2)
                  refine hK.out _ _ (by rw [← HS5.out]; exact HSBz.out.blk) (fun hHeld => ?_)
                  clear hK K9
                  try simp only [Act.put, List.getElem_toArray, List.getElem_cons_zero, List.getElem_cons_succ]
                  refine wpAnyH_done (by kernel_rfl) ?_ _
                  simp only [noPanic]
                  clear hHeld
                  go_wp2
                  refine ret_cttc 6 7 8 9 47 33 rfl R rfl F rfl S5 47 HRz9.out _ Tryz.underlying47 rfl HSZ5.out [Value.int .i64 y5, .int .i64 t5] 33 hw9.blk _ Tryz.underlying33 rfl faultSize (.slice a7 (fs.length + fs5.length) c7) rfl (.int .i64 ((K + 1 : Nat) : Int)) rfl rfl ?_
                  rw [HZZ.out, HZE.out]
                  exact ⟨vr5, vs5, _, fs ++ fs5, by rw [← HS5.out, HY5.out, HT5.out], HSBz.out.own, HSBz.out.szs, HOz9.out, by rw [List.map_append, HFS.out, HM5.out], HQz9.out⟩
          · as_aux_lemma =>
              have HWF := hid (below_walk wq (.cells #[.int .i64 0, .slice none 0 0, .int .i64 0, .int .i64 0, .int .i64 0, .int .i64 0, .slice none 0 0] 47))
              have HEwa := hid (show (wq.alloc (.cells #[.int .i64 0, .slice none 0 0, .int .i64 0, .int .i64 0, .int .i64 0, .int .i64 0, .slice none 0 0] 47)).heap[wq.heap.size]? = some (.cells (sxC 0 (.slice none 0 0) (.slice none 0 0) zS).toArray 47 (0, 0)) from hp_new wq _)
              have HEl := hid (show w.heap.size ≤ wq.heap.size ∧ B < wq.heap.size ∧ R < wq.heap.size ∧ F < wq.heap.size from ⟨HQwq.out.size, hp_lt HKwq.out, hp_lt HRwq.out, hp_lt HFwq.out⟩)
              have HKwa := hid (bel_keep HWF.out HKwq.out)
              have HRwa := hid (bel_keep HWF.out HRwq.out)
              have HFwa := hid (bel_keep HWF.out HFwq.out)
              have HOFwa := hid (HOFwq.out.below HWF.out)
              have HQwa := hid (below_then HQwq.out HWF.out)
              have HC5wa := hid (show (wq.alloc (.cells #[.int .i64 0, .slice none 0 0, .int .i64 0, .int .i64 0, .int .i64 0, .int .i64 0, .slice none 0 0] 47)).cell? (adx.add K) = some (.int .u8 (c.toNat : Int)) from (HWF.out.cell (World.block_lt_of_cell? wq (adx.add K) HC5wq.out)).trans HC5wq.out)
              have HSBwa := hid (HSBwq.out.below HWF.out)
              have HXwa := hid (below_then HXwq.out HWF.out)
              refine step_alloc_row8 (by rfl) 47 (by rfl) _ zeroStrm ?_
              refine hK.out _ _ ⟨by rw [← HSC.out]; exact HKwa.out, HC5wa.out⟩ (fun hHeld => ?_)
              clear hK K9
              try simp only [Act.put, List.getElem_toArray, List.getElem_cons_zero, List.getElem_cons_succ, List.setIfInBounds_toArray, List.set_cons_succ, List.set_cons_zero]
              obtain ⟨E, HEe⟩ : ∃ n, Hid (wq.heap.size = n) := ⟨_, rfl⟩
              rw [HEe.out] at HEwa HEl
              try rw [HEe.out]
              generalize wq.alloc (.cells #[.int .i64 0, .slice none 0 0, .int .i64 0, .int .i64 0, .int .i64 0, .int .i64 0, .slice none 0 0] 47) = wa at HKwa HRwa HFwa HOFwa HQwa HC5wa HEwa HSBwa HXwa hHeld ⊢
              refine wpAnyH_ready (rs := [5]) (by kernel_rfl) (by simp) ?_
              refine AllReadyH.cons rfl (fun K9 hK => ?_) AllReadyH.nil
              go_simp
              refine (HTA.out wa HXwa.out).mono ?_
              rintro e wb ⟨vr5, vs5, vl5, fs5, rfl, ho5, hz5, hof5, hm5, htk5⟩
              have HKwb := hid (htk5.bk _ _ _ HSBwa.out.blk (by decide) (by decide))
              have HRwb := hid (htk5.bk _ _ _ HRwa.out (by decide) (by decide))
              have HFwb := hid (htk5.bk _ _ _ HFwa.out (by decide) (by decide))
              have HOFwb := hid (htk5.fr _ _ _ HOFwa.out)
              have HQwb := hid (HQwa.out.trans htk5.bl)
              have HO5wb := hid (hof5.le (HQwa.out.size))
              have HB5wb := hid ho5
              have HI5wb := hid hz5
              have HM5 := hid hm5
              have HC5wb := hid (show wb.cell? (adx.add K) = some (.int .u8 (c.toNat : Int)) from (World.cell?_of_block (htk5.bl.block _ (HCB.out))).trans HC5wa.out)
              have HEwb := hid (htk5.bk _ _ _ HEwa.out (by decide) (by decide))
              obtain ⟨a5, c5, e5⟩ := hof5.shape
              subst e5
              clear ho5 hz5 hof5 hm5 htk5
              go_wp2_with fail
              refine hK.out _ _ ⟨by rw [← HSC.out]; exact HKwb.out, HC5wb.out⟩ (fun hHeld => ?_)
              clear hK K9
              try simp only [Act.put, List.getElem_toArray, List.getElem_cons_zero, List.getElem_cons_succ, List.setIfInBounds_toArray, List.set_cons_succ, List.set_cons_zero]
              refine wpAnyH_take (i := 6) (v := .tuple #[.agg (sxC M vr5 vs5 TT.1).toArray, .slice a5 fs5.length c5]) rfl (by kernel_rfl) (by kernel_rfl) (by kernel_rfl) (fun _ _ _ h => h) (Or.inl ⟨by rfl, fun W _ => by go_simp⟩) hHeld ?_
              simp only [Act.put, List.getElem_toArray, List.getElem_cons_zero, List.getElem_cons_succ, List.setIfInBounds_toArray, List.set_cons_succ, List.set_cons_zero]
              refine wpAnyH_take (i := 7) (v := .agg (sxC M vr5 vs5 TT.1).toArray) rfl (by kernel_rfl) (by kernel_rfl) (by kernel_rfl) (fun _ _ _ h => h) (Or.inl ⟨by rfl, fun W _ => by go_simp⟩) hHeld ?_
              simp only [Act.put, List.getElem_toArray, List.getElem_cons_zero, List.getElem_cons_succ, List.setIfInBounds_toArray, List.set_cons_succ, List.set_cons_zero]
              refine wpAnyH_take (i := 8) (v := .slice a5 fs5.length c5) rfl (by kernel_rfl) (by kernel_rfl) (by kernel_rfl) (fun _ _ _ h => h) (Or.inl ⟨by rfl, fun W _ => by go_simp⟩) hHeld ?_
              simp only [Act.put, List.getElem_toArray, List.getElem_cons_zero, List.getElem_cons_succ, List.setIfInBounds_toArray, List.set_cons_succ, List.set_cons_zero]
              have HSZ5 := hid (show (Tryz.prog.info? 47).map (·.size) = some (sxC M vr5 vs5 TT.1).length from strmSize)
              have HON5 := hid (sxC_one (M := M) (vr := vr5) (vs := vs5) (s := TT.1) (by obtain ⟨a, c, e⟩ := HB5wb.out.shape; rw [e]; rfl) (by obtain ⟨a, c, e⟩ := HI5wb.out.shape; rw [e]; rfl))
              have HOL5 := hid (show (sxC 0 (.slice none 0 0) (.slice none 0 0) zS).toArray.size = (sxC M vr5 vs5 TT.1).length from rfl)
              have HOB5 := hid (show SC.toArray.size = (sxC M vr5 vs5 TT.1).length by rw [← HSC.out]; rfl)
              obtain ⟨S5, HS5⟩ : ∃ l, Hid (sxC M vr5 vs5 TT.1 = l) := ⟨_, rfl⟩
              rw [HS5.out] at HSZ5 HON5 HOL5 HOB5
              try rw [HS5.out]
              refine wpAnyH_ready (rs := [10]) (by kernel_rfl) (by simp) ?_
              refine AllReadyH.cons rfl (fun K9 hK => ?_) AllReadyH.nil
              refine step_store_row (by rfl) 47 _ _ (by rfl) E S5 (by rfl) (by rfl) 47 _ HEwb.out HSZ5.out HOL5.out HON5.out ?_
              intro wz hwz
              have HKz := hid (gb_blk HKwb.out hwz.grown (by have := HEl.out; simp; omega))
              have HRz := hid (gb_blk HRwb.out hwz.grown (by have := HEl.out; simp; omega))
              have HFz := hid (gb_blk HFwb.out hwz.grown (by have := HEl.out; simp; omega))
              have HOFz := hid (HOFwb.out.gone hwz.grown HEwb.out (by decide) (by decide))
              have HO5z := hid (HO5wb.out.gone hwz.grown HEwb.out (by decide) (by decide))
              have HB5z := hid (show OwnB wz w.heap.size vr5 TT.1.r from own_far2 HB5wb.out hwz.grown (fun _ e h => own_block HB5wb.out HEwb.out (by decide) (h ▸ e)))
              have HI5z := hid (show OwnI wz w.heap.size vs5 TT.1.szs from own_far2 HI5wb.out hwz.grown (fun _ e h => own_block HI5wb.out HEwb.out (by decide) (h ▸ e)))
              have HQz := hid (Below.of_gb HQwb.out hwz.grown HEl.out.1)
              have HEz := hid hwz.blk
              have HCz := hid (show wz.cell? (adx.add K) = some (.int .u8 (c.toNat : Int)) from (World.cell?_of_block (hwz.grown.block _ (World.block_lt_of_cell? wb (adx.add K) HC5wb.out) (fun e => by have := HCB.out; have := HEl.out.1; simp at e; omega))).trans HC5wb.out)
              refine hK.out _ _ ⟨by rw [← HSC.out]; exact HKz.out, HCz.out⟩ (fun hHeld => ?_)
              clear hK K9
              try simp only [Act.put, List.getElem_toArray, List.getElem_cons_zero, List.getElem_cons_succ]
              refine wpAnyH_take (i := 11) (v := .slice a5 fs5.length c5) rfl (by kernel_rfl) (by kernel_rfl) (by kernel_rfl) (fun _ _ _ h => h) (Or.inl ⟨by rfl, fun W _ => by go_simp⟩) hHeld ?_
              simp only [Act.put, List.getElem_toArray, List.getElem_cons_zero, List.getElem_cons_succ, List.setIfInBounds_toArray, List.set_cons_succ, List.set_cons_zero]
              refine wpAnyH_done (by kernel_rfl) ?_ _
              simp only [noPanic]
              have HEB := hid (show E ≠ B ∧ E ≠ R ∧ E ≠ F by have := HEl.out; omega)
              have HTF := hid (HFT.out fs5 HM5.out)
              clear hHeld hwz
              go_upto_region 13 with (first
                | (refine ld_row (by rfl) 47 (.tmp 12) (by rfl) E (by rfl) S5 47 HEz.out _ Tryz.underlying47 rfl HSZ5.out ?_)
                | (refine st_row (by rfl) 47 _ _ (by rfl) B S5 (by rfl) (by rfl) 47 _ (by rw [← HSC.out]; exact HKz.out) HSZ5.out HOB5.out HON5.out ?_; intro w6 hw6; have HOF6 := hid (HOFz.out.gone hw6.grown HKz.out (by decide) (by decide)); have HO56 := hid (HO5z.out.gone hw6.grown HKz.out (by decide) (by decide)); have HZ6 := hid (Nat.le_trans HQz.out.size hw6.grown.size))
                | (at_builtin; refine app_frs (by rfl) _ _ rfl w.heap.size _ fs rfl HOF6.out fs5 _ rfl HO56.out.frs HO56.out.nilc (fun f hf => HO56.out.each f hf) HTF.out HZ6.out ?_; intro v7 w7 ho7 hg7 hp7; obtain ⟨a7, c7, e7⟩ := ho7.shape; rw [List.length_append] at e7; subst e7))
              have HSB6 := hid (show Sb w6 w.heap.size B M vr5 vs5 TT.1 from ⟨HLW.out.1, by rw [HS5.out]; exact hw6.blk, own_far2 HB5z.out hw6.grown (fun _ e h => own_block HB5z.out HKz.out (by decide) (h ▸ e)), own_far2 HI5z.out hw6.grown (fun _ e h => own_block HI5z.out HKz.out (by decide) (h ▸ e))⟩)
              have HR6 := hid (gb_blk HRz.out hw6.grown (by have := HBR.out; simp; omega))
              have HF6 := hid (gb_blk HFz.out hw6.grown (by have := HBR.out; simp; omega))
              have HQ6 := hid (Below.of_gb HQz.out hw6.grown HLW.out.1)
              have HSB7 := hid (show Sb w7 w.heap.size B M vr5 vs5 TT.1 from ⟨HLW.out.1, gb_blk HSB6.out.blk hg7 (own_block HOF6.out.own HSB6.out.blk (by decide)), own_grow HSB6.out.own hg7 HOF6.out.own (by decide), own_grow HSB6.out.szs hg7 HOF6.out.own (by decide)⟩)
              have HR7 := hid (gb_blk HR6.out hg7 (own_block HOF6.out.own HR6.out (by decide)))
              have HF7 := hid (gb_blk HF6.out hg7 (own_block HOF6.out.own HF6.out (by decide)))
              have HQ7 := hid (Below.of_gbo HQ6.out hg7 (fun k e => (World.ownsRow.lt HOF6.out.own k e).1))
              have HO7 := hid ho7
              clear ho7 hg7 hp7 hw6 HSB6 HR6 HF6 HQ6 HOF6 HO56 HZ6 HKz HRz HFz HOFz HO5z HB5z HI5z HQz HEz HCz
              have HG5 := hid (show Gs M TT.1 by have := run_good (M := M) (q := stopQ n) (bs.take (K + 1)) (a := (s, [], 0)) HG.out; rw [HST.out] at this; exact this)
              obtain ⟨y5, HY5⟩ : ∃ y, Hid (TT.1.why = y) := ⟨_, rfl⟩
              obtain ⟨t5, HT5⟩ : ∃ y, Hid (TT.1.wat = y) := ⟨_, rfl⟩
              have k4 : w7.cell? ⟨B, 4, none⟩ = some (.int .i64 y5) := by rw [← HY5.out]; exact HSB7.out.c4
              have k5 : w7.cell? ⟨B, 5, none⟩ = some (.int .i64 t5) := by rw [← HT5.out]; exact HSB7.out.c5
              have hwk : IntKind.i64.wrap ((K : Int) + 1) = ((K + 1 : Nat) : Int) := by rw [IntKind.wrap_i64]; omega
              by_cases hy5 : y5 = 0
              · as_aux_lemma =>
                  have ht5 : t5 = 0 := by rw [← HT5.out]; exact (HG5.out.ok (HY5.out.trans hy5)).1
                  have HY0 := hid (HY5.out.trans hy5)
                  subst hy5 ht5
                  have n1 : ∀ W, (binOp .neq 33 (.agg #[.int .i64 0, .int .i64 0]) (.agg #[.int .i64 0, .int .i64 0])).run Tryz.prog W = .ok (.bool false) W := fun W => by rw [fault_neq]; simp
                  go_wp2_with (first | (refine bd_row (by rfl) 33 #[] (by rfl) _ (by simp) _ built_fz ?_))
                  refine ⟨⟨K + 1, vr5, vs5, fs ++ fs5, _, hlt, by simp, HST.out, rfl, HY0.out, HSL2.out, ?_, HO7.out, HSB7.out, HR7.out, HF7.out, HQ7.out⟩, by simp [intOf]; omega⟩
                  rw [List.map_append, HFS.out, HM5.out]
                  exact hid rfl
              · as_aux_lemma =>
                  have n1 : ∀ W, (binOp .neq 33 (.agg #[.int .i64 y5, .int .i64 t5]) (.agg #[.int .i64 0, .int .i64 0])).run Tryz.prog W = .ok (.bool true) W := fun W => by rw [fault_neq]; simp [hy5]
                  have HZE := hid (show Z = (TT.1, a.2.1 ++ TT.2, K + 1) by
                    rw [← HZZ.out]
                    conv => lhs; rw [← List.take_append_drop (K + 1) bs]
                    rw [runP_app, HST.out]
                    exact runP_stop _ _ _ (Or.inr (by show TT.1.why ≠ 0; rw [HY5.out]; exact hy5)) _)
                  have HBK7 := hid HSB7.out.blk
                  have HRG4 := hid (fun (W : World) (h : W.heap[B]? = some (.cells S5.toArray 47 (0, 0))) => (show W.rangeAt B 4 [.int .i64 y5, .int .i64 t5] by rw [← HS5.out] at h; have := range_4 h; rw [HY5.out, HT5.out] at this; exact this))
                  rw [HS5.out] at HBK7
                  have HRZ := hid (show (sxC 0 (.slice none 0 0) (.slice none 0 0) zS).toArray.size = S5.length by rw [← HS5.out]; rfl)
                  clear hy5
                  go_upto_region 14 with (first | (refine bd_row (by rfl) 33 #[] (by rfl) _ (by simp) _ built_fz ?_))
                  refine wp_noPanic (wp_region_held_drew (S := fun W => W.heap[B]? = some (.cells S5.toArray 47 (0, 0))) (by kernel_rfl) HBK7.out ?_)
                  intro hHeld
                  refine wpAnyH_take (i := 0) (v := .agg S5.toArray) rfl (by kernel_rfl) (by kernel_rfl) (by kernel_rfl) (fun _ _ _ h => h) (yieldsIf_load_mid (by rfl) 47 (.tmp 3) rfl B 0 rfl S5 _ (fun W hW => range_row hW) Tryz.underlying47 rfl HSZ5.out) hHeld ?_
                  simp only [Act.put, List.getElem_toArray, List.getElem_cons_zero, List.setIfInBounds_toArray, List.set_cons_succ, List.set_cons_zero]
                  refine wpAnyH_take (i := 1) (v := .slice a7 (fs.length + fs5.length) c7) rfl (by kernel_rfl) (by kernel_rfl) (by kernel_rfl) (fun _ _ _ h => h) (Or.inl ⟨by rfl, fun W _ => by go_simp⟩) hHeld ?_
                  simp only [Act.put, List.getElem_toArray, List.getElem_cons_zero, List.getElem_cons_succ, List.setIfInBounds_toArray, List.set_cons_succ, List.set_cons_zero]
                  refine wpAnyH_take (i := 2) (v := .int .i64 (K : Int)) rfl (by kernel_rfl) (by kernel_rfl) (by kernel_rfl) (fun _ _ _ h => h) (Or.inl ⟨by rfl, fun W _ => by go_simp⟩) hHeld ?_
                  simp only [Act.put, List.getElem_toArray, List.getElem_cons_zero, List.getElem_cons_succ, List.setIfInBounds_toArray, List.set_cons_succ, List.set_cons_zero]
                  refine wpAnyH_take (i := 3) (v := .int .i64 ((K + 1 : Nat) : Int)) rfl (by kernel_rfl) (by kernel_rfl) (by kernel_rfl) (fun _ _ _ h => h) (Or.inl ⟨by rfl, fun W _ => by have hfact := hwk; go_simp; first | done | simp [hfact]⟩) hHeld ?_
                  simp only [Act.put, List.getElem_toArray, List.getElem_cons_zero, List.getElem_cons_succ, List.setIfInBounds_toArray, List.set_cons_succ, List.set_cons_zero]
                  refine wpAnyH_take (i := 4) (v := .pointer (some ⟨B, 4, none⟩)) rfl (by kernel_rfl) (by kernel_rfl) (by kernel_rfl) (fun _ _ _ h => h) (Or.inl ⟨by rfl, fun W _ => by go_simp⟩) hHeld ?_
                  simp only [Act.put, List.getElem_toArray, List.getElem_cons_zero, List.getElem_cons_succ, List.setIfInBounds_toArray, List.set_cons_succ, List.set_cons_zero]
                  refine wpAnyH_take (i := 5) (v := .agg [Value.int .i64 y5, .int .i64 t5].toArray) rfl (by kernel_rfl) (by kernel_rfl) (by kernel_rfl) (fun _ _ _ h => h) (yieldsIf_load_mid (by rfl) 33 (.tmp 63) rfl B 4 rfl [Value.int .i64 y5, .int .i64 t5] _ (fun W hW => HRG4.out W hW) Tryz.underlying33 rfl faultSize) hHeld ?_
                  simp only [Act.put, List.getElem_toArray, List.getElem_cons_zero, List.getElem_cons_succ, List.setIfInBounds_toArray, List.set_cons_succ, List.set_cons_zero]
                  have HD7 := hid (bel_drw w7 1)
                  have HSB8 := hid (HSB7.out.below HD7.out)
                  have HR8 := hid (bel_keep HD7.out HR7.out)
                  have HF8 := hid (bel_keep HD7.out HF7.out)
                  have HO8 := hid (HO7.out.below HD7.out)
                  have HQ8 := hid (below_then HQ7.out HD7.out)
                  obtain ⟨wp, HWX7⟩ : ∃ x, Hid (w7.drewN 1 = x) := ⟨_, rfl⟩
                  have HWY7 := hid (show w7.drew = wp from HWX7.out)
                  rw [HWX7.out] at HSB8 HR8 HF8 HO8 HQ8
                  rw [HWY7.out]
                  clear hHeld HD7
                  refine wpAnyH_ready (rs := [6]) (by kernel_rfl) (by simp) ?_
                  refine AllReadyH.cons rfl (fun K9 hK => ?_) AllReadyH.nil
                  refine step_store_row (by rfl) 47 _ _ (by rfl) R S5 (by rfl) (by rfl) 47 _ HR8.out HSZ5.out HRZ.out HON5.out ?_
                  intro w8 hw8
                  have HSB9 := hid (HSB8.out.far hw8.grown (by have := HBR.out; omega) (own_block HSB8.out.own HR8.out (by decide)) (own_block HSB8.out.szs HR8.out (by decide)))
                  have HF9 := hid (gb_blk HF8.out hw8.grown (by have := HRF.out; simpa using this))
                  have HO9 := hid (HO8.out.gone hw8.grown HR8.out (by decide) (by decide))
                  have HQ9 := hid (Below.of_gb HQ8.out hw8.grown HLW.out.2.1)
                  refine hK.out _ _ (by rw [← HS5.out]; exact HSB9.out.blk) (fun hHeld => ?_)
                  clear hK K9
                  try simp only [Act.put, List.getElem_toArray, List.getElem_cons_zero, List.getElem_cons_succ]
                  refine wpAnyH_take (i := 7) (v := .slice a7 (fs.length + fs5.length) c7) rfl (by kernel_rfl) (by kernel_rfl) (by kernel_rfl) (fun _ _ _ h => h) (Or.inl ⟨by rfl, fun W _ => by go_simp⟩) hHeld ?_
                  simp only [Act.put, List.getElem_toArray, List.getElem_cons_zero, List.getElem_cons_succ, List.setIfInBounds_toArray, List.set_cons_succ, List.set_cons_zero]
                  refine wpAnyH_take (i := 8) (v := .int .i64 ((K + 1 : Nat) : Int)) rfl (by kernel_rfl) (by kernel_rfl) (by kernel_rfl) (fun _ _ _ h => h) (Or.inl ⟨by rfl, fun W _ => by go_simp⟩) hHeld ?_
                  simp only [Act.put, List.getElem_toArray, List.getElem_cons_zero, List.getElem_cons_succ, List.setIfInBounds_toArray, List.set_cons_succ, List.set_cons_zero]
                  refine wpAnyH_ready (rs := [9]) (by kernel_rfl) (by simp) ?_
                  refine AllReadyH.cons rfl (fun K9 hK => ?_) AllReadyH.nil
                  refine step_store_row (by rfl) 33 _ _ (by rfl) F [Value.int .i64 y5, .int .i64 t5] (by rfl) (by rfl) 33 _ HF9.out faultSize rfl (fault_one _ _) ?_
                  intro w9 hw9
                  have HSBz := hid (HSB9.out.far hw9.grown (by have := HBR.out; omega) (own_block HSB9.out.own HF9.out (by decide)) (own_block HSB9.out.szs HF9.out (by decide)))
                  have HRz9 := hid (gb_blk hw8.blk hw9.grown (by have := HRF.out; simp; omega))
                  have HOz9 := hid (HO9.out.gone hw9.grown HF9.out (by decide) (by decide))
                  have HQz9 := hid (Below.of_gb HQ9.out hw9.grown HLW.out.2.2)
                  refine hK.out _ _ (by rw [← HS5.out]; exact HSBz.out.blk) (fun hHeld => ?_)
                  clear hK K9
                  try simp only [Act.put, List.getElem_toArray, List.getElem_cons_zero, List.getElem_cons_succ]
                  refine wpAnyH_done (by kernel_rfl) ?_ _
                  simp only [noPanic]
                  clear hHeld
                  go_wp2
                  refine ret_cttc 6 7 8 9 47 33 rfl R rfl F rfl S5 47 HRz9.out _ Tryz.underlying47 rfl HSZ5.out [Value.int .i64 y5, .int .i64 t5] 33 hw9.blk _ Tryz.underlying33 rfl faultSize (.slice a7 (fs.length + fs5.length) c7) rfl (.int .i64 ((K + 1 : Nat) : Int)) rfl rfl ?_
                  rw [HZZ.out, HZE.out]
                  exact ⟨vr5, vs5, _, fs ++ fs5, by rw [← HS5.out, HY5.out, HT5.out], HSBz.out.own, HSBz.out.szs, HOz9.out, by rw [List.map_append, HFS.out, HM5.out], HQz9.out⟩
    · obtain rfl : K = bs.length := by omega
      as_aux_lemma =>
        have HE := hid (show runP M (stopQ n) a (bs.drop bs.length) = a by rw [List.drop_length]; rfl)
        go_wp2_with (first
          | (refine ld_row (by rfl) 47 (.tmp 3) (by rfl) B (by rfl) SC 47 HBKr.out _ Tryz.underlying47 rfl HSZr.out ?_)
          | (refine bd_row (by rfl) 33 #[] (by rfl) _ (by simp) _ built_fz ?_)
          | (refine st_row (by rfl) 47 _ _ (by rfl) R SC (by rfl) (by rfl) 47 _ HRr.out HSZr.out HOL.out HONr.out ?_; intro w8 hw8; have HF8 := hid (gb_blk HFr.out hw8.grown (by have := HRF.out; simpa using this)))
          | (refine st_row (by rfl) 33 _ _ (by rfl) F [Value.int .i64 0, .int .i64 0] (by rfl) (by rfl) 33 _ HF8.out faultSize rfl (fault_one _ _) ?_; intro w9 hw9))

        have HRz := hid (gb_blk hw8.blk hw9.grown (by have := HRF.out; simp; omega))
        refine ret_cttc 6 7 8 9 47 33 rfl R rfl F rfl SC 47 HRz.out _ Tryz.underlying47 rfl HSZr.out [Value.int .i64 0, .int .i64 0] 33 hw9.blk _ Tryz.underlying33 rfl faultSize (.slice alv fs.length clv) rfl (.int .i64 ((bs.length : Nat) : Int)) rfl rfl ?_
        rw [HZZ.out]
        exact FIN.out w8 w9 hw8 hw9 HE.out
end Go.Proofs.YtiibhccbbpgehaaGreat

/- The document's Some of a poisoned decoder; its Feed. -/
namespace Go.Proofs.YtiibhccbbpgehaaGreat
open Go.RowKit Go.BigFrame

theorem results_ctc {fn : Func} {p r z : Tmp} {ty ty2 : TypeId} (h : fn.results = #[.cell p ty, .tmp r, .cell z ty2]) (tmps : Array Value) (P : Program) (w : World) :
    (results fn tmps).run P w = ((asAddr (tmps.getD p undef)).run P w).andThen fun a w₁ => ((loadVar ty a).run P w₁).andThen fun v w₂ => ((asAddr (tmps.getD z undef)).run P w₂).andThen fun a2 w₃ => ((loadVar ty2 a2).run P w₃).andThen fun v2 w₄ => .ok (.tuple #[v, tmps.getD r undef, v2]) w₄ := by
  simp only [results, h]
  simp [Sem.run_bind, Result.andThen]
theorem ret_ctc {P : Program} {fn : Func} {R : Ending → World → Prop} {a : Act} {w : World} (p r z : Tmp) (ty ty2 : TypeId) (h : fn.results = #[.cell p ty, .tmp r, .cell z ty2]) (g : Nat) (hp : a.tmps.getD p undef = .pointer (some ⟨g, 0, none⟩)) (g2 : Nat) (hq : a.tmps.getD z undef = .pointer (some ⟨g2, 0, none⟩))
    (cs : List Value) (t : TypeId) (hb : w.heap[g]? = some (.cells cs.toArray t (0, 0))) (d : TypeDesc) (hu : P.underlying ty = some d) (hd : d.isRow = true) (hi : (P.info? ty).map (·.size) = some cs.length)
    (cs2 : List Value) (t2 : TypeId) (hb2 : w.heap[g2]? = some (.cells cs2.toArray t2 (0, 0))) (d2 : TypeDesc) (hu2 : P.underlying ty2 = some d2) (hd2 : d2.isRow = true) (hi2 : (P.info? ty2).map (·.size) = some cs2.length)
    (v : Value) (hv : a.tmps.getD r undef = v)
    (hdf : a.defers = []) (hR : R (.returned (.tuple #[.agg cs.toArray, v, .agg cs2.toArray])) w) : bodyPost P fn R .ret a w := by
  refine bodyPost_ret (v := .tuple #[.agg cs.toArray, v, .agg cs2.toArray]) ?_ hdf hR
  rw [results_ctc h, hp, hq, hv]
  have h1 := run_loadVar_mid (P := P) w g 0 ty cs d (fun j v hv => by rw [Nat.zero_add, cell_of_row w g j cs.toArray t (0, 0) hb]; simpa using hv) hu hd hi
  have h2 := run_loadVar_mid (P := P) w g2 0 ty2 cs2 d2 (fun j v hv => by rw [Nat.zero_add, cell_of_row w g2 j cs2.toArray t2 (0, 0) hb2]; simpa using hv) hu2 hd2 hi2
  simp [asAddr, h1, h2]

def RFdP (w : World) (lo M : Nat) (a : Ra) (y t : Int) (e : Ending) (w' : World) : Prop :=
  ∃ vr vs vl fs, e = .returned (.tuple #[.agg (sxC M vr vs a.1).toArray, vl, .agg #[.int .i64 y, .int .i64 t]]) ∧ OwnB w' lo vr a.1.r ∧ OwnI w' lo vs a.1.szs ∧ OFs w' w.heap.size vl fs ∧ fs.map (·.1) = a.2.1 ∧ Below w.heap.size w w'

set_option maxRecDepth 100000 in
set_option maxHeartbeats 4000000 in
theorem rfeed8_of (s : Sx) (vr vs vp : Value) (us : List Value) (pss : List (List UInt8)) (w : World) (lo M : Nat) (a : Ra) (y t : Int) (hp : Lsts w vp us pss) (hn : pss.length ≤ 140737488355327) (hbl : (fl pss).length ≤ 140737488355327)
    (hso : ∀ W vb, Below w.heap.size w W → Src W vb (fl pss) → Calls Tryz.prog 51 #[.agg (sxC M vr vs s).toArray, .int .i64 (-1), vb] W (RSmP W (min lo W.heap.size) M a y t)) (hlo : lo ≤ w.heap.size) :
    Calls Tryz.prog 48 #[.agg (sxC M vr vs s).toArray, vp] w (RFdP w lo M a y t) := by
  have HP := hid hp
  have HSO := hid hso
  have HLO := hid hlo
  obtain ⟨ap, cp, rfl⟩ := hp.shape
  clear hp hso hlo
  have HW1 := hid (show Below w.heap.size w (((w.alloc (.cells (sxC M vr vs s).toArray 47)).alloc (.cells #[.int .i64 0, .slice none 0 0, .int .i64 0, .int .i64 0, .int .i64 0, .int .i64 0, .slice none 0 0] 47)).alloc (.cells #[.int .i64 0, .int .i64 0] 33)) from (below_walk2 w _ _).alloc (by simp; omega) _)
  have HNN := hid (show (((w.alloc (.cells (sxC M vr vs s).toArray 47)).alloc (.cells #[.int .i64 0, .slice none 0 0, .int .i64 0, .int .i64 0, .int .i64 0, .int .i64 0, .slice none 0 0] 47)).alloc (.cells #[.int .i64 0, .int .i64 0] 33)).heap[w.heap.size]? = some (.cells (sxC M vr vs s).toArray 47 (0, 0)) ∧ (((w.alloc (.cells (sxC M vr vs s).toArray 47)).alloc (.cells #[.int .i64 0, .slice none 0 0, .int .i64 0, .int .i64 0, .int .i64 0, .int .i64 0, .slice none 0 0] 47)).alloc (.cells #[.int .i64 0, .int .i64 0] 33)).heap[w.heap.size + 1]? = some (.cells (sxC 0 (.slice none 0 0) (.slice none 0 0) zS).toArray 47 (0, 0)) ∧ (((w.alloc (.cells (sxC M vr vs s).toArray 47)).alloc (.cells #[.int .i64 0, .slice none 0 0, .int .i64 0, .int .i64 0, .int .i64 0, .int .i64 0, .slice none 0 0] 47)).alloc (.cells #[.int .i64 0, .int .i64 0] 33)).heap[w.heap.size + 2]? = some (.cells #[.int .i64 0, .int .i64 0] 33 (0, 0)) from hp_three w _ _ _)
  have HZ1 : Hid ((w.alloc (.cells (sxC M vr vs s).toArray 47)).heap.size = w.heap.size + 1) := hid (by simp)
  have HZ2 : Hid (((w.alloc (.cells (sxC M vr vs s).toArray 47)).alloc (.cells #[.int .i64 0, .slice none 0 0, .int .i64 0, .int .i64 0, .int .i64 0, .int .i64 0, .slice none 0 0] 47)).heap.size = w.heap.size + 2) := hid (by simp)
  go_enter Tryz.func48, Tryz.ntmps48
  go_upto_region 1 with (first
    | (refine bx_row (by rfl) 47 _ (by rfl) _ (by rfl) ?_)
    | (refine al_row (by rfl) 47 (by rfl) _ zeroStrm ?_)
    | (refine al_row (by rfl) 33 (by rfl) _ zeroFault ?_))
  try rw [HZ2.out]
  try rw [HZ1.out]
  obtain ⟨B, HBe⟩ : ∃ n, Hid (w.heap.size = n) := ⟨_, rfl⟩
  obtain ⟨R, HRe⟩ : ∃ n, Hid (B + 1 = n) := ⟨_, rfl⟩
  obtain ⟨F, HFe⟩ : ∃ n, Hid (B + 2 = n) := ⟨_, rfl⟩
  have HBR := hid (show R = B + 1 ∧ F = B + 2 from ⟨HRe.out.symm, HFe.out.symm⟩)
  have HRF := hid (show R ≠ F by have := HBR.out; omega)
  have HLW := hid (show w.heap.size ≤ B ∧ w.heap.size ≤ R ∧ w.heap.size ≤ F by have := HBe.out; have := HBR.out; omega)
  rw [HBe.out, HRe.out, HFe.out] at HNN ⊢
  generalize ((w.alloc (.cells (sxC M vr vs s).toArray 47)).alloc (.cells #[.int .i64 0, .slice none 0 0, .int .i64 0, .int .i64 0, .int .i64 0, .int .i64 0, .slice none 0 0] 47)).alloc (.cells #[.int .i64 0, .int .i64 0] 33) = w1 at HW1 HNN ⊢
  have HK1 := hid HNN.out.1
  have HR1 := hid HNN.out.2.1
  have HF1 := hid HNN.out.2.2
  clear HNN HZ1 HZ2
  have HSZ := hid (show (Tryz.prog.info? 47).map (·.size) = some (sxC M vr vs s).length from strmSize)
  obtain ⟨SC, HSC⟩ : ∃ l, Hid (sxC M vr vs s = l) := ⟨_, rfl⟩
  rw [HSC.out] at HSZ HK1 HSO
  go_wp2
  go_loopw [7, 8] (fun vb vi wr => ∃ (k : Nat), k ≤ pss.length ∧ vi = .int .i64 k ∧ Hid (OwnB wr w.heap.size vb (fl (pss.take k))) ∧ Hid (wr.heap[B]? = some (.cells SC.toArray 47 (0, 0))) ∧ Hid (wr.heap[R]? = some (.cells (sxC 0 (.slice none 0 0) (.slice none 0 0) zS).toArray 47 (0, 0))) ∧ Hid (wr.heap[F]? = some (.cells #[.int .i64 0, .int .i64 0] 33 (0, 0))) ∧ Hid (Below w.heap.size w wr)) (fun _ vi _ => pss.length - (intOf vi).toNat)
  case atStart => exact ⟨0, by omega, rfl, World.ownsRow_nil _ _ _ _, HK1.out, HR1.out, HF1.out, HW1.out⟩
  case round =>
    obtain ⟨k, hk, rfl, HOB, HKr, HRr, HFr, HQ⟩ := hrel
    obtain ⟨ab, cb, eb⟩ := HOB.out.shape
    obtain ⟨L, HLe⟩ : ∃ n, Hid ((fl (pss.take k)).length = n) := ⟨_, rfl⟩
    rw [HLe.out] at eb
    subst eb
    by_cases hlt : k < pss.length
    · as_aux_lemma =>
        have hki : (k : Int) < (pss.length : Int) := by omega
        obtain ⟨g, o, rfl, hcl, hsr⟩ := (HP.out.below HQ.out).at k hlt
        obtain ⟨au, nu, cu, eu⟩ := src_named hsr
        rw [eu] at hcl hsr
        obtain ⟨X, HXk⟩ : ∃ X, Hid (pss.getD k [] = X) := ⟨_, rfl⟩
        rw [HXk.out] at hsr
        have HSR := hid hsr
        clear hsr
        have hwk : IntKind.i64.wrap ((k : Int) + 1) = (k : Int) + 1 := by rw [IntKind.wrap_i64]; omega
        have HLL := hid (show (fl (pss.take k)).length + (pss.getD k []).length ≤ 140737488355327 by
          have h1 : (fl (pss.take (k + 1))).length ≤ (fl pss).length := by
            have e : fl pss = fl (pss.take (k + 1)) ++ fl (pss.drop (k + 1)) := by unfold fl; rw [← List.flatten_append, List.take_append_drop]
            rw [e, List.length_append]; omega
          rw [fl_snoc pss k hlt, List.length_append] at h1
          omega)
        rw [HXk.out] at HLL
        have HZZ := hid HQ.out.size
        clear eu
        go_wp2_with (first | (at_builtin; refine app_bytes (by rfl) _ _ rfl w.heap.size _ _ rfl HOB.out _ _ rfl HSR.out HLL.out HZZ.out ?_))
        intro v2 w2 ho2 hg2 hp2
        rw [← HXk.out, ← fl_snoc pss k hlt] at ho2
        have HO2 := hid ho2
        have HK2 := hid (gb_blk HKr.out hg2 (own_block HOB.out HKr.out (by decide)))
        have HR2 := hid (gb_blk HRr.out hg2 (own_block HOB.out HRr.out (by decide)))
        have HF2 := hid (gb_blk HFr.out hg2 (own_block HOB.out HFr.out (by decide)))
        have HQ2 := hid (Below.of_gbo HQ.out hg2 (fun k e => (World.ownsRow.lt HOB.out k e).1))
        obtain ⟨a2, n2, c2, e2⟩ : ∃ a n c, v2 = .slice a n c := by obtain ⟨a, c, e⟩ := ho2.shape; exact ⟨_, _, _, e⟩
        subst e2
        clear ho2 hg2 hp2
        go_wp2
        exact ⟨⟨k + 1, hlt, by simp, HO2.out, HK2.out, HR2.out, HF2.out, HQ2.out⟩, by simp [intOf]; omega⟩
    · obtain rfl : k = pss.length := by omega
      as_aux_lemma =>
        have HOB2 := hid (show OwnB wr w.heap.size (.slice ab L cb) (fl pss) by have h := HOB.out; rw [fl_all] at h; exact h)
        have HCA := hid (HSO.out wr (.slice ab L cb) HQ.out (HOB2.out.src hbl))
        clear HSO HOB HOB2
        go_wp2_with (first | (refine ld_row (by rfl) 47 (.tmp 2) (by rfl) B (by rfl) SC 47 HKr.out _ Tryz.underlying47 rfl HSZ.out ?_))
        refine HCA.out.mono ?_
        rintro e w4 ⟨vr4, vs4, vl4, fs4, rfl, ho4, hz4, hof4, hm4, hb4⟩
        have HW4 := hid (show Below w4.heap.size w4 ((w4.alloc (.cells #[.int .i64 0, .slice none 0 0, .int .i64 0, .int .i64 0, .int .i64 0, .int .i64 0, .slice none 0 0] 47)).alloc (.cells #[.int .i64 0, .int .i64 0] 33)) from below_walk2 w4 _ _)
        have HN4 := hid (show ((w4.alloc (.cells #[.int .i64 0, .slice none 0 0, .int .i64 0, .int .i64 0, .int .i64 0, .int .i64 0, .slice none 0 0] 47)).alloc (.cells #[.int .i64 0, .int .i64 0] 33)).heap[w4.heap.size]? = some (.cells (sxC 0 (.slice none 0 0) (.slice none 0 0) zS).toArray 47 (0, 0)) ∧ ((w4.alloc (.cells #[.int .i64 0, .slice none 0 0, .int .i64 0, .int .i64 0, .int .i64 0, .int .i64 0, .slice none 0 0] 47)).alloc (.cells #[.int .i64 0, .int .i64 0] 33)).heap[w4.heap.size + 1]? = some (.cells #[.int .i64 0, .int .i64 0] 33 (0, 0)) from hp_two w4 _ _)
        have HZ4 : Hid ((w4.alloc (.cells #[.int .i64 0, .slice none 0 0, .int .i64 0, .int .i64 0, .int .i64 0, .int .i64 0, .slice none 0 0] 47)).heap.size = w4.heap.size + 1) := hid (by simp)
        have HR4 := hid (bel_keep HW4.out (bel_keep hb4 HRr.out))
        have HF4 := hid (bel_keep HW4.out (bel_keep hb4 HFr.out))
        have HRl := hid (show R < w4.heap.size ∧ F < w4.heap.size from ⟨hp_lt (bel_keep hb4 HRr.out), hp_lt (bel_keep hb4 HFr.out)⟩)
        have HQ4 := hid (below_then (below_then HQ.out hb4) HW4.out)
        have HQs := hid (below_then HQ.out hb4).size
        have hmn : lo ≤ min lo wr.heap.size := by have := HLO.out; have := HQ.out.size; omega
        have HO4 := hid (show OwnB _ lo vr4 a.1.r from (own_le (ho4.below HW4.out) hmn))
        have HI4 := hid (show OwnI _ lo vs4 a.1.szs from own_le (own_below hz4 HW4.out) hmn)
        have HOF4 := hid ((hof4.below HW4.out).le (HQ.out.size))
        have HM4 := hid hm4
        have HSZ4 := hid (show (Tryz.prog.info? 47).map (·.size) = some (sxC M vr4 vs4 a.1).length from strmSize)
        have HON4 := hid (sxC_one (M := M) (vr := vr4) (vs := vs4) (s := a.1) (by obtain ⟨a, c, e⟩ := ho4.shape; rw [e]; rfl) (by obtain ⟨a, c, e⟩ := hz4.shape; rw [e]; rfl))
        have HOL4 := hid (show (sxC 0 (.slice none 0 0) (.slice none 0 0) zS).toArray.size = (sxC M vr4 vs4 a.1).length from rfl)
        obtain ⟨al, nl, cl, el⟩ : ∃ a n c, vl4 = .slice a n c := by obtain ⟨a, c, e⟩ := hof4.shape; exact ⟨_, _, _, e⟩
        subst el
        clear ho4 hz4 hof4 hm4 hb4 HCA hmn
        obtain ⟨S4, HS4⟩ : ∃ l, Hid (sxC M vr4 vs4 a.1 = l) := ⟨_, rfl⟩
        rw [HS4.out] at HSZ4 HON4 HOL4 ⊢
        go_upto_region 7 with (first
          | (refine al_row (by rfl) 47 (by rfl) _ zeroStrm ?_)
          | (refine al_row (by rfl) 33 (by rfl) _ zeroFault ?_; rw [HZ4.out])
          | (refine st_row (by rfl) 47 _ _ (by rfl) w4.heap.size S4 (by rfl) (by rfl) 47 _ HN4.out.1 HSZ4.out HOL4.out HON4.out ?_; intro w5 hw5; have HD5 := hid (gb_blk HN4.out.2 hw5.grown (by simp)))
          | (refine st_row (by rfl) 33 _ _ (by rfl) (w4.heap.size + 1) [Value.int .i64 y, .int .i64 t] (by rfl) (by rfl) 33 _ HD5.out faultSize rfl (fault_one _ _) ?_; intro w6 hw6))
        obtain ⟨C, HCe⟩ : ∃ n, Hid (w4.heap.size = n) := ⟨_, rfl⟩
        obtain ⟨D, HDe⟩ : ∃ n, Hid (C + 1 = n) := ⟨_, rfl⟩
        rw [HCe.out] at hw5 hw6 HN4 HRl HQs ⊢
        rw [HCe.out] at HD5
        rw [HDe.out] at hw6 HN4 HD5 ⊢
        have HCD := hid (show D = C + 1 from HDe.out.symm)
        have HC6 := hid (gb_blk hw5.blk hw6.grown (by have := HCD.out; simp; omega))
        have HD6 := hid hw6.blk
        have HR6 := hid (gb_blk (gb_blk HR4.out hw5.grown (by have := HRl.out; simp; omega)) hw6.grown (by have := HRl.out; have := HCD.out; simp; omega))
        have HF6 := hid (gb_blk (gb_blk HF4.out hw5.grown (by have := HRl.out; simp; omega)) hw6.grown (by have := HRl.out; have := HCD.out; simp; omega))
        have HQ6 := hid (Below.of_gb (Below.of_gb HQ4.out hw5.grown HQs.out) hw6.grown (by have := HQs.out; have := HCD.out; omega))
        have HO5 := hid (own_far2 HO4.out hw5.grown (fun _ e h => own_block HO4.out HN4.out.1 (by decide) (h ▸ e)))
        have HI5 := hid (own_far2 HI4.out hw5.grown (fun _ e h => own_block HI4.out HN4.out.1 (by decide) (h ▸ e)))
        have HO6 := hid (own_far2 HO5.out hw6.grown (fun _ e h => own_block HO5.out HD5.out (by decide) (h ▸ e)))
        have HI6 := hid (own_far2 HI5.out hw6.grown (fun _ e h => own_block HI5.out HD5.out (by decide) (h ▸ e)))
        have HOF6 := hid ((HOF4.out.gone hw5.grown HN4.out.1 (by decide) (by decide)).gone hw6.grown HD5.out (by decide) (by decide))
        have HRC := hid (show R ≠ C ∧ R ≠ D ∧ F ≠ C ∧ F ≠ D by have := HRl.out; have := HCD.out; omega)
        clear hw5 hw6 HN4 HR4 HF4 HQ4 HO4 HI4 HO5 HI5 HOF4 HD5 HW4 HZ4
        refine wp_noPanic (wp_region_held_drew (S := fun W => W.heap[C]? = some (.cells S4.toArray 47 (0, 0)) ∧ W.heap[D]? = some (.cells [Value.int .i64 y, .int .i64 t].toArray 33 (0, 0))) (by kernel_rfl) ⟨HC6.out, HD6.out⟩ ?_)
        intro hHeld
        refine wpAnyH_take (i := 0) (v := .agg S4.toArray) rfl (by kernel_rfl) (by kernel_rfl) (by kernel_rfl) (fun _ _ _ h => h) (yieldsIf_load_mid (by rfl) 47 (.tmp 9) rfl C 0 rfl S4 _ (fun W hW => range_row hW.1) Tryz.underlying47 rfl HSZ4.out) hHeld ?_
        simp only [Act.put, List.getElem_toArray, List.getElem_cons_zero, List.setIfInBounds_toArray, List.set_cons_succ, List.set_cons_zero]
        refine wpAnyH_take (i := 1) (v := .slice al nl cl) rfl (by kernel_rfl) (by kernel_rfl) (by kernel_rfl) (fun _ _ _ h => h) (Or.inl ⟨by rfl, fun W _ => by go_simp⟩) hHeld ?_
        simp only [Act.put, List.getElem_toArray, List.getElem_cons_zero, List.getElem_cons_succ, List.setIfInBounds_toArray, List.set_cons_succ, List.set_cons_zero]
        refine wpAnyH_take (i := 2) (v := .agg [Value.int .i64 y, .int .i64 t].toArray) rfl (by kernel_rfl) (by kernel_rfl) (by kernel_rfl) (fun _ _ _ h => h) (yieldsIf_load_mid (by rfl) 33 (.tmp 12) rfl D 0 rfl [Value.int .i64 y, .int .i64 t] _ (fun W hW => range_row hW.2) Tryz.underlying33 rfl faultSize) hHeld ?_
        simp only [Act.put, List.getElem_toArray, List.getElem_cons_zero, List.getElem_cons_succ, List.setIfInBounds_toArray, List.set_cons_succ, List.set_cons_zero]
        have HD := hid (bel_drw w6 1)
        have HR7 := hid (bel_keep HD.out HR6.out)
        have HF7 := hid (bel_keep HD.out HF6.out)
        have HC7 := hid (bel_keep HD.out HC6.out)
        have HD7 := hid (bel_keep HD.out HD6.out)
        have HQ7 := hid (below_then HQ6.out HD.out)
        have HO7 := hid ((show OwnB (w6.drewN 1) lo vr4 a.1.r from own_below HO6.out HD.out))
        have HI7 := hid ((show OwnI (w6.drewN 1) lo vs4 a.1.szs from own_below HI6.out HD.out))
        have HOF7 := hid (HOF6.out.below HD.out)
        obtain ⟨wq, HWX⟩ : ∃ x, Hid (w6.drewN 1 = x) := ⟨_, rfl⟩
        have HWYq := hid (show w6.drew = wq from HWX.out)
        rw [HWX.out] at HR7 HF7 HC7 HD7 HQ7 HO7 HI7 HOF7
        rw [HWYq.out]
        clear hHeld HD
        refine wpAnyH_ready (rs := [3]) (by kernel_rfl) (by simp) ?_
        refine AllReadyH.cons rfl (fun K9 hK => ?_) AllReadyH.nil
        refine step_store_row (by rfl) 47 _ _ (by rfl) R S4 (by rfl) (by rfl) 47 _ HR7.out HSZ4.out HOL4.out HON4.out ?_
        intro w8 hw8
        have HC8 := hid (gb_blk HC7.out hw8.grown (by have := HRC.out; simp; omega))
        have HD8 := hid (gb_blk HD7.out hw8.grown (by have := HRC.out; simp; omega))
        have HF8 := hid (gb_blk HF7.out hw8.grown (by have := HRF.out; simpa using this))
        have HQ8 := hid (Below.of_gb HQ7.out hw8.grown HLW.out.2.1)
        have HO8 := hid (own_far2 HO7.out hw8.grown (fun _ e h => own_block HO7.out HR7.out (by decide) (h ▸ e)))
        have HI8 := hid (own_far2 HI7.out hw8.grown (fun _ e h => own_block HI7.out HR7.out (by decide) (h ▸ e)))
        have HOF8 := hid (HOF7.out.gone hw8.grown HR7.out (by decide) (by decide))
        refine hK.out _ _ ⟨HC8.out, HD8.out⟩ (fun hHeld => ?_)
        clear hK K9
        try simp only [Act.put, List.getElem_toArray, List.getElem_cons_zero, List.getElem_cons_succ]
        refine wpAnyH_take (i := 4) (v := .slice al nl cl) rfl (by kernel_rfl) (by kernel_rfl) (by kernel_rfl) (fun _ _ _ h => h) (Or.inl ⟨by rfl, fun W _ => by go_simp⟩) hHeld ?_
        simp only [Act.put, List.getElem_toArray, List.getElem_cons_zero, List.getElem_cons_succ, List.setIfInBounds_toArray, List.set_cons_succ, List.set_cons_zero]
        refine wpAnyH_ready (rs := [5]) (by kernel_rfl) (by simp) ?_
        refine AllReadyH.cons rfl (fun K9 hK => ?_) AllReadyH.nil
        refine step_store_row (by rfl) 33 _ _ (by rfl) F [Value.int .i64 y, .int .i64 t] (by rfl) (by rfl) 33 _ HF8.out faultSize rfl (fault_one _ _) ?_
        intro w9 hw9
        have HC9 := hid (gb_blk HC8.out hw9.grown (by have := HRC.out; simp; omega))
        have HD9 := hid (gb_blk HD8.out hw9.grown (by have := HRC.out; simp; omega))
        have HRz := hid (gb_blk hw8.blk hw9.grown (by have := HRF.out; simp; omega))
        have HQ9 := hid (Below.of_gb HQ8.out hw9.grown HLW.out.2.2)
        have HO9 := hid (own_far2 HO8.out hw9.grown (fun _ e h => own_block HO8.out HF8.out (by decide) (h ▸ e)))
        have HI9 := hid (own_far2 HI8.out hw9.grown (fun _ e h => own_block HI8.out HF8.out (by decide) (h ▸ e)))
        have HOF9 := hid (HOF8.out.gone hw9.grown HF8.out (by decide) (by decide))
        refine hK.out _ _ ⟨HC9.out, HD9.out⟩ (fun hHeld => ?_)
        clear hK K9
        try simp only [Act.put, List.getElem_toArray, List.getElem_cons_zero, List.getElem_cons_succ]
        refine wpAnyH_done (by kernel_rfl) ?_ _
        simp only [noPanic]
        clear hHeld
        go_wp2
        refine ret_ctc 4 5 6 47 33 rfl R rfl F rfl S4 47 HRz.out _ Tryz.underlying47 rfl HSZ4.out [Value.int .i64 y, .int .i64 t] 33 hw9.blk _ Tryz.underlying33 rfl faultSize (.slice al nl cl) rfl rfl ?_
        exact ⟨vr4, vs4, _, fs4, by rw [← HS4.out], HO9.out, HI9.out, HOF9.out, HM4.out, HQ9.out⟩
end Go.Proofs.YtiibhccbbpgehaaGreat

/- What was written is read back, plainly. -/
namespace Go.Proofs.YtiibhccbbpgehaaGreat
open Go.RowKit

end Go.Proofs.YtiibhccbbpgehaaGreat

/- Frames that are laid one behind the other come out one by one; frames that came out are the bytes that came. -/
namespace Go.Proofs.YtiibhccbbpgehaaGreat
open Go.RowKit

theorem takeC_bytes (M : Nat) (s : Sx) (X : List UInt8) : fl ((takeC M s X).2.map encP) ++ (takeC M s X).1.r = s.r ++ X ∧ ∀ f ∈ (takeC M s X).2, chkE f = 0 := by
  unfold takeC
  by_cases h1 : (needM M (s.r ++ X)).2 ≠ 0
  · rw [if_pos h1]
    exact ⟨rfl, fun f hf => by cases hf⟩
  · rw [if_neg h1]
    by_cases h2 : (needM M (s.r ++ X)).1 = 0 ∨ (s.r ++ X).length < (needM M (s.r ++ X)).1
    · rw [if_pos h2]
      exact ⟨rfl, fun f hf => by cases hf⟩
    · rw [if_neg h2]
      by_cases h3 : (decP (s.r ++ X)).2.1 ≠ 0
      · rw [if_pos h3]
        exact ⟨rfl, fun f hf => by cases hf⟩
      · rw [if_neg h3]
        obtain ⟨e1, e2, _⟩ := dec_form (s.r ++ X) (by omega)
        refine ⟨?_, fun f hf => by simp at hf; rw [hf]; exact e1⟩
        show fl [encP (decP (s.r ++ X)).1] ++ [] = s.r ++ X
        rw [e2]
        simp [fl]
end Go.Proofs.YtiibhccbbpgehaaGreat

/- Bytes as frames at once: the program's Split and Sizes, the document's Split. -/
namespace Go.Proofs.YtiibhccbbpgehaaGreat
open Go.RowKit Go.BigFrame

theorem stopQ_neg : stopQ (-1) = nev := by
  funext j
  show decide (0 ≤ (-1 : Int) ∧ (-1 : Int) ≤ (j : Int)) = false
  exact decide_eq_false (fun h => by omega)
theorem RSmP.le {w w' : World} {lo lo' M : Nat} {a : Ra} {y t : Int} {e : Ending} (h : RSmP w lo M a y t e w') (hl : lo' ≤ lo) : RSmP w lo' M a y t e w' := by
  obtain ⟨vr, vs, vl, fs, h1, h2, h3, h4, h5, h6⟩ := h
  exact ⟨vr, vs, vl, fs, h1, own_le h2 hl, own_le h3 hl, h4, h5, h6⟩
theorem rfeed8_ok (s : Sx) (vr vs vp : Value) (us : List Value) (pss : List (List UInt8)) (w : World) (b2 M : Nat) (hM : M ≤ 2097152) (hg : Gs M s) (ho : OwnB w b2 vr s.r) (hz : OwnI w b2 vs s.szs) (hp : Lsts w vp us pss) (h0 : s.why = 0) (hn : pss.length ≤ 140737488355327) (hc : s.came + (fl pss).length ≤ 4611686018427387904) (hsz : s.szs.length + (fl pss).length ≤ 90000000000) :
    Calls Tryz.prog 48 #[.agg (sxC M vr vs s).toArray, vp] w (RFdP w w.heap.size M (runP M nev (s, [], 0) (fl pss)) (runP M nev (s, [], 0) (fl pss)).1.why (runP M nev (s, [], 0) (fl pss)).1.wat) := by
  refine rfeed8_of s vr vs vp us pss w w.heap.size M _ _ _ hp hn (by omega) (fun W vb hW hb => ?_) (Nat.le_refl _)
  have h := rsome8_any s vr vs vb (-1) (fl pss) W b2 M hM hg (ho.below hW) (own_below hz hW) hb h0 hc hsz
  rw [stopQ_neg] at h
  exact h.mono fun e w' h9 => h9.le (by omega)
def lenE (f : Fr) : Nat := (encP f).length
theorem takeC_szs (M : Nat) (s : Sx) (X : List UInt8) : (takeC M s X).1.szs = s.szs ++ (takeC M s X).2.map lenE := by
  unfold takeC
  by_cases h1 : (needM M (s.r ++ X)).2 ≠ 0
  · rw [if_pos h1]; simp
  · rw [if_neg h1]
    by_cases h2 : (needM M (s.r ++ X)).1 = 0 ∨ (s.r ++ X).length < (needM M (s.r ++ X)).1
    · rw [if_pos h2]; simp
    · rw [if_neg h2]
      by_cases h3 : (decP (s.r ++ X)).2.1 ≠ 0
      · rw [if_pos h3]; simp
      · rw [if_neg h3]
        obtain ⟨_, e2, _⟩ := dec_form (s.r ++ X) (by omega)
        show s.szs ++ [(s.r ++ X).length] = s.szs ++ [lenE (decP (s.r ++ X)).1]
        unfold lenE
        rw [e2]
theorem run_szs {M : Nat} {q : Nat → Bool} : ∀ (X : List UInt8) (a : Ra), a.1.szs = a.2.1.map lenE → (∀ f ∈ a.2.1, chkE f = 0) → (runP M q a X).1.szs = (runP M q a X).2.1.map lenE ∧ ∀ f ∈ (runP M q a X).2.1, chkE f = 0
  | [], _, h, h2 => ⟨h, h2⟩
  | c :: X, a, h, h2 => by
    rw [runP_cons]
    refine run_szs X (stepQ M q a c) ?_ ?_
    · unfold stepQ
      split
      · exact h
      · show (takeC M a.1 [c]).1.szs = (a.2.1 ++ (takeC M a.1 [c]).2).map lenE
        rw [takeC_szs, List.map_append, h]
    · unfold stepQ
      split
      · exact h2
      · intro f hf
        rcases List.mem_append.1 (show f ∈ a.2.1 ++ (takeC M a.1 [c]).2 from hf) with h9 | h9
        · exact h2 f h9
        · exact (takeC_bytes M a.1 [c]).2 f h9
theorem size_enc (f : Fr) (h : chkE f = 0) : sizeN f = (lenE f : Int) := by
  unfold sizeN lenE
  rw [if_pos h]
theorem newMax8 (w : World) : Calls Tryz.prog 13 #[.int .i64 2097152] w fun e w' => ∃ b, e = .returned (.tuple #[.pointer (some ⟨b, 0, none⟩), .int .i64 0]) ∧ w.heap.size ≤ b ∧ Sd w' b b (.slice none 0 0) 2097152 zS ∧ Below w.heap.size w w' := new_ok8 w 2097152 (by omega) (by omega)
theorem fl_one8 (bs : List UInt8) : fl [bs] = bs := by simp [fl]

set_option maxRecDepth 100000 in
set_option maxHeartbeats 4000000 in
theorem psplit8_any (v : Value) (bs : List UInt8) (w : World) (hs : Src w v bs) (hbl : bs.length ≤ 300000000000) :
    Calls Tryz.prog 19 #[v] w fun e w' => ∃ vl fs, e = .returned (.tuple #[vl, .agg #[.int .i64 (stopP (runP 2097152 nev (zS, [], 0) bs).1).1, .int .i64 (stopP (runP 2097152 nev (zS, [], 0) bs).1).2]]) ∧ OFs w' w.heap.size vl fs ∧ fs.map (·.1) = (runP 2097152 nev (zS, [], 0) bs).2.1 ∧ Below w.heap.size w w' := by
  have HS := hid hs
  obtain ⟨av, cv, rfl⟩ := src_shape hs
  clear hs
  obtain ⟨a, HA⟩ : ∃ a, Hid (runP 2097152 nev (zS, [], 0) bs = a) := ⟨_, rfl⟩
  rw [HA.out]
  obtain ⟨Y, HYY⟩ : ∃ a9, Hid ((stopP a.1).1 = a9) := ⟨_, rfl⟩
  obtain ⟨TT, HTT⟩ : ∃ a9, Hid ((stopP a.1).2 = a9) := ⟨_, rfl⟩
  rw [HYY.out, HTT.out]
  have HW0 := hid (below_walk w (.cells #[.int .i64 0, .int .i64 0] 33))
  have HN0 := hid (hp_new w (.cells #[.int .i64 0, .int .i64 0] 33))
  go_enter Tryz.func19, Tryz.ntmps19
  go_upto_region 1 with (first | (refine al_row (by rfl) 33 (by rfl) _ zeroFault ?_))
  obtain ⟨R, HRe⟩ : ∃ n, Hid (w.heap.size = n) := ⟨_, rfl⟩
  rw [HRe.out] at HN0 ⊢
  generalize w.alloc (.cells #[.int .i64 0, .int .i64 0] 33) = w0 at HW0 HN0 ⊢
  go_wp2_with fail
  refine (newMax8 w0).mono ?_
  rintro e w1 ⟨b, rfl, hbw, hsd, hb1⟩
  have HBW := hid (show w.heap.size ≤ b by have := HW0.out.size; omega)
  have HBR := hid (show R < b by have := hp_lt HN0.out; omega)
  have HW1 := hid (below_walk w1 (.cells #[.slice av bs.length cv] 22))
  have HSD2 := hid (hsd.below HW1.out)
  have HQ2 := hid (below_then (below_then HW0.out hb1) HW1.out)
  have HR2 := hid (bel_keep HW1.out (bel_keep hb1 HN0.out))
  have HL2 := hid (lsts_one w1 _ bs (HS.out.below (below_then HW0.out hb1)))
  have HVn := hid (show bs ≠ [] → (Value.slice av bs.length cv).ownBlock ≠ some b from fun h e => by have := src_lt HS.out h e; have := HBW.out; omega)
  have HLb := hid hsd.kb.lt
  clear hbw hsd hb1
  go_wp2_with fail
  obtain ⟨Z, HZe⟩ : ∃ n, Hid (w1.heap.size = n) := ⟨_, rfl⟩
  rw [HZe.out] at HL2 HLb
  try rw [HZe.out]
  generalize w1.alloc (.cells #[.slice av bs.length cv] 22) = w2 at HW1 HSD2 HQ2 HR2 HL2 ⊢
  have HFE := hid (kfeed_any HSD2.out rfl _ _ _ (fun W vd hg => HL2.out.gd hg (by show some Z ≠ some b; have := HLb.out; simp; omega) (fun k e e2 => by cases e2) (fun j h => by match j, h with | 0, h => exact HVn.out h | j + 1, _ => exact (by show nS.ownBlock ≠ some b; intro e; cases e)) (fun j k _ e e2 => by cases e2)) (by simp) (by rw [fl_one8]; show 0 + bs.length ≤ _; omega) (by rw [fl_one8]; omega))
  rw [fl_one8, HA.out] at HFE
  refine HFE.out.mono ?_
  rintro e w3 ⟨vl, v4, fs, rfl, hof, hsd3, hg3, hm3⟩
  obtain ⟨y, HY⟩ : ∃ y, Hid (a.1.why = y) := ⟨_, rfl⟩
  obtain ⟨t, HTt⟩ : ∃ y, Hid (a.1.wat = y) := ⟨_, rfl⟩
  rw [HY.out, HTt.out]
  have HW4 := hid (below_walk w3 (.cells [Value.int .i64 y, .int .i64 t].toArray 33))
  have HSD := hid (hsd3.below HW4.out)
  have HQ4 := hid (below_then (Below.trans HQ2.out ((HSD2.out.low hg3).mono HBW.out)) HW4.out)
  have HR4 := hid (bel_keep HW4.out ((hg3.block R (hp_lt HR2.out) (by have := HBR.out; omega) (fun e => by cases e)).trans HR2.out))
  have HOF := hid ((hof.below HW4.out).le HQ2.out.size)
  have HM := hid hm3
  obtain ⟨al, nl, cl, el⟩ : ∃ a n c, vl = .slice a n c := by obtain ⟨a, c, e⟩ := hof.shape; exact ⟨_, _, _, e⟩
  subst el
  clear hof hsd3 hg3 hm3 HFE HSD2 HL2 HR2
  go_upto_region 3 with (refine st_new (by rfl) 33 _ _ (by rfl) [Value.int .i64 y, .int .i64 t] (by rfl) (by rfl) 33 _ faultSize rfl (fault_one _ _) ?_)
  generalize w3.alloc (.cells [Value.int .i64 y, .int .i64 t].toArray 33) = w4 at HW4 HSD HQ4 HR4 HOF ⊢
  have HEN := hid (kend_any HSD.out)
  rw [HYY.out, HTT.out] at HEN
  go_wp2_with fail
  refine HEN.out.mono ?_
  rintro e w5 ⟨rfl, hb5⟩
  have HR5 := hid (bel_keep hb5 HR4.out)
  have HQ5 := hid (below_then HQ4.out hb5)
  have HOF5 := hid (HOF.out.below hb5)
  clear hb5 HEN
  go_wp2_with (first | (refine st_row (by rfl) 33 _ _ (by rfl) R [Value.int .i64 Y, .int .i64 TT] (by rfl) (by rfl) 33 _ HR5.out faultSize rfl (fault_one _ _) ?_; intro w6 hw6))
  exact ret_tc 2 3 33 rfl _ rfl R rfl _ 33 hw6.blk _ Tryz.underlying33 rfl faultSize rfl ⟨_, fs, rfl, HOF5.out.gone hw6.grown HR5.out (by decide) (by decide), HM.out, Below.of_gb HQ5.out hw6.grown (by have := HRe.out; omega)⟩

set_option maxRecDepth 100000 in
set_option maxHeartbeats 4000000 in
theorem psizes8_any (v : Value) (bs : List UInt8) (w : World) (hs : Src w v bs) (hbl : bs.length ≤ 300000000000) :
    Calls Tryz.prog 20 #[v] w fun e w' => ∃ vl, e = .returned (.tuple #[vl, .agg #[.int .i64 (stopP (runP 2097152 nev (zS, [], 0) bs).1).1, .int .i64 (stopP (runP 2097152 nev (zS, [], 0) bs).1).2]]) ∧ OwnI w' w.heap.size vl (runP 2097152 nev (zS, [], 0) bs).1.szs ∧ Below w.heap.size w w' := by
  have HSP := hid (fun W (hb : Below w.heap.size w W) => psplit8_any v bs W (hs.below hb) hbl)
  have HZS := hid (run_szs (M := 2097152) (q := nev) bs (zS, [], 0) rfl (fun f hf => by cases hf))
  have HFW := hid (run_few (M := 2097152) (q := nev) bs (zS, [], 0))
  obtain ⟨a, HA⟩ : ∃ a, Hid (runP 2097152 nev (zS, [], 0) bs = a) := ⟨_, rfl⟩
  rw [HA.out] at HSP HZS HFW ⊢
  obtain ⟨Y, HYY⟩ : ∃ a9, Hid ((stopP a.1).1 = a9) := ⟨_, rfl⟩
  obtain ⟨TT, HTT⟩ : ∃ a9, Hid ((stopP a.1).2 = a9) := ⟨_, rfl⟩
  rw [HYY.out, HTT.out] at HSP ⊢
  obtain ⟨av, cv, rfl⟩ := src_shape hs
  clear hs
  have HW0 := hid (below_walk w (.cells #[.int .i64 0, .int .i64 0] 33))
  have HN0 := hid (hp_new w (.cells #[.int .i64 0, .int .i64 0] 33))
  go_enter Tryz.func20, Tryz.ntmps20
  go_upto_region 1 with (first | (refine al_row (by rfl) 33 (by rfl) _ zeroFault ?_))
  obtain ⟨R, HRe⟩ : ∃ n, Hid (w.heap.size = n) := ⟨_, rfl⟩
  rw [HRe.out] at HN0 ⊢
  generalize w.alloc (.cells #[.int .i64 0, .int .i64 0] 33) = w0 at HW0 HN0 ⊢
  have HS0 := hid (HSP.out w0 HW0.out)
  clear HSP
  go_wp2_with fail
  refine HS0.out.mono ?_
  rintro e w1 ⟨vl, fs, rfl, hof, hm, hb1⟩
  have HW2 := hid (below_walk w1 (.cells [Value.int .i64 Y, .int .i64 TT].toArray 33))
  have HE2 := hid (hp_new w1 (.cells [Value.int .i64 Y, .int .i64 TT].toArray 33))
  have HR2 := hid (bel_keep HW2.out (bel_keep hb1 HN0.out))
  have HQ2 := hid (below_then (below_then HW0.out hb1) HW2.out)
  have HOF2 := hid ((hof.below HW2.out).le HW0.out.size)
  have HM := hid hm
  have HER := hid (show R < w1.heap.size from hp_lt (bel_keep hb1 HN0.out))
  obtain ⟨al, cl, el⟩ := hof.shape
  subst el
  clear hof hm hb1 HS0 HN0
  go_upto_region 2 with (refine st_new (by rfl) 33 _ _ (by rfl) [Value.int .i64 Y, .int .i64 TT] (by rfl) (by rfl) 33 _ faultSize rfl (fault_one _ _) ?_)
  obtain ⟨E, HEe⟩ : ∃ n, Hid (w1.heap.size = n) := ⟨_, rfl⟩
  rw [HEe.out] at HE2 HER ⊢
  generalize w1.alloc (.cells [Value.int .i64 Y, .int .i64 TT].toArray 33) = w2 at HW2 HE2 HR2 HQ2 HOF2 ⊢
  have HFL := hid (show fs.length ≤ 300000000000 by have h1 := HFW.out; rw [← HM.out, List.length_map] at h1; simp at h1; omega)
  have HCK := hid (show ∀ k, k < fs.length → chkE (fs.getD k zFV).1 = 0 from fun k hk => HZS.out.2 _ (by rw [← HM.out, List.getD_eq_getElem?_getD, List.getElem?_eq_getElem hk]; exact List.mem_map_of_mem (List.getElem_mem hk)))
  have HLN := hid (show a.1.szs = fs.map (fun f => lenE f.1) by rw [HZS.out.1, ← HM.out, List.map_map]; rfl)
  go_wp2
  go_loopw [6, 18] (fun vz vi wr => ∃ (k : Nat), k ≤ fs.length ∧ vi = .int .i64 k ∧ Hid (OwnI wr w.heap.size vz ((fs.take k).map (fun f => lenE f.1))) ∧ Hid (OFs wr w.heap.size (.slice al fs.length cl) fs) ∧ Hid (wr.heap[R]? = some (.cells #[.int .i64 0, .int .i64 0] 33 (0, 0))) ∧ Hid (wr.heap[E]? = some (.cells [Value.int .i64 Y, .int .i64 TT].toArray 33 (0, 0))) ∧ Hid (Below w.heap.size w wr)) (fun _ vi _ => fs.length - (intOf vi).toNat)
  case atStart => exact ⟨0, by omega, rfl, OwnI.nil _ _, HOF2.out, HR2.out, HE2.out, HQ2.out⟩
  case round =>
    obtain ⟨k, hk, rfl, HOI, HOF, HRr, HEr, HQ⟩ := hrel
    obtain ⟨az, nz, cz, ez⟩ : ∃ a n c, _ = Value.slice a n c := by obtain ⟨a, c, e⟩ := HOI.out.shape; exact ⟨_, _, _, e⟩
    subst ez
    by_cases hlt : k < fs.length
    · as_aux_lemma =>
        have hki : (k : Int) < (fs.length : Int) := by omega
        obtain ⟨g, o, rfl, hgl, hra, hst, hrn⟩ := HOF.out.frs.at k hlt
        have HRA := hid hra
        have HST := hid hst
        have HSZ := hid (frame_size (fs.getD k zFV).1 (fs.getD k zFV).2 hrn.tool)
        obtain ⟨aS, cS, eS⟩ := hst.shape
        have HON := hid (fcells_one (fs.getD k zFV).1 (fs.getD k zFV).2 (by rw [eS]; rfl))
        have HLZ := hid (show (fcells zF nS).toArray.size = (fcells (fs.getD k zFV).1 (fs.getD k zFV).2).length by rw [fcells_length _ _ hrn.tool]; rfl)
        have HSI := hid (fun W (hW : Strs W (fs.getD k zFV).2 (fs.getD k zFV).1.args) => sizeF_any (fs.getD k zFV).1 (fs.getD k zFV).2 W hrn hW)
        have HC0 := hid (HCK.out k hlt)
        have HTS := hid (show (fs.take (k + 1)).map (fun f => lenE f.1) = (fs.take k).map (fun f => lenE f.1) ++ [lenE (fs.getD k zFV).1] by
          rw [List.take_succ_eq_append_getElem hlt, List.map_append, List.getD_eq_getElem?_getD, List.getElem?_eq_getElem hlt]
          rfl)
        rw [HC0.out, size_enc _ HC0.out] at HSI
        have HZL := hid (show ((fs.take k).map (fun f => lenE f.1)).length + 1 ≤ 1000000000000 by rw [List.length_map, List.length_take]; have := HFL.out; omega)
        obtain ⟨N, HN⟩ : ∃ n, Hid (lenE (fs.getD k zFV).1 = n) := ⟨_, rfl⟩
        rw [HN.out] at HSI HTS
        obtain ⟨FF, HFF⟩ : ∃ f9, Hid (fcells (fs.getD k zFV).1 (fs.getD k zFV).2 = f9) := ⟨_, rfl⟩
        rw [HFF.out] at HRA HSZ HON HLZ HSI
        obtain ⟨ZL, HZLe⟩ : ∃ l, Hid ((fs.take k).map (fun f => lenE f.1) = l) := ⟨_, rfl⟩
        rw [HZLe.out] at HOI HTS HZL
        have hkw : IntKind.i64.wrap ((k : Int) + 1) = (k : Int) + 1 := by rw [IntKind.wrap_i64]; have := HFL.out; omega
        have HWF := hid (below_walk wr (.cells FF.toArray 30))
        clear hra hst hrn eS
        go_wp2_with (first
          | (refine wpList_load_mid (by rfl) 30 (.tmp 20) (by rfl) g (o + k * 42) (by rfl) FF _ HRA.out Tryz.underlying30 rfl HSZ.out ?_)
          | (refine al_row (by rfl) 30 (by rfl) _ zeroFrame ?_)
          | (refine st_new (by rfl) 30 _ _ (by rfl) FF (by rfl) (by rfl) 30 _ HSZ.out HLZ.out HON.out ?_)
          | (refine ld_row (by rfl) 30 (.tmp 8) (by rfl) wr.heap.size (by rfl) FF 30 (hp_new wr _) _ Tryz.underlying30 rfl HSZ.out ?_))
        refine (HSI.out _ (HST.out.below HWF.out)).mono ?_
        rintro e w3 ⟨rfl, hb3⟩
        have HB3 := hid (below_then HWF.out hb3)
        have HW4 := hid (below_walk w3 (.cells #[.int .i64 (N : Int)] 3))
        have HB4 := hid (below_then HB3.out HW4.out)
        have HI4 := hid (show OwnI (w3.alloc (.cells #[.int .i64 (N : Int)] 3)) w.heap.size (.slice az nz cz) ZL from own_below HOI.out HB4.out)
        have HX4 := hid (show ∃ b2, OwnI (w3.alloc (.cells #[.int .i64 (N : Int)] 3)) b2 (.slice (some ⟨w3.heap.size, 0, none⟩) 1 1) [N] from ⟨w3.heap.size, World.ownsRow_lit w3 #[.int .i64 (N : Int)] 1 (Nat.le_refl _) (by decide) rfl⟩)
        have HZ4 := hid (Nat.le_trans HQ.out.size HB4.out.size)
        clear hb3 HSI
        go_wp2_with (first | (at_builtin; refine app_ints (by rfl) _ _ rfl w.heap.size _ ZL rfl HI4.out _ [N] rfl HX4.out HZL.out HZ4.out ?_))
        intro v5 w5 ho5 hg5 hp5
        rw [← HTS.out] at ho5
        have HO5 := hid ho5
        have HQ5 := hid (Below.of_gbo (below_then HQ.out HB4.out) hg5 (fun k e => (World.ownsRow.lt HI4.out k e).1))
        have HOF5 := hid ((HOF.out.below HB4.out).grown HI4.out hg5 (by decide) (by decide))
        have HR5 := hid (gb_blk (bel_keep HB4.out HRr.out) hg5 (own_block HI4.out (bel_keep HB4.out HRr.out) (by decide)))
        have HE5 := hid (gb_blk (bel_keep HB4.out HEr.out) hg5 (own_block HI4.out (bel_keep HB4.out HEr.out) (by decide)))
        obtain ⟨a5, n5, c5, e5⟩ : ∃ a n c, v5 = .slice a n c := by obtain ⟨a, c, e⟩ := ho5.shape; exact ⟨_, _, _, e⟩
        subst e5
        clear ho5 hg5 hp5
        go_wp2
        exact ⟨⟨k + 1, hlt, by simp, HO5.out, HOF5.out, HR5.out, HE5.out, HQ5.out⟩, by simp [intOf]; omega⟩
    · obtain rfl : k = fs.length := by omega
      as_aux_lemma =>
        have HOI2 := hid (show OwnI wr w.heap.size (.slice az nz cz) a.1.szs by have h := HOI.out; rw [List.take_length] at h; rw [HLN.out]; exact h)
        have HNE := hid (show R ≠ E by have := HER.out; omega)
        go_upto_region 9 with fail
        refine wp_noPanic (wp_region_held_drew (S := fun W => W.heap[E]? = some (.cells [Value.int .i64 Y, .int .i64 TT].toArray 33 (0, 0))) (by kernel_rfl) HEr.out ?_)
        intro hHeld
        refine wpAnyH_take (i := 0) (v := .slice az nz cz) rfl (by kernel_rfl) (by kernel_rfl) (by kernel_rfl) (fun _ _ _ h => h) (Or.inl ⟨by rfl, fun W _ => by go_simp⟩) hHeld ?_
        simp only [Act.put, List.getElem_toArray, List.getElem_cons_zero, List.setIfInBounds_toArray, List.set_cons_succ, List.set_cons_zero]
        refine wpAnyH_take (i := 1) (v := .agg [Value.int .i64 Y, .int .i64 TT].toArray) rfl (by kernel_rfl) (by kernel_rfl) (by kernel_rfl) (fun _ _ _ h => h) (yieldsIf_load_mid (by rfl) 33 (.tmp 5) rfl E 0 rfl [Value.int .i64 Y, .int .i64 TT] _ (fun W hW => range_row hW) Tryz.underlying33 rfl faultSize) hHeld ?_
        simp only [Act.put, List.getElem_toArray, List.getElem_cons_zero, List.getElem_cons_succ, List.setIfInBounds_toArray, List.set_cons_succ, List.set_cons_zero]
        have HD := hid (bel_drw wr 1)
        have HR7 := hid (bel_keep HD.out HRr.out)
        have HE7 := hid (bel_keep HD.out HEr.out)
        have HQ7 := hid (below_then HQ.out HD.out)
        have HI7 := hid (show OwnI (wr.drewN 1) w.heap.size (.slice az nz cz) a.1.szs from own_below HOI2.out HD.out)
        obtain ⟨wq, HWX⟩ : ∃ x, Hid (wr.drewN 1 = x) := ⟨_, rfl⟩
        have HWYq := hid (show wr.drew = wq from HWX.out)
        rw [HWX.out] at HR7 HE7 HQ7 HI7
        rw [HWYq.out] at hHeld ⊢
        clear HD
        refine wpAnyH_take (i := 2) (v := .slice az nz cz) rfl (by kernel_rfl) (by kernel_rfl) (by kernel_rfl) (fun _ _ _ h => h) (Or.inl ⟨by rfl, fun W _ => by go_simp⟩) hHeld ?_
        simp only [Act.put, List.getElem_toArray, List.getElem_cons_zero, List.getElem_cons_succ, List.setIfInBounds_toArray, List.set_cons_succ, List.set_cons_zero]
        refine wpAnyH_ready (rs := [3]) (by kernel_rfl) (by simp) ?_
        refine AllReadyH.cons rfl (fun K9 hK => ?_) AllReadyH.nil
        refine step_store_row (by rfl) 33 _ _ (by rfl) R [Value.int .i64 Y, .int .i64 TT] (by rfl) (by rfl) 33 _ HR7.out faultSize rfl (fault_one _ _) ?_
        intro w8 hw8
        have HE8 := hid (gb_blk HE7.out hw8.grown (by have := HNE.out; simpa using this))
        refine hK.out _ _ HE8.out (fun hHeld => ?_)
        clear hK K9
        try simp only [Act.put, List.getElem_toArray, List.getElem_cons_zero, List.getElem_cons_succ]
        refine wpAnyH_done (by kernel_rfl) ?_ _
        simp only [noPanic]
        clear hHeld
        go_wp2
        exact ret_tc 2 3 33 rfl _ rfl R rfl _ 33 hw8.blk _ Tryz.underlying33 rfl faultSize rfl ⟨_, rfl, own_far2 HI7.out hw8.grown (fun _ e h => own_block HI7.out HR7.out (by decide) (h ▸ e)), Below.of_gb HQ7.out hw8.grown (by have := HRe.out; omega)⟩
end Go.Proofs.YtiibhccbbpgehaaGreat

/- The document's Same of frames that are alike. -/
namespace Go.Proofs.YtiibhccbbpgehaaGreat
open Go.RowKit Go.BigFrame

theorem map_at {fs gs : List FV} (h : fs.map (·.1) = gs.map (·.1)) (k : Nat) : (fs.getD k zFV).1 = (gs.getD k zFV).1 := by
  have h1 : (fs.map (·.1))[k]? = (gs.map (·.1))[k]? := by rw [h]
  rw [List.getElem?_map, List.getElem?_map] at h1
  rw [List.getD_eq_getElem?_getD, List.getD_eq_getElem?_getD]
  cases h2 : fs[k]? with
  | none =>
    rw [h2] at h1
    cases h3 : gs[k]? with
    | none => rfl
    | some b => rw [h3] at h1; cases h1
  | some a =>
    rw [h2] at h1
    cases h3 : gs[k]? with
    | none => rw [h3] at h1; cases h1
    | some b => rw [h3] at h1; simpa using h1

set_option maxRecDepth 100000 in
set_option maxHeartbeats 4000000 in
theorem rsl_any (va vb : Value) (fs gs : List FV) (w : World) (ha : Frs w va fs) (hb : Frs w vb gs) (h : fs.map (·.1) = gs.map (·.1)) (hn : fs.length ≤ 140737488355327) :
    Calls Tryz.prog 22 #[va, vb] w fun e w' => e = .returned (.bool true) ∧ Below w.heap.size w w' := by
  have hlen : gs.length = fs.length := by have := congrArg List.length h; simpa using this.symm
  obtain ⟨aa, ca, rfl⟩ := ha.shape
  obtain ⟨ab, cb, eb⟩ := hb.shape
  rw [hlen] at eb
  subst eb
  have HA := hid ha
  have HB := hid hb
  have HM := hid (map_at h)
  have HLN := hid hlen
  clear ha hb h hlen
  go_enter Tryz.func22, Tryz.ntmps22
  go_wp2
  go_loopw [5] (fun vi wr => ∃ k : Nat, k ≤ fs.length ∧ vi = .int .i64 k ∧ Hid (Below w.heap.size w wr)) (fun vi _ => fs.length - (intOf vi).toNat)
  case atStart => exact ⟨0, by omega, rfl, Below.refl _ _⟩
  case round =>
    obtain ⟨k, hk, rfl, HBL⟩ := hrel
    by_cases hlt : k < fs.length
    · as_aux_lemma =>
        have hki : (k : Int) < (fs.length : Int) := by omega
        obtain ⟨g, o, rfl, hgl, hra, hst, hrn⟩ := (HA.out.below HBL.out).at k hlt
        obtain ⟨g2, o2, rfl, hgl2, hra2, hst2, hrn2⟩ := (HB.out.below HBL.out).at k (by rw [HLN.out]; exact hlt)
        have hmk := HM.out k
        rw [← hmk] at hra2 hst2 hrn2
        have HSZ := hid (frame_size (fs.getD k zFV).1 (fs.getD k zFV).2 hrn.tool)
        have HSZ2 := hid (frame_size (fs.getD k zFV).1 (gs.getD k zFV).2 hrn.tool)
        have HRA := hid (Bel.range hra hgl)
        have HRB := hid (Bel.range hra2 hgl2)
        have HSM := hid (fun p : Bel wr => rsame_any (fs.getD k zFV).1 (fs.getD k zFV).1 (fs.getD k zFV).2 (gs.getD k zFV).2 p.out hrn.tool hrn.tool (hst.below p.bel) (hst2.below p.bel) hrn.many)
        rw [sameP_self] at HSM
        obtain ⟨FF, HFF⟩ : ∃ f9, Hid (fcells (fs.getD k zFV).1 (fs.getD k zFV).2 = f9) := ⟨_, rfl⟩
        obtain ⟨GG, HGG⟩ : ∃ f9, Hid (fcells (fs.getD k zFV).1 (gs.getD k zFV).2 = f9) := ⟨_, rfl⟩
        rw [HFF.out] at HSZ HRA HSM
        rw [HGG.out] at HSZ2 HRB HSM
        have ib : Nonempty (Bel wr) := bel_some wr
        have hkw : IntKind.i64.wrap ((k : Int) + 1) = (k : Int) + 1 := by rw [IntKind.wrap_i64]; omega
        clear hra hst hrn hra2 hst2 hrn2 hmk
        go_upto_region 6 with fail
        refine wp_region_quiet_bel (by kernel_rfl) (by kernel_rfl) ?_
        go_big_quiet_step (fail)
        go_big_quiet_step (fail)
        go_big_quiet_step (fail)
        refine wpQuiet_want (by rfl) fun K hK => quiet_ld 30 (.tmp 19) (by rfl) g (o + k * 42) (by rfl) _ _ HRA.out Tryz.underlying30 rfl HSZ.out (hK _ ?_)
        simp only [Act.put, List.setIfInBounds_toArray, List.set_cons_succ, List.set_cons_zero]
        go_big_quiet_step (fail)
        go_big_quiet_step (fail)
        go_big_quiet_step (fail)
        refine wpQuiet_want (by rfl) fun K hK => quiet_ld 30 (.tmp 23) (by rfl) g2 (o2 + k * 42) (by rfl) _ _ HRB.out Tryz.underlying30 rfl HSZ2.out (hK _ ?_)
        simp only [Act.put, List.setIfInBounds_toArray, List.set_cons_succ, List.set_cons_zero]
        go_big_quiet_step (first | (go_at_call 11; exact bel_of (HSM.out _)))
        go_big_quiet_step (fail)
        refine wpQuiet_nil ?_
        rintro w8 ⟨⟨w8', hb8⟩, hw8⟩
        obtain rfl : w8 = w8' := hw8
        have HB8 := hid (below_then HBL.out hb8)
        clear hb8
        go_wp2
        exact ⟨⟨k + 1, hlt, by simp, HB8.out⟩, by simp [intOf]; omega⟩
    · obtain rfl : k = fs.length := by omega
      as_aux_lemma =>
        go_wp2
        go_ret
        exact ⟨rfl, HBL.out⟩
end Go.Proofs.YtiibhccbbpgehaaGreat

/- The document's Split. -/
namespace Go.Proofs.YtiibhccbbpgehaaGreat
open Go.RowKit Go.BigFrame

theorem built_strm : Tryz.prog.built 47 [(0, .int .i64 2097152)] = some (sxC 2097152 (.slice none 0 0) (.slice none 0 0) zS).toArray := by kernel_rfl

set_option maxRecDepth 100000 in
set_option maxHeartbeats 4000000 in
theorem rsplit8_any (v : Value) (bs : List UInt8) (w : World) (hs : Src w v bs) (hbl : bs.length ≤ 900000000) :
    Calls Tryz.prog 21 #[v] w fun e w' => ∃ vl vs fs, e = .returned (.tuple #[vl, vs, .agg #[.int .i64 (stopP (runP 2097152 nev (zS, [], 0) bs).1).1, .int .i64 (stopP (runP 2097152 nev (zS, [], 0) bs).1).2]]) ∧ OFs w' w.heap.size vl fs ∧ fs.map (·.1) = (runP 2097152 nev (zS, [], 0) bs).2.1 ∧ OwnI w' w.heap.size vs (runP 2097152 nev (zS, [], 0) bs).1.szs ∧ Below w.heap.size w w' := by
  have HS := hid hs
  obtain ⟨av, cv, rfl⟩ := src_shape hs
  clear hs
  have HGD := hid (run_good (M := 2097152) (q := nev) bs (a := (zS, [], 0)) (Gs.zero 2097152))
  have HW0 := hid (below_walk w (.cells #[.int .i64 0, .int .i64 0] 33))
  have HN0 := hid (hp_new w (.cells #[.int .i64 0, .int .i64 0] 33))
  go_enter Tryz.func21, Tryz.ntmps21
  go_upto_region 1 with (first | (refine al_row (by rfl) 33 (by rfl) _ zeroFault ?_))
  obtain ⟨R, HRe⟩ : ∃ n, Hid (w.heap.size = n) := ⟨_, rfl⟩
  rw [HRe.out] at HN0 ⊢
  generalize w.alloc (.cells #[.int .i64 0, .int .i64 0] 33) = w0 at HW0 HN0 ⊢
  have HW1 := hid (below_walk w0 (.cells #[.slice av bs.length cv] 22))
  have HQ1 := hid (below_then HW0.out HW1.out)
  have HR1 := hid (bel_keep HW1.out HN0.out)
  have HFE := hid (rfeed8_ok zS (.slice none 0 0) (.slice none 0 0) _ _ [bs] _ 0 2097152 (Nat.le_refl _) (Gs.zero _) (World.ownsRow_nil _ _ _ _) (OwnI.nil _ _) (lsts_one w0 _ bs (HS.out.below HW0.out)) rfl (by simp) (by rw [fl_one8]; show 0 + bs.length ≤ _; omega) (by rw [fl_one8]; show 0 + bs.length ≤ _; omega))
  rw [fl_one8] at HFE
  obtain ⟨a, HA⟩ : ∃ a, Hid (runP 2097152 nev (zS, [], 0) bs = a) := ⟨_, rfl⟩
  rw [HA.out] at HFE HGD
  obtain ⟨y, HY⟩ : ∃ y, Hid (a.1.why = y) := ⟨_, rfl⟩
  obtain ⟨t, HTt⟩ : ∃ y, Hid (a.1.wat = y) := ⟨_, rfl⟩
  obtain ⟨Y, HYY⟩ : ∃ a9, Hid ((stopP a.1).1 = a9) := ⟨_, rfl⟩
  obtain ⟨TT, HTT⟩ : ∃ a9, Hid ((stopP a.1).2 = a9) := ⟨_, rfl⟩
  rw [HY.out, HTt.out] at HFE
  obtain ⟨SZ, HSZe⟩ : ∃ l, Hid (sxC 2097152 (.slice none 0 0) (.slice none 0 0) zS = l) := ⟨_, rfl⟩
  have HBT := hid built_strm
  rw [HSZe.out] at HFE HBT
  go_wp2_with (first | (refine bd_row (by rfl) 47 #[(0, .const (.int .i64 2097152))] (by rfl) _ (by simp [Act.eval]) _ HBT.out ?_))
  refine HFE.out.mono ?_
  rintro e w4 ⟨vr4, vs4, vl4, fs4, rfl, ho4, hz4, hof4, hm4, hb4⟩
  have HW4 := hid (show Below w4.heap.size w4 ((w4.alloc (.cells #[.int .i64 0, .slice none 0 0, .int .i64 0, .int .i64 0, .int .i64 0, .int .i64 0, .slice none 0 0] 47)).alloc (.cells #[.int .i64 0, .int .i64 0] 33)) from below_walk2 w4 _ _)
  have HN4 := hid (show ((w4.alloc (.cells #[.int .i64 0, .slice none 0 0, .int .i64 0, .int .i64 0, .int .i64 0, .int .i64 0, .slice none 0 0] 47)).alloc (.cells #[.int .i64 0, .int .i64 0] 33)).heap[w4.heap.size]? = some (.cells (sxC 0 (.slice none 0 0) (.slice none 0 0) zS).toArray 47 (0, 0)) ∧ ((w4.alloc (.cells #[.int .i64 0, .slice none 0 0, .int .i64 0, .int .i64 0, .int .i64 0, .int .i64 0, .slice none 0 0] 47)).alloc (.cells #[.int .i64 0, .int .i64 0] 33)).heap[w4.heap.size + 1]? = some (.cells #[.int .i64 0, .int .i64 0] 33 (0, 0)) from hp_two w4 _ _)
  have HZ4 : Hid ((w4.alloc (.cells #[.int .i64 0, .slice none 0 0, .int .i64 0, .int .i64 0, .int .i64 0, .int .i64 0, .slice none 0 0] 47)).heap.size = w4.heap.size + 1) := hid (by simp)
  have HR4 := hid (bel_keep HW4.out (bel_keep hb4 HR1.out))
  have HRl := hid (show R < w4.heap.size from hp_lt (bel_keep hb4 HR1.out))
  have HQ4 := hid (below_then (below_then HQ1.out hb4) HW4.out)
  have HQs := hid (below_then HQ1.out hb4).size
  have HO4 := hid (show OwnB _ w.heap.size vr4 a.1.r from (own_le (ho4.below HW4.out) HQ1.out.size))
  have HI4 := hid (show OwnI _ w.heap.size vs4 a.1.szs from own_le (own_below hz4 HW4.out) HQ1.out.size)
  have HOF4 := hid ((hof4.below HW4.out).le HQ1.out.size)
  have HM4 := hid hm4
  have HSZ4 := hid (show (Tryz.prog.info? 47).map (·.size) = some (sxC 2097152 vr4 vs4 a.1).length from strmSize)
  have HON4 := hid (sxC_one (M := 2097152) (vr := vr4) (vs := vs4) (s := a.1) (by obtain ⟨a, c, e⟩ := ho4.shape; rw [e]; rfl) (by obtain ⟨a, c, e⟩ := hz4.shape; rw [e]; rfl))
  have HOL4 := hid (show (sxC 0 (.slice none 0 0) (.slice none 0 0) zS).toArray.size = (sxC 2097152 vr4 vs4 a.1).length from rfl)
  have HC6 := hid (fun (W : World) (C : Nat) (h : W.heap[C]? = some (.cells (sxC 2097152 vr4 vs4 a.1).toArray 47 (0, 0))) => (show W.cell? ⟨C, 6, none⟩ = some vs4 from (cell_of_row _ C 6 _ _ _ h).trans rfl))
  have HEN := hid (fun W (hW : Src W vr4 a.1.r) => rend8_any 2097152 a.1 vr4 vs4 W hW (fun h => (HGD.out.ok h).1))
  rw [HYY.out, HTT.out] at HEN
  obtain ⟨al, nl, cl, el⟩ : ∃ a n c, vl4 = .slice a n c := by obtain ⟨a, c, e⟩ := hof4.shape; exact ⟨_, _, _, e⟩
  obtain ⟨az, nz, cz, ez⟩ : ∃ a n c, vs4 = .slice a n c := by obtain ⟨a, c, e⟩ := hz4.shape; exact ⟨_, _, _, e⟩
  subst el ez
  clear ho4 hz4 hof4 hm4 hb4 HFE
  obtain ⟨S4, HS4⟩ : ∃ l, Hid (sxC 2097152 vr4 (.slice az nz cz) a.1 = l) := ⟨_, rfl⟩
  rw [HS4.out] at HSZ4 HON4 HOL4 HC6 HEN ⊢
  go_upto_region 2 with (first
    | (refine al_row (by rfl) 47 (by rfl) _ zeroStrm ?_)
    | (refine al_row (by rfl) 33 (by rfl) _ zeroFault ?_; rw [HZ4.out])
    | (refine st_row (by rfl) 47 _ _ (by rfl) w4.heap.size S4 (by rfl) (by rfl) 47 _ HN4.out.1 HSZ4.out HOL4.out HON4.out ?_; intro w5 hw5; have HD5 := hid (gb_blk HN4.out.2 hw5.grown (by simp)))
    | (refine st_row (by rfl) 33 _ _ (by rfl) (w4.heap.size + 1) [Value.int .i64 y, .int .i64 t] (by rfl) (by rfl) 33 _ HD5.out faultSize rfl (fault_one _ _) ?_; intro w6 hw6))
  obtain ⟨C, HCe⟩ : ∃ n, Hid (w4.heap.size = n) := ⟨_, rfl⟩
  obtain ⟨D, HDe⟩ : ∃ n, Hid (C + 1 = n) := ⟨_, rfl⟩
  rw [HCe.out] at hw5 hw6 HN4 HRl HQs ⊢
  rw [HCe.out] at HD5
  rw [HDe.out] at hw6 HN4 HD5 ⊢
  have HCD := hid (show D = C + 1 from HDe.out.symm)
  have HC6' := hid (fun (W : World) (h : W.heap[C]? = some (.cells S4.toArray 47 (0, 0))) => HC6.out W C h)
  clear HC6
  have HC6 := hid HC6'.out
  clear HC6'
  have HCx := hid (gb_blk hw5.blk hw6.grown (by have := HCD.out; simp; omega))
  have HDx := hid hw6.blk
  have HRx := hid (gb_blk (gb_blk HR4.out hw5.grown (by have := HRl.out; simp; omega)) hw6.grown (by have := HRl.out; have := HCD.out; simp; omega))
  have HQx := hid (Below.of_gb (Below.of_gb HQ4.out hw5.grown HQs.out) hw6.grown (by have := HQs.out; have := HCD.out; omega))
  have HO5 := hid (own_far2 HO4.out hw5.grown (fun _ e h => own_block HO4.out HN4.out.1 (by decide) (h ▸ e)))
  have HI5 := hid (own_far2 HI4.out hw5.grown (fun _ e h => own_block HI4.out HN4.out.1 (by decide) (h ▸ e)))
  have HOx := hid (show OwnB w6 w.heap.size vr4 a.1.r from own_far2 HO5.out hw6.grown (fun _ e h => own_block HO5.out HD5.out (by decide) (h ▸ e)))
  have HIx := hid (own_far2 HI5.out hw6.grown (fun _ e h => own_block HI5.out HD5.out (by decide) (h ▸ e)))
  have HOFx := hid ((HOF4.out.gone hw5.grown HN4.out.1 (by decide) (by decide)).gone hw6.grown HD5.out (by decide) (by decide))
  clear hw5 hw6 HN4 HR4 HQ4 HO4 HI4 HO5 HI5 HOF4 HD5 HW4 HZ4
  obtain ⟨wx, hwx⟩ : ∃ x, x = w6 := ⟨_, rfl⟩
  subst hwx
  have f0 : wx.cell? ⟨D, 0, none⟩ = some (.int .i64 y) := by simp [World.cell?, HDx.out]
  have f1 : wx.cell? ⟨D, 1, none⟩ = some (.int .i64 t) := by simp [World.cell?, HDx.out]
  have HSE := hid (show stopP a.1 = (Y, TT) from Prod.ext HYY.out HTT.out)
  by_cases hy : y = 0
  · as_aux_lemma =>
      have ht : t = 0 := by rw [← HTt.out]; exact (HGD.out.ok (HY.out.trans hy)).1
      subst hy ht
      have n1 : ∀ W, (binOp .eql 33 (.agg #[.int .i64 0, .int .i64 0]) (.agg #[.int .i64 0, .int .i64 0])).run Tryz.prog W = .ok (.bool true) W := fun W => fault_eql 0 0 0 0 W
      have HENx := hid (HEN.out wx (HOx.out.src (by have := HGD.out.few; omega)))
      go_wp2_with (first
        | (refine bd_row (by rfl) 33 #[] (by rfl) _ (by simp) _ built_fz ?_)
        | (refine ld_row (by rfl) 47 (.tmp 5) (by rfl) C (by rfl) S4 47 HCx.out _ Tryz.underlying47 rfl HSZ4.out ?_))
      refine HENx.out.mono ?_
      rintro e w7 ⟨rfl, hb7⟩
      have HD7 := hid (bel_keep hb7 HDx.out)
      have HC7 := hid (bel_keep hb7 HCx.out)
      have HR7 := hid (bel_keep hb7 HRx.out)
      have HQ7 := hid (below_then HQx.out hb7)
      have HI7 := hid (show OwnI w7 w.heap.size (.slice az nz cz) a.1.szs from own_below HIx.out hb7)
      have HOF7 := hid (HOFx.out.below hb7)
      clear hb7 HENx f0 f1 n1
      go_upto_region 4 with (first | (refine st_row (by rfl) 33 _ _ (by rfl) D [Value.int .i64 Y, .int .i64 TT] (by rfl) (by rfl) 33 _ HD7.out faultSize rfl (fault_one _ _) ?_; intro w8 hw8))
      have HD8 := hid hw8.blk
      have HC8 := hid (gb_blk HC7.out hw8.grown (by have := HCD.out; simp; omega))
      have HR8 := hid (gb_blk HR7.out hw8.grown (by have := HCD.out; have := HRl.out; simp; omega))
      have HQ8 := hid (Below.of_gb HQ7.out hw8.grown (by have := HCD.out; have := HQs.out; omega))
      have HI8 := hid (show OwnI w8 w.heap.size (.slice az nz cz) a.1.szs from own_far2 HI7.out hw8.grown (fun _ e h => own_block HI7.out HD7.out (by decide) (h ▸ e)))
      have HOF8 := hid (HOF7.out.gone hw8.grown HD7.out (by decide) (by decide))
      clear hw8
      refine wp_noPanic (wp_region_held_drew (S := fun W => W.heap[C]? = some (.cells S4.toArray 47 (0, 0)) ∧ W.heap[D]? = some (.cells [Value.int .i64 Y, .int .i64 TT].toArray 33 (0, 0))) (by kernel_rfl) ⟨HC8.out, HD8.out⟩ ?_)
      intro hHeld
      refine wpAnyH_take (i := 0) (v := .slice al nl cl) rfl (by kernel_rfl) (by kernel_rfl) (by kernel_rfl) (fun _ _ _ h => h) (Or.inl ⟨by rfl, fun W _ => by go_simp⟩) hHeld ?_
      simp only [Act.put, List.getElem_toArray, List.getElem_cons_zero, List.setIfInBounds_toArray, List.set_cons_succ, List.set_cons_zero]
      refine wpAnyH_take (i := 1) (v := .pointer (some ⟨C, 6, none⟩)) rfl (by kernel_rfl) (by kernel_rfl) (by kernel_rfl) (fun _ _ _ h => h) (Or.inl ⟨by rfl, fun W _ => by go_simp⟩) hHeld ?_
      simp only [Act.put, List.getElem_toArray, List.getElem_cons_zero, List.getElem_cons_succ, List.setIfInBounds_toArray, List.set_cons_succ, List.set_cons_zero]
      refine wpAnyH_take (i := 2) (v := .slice az nz cz) rfl (by kernel_rfl) (by kernel_rfl) (by kernel_rfl) (fun _ _ _ h => h) (Or.inl ⟨by rfl, fun W hW => by have hcell := HC6.out W hW.1; clear hW; go_simp⟩) hHeld ?_
      simp only [Act.put, List.getElem_toArray, List.getElem_cons_zero, List.getElem_cons_succ, List.setIfInBounds_toArray, List.set_cons_succ, List.set_cons_zero]
      refine wpAnyH_take (i := 3) (v := .agg [Value.int .i64 Y, .int .i64 TT].toArray) rfl (by kernel_rfl) (by kernel_rfl) (by kernel_rfl) (fun _ _ _ h => h) (yieldsIf_load_mid (by rfl) 33 (.tmp 7) rfl D 0 rfl [Value.int .i64 Y, .int .i64 TT] _ (fun W hW => range_row hW.2) Tryz.underlying33 rfl faultSize) hHeld ?_
      simp only [Act.put, List.getElem_toArray, List.getElem_cons_zero, List.getElem_cons_succ, List.setIfInBounds_toArray, List.set_cons_succ, List.set_cons_zero]
      have HDD := hid (bel_drw w8 1)
      have HR9 := hid (bel_keep HDD.out HR8.out)
      have HC9 := hid (bel_keep HDD.out HC8.out)
      have HD9 := hid (bel_keep HDD.out HD8.out)
      have HQ9 := hid (below_then HQ8.out HDD.out)
      have HI9 := hid ((show OwnI (w8.drewN 1) w.heap.size (.slice az nz cz) a.1.szs from own_below HI8.out HDD.out))
      have HOF9 := hid (HOF8.out.below HDD.out)
      obtain ⟨wq, HWX⟩ : ∃ x, Hid (w8.drewN 1 = x) := ⟨_, rfl⟩
      have HWYq := hid (show w8.drew = wq from HWX.out)
      rw [HWX.out] at HR9 HC9 HD9 HQ9 HI9 HOF9
      rw [HWYq.out] at hHeld ⊢
      clear HDD
      refine wpAnyH_take (i := 4) (v := .slice al nl cl) rfl (by kernel_rfl) (by kernel_rfl) (by kernel_rfl) (fun _ _ _ h => h) (Or.inl ⟨by rfl, fun W _ => by go_simp⟩) hHeld ?_
      simp only [Act.put, List.getElem_toArray, List.getElem_cons_zero, List.getElem_cons_succ, List.setIfInBounds_toArray, List.set_cons_succ, List.set_cons_zero]
      refine wpAnyH_take (i := 5) (v := .slice az nz cz) rfl (by kernel_rfl) (by kernel_rfl) (by kernel_rfl) (fun _ _ _ h => h) (Or.inl ⟨by rfl, fun W _ => by go_simp⟩) hHeld ?_
      simp only [Act.put, List.getElem_toArray, List.getElem_cons_zero, List.getElem_cons_succ, List.setIfInBounds_toArray, List.set_cons_succ, List.set_cons_zero]
      refine wpAnyH_ready (rs := [6]) (by kernel_rfl) (by simp) ?_
      refine AllReadyH.cons rfl (fun K9 hK => ?_) AllReadyH.nil
      refine step_store_row (by rfl) 33 _ _ (by rfl) R [Value.int .i64 Y, .int .i64 TT] (by rfl) (by rfl) 33 _ HR9.out faultSize rfl (fault_one _ _) ?_
      intro wz hwz
      have HCz := hid (gb_blk HC9.out hwz.grown (by have := HRl.out; simp; omega))
      have HDz := hid (gb_blk HD9.out hwz.grown (by have := HRl.out; have := HCD.out; simp; omega))
      refine hK.out _ _ ⟨HCz.out, HDz.out⟩ (fun hHeld => ?_)
      clear hK K9
      try simp only [Act.put, List.getElem_toArray, List.getElem_cons_zero, List.getElem_cons_succ]
      refine wpAnyH_done (by kernel_rfl) ?_ _
      simp only [noPanic]
      clear hHeld
      go_wp2
      refine ret_ttc 2 3 4 33 rfl (.slice al nl cl) (.slice az nz cz) rfl rfl R rfl [Value.int .i64 Y, .int .i64 TT] 33 hwz.blk _ Tryz.underlying33 rfl faultSize rfl ?_
      rw [HA.out, HYY.out, HTT.out]
      exact ⟨_, _, fs4, rfl, HOF9.out.gone hwz.grown HR9.out (by decide) (by decide), HM4.out, own_far2 HI9.out hwz.grown (fun _ e h => own_block HI9.out HR9.out (by decide) (h ▸ e)), Below.of_gb HQ9.out hwz.grown (by have := HRe.out; omega)⟩
  · as_aux_lemma =>
      have hYT : (y, t) = (Y, TT) := by rw [← HSE.out]; unfold stopP; rw [if_pos (by rw [HY.out]; exact hy), HY.out, HTt.out]
      have e1 : y = Y := congrArg Prod.fst hYT
      have e2 : t = TT := congrArg Prod.snd hYT
      have n1 : ∀ W, (binOp .eql 33 (.agg #[.int .i64 Y, .int .i64 TT]) (.agg #[.int .i64 0, .int .i64 0])).run Tryz.prog W = .ok (.bool false) W := fun W => by rw [fault_eql]; simp [← e1, hy]
      subst e1 e2
      clear hYT
      go_upto_region 4 with (first | (refine bd_row (by rfl) 33 #[] (by rfl) _ (by simp) _ built_fz ?_))
      refine wp_noPanic (wp_region_held_drew (S := fun W => W.heap[C]? = some (.cells S4.toArray 47 (0, 0)) ∧ W.heap[D]? = some (.cells [Value.int .i64 y, .int .i64 t].toArray 33 (0, 0))) (by kernel_rfl) ⟨HCx.out, HDx.out⟩ ?_)
      intro hHeld
      refine wpAnyH_take (i := 0) (v := .slice al nl cl) rfl (by kernel_rfl) (by kernel_rfl) (by kernel_rfl) (fun _ _ _ h => h) (Or.inl ⟨by rfl, fun W _ => by go_simp⟩) hHeld ?_
      simp only [Act.put, List.getElem_toArray, List.getElem_cons_zero, List.setIfInBounds_toArray, List.set_cons_succ, List.set_cons_zero]
      refine wpAnyH_take (i := 1) (v := .pointer (some ⟨C, 6, none⟩)) rfl (by kernel_rfl) (by kernel_rfl) (by kernel_rfl) (fun _ _ _ h => h) (Or.inl ⟨by rfl, fun W _ => by go_simp⟩) hHeld ?_
      simp only [Act.put, List.getElem_toArray, List.getElem_cons_zero, List.getElem_cons_succ, List.setIfInBounds_toArray, List.set_cons_succ, List.set_cons_zero]
      refine wpAnyH_take (i := 2) (v := .slice az nz cz) rfl (by kernel_rfl) (by kernel_rfl) (by kernel_rfl) (fun _ _ _ h => h) (Or.inl ⟨by rfl, fun W hW => by have hcell := HC6.out W hW.1; clear hW; go_simp⟩) hHeld ?_
      simp only [Act.put, List.getElem_toArray, List.getElem_cons_zero, List.getElem_cons_succ, List.setIfInBounds_toArray, List.set_cons_succ, List.set_cons_zero]
      refine wpAnyH_take (i := 3) (v := .agg [Value.int .i64 y, .int .i64 t].toArray) rfl (by kernel_rfl) (by kernel_rfl) (by kernel_rfl) (fun _ _ _ h => h) (yieldsIf_load_mid (by rfl) 33 (.tmp 7) rfl D 0 rfl [Value.int .i64 y, .int .i64 t] _ (fun W hW => range_row hW.2) Tryz.underlying33 rfl faultSize) hHeld ?_
      simp only [Act.put, List.getElem_toArray, List.getElem_cons_zero, List.getElem_cons_succ, List.setIfInBounds_toArray, List.set_cons_succ, List.set_cons_zero]
      have HDD := hid (bel_drw wx 1)
      have HR9 := hid (bel_keep HDD.out HRx.out)
      have HC9 := hid (bel_keep HDD.out HCx.out)
      have HD9 := hid (bel_keep HDD.out HDx.out)
      have HQ9 := hid (below_then HQx.out HDD.out)
      have HI9 := hid ((show OwnI (wx.drewN 1) w.heap.size (.slice az nz cz) a.1.szs from own_below HIx.out HDD.out))
      have HOF9 := hid (HOFx.out.below HDD.out)
      obtain ⟨wq, HWX⟩ : ∃ x, Hid (wx.drewN 1 = x) := ⟨_, rfl⟩
      have HWYq := hid (show wx.drew = wq from HWX.out)
      rw [HWX.out] at HR9 HC9 HD9 HQ9 HI9 HOF9
      rw [HWYq.out] at hHeld ⊢
      clear HDD
      refine wpAnyH_take (i := 4) (v := .slice al nl cl) rfl (by kernel_rfl) (by kernel_rfl) (by kernel_rfl) (fun _ _ _ h => h) (Or.inl ⟨by rfl, fun W _ => by go_simp⟩) hHeld ?_
      simp only [Act.put, List.getElem_toArray, List.getElem_cons_zero, List.getElem_cons_succ, List.setIfInBounds_toArray, List.set_cons_succ, List.set_cons_zero]
      refine wpAnyH_take (i := 5) (v := .slice az nz cz) rfl (by kernel_rfl) (by kernel_rfl) (by kernel_rfl) (fun _ _ _ h => h) (Or.inl ⟨by rfl, fun W _ => by go_simp⟩) hHeld ?_
      simp only [Act.put, List.getElem_toArray, List.getElem_cons_zero, List.getElem_cons_succ, List.setIfInBounds_toArray, List.set_cons_succ, List.set_cons_zero]
      refine wpAnyH_ready (rs := [6]) (by kernel_rfl) (by simp) ?_
      refine AllReadyH.cons rfl (fun K9 hK => ?_) AllReadyH.nil
      refine step_store_row (by rfl) 33 _ _ (by rfl) R [Value.int .i64 y, .int .i64 t] (by rfl) (by rfl) 33 _ HR9.out faultSize rfl (fault_one _ _) ?_
      intro wz hwz
      have HCz := hid (gb_blk HC9.out hwz.grown (by have := HRl.out; simp; omega))
      have HDz := hid (gb_blk HD9.out hwz.grown (by have := HRl.out; have := HCD.out; simp; omega))
      refine hK.out _ _ ⟨HCz.out, HDz.out⟩ (fun hHeld => ?_)
      clear hK K9
      try simp only [Act.put, List.getElem_toArray, List.getElem_cons_zero, List.getElem_cons_succ]
      refine wpAnyH_done (by kernel_rfl) ?_ _
      simp only [noPanic]
      clear hHeld
      go_wp2
      refine ret_ttc 2 3 4 33 rfl (.slice al nl cl) (.slice az nz cz) rfl rfl R rfl [Value.int .i64 y, .int .i64 t] 33 hwz.blk _ Tryz.underlying33 rfl faultSize rfl ?_
      rw [HA.out, HYY.out, HTT.out]
      exact ⟨_, _, fs4, rfl, HOF9.out.gone hwz.grown HR9.out (by decide) (by decide), HM4.out, own_far2 HI9.out hwz.grown (fun _ e h => own_block HI9.out HR9.out (by decide) (h ▸ e)), Below.of_gb HQ9.out hwz.grown (by have := HRe.out; omega)⟩
end Go.Proofs.YtiibhccbbpgehaaGreat

/- StreamSplits answers true. -/
namespace Go.Proofs.YtiibhccbbpgehaaGreat
open Go.RowKit Go.BigFrame

theorem owni_at {w : World} {base n c : Nat} {ao : Option Addr} {l : List Nat} (h : OwnI w base (.slice ao n c) l) (k : Nat) (hk : k < l.length) : ∃ g, ao = some ⟨g, 0, none⟩ ∧ g < w.heap.size ∧ w.cell? ⟨g, k, none⟩ = some (.int .i64 ((l.getD k 0 : Nat) : Int)) := by
  rcases h.2 with ⟨e, h0⟩ | ⟨g, cap, cur, e, _, hh, _⟩
  · omega
  · injection e with e1 e2 e3
    subst e1
    refine ⟨g, rfl, hp_lt hh, ?_⟩
    have := World.ownsRow.cells h (g := g) rfl k (.int .i64 ((l.getD k 0 : Nat) : Int)) (by simp [intsV8, List.getD_eq_getElem?_getD, hk])
    rwa [addr_add] at this

set_option maxRecDepth 100000 in
set_option maxHeartbeats 8000000 in
theorem lawSplits_any (v : Value) (bs : List UInt8) (w : World) (hs : Src w v bs) (hbl : bs.length ≤ 1048576) :
    Calls Tryz.prog 5 #[v] w fun e w' => e = .returned (.bool true) ∧ Below w.heap.size w w' := by
  have HS := hid hs
  obtain ⟨av, cv, rfl⟩ := src_shape hs
  have HFW := hid (run_few (M := 2097152) (q := nev) bs (zS, [], 0))
  have HZW := hid (run_szs (M := 2097152) (q := nev) bs (zS, [], 0) rfl (fun f hf => by cases hf)).1
  have hsl := hs.1
  clear hs
  have HW0 := hid (below_walk w (.cells #[] 5))
  have HE0 := hid (show OwnB (w.alloc (.cells #[] 5)) w.heap.size (.slice (some ⟨w.heap.size, 0, none⟩) 0 0) [] from World.ownsRow_lit w #[] 0 (Nat.le_refl _) (by decide) rfl)
  have HS0 := hid (HS.out.below HW0.out)
  have HZ0 := hid HW0.out.size
  go_enter Tryz.func5, Tryz.ntmps5
  go_wp2_with (first | (at_builtin; refine app_bytes (by rfl) _ _ rfl w.heap.size _ [] rfl HE0.out _ _ rfl HS0.out (by simp; omega) HZ0.out ?_))
  intro v2 w2 ho2 hg2 hp2
  try rw [List.nil_append] at ho2
  have HO2 := hid (show OwnB w2 w.heap.size v2 bs from ho2)
  have HQ2 := hid (Below.of_gbo HW0.out hg2 (fun k e => (World.ownsRow.lt HE0.out k e).1))
  have HX2 := hid (HO2.out.src (by omega))
  obtain ⟨a2, c2, e2⟩ := ho2.shape
  subst e2
  clear ho2 hg2 hp2 HE0 HS0 HW0 HZ0
  have HA1 := hid (psplit8_any (.slice a2 bs.length c2) bs w2 HX2.out (by omega))
  have HA2 := hid (fun W (h : Below w2.heap.size w2 W) => psizes8_any (.slice a2 bs.length c2) bs W (HX2.out.below h) (by omega))
  have HA3 := hid (fun W (h : Below w.heap.size w W) => rsplit8_any (.slice av bs.length cv) bs W (HS.out.below h) (by omega))
  obtain ⟨a, HA⟩ : ∃ a, Hid (runP 2097152 nev (zS, [], 0) bs = a) := ⟨_, rfl⟩
  obtain ⟨Y, HYY⟩ : ∃ a9, Hid ((stopP a.1).1 = a9) := ⟨_, rfl⟩
  obtain ⟨TT, HTT⟩ : ∃ a9, Hid ((stopP a.1).2 = a9) := ⟨_, rfl⟩
  obtain ⟨ZL, HZL⟩ : ∃ l, Hid (a.1.szs = l) := ⟨_, rfl⟩
  rw [HA.out, HYY.out, HTT.out] at HA1 HA2 HA3
  rw [HA.out] at HFW HZW
  rw [HZL.out] at HA2 HA3 HZW
  -- l, f
  go_wp2_with fail
  refine HA1.out.mono ?_
  rintro e w3 ⟨vl, fs, rfl, hof, hm, hb3⟩
  have HW4 := hid (below_walk w3 (.cells [Value.int .i64 Y, .int .i64 TT].toArray 33))
  have HF4 := hid (hp_new w3 (.cells [Value.int .i64 Y, .int .i64 TT].toArray 33))
  have HB4 := hid (below_then hb3 HW4.out)
  have HOF4 := hid (hof.below HW4.out)
  have HM1 := hid hm
  obtain ⟨al, cl, el⟩ := hof.shape
  subst el
  clear hof hm hb3 HA1
  go_upto_region 3 with (refine st_new (by rfl) 33 _ _ (by rfl) [Value.int .i64 Y, .int .i64 TT] (by rfl) (by rfl) 33 _ faultSize rfl (fault_one _ _) ?_)
  obtain ⟨F1, HF1e⟩ : ∃ n, Hid (w3.heap.size = n) := ⟨_, rfl⟩
  rw [HF1e.out] at HF4 ⊢
  generalize w3.alloc (.cells [Value.int .i64 Y, .int .i64 TT].toArray 33) = w4 at HW4 HF4 HB4 HOF4 ⊢
  have HA2w := hid (HA2.out w4 HB4.out)
  clear HA2
  -- n, g
  go_wp2_with fail
  refine HA2w.out.mono ?_
  rintro e w5 ⟨vn, rfl, hoi, hb5⟩
  have HW6 := hid (below_walk w5 (.cells [Value.int .i64 Y, .int .i64 TT].toArray 33))
  have HG6 := hid (hp_new w5 (.cells [Value.int .i64 Y, .int .i64 TT].toArray 33))
  have HB46 := hid (below_then hb5 HW6.out)
  have HF6 := hid (bel_keep HB46.out HF4.out)
  have HB6 := hid (below_then HB4.out HB46.out)
  have HOF6 := hid (HOF4.out.below HB46.out)
  have HI6 := hid (show OwnI _ w4.heap.size vn ZL from own_below hoi HW6.out)
  obtain ⟨an, cn, en⟩ := hoi.shape
  subst en
  clear hoi hb5 HA2w HF4 HB4 HOF4
  go_upto_region 4 with (refine st_new (by rfl) 33 _ _ (by rfl) [Value.int .i64 Y, .int .i64 TT] (by rfl) (by rfl) 33 _ faultSize rfl (fault_one _ _) ?_)
  obtain ⟨F2, HF2e⟩ : ∃ n, Hid (w5.heap.size = n) := ⟨_, rfl⟩
  rw [HF2e.out] at HG6 ⊢
  generalize w5.alloc (.cells [Value.int .i64 Y, .int .i64 TT].toArray 33) = w6 at HW6 HG6 HB46 HF6 HB6 HOF6 HI6 ⊢
  have HA3w := hid (HA3.out w6 (below_then HQ2.out HB6.out))
  clear HA3
  -- m, k, h
  go_wp2_with fail
  refine HA3w.out.mono ?_
  rintro e w7 ⟨vm, vk, gs, rfl, hof7, hm7, hoi7, hb7⟩
  have HW8 := hid (below_walk w7 (.cells [Value.int .i64 Y, .int .i64 TT].toArray 33))
  have HH8 := hid (hp_new w7 (.cells [Value.int .i64 Y, .int .i64 TT].toArray 33))
  have HB68 := hid (below_then hb7 HW8.out)
  have HF8 := hid (bel_keep HB68.out HF6.out)
  have HG8 := hid (bel_keep HB68.out HG6.out)
  have HB8 := hid (below_then HB6.out HB68.out)
  have HQ8 := hid (below_then HQ2.out HB8.out)
  have HOF8 := hid (HOF6.out.below HB68.out)
  have HI8 := hid (show OwnI _ w4.heap.size (.slice an ZL.length cn) ZL from own_below HI6.out HB68.out)
  have HM8 := hid (hof7.below HW8.out)
  have HK8 := hid (show OwnI _ w6.heap.size vk ZL from own_below hoi7 HW8.out)
  have HMM := hid (show fs.map (·.1) = gs.map (·.1) by rw [HM1.out, hm7])
  obtain ⟨am, nm, cm, em⟩ : ∃ a n c, vm = .slice a n c := by obtain ⟨a, c, e⟩ := hof7.shape; exact ⟨_, _, _, e⟩
  obtain ⟨ak, ck, ek⟩ := hoi7.shape
  subst em ek
  clear hof7 hm7 hoi7 hb7 HA3w HF6 HG6 HB6 HOF6 HI6
  go_upto_region 5 with (refine st_new (by rfl) 33 _ _ (by rfl) [Value.int .i64 Y, .int .i64 TT] (by rfl) (by rfl) 33 _ faultSize rfl (fault_one _ _) ?_)
  obtain ⟨F3, HF3e⟩ : ∃ n, Hid (w7.heap.size = n) := ⟨_, rfl⟩
  rw [HF3e.out] at HH8 ⊢
  generalize w7.alloc (.cells [Value.int .i64 Y, .int .i64 TT].toArray 33) = w8 at HW8 HH8 HB68 HF8 HG8 HB8 HQ8 HOF8 HI8 HM8 HK8 ⊢
  have HFL := hid (show fs.length ≤ 140737488355327 by have h1 := HFW.out; rw [← HM1.out, List.length_map] at h1; simp at h1; omega)
  have HZZ := hid (show ZL.length ≤ 1048576 by have h1 := HFW.out; rw [HZW.out, List.length_map]; simp at h1; omega)
  have HSA := hid (rsl_any _ _ fs gs w8 HOF8.out.frs HM8.out.frs HMM.out HFL.out)
  have f0 : w8.cell? ⟨F1, 0, none⟩ = some (.int .i64 Y) := by simp [World.cell?, HF8.out]
  have f1 : w8.cell? ⟨F1, 1, none⟩ = some (.int .i64 TT) := by simp [World.cell?, HF8.out]
  have g0 : w8.cell? ⟨F2, 0, none⟩ = some (.int .i64 Y) := by simp [World.cell?, HG8.out]
  have g1 : w8.cell? ⟨F2, 1, none⟩ = some (.int .i64 TT) := by simp [World.cell?, HG8.out]
  have h0 : w8.cell? ⟨F3, 0, none⟩ = some (.int .i64 Y) := by simp [World.cell?, HH8.out]
  have h1 : w8.cell? ⟨F3, 1, none⟩ = some (.int .i64 TT) := by simp [World.cell?, HH8.out]
  have n1 : ∀ W, (binOp .neq 33 (.agg #[.int .i64 Y, .int .i64 TT]) (.agg #[.int .i64 Y, .int .i64 TT])).run Tryz.prog W = .ok (.bool false) W := fun W => by rw [fault_neq]; simp
  go_wp2_with fail
  refine HSA.out.mono ?_
  rintro e w9 ⟨rfl, hb9⟩
  have HQ9 := hid (below_then HQ8.out hb9)
  have HI9 := hid (show OwnI w9 w4.heap.size (.slice an ZL.length cn) ZL from own_below HI8.out hb9)
  have HK9 := hid (show OwnI w9 w6.heap.size (.slice ak ZL.length ck) ZL from own_below HK8.out hb9)
  have ks1 := run_str (HX2.out.below (below_then HB8.out hb9))
  have ks2 := run_str (HS.out.below HQ9.out)
  clear hb9 HSA f0 f1 g0 g1 h0 h1 n1
  go_wp2
  clear ks1 ks2
  go_loopw [11] (fun vi wr => ∃ k : Nat, k ≤ ZL.length ∧ vi = .int .i64 k ∧ Hid (Below w9.heap.size w9 wr)) (fun vi _ => ZL.length - (intOf vi).toNat)
  case atStart => exact ⟨0, by omega, rfl, Below.refl _ _⟩
  case round =>
    obtain ⟨k, hk, rfl, HQ⟩ := hrel
    by_cases hlt : k < ZL.length
    · as_aux_lemma =>
        have hki : (k : Int) < (ZL.length : Int) := by omega
        obtain ⟨g1, rfl, hl1, hc1⟩ := owni_at HI9.out k hlt
        obtain ⟨g2, rfl, hl2, hc2⟩ := owni_at HK9.out k hlt
        have hkw : IntKind.i64.wrap ((k : Int) + 1) = (k : Int) + 1 := by rw [IntKind.wrap_i64]; have := HZZ.out; omega
        obtain ⟨N, HN⟩ : ∃ n, Hid (ZL.getD k 0 = n) := ⟨_, rfl⟩
        rw [HN.out] at hc1 hc2
        have HT9 := hid trivial
        have HL1 := hid (show g1 < wr.heap.size from Nat.lt_of_lt_of_le hl1 HQ.out.size)
        have HL2 := hid (show g2 < wr.heap.size from Nat.lt_of_lt_of_le hl2 HQ.out.size)
        have HC1 := hid ((HQ.out.cell (p := ⟨g1, k, none⟩) hl1).trans hc1)
        have HC2 := hid ((HQ.out.cell (p := ⟨g2, k, none⟩) hl2).trans hc2)
        clear hc1 hc2 hl1 hl2
        go_upto_region 10 with fail
        refine wp_noPanic (wp_region_held_drew (S := fun W => Below wr.heap.size wr W) (by kernel_rfl) (bel_drw wr 1) ?_)
        intro hHeld
        refine wpAnyH_take (i := 0) (v := .slice (some ⟨g1, 0, none⟩) ZL.length cn) rfl (by kernel_rfl) (by kernel_rfl) (by kernel_rfl) (fun _ _ _ h => h) (Or.inl ⟨by rfl, fun W _ => by go_simp⟩) hHeld ?_
        simp only [Act.put, List.getElem_toArray, List.getElem_cons_zero, List.setIfInBounds_toArray, List.set_cons_succ, List.set_cons_zero]
        refine wpAnyH_take (i := 1) (v := .int .i64 (k : Int)) rfl (by kernel_rfl) (by kernel_rfl) (by kernel_rfl) (fun _ _ _ h => h) (Or.inl ⟨by rfl, fun W _ => by go_simp⟩) hHeld ?_
        simp only [Act.put, List.getElem_toArray, List.getElem_cons_zero, List.getElem_cons_succ, List.setIfInBounds_toArray, List.set_cons_succ, List.set_cons_zero]
        refine wpAnyH_take (i := 2) (v := .pointer (some ⟨g1, k, none⟩)) rfl (by kernel_rfl) (by kernel_rfl) (by kernel_rfl) (fun _ _ _ h => h) (Or.inl ⟨by rfl, fun W _ => by have hfact := hki; go_simp; first | done | simp [hfact]⟩) hHeld ?_
        simp only [Act.put, List.getElem_toArray, List.getElem_cons_zero, List.getElem_cons_succ, List.setIfInBounds_toArray, List.set_cons_succ, List.set_cons_zero]
        refine wpAnyH_take (i := 3) (v := .int .i64 (N : Int)) rfl (by kernel_rfl) (by kernel_rfl) (by kernel_rfl) (fun _ _ _ h => h) (Or.inl ⟨by rfl, fun W hW => by have hcell := (hW.cell (p := ⟨g1, k, none⟩) HL1.out).trans HC1.out; clear hW; go_simp⟩) hHeld ?_
        simp only [Act.put, List.getElem_toArray, List.getElem_cons_zero, List.getElem_cons_succ, List.setIfInBounds_toArray, List.set_cons_succ, List.set_cons_zero]
        refine wpAnyH_take (i := 4) (v := .slice (some ⟨g2, 0, none⟩) ZL.length ck) rfl (by kernel_rfl) (by kernel_rfl) (by kernel_rfl) (fun _ _ _ h => h) (Or.inl ⟨by rfl, fun W _ => by go_simp⟩) hHeld ?_
        simp only [Act.put, List.getElem_toArray, List.getElem_cons_zero, List.getElem_cons_succ, List.setIfInBounds_toArray, List.set_cons_succ, List.set_cons_zero]
        refine wpAnyH_take (i := 5) (v := .int .i64 (k : Int)) rfl (by kernel_rfl) (by kernel_rfl) (by kernel_rfl) (fun _ _ _ h => h) (Or.inl ⟨by rfl, fun W _ => by go_simp⟩) hHeld ?_
        simp only [Act.put, List.getElem_toArray, List.getElem_cons_zero, List.getElem_cons_succ, List.setIfInBounds_toArray, List.set_cons_succ, List.set_cons_zero]
        refine wpAnyH_take (i := 6) (v := .pointer (some ⟨g2, k, none⟩)) rfl (by kernel_rfl) (by kernel_rfl) (by kernel_rfl) (fun _ _ _ h => h) (Or.inl ⟨by rfl, fun W _ => by have hfact := hki; go_simp; first | done | simp [hfact]⟩) hHeld ?_
        simp only [Act.put, List.getElem_toArray, List.getElem_cons_zero, List.getElem_cons_succ, List.setIfInBounds_toArray, List.set_cons_succ, List.set_cons_zero]
        refine wpAnyH_take (i := 7) (v := .int .i64 (N : Int)) rfl (by kernel_rfl) (by kernel_rfl) (by kernel_rfl) (fun _ _ _ h => h) (Or.inl ⟨by rfl, fun W hW => by have hcell := (hW.cell (p := ⟨g2, k, none⟩) HL2.out).trans HC2.out; clear hW; go_simp⟩) hHeld ?_
        simp only [Act.put, List.getElem_toArray, List.getElem_cons_zero, List.getElem_cons_succ, List.setIfInBounds_toArray, List.set_cons_succ, List.set_cons_zero]
        refine wpAnyH_take (i := 8) (v := .bool false) rfl (by kernel_rfl) (by kernel_rfl) (by kernel_rfl) (fun _ _ _ h => h) (Or.inl ⟨by rfl, fun W _ => by have hfact := HT9.out; go_simp; first | done | simp [hfact]⟩) hHeld ?_
        simp only [Act.put, List.getElem_toArray, List.getElem_cons_zero, List.getElem_cons_succ, List.setIfInBounds_toArray, List.set_cons_succ, List.set_cons_zero]
        have HD := hid (bel_drw wr 1)
        have HQ9 := hid (below_then HQ.out HD.out)
        obtain ⟨wq, HWX⟩ : ∃ x, Hid (wr.drewN 1 = x) := ⟨_, rfl⟩
        have HWYq := hid (show wr.drew = wq from HWX.out)
        rw [HWX.out] at HQ9
        rw [HWYq.out]
        clear hHeld HD
        refine wpAnyH_done (by kernel_rfl) ?_ _
        simp only [noPanic]
        go_wp2
        exact ⟨⟨k + 1, hlt, by simp, HQ9.out⟩, by simp [intOf]; omega⟩
    · obtain rfl : k = ZL.length := by omega
      as_aux_lemma =>
        go_wp2_with fail
        refine (awake8_any wr).mono ?_
        rintro e wz ⟨rfl, hbz⟩
        have HB9 := hid (below_then HQ9.out (below_then HQ.out hbz))
        clear hbz
        go_wp2
        go_ret
        exact ⟨rfl, HB9.out⟩
end Go.Proofs.YtiibhccbbpgehaaGreat
