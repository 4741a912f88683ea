/- Contracts and pure facts that the proof needs, joined. -/
import Derived.Test.YtiibhccbbpgehaaGreatG6
import Derived.Great.BuildSlice
import Derived.Great.FillDense
import Derived.Test.YtiibhccbbpgehaaGreatG1
import Derived.Test.YtiibhccbbpgehaaGreatG2
import Derived.Test.YtiibhccbbpgehaaGreatG4

/- A decoder takes bytes until so many frames are whole. -/
namespace Go.Proofs.YtiibhccbbpgehaaGreat
open Go.RowKit Go.BigFrame

/-- how a slice is cut on both sides -/
theorem cut_range {w : World} {v : Value} {bs : List UInt8} (h : Src w v bs) (i j : Nat) (hij : i ≤ j) (hj : j ≤ bs.length) :
    ∃ vx, Src w vx ((bs.drop i).take (j - i)) ∧ (∀ k, vx.ownBlock = some k → v.ownBlock = some k) ∧ (∀ W, (Instr.sliceAt 22 v (some (.int .i64 (i : Int))) (some (.int .i64 (j : Int))) none).run Tryz.prog W = .ok vx W) := by
  obtain ⟨hl, ⟨rfl, rfl⟩ | ⟨ad, cap, rfl, h1, h2, hlt, hc⟩⟩ := h
  · simp at hj
    subst hj
    obtain rfl : i = 0 := by omega
    exact ⟨.slice none 0 0, ⟨by simp, Or.inl ⟨rfl, rfl⟩⟩, fun k e => e, fun W => by go_simp⟩
  · have hlen : ((bs.drop i).take (j - i)).length = j - i := by simp; omega
    have hi2 : (i : Int) ≤ (j : Int) := by omega
    have hj2 : (j : Int) ≤ (cap : Int) := by omega
    refine ⟨.slice (if cap = i then some ad else some (ad.add i)) (j - i) (cap - i), ⟨by omega, Or.inr ?_⟩, fun k e => ?_, fun W => ?_⟩
    · by_cases hck : cap = i
      · rw [if_pos hck]
        refine ⟨ad, cap - i, by rw [hlen], by omega, by unfold maxLen at *; omega, fun h => by rw [hlen] at h; omega, fun q hq => by rw [hlen] at hq; omega⟩
      · rw [if_neg hck]
        refine ⟨ad.add i, cap - i, by rw [hlen], by omega, by unfold maxLen at *; omega, fun h => ?_, fun q hq => ?_⟩
        · rw [addr_block]
          exact hlt (by rw [hlen] at h; omega)
        · rw [hlen] at hq
          have e : (ad.add i).add q = ad.add (i + q) := by simp [Addr.add]; split <;> split <;> simp_all <;> omega
          rw [e, hc (i + q) (by omega)]
          simp [List.getD_eq_getElem?_getD, hq]
    · by_cases hck : cap = i
      · rw [if_pos hck] at e; exact e
      · rw [if_neg hck] at e
        simpa [Value.ownBlock, addr_block] using e
    · go_simp

/-- a slice literal of one frame -/
theorem bs_frame {w : World} {ops : Array Oper} {rest : List Oper} {o : Oper} {a : Act} {Q : Exit → Act → World → Prop} (hg : o.guard = none) (x : Operand) (ho : o.op = .buildSlice 62 1 #[(0, x)])
    (cs : List Value) (hx : a.eval x = .agg cs.toArray) (hl : cs.length = 42) (g : Nat) (hg2 : w.heap.size = g)
    (h : wpList Tryz.prog ops Q rest (a.put o.dst (.slice (some ⟨g, 0, none⟩) 1 1)) (w.alloc (.cells cs.toArray 30))) : wpList Tryz.prog ops Q (o :: rest) a w := by
  subst hg2
  obtain ⟨i0, hi, hz0, hz1, hz2⟩ := info_parts Tryz.infoFrame
  refine wpList_buildSlice hg 62 30 1 #[(0, x)] ho cs.toArray i0 _ Tryz.underlying62 hi hz0 (by rw [hz1]; decide) (by rw [hz1]; decide) ?_ h
  rw [hz1]
  have e : (#[(0, x)].map fun (i, x) => (i, a.eval x)).toList = (([Value.agg cs.toArray]).zipIdx 0).map fun x => (x.2, x.1) := by simp [hx]
  rw [e, Great.fill_whole (s := 42) (by decide) [Value.agg cs.toArray] _ (by intro v hv; simp at hv; subst hv; simpa [Value.cells] using hl) (by simp)]
  simp [Value.cells]
/-- one frame in a new row -/
theorem frs_one (w : World) (f : Fr) (va : Value) (hr : Rng f) (hs : Strs w va f.args) : Frs (w.alloc (.cells (fcells f va).toArray 30)) (.slice (some ⟨w.heap.size, 0, none⟩) 1 1) [(f, va)] := by
  refine Or.inr ⟨w.heap.size, 0, 1, rfl, by simp, fun j hj => ?_⟩
  simp at hj
  subst hj
  refine ⟨fun i u hu => ?_, hs.below (below_walk w _), hr⟩
  rw [show 0 + 0 * 42 + i = i by omega, cell_of_row _ _ i _ _ _ (hp_new w _)]
  simpa using hu
section
variable {w w' : World} {base b : Nat} {v : Value} {M : Nat} {s : Sx}
theorem OFs.sd {lo : Nat} {vo v' : Value} {fs : List FV} (h : OFs w lo vo fs) (g : Gd w w' b v v') (k : Sd w base b v M s) : OFs w' lo vo fs := h.gd g k.kb.blk k.kb.own

theorem Gd.newer {w1 w2 : World} {vg v1 : Value} (h : Gd w w1 b v v1) (g : w1.grownBy w2 vg.ownBlock) (hn : ∀ k, vg.ownBlock = some k → w.heap.size ≤ k) : Gd w w2 b v v1 :=
  ⟨g.os.trans h.os, g.tape.trans h.tape, g.output.trans h.output, Nat.le_trans h.size g.size,
    fun k hk hb hv => (g.block k (Nat.lt_of_lt_of_le hk h.size) (fun e => by have := hn k e.symm; omega)).trans (h.block k hk hb hv), h.lies⟩
/-- a row of frames grew -/
theorem Sd.apart {lo : Nat} {vg : Value} {fs : List FV} (h : Sd w base b v M s) (g : w.grownBy w' vg.ownBlock) (k : OFs w lo vg fs) : Sd w' base b v M s := by
  refine ⟨⟨h.kb.lo, (g.block b h.kb.lt (fun e => own_block k.own h.kb.blk (by decide) e.symm)).trans h.kb.blk, h.kb.own.kept g ?_⟩, h.good, h.one, h.big⟩
  cases hk : v.ownBlock with
  | none => exact Or.inl rfl
  | some j => exact Or.inr (fun e => own_apart h.kb.own k.own (by decide) hk e.symm)
theorem takeC_hd (M : Nat) (s : Sx) (X : List UInt8) (va : Value) : (if (takeC M s X).2.isEmpty then ([] : List FV) else [(hdF (takeC M s X).2, va)]).map (·.1) = (takeC M s X).2 := by
  unfold takeC
  repeat' split
  all_goals first | rfl | (rename_i h; simp at h)
theorem takeC_rng (M : Nat) (s : Sx) (X : List UInt8) (hl : (s.r ++ X).length ≤ 140737488355327) (hm : (hdF (takeC M s X).2).args.length ≤ 9223372036854775807) : Rng (hdF (takeC M s X).2) := by
  have hz : Rng zF := by
    have := dec_rng [] (by simp) (by show (decP []).1.args.length ≤ _; rw [dec_none [] (by decide)]; simp [zF])
    rwa [dec_none [] (by decide)] at this
  unfold takeC at hm ⊢
  by_cases h1 : (needM M (s.r ++ X)).2 ≠ 0
  · rw [if_pos h1]; exact hz
  · rw [if_neg h1] at hm ⊢
    by_cases h2 : (needM M (s.r ++ X)).1 = 0 ∨ (s.r ++ X).length < (needM M (s.r ++ X)).1
    · rw [if_pos h2]; exact hz
    · rw [if_neg h2] at hm ⊢
      by_cases h3 : (decP (s.r ++ X)).2.1 ≠ 0
      · rw [if_pos h3]; exact hz
      · rw [if_neg h3] at hm ⊢
        exact dec_rng _ hl hm

/-- what takeUntil answers: frames of their own, how many bytes; the decoder stands so -/
def UntP (w : World) (base b : Nat) (v : Value) (M : Nat) (a : Ra) (e : Ending) (w' : World) : Prop :=
  ∃ vl v' fs, e = .returned (.tuple #[vl, .int .i64 (a.2.2 : Nat)]) ∧ OFs w' w.heap.size vl fs ∧ Sd w' base b v' M a.1 ∧ Gd w w' b v v' ∧ fs.map (·.1) = a.2.1

set_option maxRecDepth 100000 in
set_option maxHeartbeats 8000000 in
theorem kuntil_any (h : Sd w base b v M s) (n : Int) (vx : Value) (bs : List UInt8) (hx : ∀ W vd, Gd w W b v vd → Src W vx bs) (hc : s.came + bs.length ≤ 4611686018427387904) (hbl : bs.length ≤ 900000000000) :
    Calls Tryz.prog 55 #[.pointer (some ⟨b, 0, none⟩), .int .i64 n, vx] w (UntP w base b v M (runP M (fun j => decide (n ≤ (j : Int))) (s, [], 0) bs)) := by
  obtain ⟨q, Hq⟩ : ∃ q : Nat → Bool, Hid ((fun j : Nat => decide (n ≤ (j : Int))) = q) := ⟨_, rfl⟩
  rw [Hq.out]
  have HX := hid hx
  have H := hid h
  obtain ⟨ax, cx, rfl⟩ := src_shape (hx w v (Gd.refl _ _ _))
  clear h hx
  go_enter Tryz.func55, Tryz.ntmps55
  go_wp2
  go_loopw [8, 9] (fun vl vi wr => ∃ (K : Nat) (vd : Value) (fs : List FV) (a : Ra), K ≤ bs.length ∧ vi = .int .i64 K ∧ Hid (runP M q (s, [], 0) (bs.take K) = a) ∧ Hid (a.2.2 = K) ∧ Hid (fs.map (·.1) = a.2.1) ∧ Hid (OFs wr w.heap.size vl fs) ∧ Hid (Sd wr base b vd M a.1) ∧ Hid (Gd w wr b v vd)) (fun _ vi _ => bs.length - (intOf vi).toNat)
  case atStart => exact ⟨0, v, [], (s, [], 0), by omega, rfl, by rw [List.take_zero]; exact runP_nil _ _ _, rfl, rfl, OFs.nil _ _, H.out, Gd.refl _ _ _⟩
  case round =>
    obtain ⟨K, vd, fs, a, hk, rfl, HR, HTK, HFS, HOF, HSD, HGD⟩ := hrel
    obtain ⟨alv, clv, rfl⟩ := HOF.out.shape
    have HFL := hid (show fs.length = a.2.1.length by rw [← HFS.out, List.length_map])
    -- the end
    have FIN : Hid (runP M q a (bs.drop K) = a → UntP w base b v M (runP M q (s, [], 0) bs) (.returned (.tuple #[.slice alv fs.length clv, .int .i64 (K : Int)])) wr) := hid (by
      intro he
      have e : runP M q (s, [], 0) bs = a := by
        conv => lhs; rw [← List.take_append_drop K bs]
        rw [runP_app, HR.out, he]
      rw [e]
      exact ⟨_, vd, fs, by rw [HTK.out], HOF.out, HSD.out, HGD.out, HFS.out⟩)
    by_cases hlt : K < bs.length
    · have q1 : (K : Int) < (bs.length : Int) := by omega
      by_cases hq : n ≤ (fs.length : Int)
      · as_aux_lemma =>
          have q2 : ¬ (fs.length : Int) < n := by omega
          have HE := hid (runP_stop M q a (Or.inl (by rw [← Hq.out, ← HFL.out]; exact decide_eq_true hq)) (bs.drop K))
          go_wp2
          refine bodyPost_ret (results_tmp2 rfl _ _ _) rfl ?_
          exact FIN.out HE.out
      · have q2 : (fs.length : Int) < n := by omega
        have HQF := hid (show q a.2.1.length = false by rw [← Hq.out, ← HFL.out]; exact decide_eq_false hq)
        have HPO := hid (kpois_any HSD.out.kb)
        by_cases hy : a.1.why = 0
        · have q3 : (a.1.why != 0) = false := by simpa using hy
          rw [q3] at HPO
          have HLK := hid (klack_any HSD.out.kb (by have := HSD.out.few; omega) (by
            obtain ⟨_, h1, h2⟩ := HSD.out.good.ok hy
            rw [(needM_ok h1).1] at h2
            rcases h2 with h2 | h2
            · exact Or.inl h2
            · exact Or.inr (by omega)) (need_le _))
          have HLP := hid (lack_pos HSD.out.good hy)
          have HLL := hid (lack_le HSD.out.good hy)
          obtain ⟨lk, Hlk⟩ : ∃ n, Hid (lackP a.1.r = n) := ⟨_, rfl⟩
          rw [Hlk.out] at HLK HLP HLL
          obtain ⟨m, Hm⟩ : ∃ m : Nat, Hid (min lk (bs.length - K) = m) := ⟨_, rfl⟩
          obtain ⟨RM, HRM⟩ : ∃ n : Nat, Hid (bs.length - K = n) := ⟨_, rfl⟩
          obtain ⟨TO, HTO⟩ : ∃ n : Nat, Hid (K + m = n) := ⟨_, rfl⟩
          have hmm : IntKind.i64.wrap ((bs.length : Int) - (K : Int)) = (RM : Int) := by rw [IntKind.wrap_i64]; have := HRM.out; omega
          have hm : min (lk : Int) (RM : Int) = (m : Int) := by have := Hm.out; have := HRM.out; omega
          have hto : IntKind.i64.wrap ((K : Int) + (m : Int)) = (TO : Int) := by rw [IntKind.wrap_i64]; have := HTO.out; have := Hm.out; have := HLL.out; have := HSD.out.big; omega
          have hmp : 1 ≤ m ∧ m ≤ lk ∧ K + m ≤ bs.length := by have := Hm.out; have := HLP.out; omega
          have HSW := hid (HX.out wr vd HGD.out)
          obtain ⟨vp, hp1, _, hp2⟩ := cut_range HSW.out K (K + m) (by omega) hmp.2.2
          rw [show K + m - K = m by omega] at hp1
          rw [HTO.out] at hp2
          obtain ⟨X, HXX⟩ : ∃ X, Hid ((bs.drop K).take m = X) := ⟨_, rfl⟩
          rw [HXX.out] at hp1
          have HXL := hid (show X.length = m by rw [← HXX.out, List.length_take, List.length_drop]; omega)
          have HXN := hid (show X ≠ [] by intro e; have := HXL.out; rw [e] at this; simp at this; omega)
          have HCA := hid (show a.1.came = s.came + K by have := run_came (M := M) (q := q) (bs.take K) (s, [], 0); rw [HR.out, HTK.out] at this; simpa using this)
          have HCH := hid (run_chunk M q X a.1 a.2.1 a.2.2 HSD.out.good hy HXN.out (by rw [HXL.out, Hlk.out]; exact hmp.2.1) HQF.out)
          have HP1 := hid hp1
          clear hp1 FIN
          go_wp2_with fail
          refine HPO.out.mono ?_
          rintro e w1 ⟨rfl, hw1⟩
          subst hw1
          go_wp2_with fail
          refine HLK.out.mono ?_
          rintro e w2 ⟨rfl, hb2⟩
          have HSD2 := hid (HSD.out.below hb2)
          have HGD2 := hid (HGD.out.below hb2)
          have HOF2 := hid (HOF.out.below hb2)
          have HP2 := hid (HP1.out.below hb2)
          clear hb2 HLK HPO HSW
          have HTA := hid (ktake_any HSD2.out hy vp X HP2.out HXN.out (by rw [HXL.out, Hlk.out]; exact hmp.2.1) (by rw [HCA.out, HXL.out]; omega))
          have HFH := hid (takeC_hd M a.1 X)
          have HRG := hid (takeC_rng M a.1 X (by have := HSD2.out.few; rw [List.length_append, HXL.out]; omega))
          have HRN := hid (show runP M q (s, [], 0) (bs.take (K + m)) = ((takeC M a.1 X).1, a.2.1 ++ (takeC M a.1 X).2, K + m) by
            rw [List.take_add, runP_app, HR.out, HXX.out, show a = (a.1, a.2.1, a.2.2) from rfl, HCH.out, HTK.out, HXL.out])
          obtain ⟨T, HT⟩ : ∃ T, Hid (takeC M a.1 X = T) := ⟨_, rfl⟩
          rw [HT.out] at HTA HFH HRG HRN
          obtain ⟨sl, Hsl⟩ : ∃ L, Hid (s.came = L) := ⟨_, rfl⟩
          clear HCH HT
          go_wp2_with fail
          refine HTA.out.mono ?_
          rintro e w3 ⟨va, v3, rfl, hoa, hsd3, hg3⟩
          have HG3 := hid (HGD2.out.trans hg3)
          have HOF3 := hid (HOF2.out.sd hg3 HSD2.out)
          have HSD3 := hid hsd3
          have HOA3 := hid (own_le hoa (base' := w.heap.size) (HGD2.out.size))
          have HRG2 := hid (HRG.out (wowns_len hoa))
          obtain ⟨aV, cV, eV⟩ := wowns_shape hoa
          have HSY := hid (frame_size (hdF T.2) va HRG2.out.tool)
          have HON := hid (fcells_one (hdF T.2) va (by rw [eV]; rfl))
          have HOS := hid (show (fcells zF nS).toArray.size = (fcells (hdF T.2) va).length by rw [fcells_length _ _ HRG2.out.tool]; rfl)
          have HFO := hid (fun W (hW : Strs W va (hdF T.2).args) => frs_one W (hdF T.2) va HRG2.out hW)
          have HMP := hid (HFH.out va)
          obtain ⟨FF, HFF⟩ : ∃ L, Hid (fcells (hdF T.2) va = L) := ⟨_, rfl⟩
          rw [HFF.out] at HSY HON HOS HFO ⊢
          clear hoa hsd3 hg3 HTA HRG HOF2 HGD2 HSD2 HP2 eV
          have HW3 := hid (below_walk w3 (.cells FF.toArray 30))
          have HN4 := hid (hp_new w3 (.cells FF.toArray 30))
          have HSD4 := hid (HSD3.out.below HW3.out)
          have HG4 := hid (HG3.out.below HW3.out)
          have HOF4 := hid (HOF3.out.below HW3.out)
          have HOA4 := hid (own_below HOA3.out HW3.out)
          go_upto_region 6 with (first
            | (refine al_row (by rfl) 30 (by rfl) _ zeroFrame ?_)
            | (refine st_new (by rfl) 30 _ _ (by rfl) FF (by rfl) (by rfl) 30 _ HSY.out HOS.out HON.out ?_))
          obtain ⟨B, HBe⟩ : ∃ n, Hid (w3.heap.size = n) := ⟨_, rfl⟩
          rw [HBe.out] at HN4 ⊢
          generalize w3.alloc (.cells FF.toArray 30) = w4 at HW3 HN4 HSD4 HG4 HOF4 HOA4 ⊢
          clear HSD3 HG3 HOF3 HOA3 HW3
          cases hem : T.2.isEmpty with
          | true =>
            as_aux_lemma =>
              rw [hem, if_pos rfl] at HMP
              have HTN := hid (show T.2 = [] from List.isEmpty_iff.1 hem)
              go_wp2
              refine ⟨⟨K + m, v3, fs, _, hmp.2.2, by rw [HTO.out], HRN.out, rfl, ?_, HOF4.out, HSD4.out, HG4.out⟩, by have := HTO.out; simp [intOf]; omega⟩
              show fs.map (·.1) = a.2.1 ++ T.2
              rw [HFS.out, HTN.out, List.append_nil]
          | false =>
            as_aux_lemma =>
              rw [hem, if_neg (by simp)] at HMP
              have HST4 := hid (wowns_strs HOA4.out)
              have HW4 := hid (below_walk w4 (.cells FF.toArray 30))
              have HF1 := hid (HFO.out w4 HST4.out)
              have HOF5 := hid (HOF4.out.below HW4.out)
              have HOA5 := hid (own_below HOA4.out HW4.out)
              have HSD5 := hid (HSD4.out.below HW4.out)
              have HG5 := hid (HG4.out.below HW4.out)
              have hft : fs.length + 1 ≤ 1000000000000 := by
                have h1 := run_few (M := M) (q := q) (bs.take K) (s, [], 0)
                rw [HR.out, ← HFL.out] at h1
                simp at h1
                omega
              have HSZ4 := hid (show w.heap.size ≤ (w4.alloc (.cells FF.toArray 30)).heap.size from HG5.out.size)
              have HF42 := hid (show FF.length = 42 by rw [← HFF.out, fcells_length _ _ HRG2.out.tool])
              have HEA := hid (show ∀ f ∈ [((hdF T.2, va) : FV)], WOwnS (w4.alloc (.cells FF.toArray 30)) w.heap.size f.2 f.1.args ∧ Rng f.1 by
                intro f hf
                simp at hf
                subst hf
                exact ⟨HOA5.out, HRG2.out⟩)
              obtain ⟨B4, HB4⟩ : ∃ n, Hid (w4.heap.size = n) := ⟨_, rfl⟩
              rw [HB4.out] at HF1
              go_wp2_with (first
                | (refine ld_row (by rfl) 30 (.tmp 11) (by rfl) B (by rfl) FF 30 HN4.out _ Tryz.underlying30 rfl HSY.out ?_)
                | (refine bs_frame (by rfl) (.tmp 50) (by rfl) FF (by rfl) HF42.out B4 HB4.out ?_)
                | (at_builtin; refine app_frs (by rfl) _ _ rfl w.heap.size _ fs rfl HOF5.out [(hdF T.2, va)] _ rfl HF1.out (fun _ e => by cases e) HEA.out hft HSZ4.out ?_))
              intro v6 w6 ho6 hg6 hp6
              have HG6 := hid (HG5.out.newer hg6 (fun k e => (World.ownsRow.lt HOF5.out.own k e).1))
              have HSD6 := hid (HSD5.out.apart hg6 HOF5.out)
              have HO6 := hid ho6
              obtain ⟨a6, c6, e6⟩ := ho6.shape
              clear ho6 hg6 hp6
              have hl6 : (fs ++ [(hdF T.2, va)]).length = fs.length + 1 := by simp
              rw [hl6] at e6
              subst e6
              go_wp2
              refine ⟨⟨K + m, v3, fs ++ [(hdF T.2, va)], _, hmp.2.2, by rw [HTO.out], HRN.out, rfl, ?_, HO6.out, HSD6.out, HG6.out⟩, by have := HTO.out; simp [intOf]; omega⟩
              show (fs ++ [(hdF T.2, va)]).map (·.1) = a.2.1 ++ T.2
              rw [List.map_append, HFS.out, HMP.out]
        · as_aux_lemma =>
            have q3 : (a.1.why != 0) = true := by simpa using hy
            rw [q3] at HPO
            have HE := hid (runP_stop M q a (Or.inr hy) (bs.drop K))
            go_wp2_with fail
            refine HPO.out.mono ?_
            rintro e w1 ⟨rfl, hw1⟩
            subst hw1
            go_wp2
            refine bodyPost_ret (results_tmp2 rfl _ _ _) rfl ?_
            exact FIN.out HE.out
    · obtain rfl : K = bs.length := by omega
      as_aux_lemma =>
        have HE := hid (show runP M q a (bs.drop bs.length) = a by rw [List.drop_length]; rfl)
        go_wp2
        refine bodyPost_ret (results_tmp2 rfl _ _ _) rfl ?_
        exact FIN.out HE.out
end
end Go.Proofs.YtiibhccbbpgehaaGreat

/- Feed. -/
namespace Go.Proofs.YtiibhccbbpgehaaGreat
open Go.RowKit Go.BigFrame

/-- a slice of slices of bytes: these slices, these bytes -/
def Lsts (w : World) (v : Value) (us : List Value) (pss : List (List UInt8)) : Prop :=
  (∃ ao c, v = .slice ao 0 c ∧ pss = []) ∨ ∃ g o c, v = .slice (some ⟨g, o, none⟩) pss.length c ∧ g < w.heap.size ∧ ∀ j, j < pss.length → w.cell? ⟨g, o + j, none⟩ = some (us.getD j nS) ∧ Src w (us.getD j nS) (pss.getD j [])
theorem Lsts.shape {w : World} {v : Value} {us : List Value} {pss : List (List UInt8)} (h : Lsts w v us pss) : ∃ ao c, v = .slice ao pss.length c := by
  rcases h with ⟨ao, c, rfl, rfl⟩ | ⟨g, o, c, rfl, _⟩
  · exact ⟨_, _, rfl⟩
  · exact ⟨_, _, rfl⟩
theorem Lsts.at {w : World} {ao : Option Addr} {n c : Nat} {us : List Value} {pss : List (List UInt8)} (h : Lsts w (.slice ao n c) us pss) (k : Nat) (hk : k < pss.length) : ∃ g o, ao = some ⟨g, o, none⟩ ∧ w.cell? ⟨g, o + k, none⟩ = some (us.getD k nS) ∧ Src w (us.getD k nS) (pss.getD k []) := by
  rcases h with ⟨_, _, _, rfl⟩ | ⟨g, o, c', e, hlt, hc⟩
  · simp at hk
  · simp only [Value.slice.injEq] at e
    exact ⟨g, o, e.1, hc k hk⟩
theorem Lsts.below {w w' : World} {v : Value} {us : List Value} {pss : List (List UInt8)} (h : Lsts w v us pss) (hb : Below w.heap.size w w') : Lsts w' v us pss := by
  rcases h with h | ⟨g, o, c, hv, hlt, hc⟩
  · exact Or.inl h
  · exact Or.inr ⟨g, o, c, hv, Nat.lt_of_lt_of_le hlt hb.size, fun j hj => ⟨(hb.cell (p := ⟨g, o + j, none⟩) hlt).trans (hc j hj).1, (hc j hj).2.below hb⟩⟩
theorem fault_at {w : World} {b : Nat} {v : Value} {ca wh lg : Nat} {y t : Int} {ty : TypeId} (h : w.heap[b]? = some (.cells #[v, .int .i64 ca, .int .i64 wh, .int .i64 lg, .int .i64 y, .int .i64 t] ty (0, 0))) : w.rangeAt b 4 [.int .i64 y, .int .i64 t] := by
  intro j u hu
  match j, hu with
  | 0, hu => simp at hu; subst hu; simp [World.cell?, h]
  | 1, hu => simp at hu; subst hu; simp [World.cell?, h]
theorem OFs.gone {w w' : World} {base n : Nat} {vo : Value} {fs : List FV} {cs : Array Value} {ty : TypeId} (h : OFs w base vo fs) (hg : w.grownBy w' (some n)) (hb : w.heap[n]? = some (.cells cs ty (0, 0))) (h1 : 30 ≠ ty) (h2 : 9 ≠ ty) : OFs w' base vo fs := by
  have key : ∀ {t : TypeId} {sz m : Nat} {u : Value} {ys : List Value}, w.ownsRow base t sz u m ys → t ≠ ty → w'.ownsRow base t sz u m ys := by
    intro t sz m u ys hu ht
    refine World.ownsRow.kept hu hg ?_
    cases hk : u.ownBlock with
    | none => exact Or.inl rfl
    | some k => exact Or.inr (fun h9 => own_block hu hb ht (hk.trans h9))
  exact ⟨key h.own h1, fun f hf => ⟨key (h.each f hf).1 h2, (h.each f hf).2⟩⟩
def nev : Nat → Bool := fun _ => false
section
variable {w w' : World} {base b : Nat} {v : Value} {M : Nat} {s : Sx}
theorem kref_ok {r : List UInt8} {ca wh lg : Nat} {t : Int} (h : Kb w base b v r ca wh lg 0 t) (hl : 0 < lg) :
    Calls Tryz.prog 54 #[.pointer (some ⟨b, 0, none⟩)] w fun e w' => e = .returned (.agg #[.int .i64 0, .int .i64 0]) ∧ Below w.heap.size w w' := kref_any h hl
/-- what Feed answers -/
def FeedP (w : World) (base b : Nat) (v : Value) (M : Nat) (a : Ra) (e : Ending) (w' : World) : Prop :=
  ∃ vl v' fs, e = .returned (.tuple #[vl, .agg #[.int .i64 a.1.why, .int .i64 a.1.wat]]) ∧ OFs w' w.heap.size vl fs ∧ Sd w' base b v' M a.1 ∧ Gd w w' b v v' ∧ fs.map (·.1) = a.2.1

set_option maxRecDepth 100000 in
set_option maxHeartbeats 8000000 in
theorem kfeed_any (h : Sd w base b v M s) (h0 : s.why = 0) (vp : Value) (us : List Value) (pss : List (List UInt8)) (hp : ∀ W vd, Gd w W b v vd → Lsts W vp us pss) (hn : pss.length ≤ 140737488355327) (hc : s.came + (fl pss).length ≤ 4611686018427387904) (hbl : (fl pss).length ≤ 900000000000) :
    Calls Tryz.prog 23 #[.pointer (some ⟨b, 0, none⟩), vp] w (FeedP w base b v M (runP M nev (s, [], 0) (fl pss))) := by
  have HB0 := hid (below_walk w (.cells #[.int .i64 0, .int .i64 0] 33))
  have HN0 := hid (hp_new w (.cells #[.int .i64 0, .int .i64 0] 33))
  have HSD0 := hid (h.below HB0.out)
  have HLT := hid h.kb.lt
  have HP := hid hp
  have HBL := hid hbl
  have HC := hid hc
  obtain ⟨A, HAA⟩ : ∃ n, Hid (w.heap.size = n) := ⟨_, rfl⟩
  obtain ⟨ap, cp, rfl⟩ := (hp w v (Gd.refl _ _ _)).shape
  have HRF := hid (kref_ok (t := s.wat) (h0 ▸ HSD0.out.kb) (lng_pos M))
  clear h hp
  go_enter Tryz.func23, Tryz.ntmps23
  go_upto_region 1 with fail
  generalize w.alloc (.cells #[.int .i64 0, .int .i64 0] 33) = w0 at HB0 HN0 HSD0 HRF ⊢
  rw [HAA.out] at HN0 HLT ⊢
  go_wp2_with fail
  refine HRF.out.mono ?_
  rintro e w1 ⟨rfl, hb1⟩
  have HW1 := hid (below_walk w1 (.cells [Value.int .i64 0, .int .i64 0].toArray 33))
  have HSD2 := hid ((HSD0.out.below hb1).below HW1.out)
  have HN2 := hid (bel_keep HW1.out (bel_keep hb1 HN0.out))
  have HB2 := hid (below_then (below_then HB0.out hb1) HW1.out)
  have HT := hid (hp_new w1 (.cells [Value.int .i64 0, .int .i64 0].toArray 33))
  clear hb1 HRF HSD0 HN0 HB0
  go_upto_region 2 with (refine st_new (by rfl) 33 _ _ (by rfl) [Value.int .i64 0, .int .i64 0] (by rfl) (by rfl) 33 _ faultSize rfl (fault_one _ _) ?_)
  obtain ⟨B, HBe⟩ : ∃ n, Hid (w1.heap.size = n) := ⟨_, rfl⟩
  rw [HBe.out] at HT ⊢
  generalize w1.alloc (.cells [Value.int .i64 0, .int .i64 0].toArray 33) = w2 at HW1 HSD2 HN2 HB2 HT ⊢
  have t0 : w2.cell? ⟨B, 0, none⟩ = some (.int .i64 0) := by simp [World.cell?, HT.out]
  have HG2 := hid (Gd.below (Gd.refl w b v) HB2.out)
  clear HW1 HT
  go_wp2
  clear t0
  go_loopw [7, 20] (fun vl vi wr => ∃ (k : Nat) (vd : Value) (fs : List FV) (a : Ra), k ≤ pss.length ∧ vi = .int .i64 k ∧ Hid (runP M nev (s, [], 0) (fl (pss.take k)) = a) ∧ Hid (fs.map (·.1) = a.2.1) ∧ Hid (OFs wr w.heap.size vl fs) ∧ Hid (Sd wr base b vd M a.1) ∧ Hid (Gd w wr b v vd) ∧ Hid (wr.heap[A]? = some (.cells #[.int .i64 0, .int .i64 0] 33 (0, 0)))) (fun _ vi _ => pss.length - (intOf vi).toNat)
  case atStart => exact ⟨0, v, [], (s, [], 0), by omega, rfl, by rw [List.take_zero, fl_nil]; exact runP_nil _ _ _, rfl, OFs.nil _ _, HSD2.out, HG2.out, HN2.out⟩
  case round =>
    obtain ⟨k, vd, fs, a, hk, rfl, HR, HFS, HOF, HSD, HGD, HN⟩ := hrel
    obtain ⟨alv, clv, rfl⟩ := HOF.out.shape
    by_cases hlt : k < pss.length
    · as_aux_lemma =>
        obtain ⟨g, o, rfl, hcl, _⟩ := (HP.out _ _ HGD.out).at k hlt
        obtain ⟨u, HU⟩ : ∃ u, Hid (us.getD k nS = u) := ⟨_, rfl⟩
        obtain ⟨p, HPP⟩ : ∃ p, Hid (pss.getD k [] = p) := ⟨_, rfl⟩
        have HX := hid (fl_snoc pss k hlt)
        rw [HPP.out] at HX
        have hsum : (fl (pss.take k)).length + p.length ≤ (fl pss).length := by
          have e : fl pss = fl (pss.take (k + 1)) ++ fl (pss.drop (k + 1)) := by
            unfold fl
            rw [← List.flatten_append, List.take_append_drop]
          rw [e, HX.out, List.length_append, List.length_append]
          omega
        have HFE := hid (run_few (M := M) (q := nev) (fl (pss.take k)) (s, [], 0))
        rw [HR.out] at HFE
        have HFL := hid (show fs.length = a.2.1.length by rw [← HFS.out, List.length_map])
        have HCA := hid (show a.1.came ≤ s.came + (fl (pss.take k)).length by
          have h1 := run_came (M := M) (q := nev) (fl (pss.take k)) (s, [], 0)
          have h2 := (run_took (M := M) (q := nev) (fl (pss.take k)) (s, [], 0)).2
          rw [HR.out] at h1 h2
          simp at h1 h2
          omega)
        rw [HU.out] at hcl
        have HUN := hid (kuntil_any HSD.out 9223372036854775807 u p (fun W vd' hg => by
          obtain ⟨_, _, _, _, h3⟩ := (HP.out W vd' (HGD.out.trans hg)).at k hlt
          rw [HU.out, HPP.out] at h3
          exact h3) (by have := HCA.out; have := HC.out; omega) (by have := HBL.out; omega))
        rw [run_congr (q' := nev) p (a.1, [], 0) (fun j hj => decide_eq_false (by simp at hj; have := HBL.out; omega))] at HUN
        have HSH := hid (run_shift (M := M) p a.1 a.2.1 a.2.2)
        have HFP := hid (run_few (M := M) (q := nev) p (a.1, [], 0))
        obtain ⟨R, HRR⟩ : ∃ R, Hid (runP M nev (a.1, [], 0) p = R) := ⟨_, rfl⟩
        have HSH2 := hid (show runP M nev (s, [], 0) (fl (pss.take (k + 1))) = (R.1, a.2.1 ++ R.2.1, a.2.2 + R.2.2) by
          rw [HX.out, runP_app, HR.out, ← HRR.out]; exact HSH.out)
        rw [HRR.out] at HUN HFP
        clear HSH HRR HX HR
        go_wp2_with fail
        refine HUN.out.mono ?_
        rintro e w3 ⟨vl3, v3, fs3, rfl, hof3, hsd3, hg3, hm3⟩
        have HOA := hid (HOF.out.sd hg3 HSD.out)
        have HF3 := hid hof3.frs
        have HE3 := hid (show ∀ f ∈ fs3, WOwnS w3 w.heap.size f.2 f.1.args ∧ Rng f.1 from fun f hf => ⟨own_le (hof3.each f hf).1 HGD.out.size, (hof3.each f hf).2⟩)
        have HNI3 := hid hof3.nilc
        have HSD3 := hid hsd3
        have HG3 := hid (HGD.out.trans hg3)
        have HM3 := hid hm3
        have HN3 := hid ((hg3.block A (hp_lt HN.out) (by have := HLT.out; omega) (fun e => own_block HSD.out.kb.own HN.out (by decide) e)).trans HN.out)
        have hlen : fs.length + fs3.length ≤ 1000000000000 := by
          have h1 : fs3.length = R.2.1.length := by rw [← hm3, List.length_map]
          have h2 := HFP.out
          have h3 := HFE.out
          have h4 := HFL.out
          have h5 := HBL.out
          simp at h2 h3
          omega
        have HL3 := hid hlen
        obtain ⟨a3, c3, e3⟩ := hof3.shape
        subst e3
        clear hof3 hsd3 hg3 hm3 HUN hlen
        go_wp2_with (at_builtin; refine app_frs rfl _ _ rfl w.heap.size _ fs rfl HOA.out fs3 _ rfl HF3.out HNI3.out HE3.out HL3.out HG3.out.size ?_)
        intro v6 w6 ho6 hg6 hp6
        have HG6 := hid (HG3.out.newer hg6 (fun k e => (World.ownsRow.lt HOA.out.own k e).1))
        have HSD6 := hid (HSD3.out.apart hg6 HOA.out)
        have HO6 := hid ho6
        have HN6 := hid ((hg6.block A (hp_lt HN3.out) (fun e => own_block HOA.out.own HN3.out (by decide) e.symm)).trans HN3.out)
        obtain ⟨a6, c6, e6⟩ := ho6.shape
        have hl6 : (fs ++ fs3).length = fs.length + fs3.length := List.length_append
        rw [hl6] at e6
        subst e6
        clear ho6 hg6 hp6
        go_wp2
        refine ⟨⟨k + 1, v3, fs ++ fs3, _, hlt, by simp, HSH2.out, ?_, HO6.out, HSD6.out, HG6.out, HN6.out⟩, by simp [intOf]; omega⟩
        show (fs ++ fs3).map (·.1) = a.2.1 ++ R.2.1
        rw [List.map_append, HFS.out, HM3.out]
    · obtain rfl : k = pss.length := by omega
      as_aux_lemma =>
        rw [fl_all] at HR
        obtain ⟨y, HY⟩ : ∃ y, Hid (a.1.why = y) := ⟨_, rfl⟩
        obtain ⟨t, HTt⟩ : ∃ y, Hid (a.1.wat = y) := ⟨_, rfl⟩
        have HBK := hid HSD.out.kb.blk
        rw [HY.out, HTt.out] at HBK
        go_upto_region 11 with fail
        refine wp_noPanic (wp_region_held_drew (S := fun W => W.heap[b]? = some (.cells #[vd, .int .i64 a.1.came, .int .i64 a.1.whole, .int .i64 (lngP M : Nat), .int .i64 y, .int .i64 t] 104 (0, 0))) (by kernel_rfl) HBK.out ?_)
        intro hHeld
        refine wpAnyH_take (i := 0) (v := .slice alv fs.length clv) rfl (by kernel_rfl) (by kernel_rfl) (by kernel_rfl) (fun _ _ _ h => h) (Or.inl ⟨by rfl, fun W _ => by go_simp⟩) hHeld ?_
        simp only [Act.put, List.getElem_toArray, List.getElem_cons_zero, List.setIfInBounds_toArray, List.set_cons_succ, List.set_cons_zero]
        refine wpAnyH_take (i := 1) (v := .pointer (some ⟨b, 0, none⟩)) rfl (by kernel_rfl) (by kernel_rfl) (by kernel_rfl) (fun _ _ _ h => h) (Or.inl ⟨by rfl, fun W _ => by go_simp⟩) hHeld ?_
        simp only [Act.put, List.getElem_toArray, List.getElem_cons_zero, List.getElem_cons_succ, List.setIfInBounds_toArray, List.set_cons_succ, List.set_cons_zero]
        refine wpAnyH_take (i := 2) (v := .pointer (some ⟨b, 0, none⟩)) rfl (by kernel_rfl) (by kernel_rfl) (by kernel_rfl) (fun _ _ _ h => h) (Or.inl ⟨by rfl, fun W _ => by go_simp⟩) hHeld ?_
        simp only [Act.put, List.getElem_toArray, List.getElem_cons_zero, List.getElem_cons_succ, List.setIfInBounds_toArray, List.set_cons_succ, List.set_cons_zero]
        refine wpAnyH_take (i := 3) (v := .pointer (some ⟨b, 4, none⟩)) rfl (by kernel_rfl) (by kernel_rfl) (by kernel_rfl) (fun _ _ _ h => h) (Or.inl ⟨by rfl, fun W _ => by go_simp⟩) hHeld ?_
        simp only [Act.put, List.getElem_toArray, List.getElem_cons_zero, List.getElem_cons_succ, List.setIfInBounds_toArray, List.set_cons_succ, List.set_cons_zero]
        refine wpAnyH_take (i := 4) (v := .agg [Value.int .i64 y, .int .i64 t].toArray) rfl (by kernel_rfl) (by kernel_rfl) (by kernel_rfl) (fun _ _ _ h => h) (yieldsIf_load_mid (by rfl) 33 (.tmp 37) rfl b 4 rfl [Value.int .i64 y, .int .i64 t] _ (fun W hW => fault_at hW) Tryz.underlying33 rfl faultSize) hHeld ?_
        simp only [Act.put, List.getElem_toArray, List.getElem_cons_zero, List.getElem_cons_succ, List.setIfInBounds_toArray, List.set_cons_succ, List.set_cons_zero]
        refine wpAnyH_take (i := 5) (v := .slice alv fs.length clv) rfl (by kernel_rfl) (by kernel_rfl) (by kernel_rfl) (fun _ _ _ h => h) (Or.inl ⟨by rfl, fun W _ => by go_simp⟩) hHeld ?_
        simp only [Act.put, List.getElem_toArray, List.getElem_cons_zero, List.getElem_cons_succ, List.setIfInBounds_toArray, List.set_cons_succ, List.set_cons_zero]
        refine wpAnyH_ready (rs := [6]) (by kernel_rfl) (by simp) ?_
        refine AllReadyH.cons rfl (fun K9 hK9 => ?_) AllReadyH.nil
        refine step_store_row (by rfl) 33 _ _ (by rfl) A [Value.int .i64 y, .int .i64 t] (by rfl) (by rfl) 33 _ HN.out faultSize rfl (fault_one _ _) ?_
        intro wz hwz
        refine hK9.out _ _ (gb_keep hwz.grown HBK.out (by have := HLT.out; omega)) (fun hHeld => ?_)
        clear hK9 K9
        try simp only [Act.put, List.getElem_toArray, List.getElem_cons_zero, List.getElem_cons_succ]
        refine wpAnyH_done (by kernel_rfl) ?_ _
        simp only [noPanic]
        clear hHeld
        go_wp2
        refine ret_tc 4 5 33 rfl _ rfl A rfl _ 33 hwz.blk _ Tryz.underlying33 rfl faultSize rfl ?_
        rw [HR.out]
        exact ⟨_, vd, fs, by rw [HY.out, HTt.out]; rfl, (HOF.out.below (bel_drw wr 1)).gone hwz.grown HN.out (by decide) (by decide), ((HSD.out.drew 1).far hwz.grown (by have := HLT.out; omega) (fun k e h9 => own_block HSD.out.kb.own HN.out (by decide) (h9 ▸ e))), (HGD.out.below (bel_drw wr 1)).fresh hwz.grown (by have := HAA.out; omega), HFS.out⟩
end
end Go.Proofs.YtiibhccbbpgehaaGreat

/- The other methods of a decoder, and New. -/
namespace Go.Proofs.YtiibhccbbpgehaaGreat
open Go.RowKit Go.BigFrame

theorem built_dec (l : Int) : Tryz.prog.built 104 [(2, .int .i64 l)] = some #[.slice none 0 0, .int .i64 0, .int .i64 0, .int .i64 l, .int .i64 0, .int .i64 0] := by kernel_rfl
theorem need_sn (m : Nat) (h1 : 1 ≤ m) (h2 : m ≤ 2097152) : needP (sn m) = (lngP m, (sn m).length, 0) := by
  have h := dec_sn m [] (by omega)
  rw [List.append_nil] at h
  unfold needP lngP
  rw [h, if_neg (by simp), if_neg (by simp), if_neg (by simpa using h2), if_neg (by simp; omega)]

def stopP (s : Sx) : Int × Int := if s.why ≠ 0 then (s.why, s.wat) else if 0 < s.r.length then (4, (s.came : Int)) else (0, 0)
set_option maxRecDepth 100000 in
set_option maxHeartbeats 1000000 in
theorem new_ok8 (w : World) (m : Nat) (h1 : 1 ≤ m) (h2 : m ≤ 2097152) :
    Calls Tryz.prog 13 #[.int .i64 m] w fun e w' => ∃ b, e = .returned (.tuple #[.pointer (some ⟨b, 0, none⟩), .int .i64 0]) ∧ w.heap.size ≤ b ∧ Sd w' b b (.slice none 0 0) m zS ∧ Below w.heap.size w w' := by
  have q1 : ¬ (m : Int) < 1 := by omega
  have q2 : ¬ (2097152 : Int) < (m : Int) := by omega
  have q3 : IntKind.u64.wrap (m : Int) = (m : Int) := by rw [IntKind.wrap_u64]; omega
  have HPU := hid (putUint_any (.slice none 0 0) [] m w (OwnB.nil w w.heap.size |>.src (by simp)) (by omega) (by simp))
  have HNS := hid (need_sn m h1 h2)
  obtain ⟨lg, HLG⟩ : ∃ n, Hid (lngP m = n) := ⟨_, rfl⟩
  rw [HLG.out] at HNS
  go_enter Tryz.func13, Tryz.ntmps13
  go_wp2_with fail
  refine HPU.out.mono ?_
  rintro e w1 ⟨v1, rfl, ho1, hb1⟩
  have ho1' : OwnB w1 w.heap.size v1 (sn m) := by simpa using ho1
  have HNE := hid (need_any v1 (sn m) w1 (ho1'.src (by have := sn_length_le m; omega)))
  rw [HNS.out] at HNE
  obtain ⟨a1, c1, e1⟩ := ho1'.shape
  subst e1
  have HB1 := hid hb1
  clear ho1 ho1' hb1 HPU
  go_wp2_with fail
  refine HNE.out.mono ?_
  rintro e w2 ⟨rfl, hb2⟩
  have HB2 := hid (below_then HB1.out hb2)
  clear hb2 HNE HB1
  have HN := hid (hp_new w2 (.cells #[.slice none 0 0, .int .i64 0, .int .i64 0, .int .i64 lg, .int .i64 0, .int .i64 0] 104))
  have HB3 := hid (below_then HB2.out (below_walk w2 (.cells #[.slice none 0 0, .int .i64 0, .int .i64 0, .int .i64 lg, .int .i64 0, .int .i64 0] 104)))
  go_wp2_with (first
    | (refine bd_row (by rfl) 104 #[(2, .tmp 19)] (by rfl) _ (by simp [Act.eval]) _ (built_dec _) ?_)
    | (refine bx_row (by rfl) 104 (.tmp 20) (by rfl) _ (by rfl) ?_))
  refine bodyPost_ret (results_tmp2 rfl _ _ _) rfl ⟨_, rfl, HB2.out.size, ⟨⟨Nat.le_refl _, ?_, OwnB.nil _ _⟩, Gs.zero m, h1, h2⟩, HB3.out⟩
  rw [HLG.out]
  exact HN.out

section
variable {w w' : World} {base b : Nat} {v : Value} {M : Nat} {s : Sx}

set_option maxRecDepth 100000 in
set_option maxHeartbeats 1000000 in
theorem kend_any (h : Sd w base b v M s) :
    Calls Tryz.prog 46 #[.pointer (some ⟨b, 0, none⟩)] w fun e w' => e = .returned (.agg #[.int .i64 (stopP s).1, .int .i64 (stopP s).2]) ∧ Below w.heap.size w w' := by
  have HB0 := hid (below_walk w (.cells #[.int .i64 0, .int .i64 0] 33))
  have HN0 := hid (hp_new w (.cells #[.int .i64 0, .int .i64 0] 33))
  have HK0 := hid (h.kb.below HB0.out)
  obtain ⟨A, HAA⟩ : ∃ n, Hid (w.heap.size = n) := ⟨_, rfl⟩
  have HEP : Hid (stopP s = if s.why ≠ 0 then (s.why, s.wat) else if 0 < s.r.length then (4, (s.came : Int)) else (0, 0)) := hid rfl
  clear h
  go_enter Tryz.func46, Tryz.ntmps46
  go_upto_region 1 with fail
  generalize w.alloc (.cells #[.int .i64 0, .int .i64 0] 33) = w0 at HB0 HN0 HK0 ⊢
  rw [HAA.out] at HN0 ⊢
  have h1 := hid (kmade_any HK0.out (lng_pos M))
  have h2 := hid (kpois_any HK0.out)
  have h3 := hid (ksz_any HK0.out)
  have HFA := hid HK0.out.fault
  have c1 := HK0.out.c1
  obtain ⟨y, HY⟩ : ∃ y, Hid (s.why = y) := ⟨_, rfl⟩
  obtain ⟨t, HTt⟩ : ∃ y, Hid (s.wat = y) := ⟨_, rfl⟩
  obtain ⟨L, HL⟩ : ∃ y, Hid (s.r.length = y) := ⟨_, rfl⟩
  obtain ⟨ca, HCa⟩ : ∃ y, Hid (s.came = y) := ⟨_, rfl⟩
  rw [HY.out, HTt.out] at HFA
  rw [HY.out] at h2
  rw [HL.out] at h3
  rw [HCa.out] at c1
  rw [HY.out, HTt.out, HL.out, HCa.out] at HEP
  go_wp2_with fail
  refine h1.out.mono ?_
  rintro e w1 ⟨rfl, hw⟩
  subst hw
  go_wp2_with fail
  refine h2.out.mono ?_
  rintro e w1 ⟨rfl, hw⟩
  subst hw
  by_cases hy : y = 0
  · have q1 : (y != 0) = false := by simpa using hy
    rw [if_neg (by simpa using hy)] at HEP
    rw [q1]
    go_wp2_with fail
    refine h3.out.mono ?_
    rintro e w1 ⟨rfl, hw⟩
    subst hw
    by_cases hl : 0 < L
    · rw [if_pos hl] at HEP
      have q2 : (0 : Int) < (L : Int) := by omega
      go_wp2_with (first
        | (refine bd_row (by rfl) 33 #[(0, .const (.int .i64 4)), (1, .tmp 25)] (by rfl) _ (by simp [Act.eval]) _ (built_ft _ _) ?_)
        | (refine st_row (by rfl) 33 _ _ (by rfl) A [Value.int .i64 4, .int .i64 (ca : Int)] (by rfl) (by rfl) 33 _ HN0.out faultSize rfl (fault_one _ _) ?_; intro w3 hw3))
      refine ret_row 2 33 rfl A rfl _ 33 hw3.blk _ Tryz.underlying33 rfl faultSize rfl ⟨?_, Below.of_gb HB0.out hw3.grown (by have := HAA.out; omega)⟩
      rw [HEP.out]
    · rw [if_neg hl] at HEP
      have q2 : ¬ (0 : Int) < (L : Int) := by omega
      go_wp2_with (first
        | (refine bd_row (by rfl) 33 #[] (by rfl) _ (by simp) _ built_fz ?_)
        | (refine st_row (by rfl) 33 _ _ (by rfl) A [Value.int .i64 0, .int .i64 0] (by rfl) (by rfl) 33 _ HN0.out faultSize rfl (fault_one _ _) ?_; intro w3 hw3))
      refine ret_row 2 33 rfl A rfl _ 33 hw3.blk _ Tryz.underlying33 rfl faultSize rfl ⟨?_, Below.of_gb HB0.out hw3.grown (by have := HAA.out; omega)⟩
      rw [HEP.out]
  · have q1 : (y != 0) = true := by simpa using hy
    rw [if_pos hy] at HEP
    rw [q1]
    go_wp2_with (first
      | (refine wpList_load_mid (by rfl) 33 _ (by rfl) b 4 (by rfl) [Value.int .i64 y, .int .i64 t] _ HFA.out Tryz.underlying33 rfl faultSize ?_)
      | (refine st_row (by rfl) 33 _ _ (by rfl) A [Value.int .i64 y, .int .i64 t] (by rfl) (by rfl) 33 _ HN0.out faultSize rfl (fault_one _ _) ?_; intro w3 hw3))
    refine ret_row 2 33 rfl A rfl _ 33 hw3.blk _ Tryz.underlying33 rfl faultSize rfl ⟨?_, Below.of_gb HB0.out hw3.grown (by have := HAA.out; omega)⟩
    rw [HEP.out]

end
end Go.Proofs.YtiibhccbbpgehaaGreat

/- Whether all fields of two frames are the same. -/
namespace Go.Proofs.YtiibhccbbpgehaaGreat
open Go.RowKit

set_option maxRecDepth 100000 in
set_option maxHeartbeats 4000000 in
theorem rsame_any (f g : Fr) (va vb : Value) (w : World) (hf : f.tool.length = 32) (hg : g.tool.length = 32) (ha : Strs w va f.args) (hb : Strs w vb g.args) (hn : f.args.length ≤ 9223372036854775807) :
    Calls Tryz.prog 11 #[.agg (fcells f va).toArray, .agg (fcells g vb).toArray] w fun e w' => e = .returned (.bool (sameP f g)) ∧ Below w.heap.size w w' := by
  have HNA := hid (hp_two w (.cells (fcells f va).toArray 30) (.cells (fcells g vb).toArray 30))
  have HBL := hid (below_walk2 w (.cells (fcells f va).toArray 30) (.cells (fcells g vb).toArray 30))
  have HSA := hid ha
  have HSB := hid hb
  have HN := hid hn
  have HF := hid hf
  have HG := hid hg
  clear ha hb hn hf hg
  go_enter Tryz.func11, Tryz.ntmps11
  go_upto_region 1 with fail
  generalize (w.alloc (.cells (fcells f va).toArray 30)).alloc (.cells (fcells g vb).toArray 30) = w2 at HNA HBL ⊢
  have HA := hid (Fb.of HNA.out.1 HF.out)
  have HB := hid (Fb.of HNA.out.2 HG.out)
  clear HNA
  have HSA2 := hid (HSA.out.below HBL.out)
  have HSB2 := hid (HSB.out.below HBL.out)
  clear HSA HSB
  have hlg := limG
  have hdg := digG
  have HEQ := hid (wsame_any va vb f.args g.args w2 HSA2.out HSB2.out HN.out)
  obtain ⟨fk, fi, fv, fs, ft, fst, fl, fa, fb⟩ := f
  obtain ⟨gk, gi, gv, gs, gt, gst, gl, ga, gb⟩ := g
  obtain ⟨fl1, fl2, fl3⟩ := fl
  obtain ⟨gl1, gl2, gl3⟩ := gl
  obtain ⟨B2, HB2⟩ : ∃ b : Nat, Hid (w.heap.size + 1 = b) := ⟨_, rfl⟩
  obtain ⟨B1, HB1⟩ : ∃ b : Nat, Hid (w.heap.size = b) := ⟨_, rfl⟩
  rw [HB2.out] at HB ⊢
  rw [HB1.out] at HA ⊢
  clear HB1 HB2
  by_cases hne : fk = gk
  · subst hne
    by_cases hne : fi = gi
    · subst hne
      by_cases hne : fv = gv
      · subst hne
        by_cases hne : fs = gs
        · subst hne
          by_cases hne : ft = gt
          · subst hne
            by_cases hne : fst = gst
            · subst hne
              by_cases hne : (fl1, fl2, fl3) = (gl1, gl2, gl3)
              · injection hne with h1 h2; injection h2 with h2 h3; subst h1; subst h2; subst h3
                by_cases hne : fa = ga
                · subst hne
                  by_cases hne : fb = gb
                  · subst hne
                    have HR : Hid (sameP ⟨fk, fi, fv, fs, ft, fst, (fl1, fl2, fl3), fa, fb⟩ ⟨fk, fi, fv, fs, ft, fst, (fl1, fl2, fl3), fa, fb⟩ = true) := hid (sameP_self _)
                    have a0 := HA.out.k
                    have b0 := HB.out.k
                    have a1 := HA.out.i
                    have b1 := HB.out.i
                    have a2 := HA.out.v
                    have b2 := HB.out.v
                    have a3 := HA.out.s
                    have b3 := HB.out.s
                    have a4 := hid HA.out.t
                    have b4 := hid HB.out.t
                    have HS1 := hid (tool_size ft HF.out)
                    have HS2 := hid (tool_size ft HG.out)
                    have a5 := HA.out.st
                    have b5 := HB.out.st
                    have a61 := HA.out.l1
                    have b61 := HB.out.l1
                    have a62 := HA.out.l2
                    have b62 := HB.out.l2
                    have a63 := HA.out.l3
                    have b63 := HB.out.l3
                    have a7 := HA.out.a
                    have b7 := HB.out.a
                    have e4 := dig_eql ft ft HF.out HF.out
                    rw [decide_eq_true rfl] at e4
                    have e6 := lim_eql fl1 fl2 fl3 fl1 fl2 fl3
                    rw [decide_eq_true rfl] at e6
                    have HE2 := hid HEQ.out
                    simp only [decide_true] at HE2
                    have HA8 := hid (fun n => (show (w2.drewN n).cell? ⟨B1, 41, none⟩ = _ from HA.out.bd))
                    have HB8 := hid (fun n => (show (w2.drewN n).cell? ⟨B2, 41, none⟩ = _ from HB.out.bd))
                    clear HA HB HEQ HF HG
                    go_wp2_with (first | (refine ld_gd (by rfl) 25 (.tmp 32) (by rfl) B1 4 (by rfl) _ _ a4.out Tryz.underlying25 rfl HS1.out ?_) | (refine ld_gd (by rfl) 25 (.tmp 34) (by rfl) B2 4 (by rfl) _ _ b4.out Tryz.underlying25 rfl HS2.out ?_))
                    refine HE2.out.mono ?_
                    rintro e w3 ⟨rfl, n, rfl⟩
                    have a8 := HA8.out n
                    have b8 := HB8.out n
                    clear HA8 HB8
                    clear HE2
                    go_wp2
                    go_ret
                    exact ⟨ret_eq HR.out.symm, HBL.out.trans ⟨rfl, rfl, rfl, Nat.le_refl _, fun _ _ => rfl⟩⟩
                  · have HR : Hid (sameP ⟨fk, fi, fv, fs, ft, fst, (fl1, fl2, fl3), fa, fb⟩ ⟨fk, fi, fv, fs, ft, fst, (fl1, fl2, fl3), fa, gb⟩ = false) := hid (decide_eq_false (fun h9 => hne (by exact h9.2.2.2.2.2.2.2.2)))
                    have a0 := HA.out.k
                    have b0 := HB.out.k
                    have a1 := HA.out.i
                    have b1 := HB.out.i
                    have a2 := HA.out.v
                    have b2 := HB.out.v
                    have a3 := HA.out.s
                    have b3 := HB.out.s
                    have a4 := hid HA.out.t
                    have b4 := hid HB.out.t
                    have HS1 := hid (tool_size ft HF.out)
                    have HS2 := hid (tool_size ft HG.out)
                    have a5 := HA.out.st
                    have b5 := HB.out.st
                    have a61 := HA.out.l1
                    have b61 := HB.out.l1
                    have a62 := HA.out.l2
                    have b62 := HB.out.l2
                    have a63 := HA.out.l3
                    have b63 := HB.out.l3
                    have a7 := HA.out.a
                    have b7 := HB.out.a
                    have e4 := dig_eql ft ft HF.out HF.out
                    rw [decide_eq_true rfl] at e4
                    have e6 := lim_eql fl1 fl2 fl3 fl1 fl2 fl3
                    rw [decide_eq_true rfl] at e6
                    have HE2 := hid HEQ.out
                    simp only [decide_true] at HE2
                    have HA8 := hid (fun n => (show (w2.drewN n).cell? ⟨B1, 41, none⟩ = _ from HA.out.bd))
                    have HB8 := hid (fun n => (show (w2.drewN n).cell? ⟨B2, 41, none⟩ = _ from HB.out.bd))
                    have t1 : ¬ (mk fb).toList = (mk gb).toList := fun h9 => hne ((bl_mk fb).symm.trans (h9.trans (bl_mk gb)))
                    have t2 : ((mk fb).toList == (mk gb).toList) = false := by simpa using t1
                    clear HA HB HEQ HF HG
                    clear hne
                    go_wp2_with (first | (refine ld_gd (by rfl) 25 (.tmp 32) (by rfl) B1 4 (by rfl) _ _ a4.out Tryz.underlying25 rfl HS1.out ?_) | (refine ld_gd (by rfl) 25 (.tmp 34) (by rfl) B2 4 (by rfl) _ _ b4.out Tryz.underlying25 rfl HS2.out ?_))
                    refine HE2.out.mono ?_
                    rintro e w3 ⟨rfl, n, rfl⟩
                    have a8 := HA8.out n
                    have b8 := HB8.out n
                    clear HA8 HB8
                    clear HE2
                    go_wp2
                    go_ret
                    exact ⟨ret_eq HR.out.symm, HBL.out.trans ⟨rfl, rfl, rfl, Nat.le_refl _, fun _ _ => rfl⟩⟩
                · have HR : Hid (sameP ⟨fk, fi, fv, fs, ft, fst, (fl1, fl2, fl3), fa, fb⟩ ⟨fk, fi, fv, fs, ft, fst, (fl1, fl2, fl3), ga, gb⟩ = false) := hid (decide_eq_false (fun h9 => hne (by exact h9.2.2.2.2.2.2.2.1)))
                  have a0 := HA.out.k
                  have b0 := HB.out.k
                  have a1 := HA.out.i
                  have b1 := HB.out.i
                  have a2 := HA.out.v
                  have b2 := HB.out.v
                  have a3 := HA.out.s
                  have b3 := HB.out.s
                  have a4 := hid HA.out.t
                  have b4 := hid HB.out.t
                  have HS1 := hid (tool_size ft HF.out)
                  have HS2 := hid (tool_size ft HG.out)
                  have a5 := HA.out.st
                  have b5 := HB.out.st
                  have a61 := HA.out.l1
                  have b61 := HB.out.l1
                  have a62 := HA.out.l2
                  have b62 := HB.out.l2
                  have a63 := HA.out.l3
                  have b63 := HB.out.l3
                  have a7 := HA.out.a
                  have b7 := HB.out.a
                  have e4 := dig_eql ft ft HF.out HF.out
                  rw [decide_eq_true rfl] at e4
                  have e6 := lim_eql fl1 fl2 fl3 fl1 fl2 fl3
                  rw [decide_eq_true rfl] at e6
                  have HE2 := hid HEQ.out
                  simp only [decide_eq_false hne] at HE2
                  clear HA HB HEQ HF HG
                  clear hne
                  go_wp2_with (first | (refine ld_gd (by rfl) 25 (.tmp 32) (by rfl) B1 4 (by rfl) _ _ a4.out Tryz.underlying25 rfl HS1.out ?_) | (refine ld_gd (by rfl) 25 (.tmp 34) (by rfl) B2 4 (by rfl) _ _ b4.out Tryz.underlying25 rfl HS2.out ?_))
                  refine HE2.out.mono ?_
                  rintro e w3 ⟨rfl, n, rfl⟩
                  clear HE2
                  go_wp2
                  go_ret
                  exact ⟨ret_eq HR.out.symm, HBL.out.trans ⟨rfl, rfl, rfl, Nat.le_refl _, fun _ _ => rfl⟩⟩
              · have HR : Hid (sameP ⟨fk, fi, fv, fs, ft, fst, (fl1, fl2, fl3), fa, fb⟩ ⟨fk, fi, fv, fs, ft, fst, (gl1, gl2, gl3), ga, gb⟩ = false) := hid (decide_eq_false (fun h9 => hne (by exact h9.2.2.2.2.2.2.1)))
                have a0 := HA.out.k
                have b0 := HB.out.k
                have a1 := HA.out.i
                have b1 := HB.out.i
                have a2 := HA.out.v
                have b2 := HB.out.v
                have a3 := HA.out.s
                have b3 := HB.out.s
                have a4 := hid HA.out.t
                have b4 := hid HB.out.t
                have HS1 := hid (tool_size ft HF.out)
                have HS2 := hid (tool_size ft HG.out)
                have a5 := HA.out.st
                have b5 := HB.out.st
                have a61 := HA.out.l1
                have b61 := HB.out.l1
                have a62 := HA.out.l2
                have b62 := HB.out.l2
                have a63 := HA.out.l3
                have b63 := HB.out.l3
                have e4 := dig_eql ft ft HF.out HF.out
                rw [decide_eq_true rfl] at e4
                have e6 := lim_eql fl1 fl2 fl3 gl1 gl2 gl3
                rw [decide_eq_false hne] at e6
                clear HA HB HEQ HF HG
                clear hne
                go_wp2_with (first | (refine ld_gd (by rfl) 25 (.tmp 32) (by rfl) B1 4 (by rfl) _ _ a4.out Tryz.underlying25 rfl HS1.out ?_) | (refine ld_gd (by rfl) 25 (.tmp 34) (by rfl) B2 4 (by rfl) _ _ b4.out Tryz.underlying25 rfl HS2.out ?_))
                go_ret
                exact ⟨ret_eq HR.out.symm, HBL.out⟩
            · have HR : Hid (sameP ⟨fk, fi, fv, fs, ft, fst, (fl1, fl2, fl3), fa, fb⟩ ⟨fk, fi, fv, fs, ft, gst, (gl1, gl2, gl3), ga, gb⟩ = false) := hid (decide_eq_false (fun h9 => hne (by exact h9.2.2.2.2.2.1)))
              have a0 := HA.out.k
              have b0 := HB.out.k
              have a1 := HA.out.i
              have b1 := HB.out.i
              have a2 := HA.out.v
              have b2 := HB.out.v
              have a3 := HA.out.s
              have b3 := HB.out.s
              have a4 := hid HA.out.t
              have b4 := hid HB.out.t
              have HS1 := hid (tool_size ft HF.out)
              have HS2 := hid (tool_size ft HG.out)
              have a5 := HA.out.st
              have b5 := HB.out.st
              have e4 := dig_eql ft ft HF.out HF.out
              rw [decide_eq_true rfl] at e4
              have q1 : (fst == gst) = false := by simpa using hne
              clear HA HB HEQ HF HG
              go_wp2_with (first | (refine ld_gd (by rfl) 25 (.tmp 32) (by rfl) B1 4 (by rfl) _ _ a4.out Tryz.underlying25 rfl HS1.out ?_) | (refine ld_gd (by rfl) 25 (.tmp 34) (by rfl) B2 4 (by rfl) _ _ b4.out Tryz.underlying25 rfl HS2.out ?_))
              go_ret
              exact ⟨ret_eq HR.out.symm, HBL.out⟩
          · have HR : Hid (sameP ⟨fk, fi, fv, fs, ft, fst, (fl1, fl2, fl3), fa, fb⟩ ⟨fk, fi, fv, fs, gt, gst, (gl1, gl2, gl3), ga, gb⟩ = false) := hid (decide_eq_false (fun h9 => hne (by exact h9.2.2.2.2.1)))
            have a0 := HA.out.k
            have b0 := HB.out.k
            have a1 := HA.out.i
            have b1 := HB.out.i
            have a2 := HA.out.v
            have b2 := HB.out.v
            have a3 := HA.out.s
            have b3 := HB.out.s
            have a4 := hid HA.out.t
            have b4 := hid HB.out.t
            have HS1 := hid (tool_size ft HF.out)
            have HS2 := hid (tool_size gt HG.out)
            have e4 := dig_eql ft gt HF.out HG.out
            rw [decide_eq_false hne] at e4
            clear HA HB HEQ HF HG
            clear hne
            go_wp2_with (first | (refine ld_gd (by rfl) 25 (.tmp 32) (by rfl) B1 4 (by rfl) _ _ a4.out Tryz.underlying25 rfl HS1.out ?_) | (refine ld_gd (by rfl) 25 (.tmp 34) (by rfl) B2 4 (by rfl) _ _ b4.out Tryz.underlying25 rfl HS2.out ?_))
            go_ret
            exact ⟨ret_eq HR.out.symm, HBL.out⟩
        · have HR : Hid (sameP ⟨fk, fi, fv, fs, ft, fst, (fl1, fl2, fl3), fa, fb⟩ ⟨fk, fi, fv, gs, gt, gst, (gl1, gl2, gl3), ga, gb⟩ = false) := hid (decide_eq_false (fun h9 => hne (by exact h9.2.2.2.1)))
          have a0 := HA.out.k
          have b0 := HB.out.k
          have a1 := HA.out.i
          have b1 := HB.out.i
          have a2 := HA.out.v
          have b2 := HB.out.v
          have a3 := HA.out.s
          have b3 := HB.out.s
          have q1 : (fs == gs) = false := by simpa using hne
          clear HA HB HEQ HF HG
          go_wp2
          go_ret
          exact ⟨ret_eq HR.out.symm, HBL.out⟩
      · have HR : Hid (sameP ⟨fk, fi, fv, fs, ft, fst, (fl1, fl2, fl3), fa, fb⟩ ⟨fk, fi, gv, gs, gt, gst, (gl1, gl2, gl3), ga, gb⟩ = false) := hid (decide_eq_false (fun h9 => hne (by exact h9.2.2.1)))
        have a0 := HA.out.k
        have b0 := HB.out.k
        have a1 := HA.out.i
        have b1 := HB.out.i
        have a2 := HA.out.v
        have b2 := HB.out.v
        have q1 : (fv == gv) = false := by simpa using hne
        clear HA HB HEQ HF HG
        go_wp2
        go_ret
        exact ⟨ret_eq HR.out.symm, HBL.out⟩
    · have HR : Hid (sameP ⟨fk, fi, fv, fs, ft, fst, (fl1, fl2, fl3), fa, fb⟩ ⟨fk, gi, gv, gs, gt, gst, (gl1, gl2, gl3), ga, gb⟩ = false) := hid (decide_eq_false (fun h9 => hne (by exact h9.2.1)))
      have a0 := HA.out.k
      have b0 := HB.out.k
      have a1 := HA.out.i
      have b1 := HB.out.i
      have q1 : (fi == gi) = false := by simpa using hne
      clear HA HB HEQ HF HG
      go_wp2
      go_ret
      exact ⟨ret_eq HR.out.symm, HBL.out⟩
  · have HR : Hid (sameP ⟨fk, fi, fv, fs, ft, fst, (fl1, fl2, fl3), fa, fb⟩ ⟨gk, gi, gv, gs, gt, gst, (gl1, gl2, gl3), ga, gb⟩ = false) := hid (decide_eq_false (fun h9 => hne (by exact h9.1)))
    have a0 := HA.out.k
    have b0 := HB.out.k
    have q1 : (fk == gk) = false := by simpa using hne
    clear HA HB HEQ HF HG
    go_wp2
    go_ret
    exact ⟨ret_eq HR.out.symm, HBL.out⟩

end Go.Proofs.YtiibhccbbpgehaaGreat

/- A Bye, written by the document. -/
namespace Go.Proofs.YtiibhccbbpgehaaGreat
open Go.RowKit Go.BigFrame

set_option maxRecDepth 100000 in
set_option maxHeartbeats 4000000 in
theorem onlyBye_any (w : World) :
    Calls Tryz.prog 90 #[.agg (fcells byeF nS).toArray] w fun e w' => e = .returned (.agg (fcells byeF nS).toArray) ∧ Below w.heap.size w w' := by
  have HNB := hid (hp_two w (.cells (fcells byeF nS).toArray 30) (.cells (fcells zF nS).toArray 30))
  have HBL := hid (below_walk2 w (.cells (fcells byeF nS).toArray 30) (.cells (fcells zF nS).toArray 30))
  have HZ : Hid ((w.alloc (.cells (fcells byeF nS).toArray 30)).heap.size = w.heap.size + 1) := hid (by simp)
  have HSZ := hid (frame_size byeF nS rfl)
  go_enter Tryz.func90, Tryz.ntmps90
  go_upto_region 1 with (refine al_row (by rfl) 30 (by rfl) _ zeroFrame ?_)
  try rw [HZ.out]
  generalize (w.alloc (.cells (fcells byeF nS).toArray 30)).alloc (.cells (fcells zF nS).toArray 30) = w2 at HNB HBL ⊢
  have x0 : w2.cell? ⟨w.heap.size, 0, none⟩ = some (.int .i64 5) := (Fb.of HNB.out.1 rfl).k
  have HL2 := hid (hp_lt HNB.out.2)
  go_upto_region 2 with (first
    | (refine bd_row (by rfl) 30 #[(0, .tmp 5)] (by rfl) _ (by simp [Act.eval]) _ built_bye ?_)
    | (refine al_row (by rfl) 30 (by rfl) _ zeroFrame ?_)
    | (refine st_new (by rfl) 30 _ _ (by rfl) (fcells byeF nS) (by rfl) (by rfl) 30 _ HSZ.out rfl (fcells_one byeF nS rfl) ?_))
  have HN1 := hid ((below_walk w2 (.cells (fcells byeF nS).toArray 30)).block _ (by have := HL2.out; omega) |>.trans HNB.out.1)
  have HN2 := hid ((below_walk w2 (.cells (fcells byeF nS).toArray 30)).block _ HL2.out |>.trans HNB.out.2)
  have HN3 := hid (hp_new w2 (.cells (fcells byeF nS).toArray 30))
  have HB3 := hid (below_then HBL.out (below_walk w2 (.cells (fcells byeF nS).toArray 30)))
  obtain ⟨B3, HE3⟩ : ∃ b : Nat, Hid (w2.heap.size = b) := ⟨_, rfl⟩
  rw [HE3.out] at HN3 ⊢
  generalize w2.alloc (.cells (fcells byeF nS).toArray 30) = w3 at HN1 HN2 HN3 HB3 ⊢
  clear x0 HNB HBL HL2
  have x1 : w3.cell? ⟨w.heap.size, 0, none⟩ = some (.int .i64 5) := (Fb.of HN1.out rfl).k
  go_wp2_with (first
    | (refine ld_row (by rfl) 30 (.tmp 3) (by rfl) B3 (by rfl) (fcells byeF nS) 30 HN3.out _ Tryz.underlying30 rfl HSZ.out ?_)
    | (refine st_row (by rfl) 30 _ _ (by rfl) (w.heap.size + 1) (fcells byeF nS) (by rfl) (by rfl) 30 _ HN2.out HSZ.out rfl (fcells_one byeF nS rfl) ?_; intro w4 hw4))
  refine ret_row 2 30 rfl (w.heap.size + 1) rfl (fcells byeF nS) 30 hw4.blk _ Tryz.underlying30 rfl HSZ.out rfl ⟨rfl, Below.of_gb HB3.out hw4.grown (by omega)⟩

theorem ruint_five (w : World) : Calls Tryz.prog 61 #[.int .u64 5] w fun e w' => ∃ ao c, e = .returned (.slice ao 1 c) ∧ OwnB w' w.heap.size (.slice ao 1 c) [5] ∧ Below w.heap.size w w' := by
  refine (refUint_any 5 w (by decide)).mono ?_
  rintro e w' ⟨v, rfl, ho, hb⟩
  have ho' : OwnB w' w.heap.size v [5] := ho
  obtain ⟨ao, c, rfl⟩ := src_shape (ho'.src (by simp))
  exact ⟨ao, c, rfl, ho', hb⟩
theorem ruint_one (w : World) : Calls Tryz.prog 61 #[.int .u64 1] w fun e w' => ∃ ao c, e = .returned (.slice ao 1 c) ∧ OwnB w' w.heap.size (.slice ao 1 c) [1] ∧ Below w.heap.size w w' := by
  refine (refUint_any 1 w (by decide)).mono ?_
  rintro e w' ⟨v, rfl, ho, hb⟩
  have ho' : OwnB w' w.heap.size v [1] := ho
  obtain ⟨ao, c, rfl⟩ := src_shape (ho'.src (by simp))
  exact ⟨ao, c, rfl, ho', hb⟩

set_option maxRecDepth 100000 in
set_option maxHeartbeats 4000000 in
theorem bodyBye_any (w : World) :
    Calls Tryz.prog 60 #[.agg (fcells byeF nS).toArray] w fun e w' => ∃ ao c, e = .returned (.slice ao 1 c) ∧ Src w' (.slice ao 1 c) [5] ∧ Below w.heap.size w w' := by
  have HNB := hid (hp_new w (.cells (fcells byeF nS).toArray 30))
  have HBL := hid (below_walk w (.cells (fcells byeF nS).toArray 30))
  go_enter Tryz.func60, Tryz.ntmps60
  go_upto_region 1 with fail
  generalize w.alloc (.cells (fcells byeF nS).toArray 30) = w1 at HNB HBL ⊢
  have x0 : w1.cell? ⟨w.heap.size, 0, none⟩ = some (.int .i64 5) := (Fb.of HNB.out rfl).k
  have hw5 : IntKind.u64.wrap 5 = 5 := rfl
  go_wp2_with fail
  refine (ruint_five w1).mono ?_
  rintro e w2 ⟨ao, c, rfl, ho2, hb2⟩
  have HS2 := hid (ho2.src (by simp))
  have HN2 := hid ((hb2.block _ (hp_lt HNB.out)).trans HNB.out)
  have HB2 := hid (below_then HBL.out hb2)
  have x1 : w2.cell? ⟨w.heap.size, 0, none⟩ = some (.int .i64 5) := (Fb.of HN2.out rfl).k
  clear x0 hw5 ho2 hb2 HNB HBL HN2
  go_wp2
  go_ret
  exact ⟨_, _, rfl, HS2.out, HB2.out⟩

theorem rsame_bye (w : World) : Calls Tryz.prog 11 #[.agg (fcells byeF nS).toArray, .agg (fcells byeF nS).toArray] w fun e w' => e = .returned (.bool true) ∧ Below w.heap.size w w' := by
  have := rsame_any byeF byeF nS nS w rfl rfl (strs_nil w) (strs_nil w) (by simp [byeF])
  rwa [sameP_self] at this

set_option maxRecDepth 100000 in
set_option maxHeartbeats 4000000 in
theorem checkBye_any (w : World) :
    Calls Tryz.prog 59 #[.agg (fcells byeF nS).toArray] w fun e w' => e = .returned (.int .i64 0) ∧ Below w.heap.size w w' := by
  have HNB := hid (hp_new w (.cells (fcells byeF nS).toArray 30))
  have HBL := hid (below_walk w (.cells (fcells byeF nS).toArray 30))
  have HSZ := hid (frame_size byeF nS rfl)
  go_enter Tryz.func59, Tryz.ntmps59
  go_upto_region 1 with fail
  generalize w.alloc (.cells (fcells byeF nS).toArray 30) = w1 at HNB HBL ⊢
  have HL := hid (hp_lt HNB.out)
  have x0 : w1.cell? ⟨w.heap.size, 0, none⟩ = some (.int .i64 5) := (Fb.of HNB.out rfl).k
  have x7 : w1.cell? ⟨w.heap.size, 40, none⟩ = some (.slice none 0 0) := (Fb.of HNB.out rfl).a
  have z0 := fun p : Bel w1 => p.cell x0 HL.out
  have z7 := fun p : Bel w1 => p.cell x7 HL.out
  have ib : Nonempty (Bel w1) := bel_some w1
  have HRA := hid (Bel.range (range_row HNB.out) HL.out)
  clear x0 x7
  refine wp_region_quiet_bel (by kernel_rfl) (by kernel_rfl) ?_
  go_big_quiet_step (fail)
  go_big_quiet_step (fail)
  go_big_quiet_step (fail)
  go_big_quiet_step (fail)
  go_big_quiet_step (fail)
  go_big_quiet_step (fail)
  go_big_quiet_step (fail)
  go_big_quiet_step (fail)
  go_big_quiet_step (fail)
  refine wpQuiet_want (by rfl) fun K hK => quiet_ld 30 (.tmp 1) (by rfl) w.heap.size 0 (by rfl) _ _ HRA.out Tryz.underlying30 rfl HSZ.out (hK _ ?_)
  simp only [Act.put, List.setIfInBounds_toArray, List.set_cons_succ, List.set_cons_zero]
  refine wpQuiet_want (by rfl) fun K hK => quiet_ld 30 (.tmp 1) (by rfl) w.heap.size 0 (by rfl) _ _ HRA.out Tryz.underlying30 rfl HSZ.out (hK _ ?_)
  simp only [Act.put, List.setIfInBounds_toArray, List.set_cons_succ, List.set_cons_zero]
  go_big_quiet_step (first | (go_at_call 90; exact bel_of (onlyBye_any _)))
  go_big_quiet_step (first | (go_at_call 11; exact bel_of (rsame_bye _)))
  go_big_quiet_step (fail)
  go_big_quiet_step (fail)
  go_big_quiet_step (fail)
  go_big_quiet_step (fail)
  go_big_quiet_step (fail)
  go_big_quiet_step (fail)
  go_big_quiet_step (fail)
  go_big_quiet_step (fail)
  go_big_quiet_step (fail)
  refine wpQuiet_nil ?_
  rintro w2 ⟨⟨w2', hb2⟩, hw2⟩
  obtain rfl : w2 = w2' := hw2
  have HN2 := hid ((hb2.block _ HL.out).trans HNB.out)
  have HB2 := hid (below_then HBL.out hb2)
  clear hb2 z0 z7 ib HRA HNB HBL HL
  have x0 : w2.cell? ⟨w.heap.size, 0, none⟩ = some (.int .i64 5) := (Fb.of HN2.out rfl).k
  have l1 : w2.cell? ⟨w.heap.size, 37, none⟩ = some (.int .i64 0) := (Fb.of HN2.out rfl).l1
  have l2 : w2.cell? ⟨w.heap.size, 38, none⟩ = some (.int .i64 0) := (Fb.of HN2.out rfl).l2
  have l3 : w2.cell? ⟨w.heap.size, 39, none⟩ = some (.int .i64 0) := (Fb.of HN2.out rfl).l3
  have x7 : w2.cell? ⟨w.heap.size, 40, none⟩ = some (.slice none 0 0) := (Fb.of HN2.out rfl).a
  have x8 : w2.cell? ⟨w.heap.size, 41, none⟩ = some (.string ⟨#[]⟩) := (Fb.of HN2.out rfl).bd
  go_wp2_with fail
  go_loopw [3, 4] (fun b i wr => b = .bool false ∧ i = .int .i64 0 ∧ wr = w2) (fun _ _ _ => 0)
  case atStart => exact ⟨rfl, rfl, rfl⟩
  case round =>
    obtain ⟨rfl, rfl, rfl⟩ := hrel
    have HRG := hid (range_row HN2.out)
    go_wp2_with (refine ld_gd (by rfl) 30 (.tmp 1) (by rfl) w.heap.size 0 (by rfl) _ _ HRG.out Tryz.underlying30 rfl HSZ.out ?_)
    refine (bodyBye_any wr).mono ?_
    rintro e w3 ⟨ao, c, rfl, hs3, hb3⟩
    have HB3 := hid (below_then HB2.out hb3)
    clear hs3 hb3 x0 l1 l2 l3 x7 x8 HN2 HB2
    go_wp2
    go_ret
    exact ⟨rfl, HB3.out⟩

set_option maxRecDepth 100000 in
set_option maxHeartbeats 4000000 in
theorem rencodeBye_any (w : World) :
    Calls Tryz.prog 28 #[.agg (fcells byeF nS).toArray] w fun e w' => ∃ v, e = .returned (.tuple #[v, .int .i64 0]) ∧ OwnB w' w.heap.size v (sealP [1, 5]) ∧ Below w.heap.size w w' := by
  have HNB := hid (hp_new w (.cells (fcells byeF nS).toArray 30))
  have HBL := hid (below_walk w (.cells (fcells byeF nS).toArray 30))
  have HSZ := hid (frame_size byeF nS rfl)
  go_enter Tryz.func28, Tryz.ntmps28
  go_upto_region 1 with fail
  generalize w.alloc (.cells (fcells byeF nS).toArray 30) = w1 at HNB HBL ⊢
  go_wp2_with (refine ld_row (by rfl) 30 (.tmp 1) (by rfl) w.heap.size (by rfl) (fcells byeF nS) 30 HNB.out _ Tryz.underlying30 rfl HSZ.out ?_)
  refine (checkBye_any w1).mono ?_
  rintro e w2 ⟨rfl, hb2⟩
  have HN2 := hid ((hb2.block _ (hp_lt HNB.out)).trans HNB.out)
  have HB2 := hid (below_then HBL.out hb2)
  clear hb2 HNB HBL
  go_wp2_with (refine ld_row (by rfl) 30 (.tmp 1) (by rfl) w.heap.size (by rfl) (fcells byeF nS) 30 HN2.out _ Tryz.underlying30 rfl HSZ.out ?_)
  refine (bodyBye_any w2).mono ?_
  rintro e w3 ⟨ao, c, rfl, hs3, hb3⟩
  have HS3 := hid hs3
  have HB3 := hid (below_then HB2.out hb3)
  have hw1 : IntKind.u64.wrap 1 = 1 := rfl
  clear hs3 hb3 HN2 HB2
  go_wp2_with fail
  refine (ruint_one w3).mono ?_
  rintro e w4 ⟨a4, c4, rfl, ho4, hb4⟩
  have HO4 := hid ho4
  have HS4 := hid (HS3.out.below hb4)
  have HB4 := hid (below_then HB3.out hb4)
  have HZ4 := hid hb4.size
  clear ho4 hb4 HS3
  go_wp2_with (at_builtin; refine app_src rfl _ _ rfl w3.heap.size _ [1] rfl HO4.out _ [5] rfl HS4.out (by simp) HZ4.out ?_)
  intro v5 w5 ho5 hg5
  have hs5 : Src w5 v5 [1, 5] := ho5.src (by simp)
  have HB5 := hid (show Below w.heap.size w w5 from below_tr HB4.out ⟨hg5.os, hg5.tape, hg5.output, hg5.size, fun k hk => hg5.block k (by have := HB3.out.size; have := HZ4.out; omega) (fun e => by have := (HO4.out.lt k e.symm).1; have := HB3.out.size; omega)⟩)
  have HSE := hid (rseal_any w5 v5 [1, 5] hs5 (by simp))
  obtain ⟨a5, c5, e5⟩ := src_shape hs5
  subst e5
  clear ho5 hg5 hs5 HB4 HB3 HZ4 HO4 HS4
  go_wp2_with fail
  refine HSE.out.mono ?_
  rintro e w6 ⟨v6, rfl, ho6, hb6⟩
  have HO6 := hid (ho6.le HB5.out.size)
  have HB7 := hid (below_then HB5.out hb6)
  obtain ⟨a6, c6, e6⟩ := src_shape (ho6.src (by rw [sealP_length]; simp))
  subst e6
  clear ho6 hb6
  go_wp2
  go_ret2
  exact ⟨_, rfl, HO6.out, HB7.out⟩

end Go.Proofs.YtiibhccbbpgehaaGreat

/- The law's bye and awake. -/
namespace Go.Proofs.YtiibhccbbpgehaaGreat
open Go.RowKit Go.BigFrame

theorem fault_run (a b x y : Int) (w : World) : (Op.equalIn 10000 33 (.agg #[.int .i64 a, .int .i64 b]) (.agg #[.int .i64 x, .int .i64 y])).run Tryz.prog w = .ok (a == x && b == y) w := by
  have hS : Tryz.prog.underlying 33 = some (.struct (Tryz.prog.fieldsOf 33)) := by kernel_rfl
  have hp : Tryz.prog.stoodInHeld 33 = false := by kernel_rfl
  have u3 := Tryz.underlying3
  have a3 := Tryz.isAgg3
  have z3 := Tryz.sizeOf3
  have u4 := Tryz.underlying31
  have a4 := Tryz.isAgg31
  have z4 := Tryz.sizeOf31
  rw [show (10000 : Nat) = 9999 + 1 from rfl, run_equalIn_agg w 9999 33 _ _ hS hp]
  simp only [Program.fieldsOf, Tryz.underlying33]
  go_simp
  by_cases h1 : a = x <;> by_cases h2 : b = y <;> simp [h1, h2]
theorem fault_neq (a b x y : Int) (w : World) : (binOp .neq 33 (.agg #[.int .i64 a, .int .i64 b]) (.agg #[.int .i64 x, .int .i64 y])).run Tryz.prog w = .ok (.bool (!decide ((a, b) = (x, y)))) w := by
  rw [run_neq_struct, fault_run]
  have : (a == x && b == y) = decide ((a, b) = (x, y)) := by
    rw [Bool.eq_iff_iff]
    simp
  rw [this]
  rfl
theorem fault_eql (a b x y : Int) (w : World) : (binOp .eql 33 (.agg #[.int .i64 a, .int .i64 b]) (.agg #[.int .i64 x, .int .i64 y])).run Tryz.prog w = .ok (.bool (decide ((a, b) = (x, y)))) w := by
  rw [run_eql_struct, fault_run]
  have : (a == x && b == y) = decide ((a, b) = (x, y)) := by
    rw [Bool.eq_iff_iff]
    simp
  rw [this]
  rfl

theorem own_blk {w : World} {b n : Nat} {cs ds : Array Value} {e t : TypeId} (hb : w.heap[b]? = some (.cells cs e (0, 0))) (hn : w.heap[n]? = some (.cells ds t (0, 0))) (he : e ≠ t) : n ≠ b := by
  intro h
  subst h
  rw [hb] at hn
  simp at hn
  exact he hn.2
theorem yields_slice {P : Program} {ops : Array Oper} {S : World → Prop} {o : Oper} {a : Act} (hw : Region.wanted o (yielded ops a.tmps) = true) (t : TypeId) (x : Operand) (lo hi mx : Option Operand) (ho : o.op = .slice t x lo hi mx) (vx : Value)
    (h : ∀ W, (Instr.sliceAt t (a.eval x) (lo.map a.eval) (hi.map a.eval) (mx.map a.eval)).run P W = .ok vx W) : YieldsIf P ops S o vx a :=
  .inl ⟨hw, fun W _ => by
    unfold execOp
    simp only [ho, Sem.run_bind, h, Sem.run_pure, Result.andThen_ok]⟩
theorem step_alloc_row8 {P : Program} {ops : Array Oper} {o : Oper} {a : Act} {w : World} {K : Act → World → Prop} {Q : Exit → Act → World → Prop} {E : Prop} (hgd : o.guard = none) (ty : TypeId) (ho : o.op = .alloc ty)
    (cs : Array Value) (hz : ∀ w, (zeroValue ty).run P w = .ok (.agg cs) w)
    (h : K (a.put o.dst (.pointer (some ⟨w.heap.size, 0, none⟩))) (w.alloc (.cells cs ty))) : if Region.wanted o (yielded ops a.tmps) = true then Oper.wp P o a w K Q else E := by
  rw [if_pos (by simp [Region.wanted, hgd])]
  unfold Oper.wp execOp
  simp only [ho, Instr.alloc, Sem.run_bind, hz, newVar, newRow, run_newObj_alloc, Sem.run_pure, Result.andThen_ok, Value.cells]
  exact h
def BY : List UInt8 := sealP [1, 5]
theorem by_len : BY.length = 6 := rfl
theorem run_by : runP 9 nev (zS, [], 0) BY = (⟨[], 6, 1, 0, 0, [6]⟩, [byeF], 6) := by kernel_rfl
theorem run_bye : runP 9 nev (zS, [], 0) (fl [BY.take 2, BY.drop 2]) = (⟨[], 6, 1, 0, 0, [6]⟩, [byeF], 6) := by
  rw [show fl [BY.take 2, BY.drop 2] = BY by simp [fl]]
  exact run_by
theorem run_bad : runP 9 nev (⟨[], 6, 1, 0, 0, [6]⟩, [], 0) (fl [[128, 0]]) = (⟨[128, 0], 8, 1, 5, 6, [6]⟩, [], 2) := by kernel_rfl
theorem map_one {fs : List FV} {f : Fr} (h : fs.map (·.1) = [f]) : ∃ va, fs = [(f, va)] := by
  match fs, h with
  | [(g, va)], h => simp at h; exact ⟨va, by rw [h]⟩
theorem cut_atb {w : World} {v : Value} {bs : List UInt8} (h : Src w v bs) (k : Nat) (hk : k ≤ bs.length) :
    ∃ vx, Src w vx (bs.take k) ∧ (∀ j, vx.ownBlock = some j → v.ownBlock = some j) ∧ (∀ W, (Instr.sliceAt 22 v none (some (.int .i64 (k : Int))) none).run Tryz.prog W = .ok vx W) := by
  obtain ⟨hl, ⟨rfl, rfl⟩ | ⟨ad, cap, rfl, h1, h2, hlt, hc⟩⟩ := h
  · simp at hk
    subst hk
    exact ⟨.slice none 0 0, ⟨by simp, Or.inl ⟨rfl, rfl⟩⟩, fun _ e => e, fun W => by go_simp⟩
  · have hlen : (bs.take k).length = k := by simp; omega
    refine ⟨.slice (some ad) k cap, ⟨by omega, Or.inr ⟨ad, cap, by rw [hlen], by omega, h2, fun h0 => hlt (by omega), fun j hj => ?_⟩⟩, fun _ e => e, fun W => ?_⟩
    · rw [hlen] at hj
      rw [hc j (by omega)]
      simp [List.getD_eq_getElem?_getD, hj]
    · have hk2 : (k : Int) ≤ (cap : Int) := by omega
      go_simp
theorem cut_endb {w : World} {v : Value} {bs : List UInt8} (h : Src w v bs) (k : Nat) (hk : k ≤ bs.length) :
    ∃ vx, Src w vx (bs.drop k) ∧ (∀ j, vx.ownBlock = some j → v.ownBlock = some j) ∧ (∀ W, (Instr.sliceAt 22 v (some (.int .i64 (k : Int))) none none).run Tryz.prog W = .ok vx W) := cut_end h k hk
theorem src_two (w : World) : Src (w.alloc (.cells #[.int .u8 128, .int .u8 0] 5)) (.slice (some ⟨w.heap.size, 0, none⟩) 2 2) [128, 0] := by
  refine ⟨by simp, Or.inr ⟨⟨w.heap.size, 0, none⟩, 2, rfl, by simp, by decide, fun _ => by simp, fun j hj => ?_⟩⟩
  match j, hj with
  | 0, _ => simp [Addr.add]
  | 1, _ => simp [Addr.add]
theorem lsts_two (w : World) (u v : Value) (a b : List UInt8) (h1 : Src w u a) (h2 : Src w v b) : Lsts (w.alloc (.cells #[u, v] 22)) (.slice (some ⟨w.heap.size, 0, none⟩) 2 2) [u, v] [a, b] := by
  have hb := below_walk w (.cells #[u, v] 22)
  refine Or.inr ⟨w.heap.size, 0, 2, rfl, by simp, fun j hj => ?_⟩
  match j, hj with
  | 0, _ => exact ⟨by simp, h1.below hb⟩
  | 1, _ => exact ⟨by simp, h2.below hb⟩
theorem lsts_one (w : World) (u : Value) (a : List UInt8) (h1 : Src w u a) : Lsts (w.alloc (.cells #[u] 22)) (.slice (some ⟨w.heap.size, 0, none⟩) 1 1) [u] [a] := by
  have hb := below_walk w (.cells #[u] 22)
  refine Or.inr ⟨w.heap.size, 0, 1, rfl, by simp, fun j hj => ?_⟩
  match j, hj with
  | 0, _ => exact ⟨by simp, h1.below hb⟩
theorem Src.empty {w : World} {v : Value} (h : Src w v []) (w' : World) : Src w' v [] := by
  obtain ⟨h0, h | ⟨ad, cap, rfl, h1, h2, hlt, hc⟩⟩ := h
  · exact ⟨h0, Or.inl h⟩
  · exact ⟨h0, Or.inr ⟨ad, cap, rfl, h1, h2, fun h => by simp at h, fun j hj => by simp at hj⟩⟩
theorem src_lt {w : World} {v : Value} {bs : List UInt8} (h : Src w v bs) (hne : bs ≠ []) {k : Nat} (e : v.ownBlock = some k) : k < w.heap.size := by
  obtain ⟨h0, ⟨rfl, _⟩ | ⟨ad, cap, rfl, h1, h2, hlt, hc⟩⟩ := h
  · cases e
  · simp only [Value.ownBlock, Option.some.injEq] at e
    rw [← e]
    exact hlt (List.length_pos_iff.2 hne)
theorem Lsts.gd {w w' : World} {b : Nat} {v v' vp : Value} {us : List Value} {pss : List (List UInt8)} (h : Lsts w vp us pss) (g : Gd w w' b v v') (hb : vp.ownBlock ≠ some b) (hv : ∀ k, vp.ownBlock = some k → v.ownBlock ≠ some k) (hub : ∀ j, pss.getD j [] ≠ [] → (us.getD j nS).ownBlock ≠ some b) (huv : ∀ j k, pss.getD j [] ≠ [] → (us.getD j nS).ownBlock = some k → v.ownBlock ≠ some k) : Lsts w' vp us pss := by
  rcases h with h | ⟨g0, o, c, rfl, hlt, hc⟩
  · exact Or.inl h
  · refine Or.inr ⟨g0, o, c, rfl, Nat.lt_of_lt_of_le hlt g.size, fun j hj => ⟨?_, ?_⟩⟩
    rotate_left
    · by_cases he : pss.getD j [] = []
      · have h9 := (hc j hj).2
        rw [he] at h9 ⊢
        exact h9.empty w'
      · exact (hc j hj).2.gd g (hub j he) (fun k => huv j k he)
    rw [World.cell?_of_block (g.block g0 hlt (fun e => hb (by rw [e]; rfl)) (hv g0 rfl))]
    exact (hc j hj).1

set_option maxRecDepth 100000 in
set_option maxHeartbeats 1000000 in
theorem abye_any (w : World) : Calls Tryz.prog 42 #[] w fun e w' => ∃ v, e = .returned v ∧ OwnB w' w.heap.size v BY ∧ Below w.heap.size w w' := by
  have HR := hid (rencodeBye_any w)
  go_enter Tryz.func42, Tryz.ntmps42
  go_wp2_with (refine bd_row (by rfl) 30 #[(0, .const (.int .i64 5))] (by rfl) _ (by simp [Act.eval]) _ built_bye ?_)
  refine HR.out.mono ?_
  rintro e w1 ⟨v1, rfl, ho1, hb1⟩
  have HO := hid ho1
  have HB := hid hb1
  obtain ⟨a1, c1, e1⟩ := ho1.shape
  subst e1
  clear ho1 hb1 HR
  go_wp2
  go_ret
  exact ⟨_, rfl, HO.out, HB.out⟩
theorem new9 (w : World) : Calls Tryz.prog 13 #[.int .i64 9] w fun e w' => ∃ b, e = .returned (.tuple #[.pointer (some ⟨b, 0, none⟩), .int .i64 0]) ∧ w.heap.size ≤ b ∧ Sd w' b b (.slice none 0 0) 9 zS ∧ Below w.heap.size w w' := new_ok8 w 9 (by omega) (by omega)

set_option maxRecDepth 100000 in
set_option maxHeartbeats 8000000 in
theorem awake8_any (w : World) : Calls Tryz.prog 15 #[] w fun e w' => e = .returned (.bool true) ∧ Below w.heap.size w w' := by
  have hl6 : BY.length = 6 := by_len
  go_enter Tryz.func15, Tryz.ntmps15
  go_wp2_with fail
  refine (new9 w).mono ?_
  rintro e w1 ⟨b, rfl, hbw, hsd, hb1⟩
  have HBW := hid hbw
  have HSD := hid hsd
  have HB1 := hid hb1
  clear hbw hsd hb1
  go_upto_region 4 with fail
  refine wp_noPanic (wp_region_held_drew (S := fun _ => True) (by kernel_rfl) trivial ?_)
  intro hHeld
  refine wpAnyH_take (i := 0) (v := .pointer (some ⟨b, 0, none⟩)) rfl (by kernel_rfl) (by kernel_rfl) (by kernel_rfl) (fun _ _ _ h => h) (Or.inl ⟨by rfl, fun W _ => by go_simp⟩) hHeld ?_
  simp only [Act.put, List.getElem_toArray, List.getElem_cons_zero, List.setIfInBounds_toArray, List.set_cons_succ, List.set_cons_zero]
  have HSDx := hid (HSD.out.drew 1)
  have HBx := hid (below_then HB1.out (bel_drw w1 1))
  obtain ⟨x, HWX⟩ : ∃ x, Hid (w1.drewN 1 = x) := ⟨_, rfl⟩
  have HWY := hid (show w1.drew = x from HWX.out)
  rw [HWX.out] at HSDx HBx
  rw [HWY.out]
  refine wpAnyH_ready (rs := [1, 10]) (by kernel_rfl) (by simp) ?_
  refine AllReadyH.cons rfl (fun K hK => ?_) (AllReadyH.cons rfl (fun K hK => ?_) AllReadyH.nil)
  · skip
    go_simp
    refine (abye_any x).mono ?_
    rintro e w2 ⟨v19, rfl, ho, hb⟩
    have HSv19 := hid (ho.src (by decide))
    have HLv19 := hid (show ∀ k, v19.ownBlock = some k → k ≠ b from fun k e => by have := (World.ownsRow.lt ho k e).1; have := HSDx.out.kb.lt; omega)
    have HSDw2 := hid (HSDx.out.below hb)
    have HBw2 := hid (below_then HBx.out hb)
    obtain ⟨av19, cv19, ev19⟩ := ho.shape
    rw [hl6] at ev19
    subst ev19
    clear ho hb
    go_wp2_with fail
    refine hK.out _ _ trivial (fun hHeld => ?_)
    clear hK K
    try simp only [Act.put, List.getElem_toArray, List.getElem_cons_zero, List.getElem_cons_succ, List.setIfInBounds_toArray, List.set_cons_succ, List.set_cons_zero]
    obtain ⟨vA, hA1, hAo, hA2⟩ := cut_atb HSv19.out 2 (by decide)
    have HAw2 := hid hA1
    have HAn := hid (show vA.ownBlock ≠ some b from fun e => HLv19.out b (hAo b e) rfl)
    refine wpAnyH_take (i := 2) (v := vA) rfl (by kernel_rfl) (by kernel_rfl) (by kernel_rfl) (fun _ _ _ h => h) (yields_slice (by rfl) 22 (.tmp 19) none (some (.const (.int .i64 2))) none (by rfl) vA (fun W => hA2 W)) hHeld ?_
    simp only [Act.put, List.getElem_toArray, List.getElem_cons_zero, List.getElem_cons_succ, List.setIfInBounds_toArray, List.set_cons_succ, List.set_cons_zero]
    refine wpAnyH_ready (rs := [3, 10]) (by kernel_rfl) (by simp) ?_
    refine AllReadyH.cons rfl (fun K hK => ?_) (AllReadyH.cons rfl (fun K hK => ?_) AllReadyH.nil)
    · skip
      go_simp
      refine (abye_any w2).mono ?_
      rintro e w3 ⟨v21, rfl, ho, hb⟩
      have HSv21 := hid (ho.src (by decide))
      have HLv21 := hid (show ∀ k, v21.ownBlock = some k → k ≠ b from fun k e => by have := (World.ownsRow.lt ho k e).1; have := HSDw2.out.kb.lt; omega)
      have HSDw3 := hid (HSDw2.out.below hb)
      have HBw3 := hid (below_then HBw2.out hb)
      have HAw3 := hid (HAw2.out.below hb)
      obtain ⟨av21, cv21, ev21⟩ := ho.shape
      rw [hl6] at ev21
      subst ev21
      clear ho hb
      go_wp2_with fail
      refine hK.out _ _ trivial (fun hHeld => ?_)
      clear hK K
      try simp only [Act.put, List.getElem_toArray, List.getElem_cons_zero, List.getElem_cons_succ, List.setIfInBounds_toArray, List.set_cons_succ, List.set_cons_zero]
      obtain ⟨vB, hB1, hBo, hB2⟩ := cut_endb HSv21.out 2 (by decide)
      have HCw3 := hid hB1
      have HBn := hid (show vB.ownBlock ≠ some b from fun e => HLv21.out b (hBo b e) rfl)
      refine wpAnyH_take (i := 4) (v := vB) rfl (by kernel_rfl) (by kernel_rfl) (by kernel_rfl) (fun _ _ _ h => h) (yields_slice (by rfl) 22 (.tmp 21) (some (.const (.int .i64 2))) none none (by rfl) vB (fun W => hB2 W)) hHeld ?_
      simp only [Act.put, List.getElem_toArray, List.getElem_cons_zero, List.getElem_cons_succ, List.setIfInBounds_toArray, List.set_cons_succ, List.set_cons_zero]
      refine wpAnyH_ready (rs := [5, 10]) (by kernel_rfl) (by simp) ?_
      refine AllReadyH.cons rfl (fun K hK => ?_) (AllReadyH.cons rfl (fun K hK => ?_) AllReadyH.nil)
      · skip
        obtain ⟨aA, nA, cA, eA⟩ := src_named HAw3.out
        obtain ⟨aB, nB, cB, eB⟩ := src_named HCw3.out
        have HWA := hid (below_walk w3 (.cells #[vA, vB] 22))
        have HLw4 := hid (lsts_two w3 vA vB _ _ HAw3.out HCw3.out)
        have HSDw4 := hid (HSDw3.out.below HWA.out)
        have HBw4 := hid (below_then HBw3.out HWA.out)
        have HLB := hid (HSDw3.out.kb.lt)
        clear hA1 hA2 hB1 hB2 hAo hBo
        subst eA eB
        go_simp
        refine hK.out _ _ trivial (fun hHeld => ?_)
        clear hK K
        try simp only [Act.put, List.getElem_toArray, List.getElem_cons_zero, List.getElem_cons_succ, List.setIfInBounds_toArray, List.set_cons_succ, List.set_cons_zero]
        obtain ⟨B3, HB3e⟩ : ∃ n, Hid (w3.heap.size = n) := ⟨_, rfl⟩
        rw [HB3e.out] at HLw4 HLB
        try rw [HB3e.out]
        generalize w3.alloc (.cells #[.slice aA nA cA, .slice aB nB cB] 22) = w4 at *
        refine wpAnyH_ready (rs := [6, 10]) (by kernel_rfl) (by simp) ?_
        refine AllReadyH.cons rfl (fun K hK => ?_) (AllReadyH.cons rfl (fun K hK => ?_) AllReadyH.nil)
        · skip
          have HFE := hid (kfeed_any HSDw4.out rfl _ _ _ (fun W vd hg => HLw4.out.gd hg (by show some B3 ≠ some b; have := HLB.out; simp; omega) (fun k e e2 => by cases e2) (fun j _ => by match j with | 0 => exact HAn.out | 1 => exact HBn.out | j + 2 => exact (by show nS.ownBlock ≠ some b; intro e; cases e)) (fun j k _ e e2 => by cases e2)) (by decide) (by decide) (by decide))
          rw [run_bye] at HFE
          go_simp
          refine HFE.out.mono ?_
          rintro e w5 ⟨vl, v4, fs, rfl, hof, hsd4, hg4, hm4⟩
          obtain ⟨va, rfl⟩ := map_one hm4
          have HVw5 := hid (show Sd w5 b b v4 9 ⟨[], 6, 1, 0, 0, [6]⟩ from hsd4)
          have HBw5 := hid (Below.trans HBw4.out ((HSDw4.out.low hg4).mono HBW.out))
          have HOw5 := hid hof
          obtain ⟨al, cl, el⟩ := hof.shape
          simp only [List.length_singleton] at el
          subst el
          clear hof hsd4 hg4 hm4 HFE HSDw4 HLw4
          go_wp2_with fail
          refine hK.out _ _ trivial (fun hHeld => ?_)
          clear hK K
          try simp only [Act.put, List.getElem_toArray, List.getElem_cons_zero, List.getElem_cons_succ, List.setIfInBounds_toArray, List.set_cons_succ, List.set_cons_zero]
          refine wpAnyH_take (i := 7) (v := .tuple #[.slice al 1 cl, .agg #[.int .i64 0, .int .i64 0]]) rfl (by kernel_rfl) (by kernel_rfl) (by kernel_rfl) (fun _ _ _ h => h) (Or.inl ⟨by rfl, fun W _ => by go_simp⟩) hHeld ?_
          simp only [Act.put, List.getElem_toArray, List.getElem_cons_zero, List.getElem_cons_succ, List.setIfInBounds_toArray, List.set_cons_succ, List.set_cons_zero]
          refine wpAnyH_take (i := 8) (v := .slice al 1 cl) rfl (by kernel_rfl) (by kernel_rfl) (by kernel_rfl) (fun _ _ _ h => h) (Or.inl ⟨by rfl, fun W _ => by go_simp⟩) hHeld ?_
          simp only [Act.put, List.getElem_toArray, List.getElem_cons_zero, List.getElem_cons_succ, List.setIfInBounds_toArray, List.set_cons_succ, List.set_cons_zero]
          refine wpAnyH_take (i := 9) (v := .agg #[.int .i64 0, .int .i64 0]) rfl (by kernel_rfl) (by kernel_rfl) (by kernel_rfl) (fun _ _ _ h => h) (Or.inl ⟨by rfl, fun W _ => by go_simp⟩) hHeld ?_
          simp only [Act.put, List.getElem_toArray, List.getElem_cons_zero, List.getElem_cons_succ, List.setIfInBounds_toArray, List.set_cons_succ, List.set_cons_zero]
          refine wpAnyH_ready (rs := [10]) (by kernel_rfl) (by simp) ?_
          refine AllReadyH.cons rfl (fun K hK => ?_) AllReadyH.nil
          have HWF := hid (below_walk w5 (.cells #[.int .i64 0, .int .i64 0] 33))
          have HFw6 := hid (hp_new w5 (.cells #[.int .i64 0, .int .i64 0] 33))
          have HVw6 := hid (HVw5.out.below HWF.out)
          have HBw6 := hid (below_then HBw5.out HWF.out)
          have HOw6 := hid (HOw5.out.below HWF.out)
          refine step_alloc_row8 (by rfl) 33 (by rfl) _ zeroFault ?_
          refine hK.out _ _ trivial (fun hHeld => ?_)
          clear hK K
          try simp only [Act.put, List.getElem_toArray, List.getElem_cons_zero, List.getElem_cons_succ, List.setIfInBounds_toArray, List.set_cons_succ, List.set_cons_zero]
          obtain ⟨F, HFe⟩ : ∃ n, Hid (w5.heap.size = n) := ⟨_, rfl⟩
          have HFl := hid HBw5.out.size
          rw [HFe.out] at HFw6 HFl
          try rw [HFe.out]
          generalize w5.alloc (.cells #[.int .i64 0, .int .i64 0] 33) = w6 at *
          refine wpAnyH_take (i := 11) (v := .slice al 1 cl) rfl (by kernel_rfl) (by kernel_rfl) (by kernel_rfl) (fun _ _ _ h => h) (Or.inl ⟨by rfl, fun W _ => by go_simp⟩) hHeld ?_
          simp only [Act.put, List.getElem_toArray, List.getElem_cons_zero, List.getElem_cons_succ, List.setIfInBounds_toArray, List.set_cons_succ, List.set_cons_zero]
          refine wpAnyH_ready (rs := [12]) (by kernel_rfl) (by simp) ?_
          refine AllReadyH.cons rfl (fun K hK => ?_) AllReadyH.nil
          refine step_store_row (by rfl) 33 _ _ (by rfl) F [Value.int .i64 0, .int .i64 0] (by rfl) (by rfl) 33 _ HFw6.out faultSize rfl (fault_one _ _) ?_
          intro wz hwz
          refine hK.out _ _ trivial (fun hHeld => ?_)
          clear hK K
          try simp only [Act.put, List.getElem_toArray, List.getElem_cons_zero, List.getElem_cons_succ]
          refine wpAnyH_done (by kernel_rfl) ?_ _
          simp only [noPanic]
          clear hHeld
          have HFz := hid hwz.blk
          have HBz := hid (Below.of_gb HBw6.out hwz.grown (by have := HFl.out; omega))
          have HVz := hid (HVw6.out.far hwz.grown (fun e => own_blk HVw6.out.kb.blk HFw6.out (by decide) e.symm) (fun k e h9 => own_block HVw6.out.kb.own HFw6.out (by decide) (h9 ▸ e)))
          have HOz := hid (HOw6.out.gone hwz.grown HFw6.out (by decide) (by decide))
          clear hwz
          have HWa := hid (below_walk wz (.cells #[.int .u8 128, .int .u8 0] 5))
          have HSa := hid (src_two wz)
          have HWb := hid (below_walk (wz.alloc (.cells #[.int .u8 128, .int .u8 0] 5)) (.cells #[.slice (some ⟨wz.heap.size, 0, none⟩) 2 2] 22))
          have HLb := hid (lsts_one _ _ _ HSa.out)
          have HVb := hid ((HVz.out.below HWa.out).below HWb.out)
          have HOb := hid ((HOz.out.below HWa.out).below HWb.out)
          have HFb := hid (bel_keep HWb.out (bel_keep HWa.out HFz.out))
          have HBb := hid (below_then (below_then HBz.out HWa.out) HWb.out)
          have HVl := hid HVz.out.kb.lt
          have HVo := hid (fun k e => (World.ownsRow.lt HVz.out.kb.own k e).2)
          have HSz : Hid ((wz.alloc (.cells #[.int .u8 128, .int .u8 0] 5)).heap.size = wz.heap.size + 1) := hid (by simp)
          rw [HSz.out] at HLb
          obtain ⟨Z, HZe⟩ : ∃ n, Hid (wz.heap.size = n) := ⟨_, rfl⟩
          rw [HZe.out] at HLb HVb HOb HFb HBb HVl HVo
          go_wp2_with fail
          try rw [HZe.out]
          generalize (wz.alloc (.cells #[.int .u8 128, .int .u8 0] 5)).alloc (.cells #[.slice (some ⟨Z, 0, none⟩) 2 2] 22) = wb at HLb HVb HOb HFb HBb ⊢
          have HFE := hid (kfeed_any HVb.out rfl _ _ _ (fun W vd hg => HLb.out.gd hg (by show some (Z + 1) ≠ some b; have := HVl.out; simp; omega) (fun k e e2 => by have := HVo.out k e2; simp [Value.ownBlock] at e; omega) (fun j _ => by match j with | 0 => exact (by show some Z ≠ some b; have := HVl.out; simp; omega) | j + 1 => exact (by show nS.ownBlock ≠ some b; intro e; cases e)) (fun j k _ e e2 => by match j, e with | 0, e => (have := HVo.out k e2; simp [Value.ownBlock] at e; omega) | j + 1, e => (cases (show nS.ownBlock = some k from e)))) (by decide) (by decide) (by decide))
          rw [run_bad] at HFE
          refine HFE.out.mono ?_
          rintro e w7 ⟨vl7, v7, fs7, rfl, hof7, hsd7, hg7, hm7⟩
          have HB7 := hid (Below.trans HBb.out ((HVb.out.low hg7).mono HBW.out))
          have HO7 := hid (HOb.out.sd hg7 HVb.out)
          have HF7 := hid ((hg7.block F (hp_lt HFb.out) (own_blk HVb.out.kb.blk HFb.out (by decide)) (fun e => own_block HVb.out.kb.own HFb.out (by decide) e)).trans HFb.out)
          obtain ⟨al7, cl7, el7⟩ := hof7.shape
          subst el7
          clear hof7 hsd7 hg7 hm7 HFE
          have HW8 := hid (below_walk w7 (.cells [Value.int .i64 5, .int .i64 6].toArray 33))
          have HN8 := hid (hp_new w7 (.cells [Value.int .i64 5, .int .i64 6].toArray 33))
          have HB8 := hid (below_then HB7.out HW8.out)
          have HO8 := hid (HO7.out.below HW8.out)
          have HF8 := hid (bel_keep HW8.out HF7.out)
          go_upto_region 6 with (refine st_new (by rfl) 33 _ _ (by rfl) [Value.int .i64 5, .int .i64 6] (by rfl) (by rfl) 33 _ faultSize rfl (fault_one _ _) ?_)
          obtain ⟨Y, HYe⟩ : ∃ n, Hid (w7.heap.size = n) := ⟨_, rfl⟩
          rw [HYe.out] at HN8
          try rw [HYe.out]
          generalize w7.alloc (.cells [Value.int .i64 5, .int .i64 6].toArray 33) = w8 at HW8 HN8 HB8 HO8 HF8 ⊢
          obtain ⟨lg, lo, el, _, hrg, _⟩ := HO8.out.frs.at 0 (by simp)
          subst el
          have k0 : w8.cell? ⟨lg, lo, none⟩ = some (.int .i64 5) := by have := hrg 0 (.int .i64 5) rfl; simpa using this
          have f0 : w8.cell? ⟨F, 0, none⟩ = some (.int .i64 0) := by simp [World.cell?, HF8.out]
          have f1 : w8.cell? ⟨F, 1, none⟩ = some (.int .i64 0) := by simp [World.cell?, HF8.out]
          have g0 : w8.cell? ⟨Y, 0, none⟩ = some (.int .i64 5) := by simp [World.cell?, HN8.out]
          have g1 : w8.cell? ⟨Y, 1, none⟩ = some (.int .i64 6) := by simp [World.cell?, HN8.out]
          have n1 : ∀ W, (binOp .eql 33 (.agg #[.int .i64 0, .int .i64 0]) (.agg #[.int .i64 0, .int .i64 0])).run Tryz.prog W = .ok (.bool true) W := fun W => fault_eql 0 0 0 0 W
          have n2 : ∀ W, (binOp .eql 33 (.agg #[.int .i64 5, .int .i64 6]) (.agg #[.int .i64 5, .int .i64 6])).run Tryz.prog W = .ok (.bool true) W := fun W => fault_eql 5 6 5 6 W
          clear hrg
          go_wp2_with (first
            | (refine bd_row (by rfl) 33 #[] (by rfl) _ (by simp) _ built_fz ?_)
            | (refine bd_row (by rfl) 33 #[(0, .const (.int .i64 5)), (1, .const (.int .i64 6))] (by rfl) _ (by simp [Act.eval]) _ (built_ft _ _) ?_))
          go_ret
          exact ⟨rfl, HB8.out⟩
        · as_aux_lemma =>
            have HWF := hid (below_walk w4 (.cells #[.int .i64 0, .int .i64 0] 33))
            have HFw5 := hid (hp_new w4 (.cells #[.int .i64 0, .int .i64 0] 33))
            have HSDw5 := hid (HSDw4.out.below HWF.out)
            have HBw5 := hid (below_then HBw4.out HWF.out)
            have HLw5 := hid (HLw4.out.below HWF.out)
            refine step_alloc_row8 (by rfl) 33 (by rfl) _ zeroFault ?_
            refine hK.out _ _ trivial (fun hHeld => ?_)
            clear hK K
            try simp only [Act.put, List.getElem_toArray, List.getElem_cons_zero, List.getElem_cons_succ, List.setIfInBounds_toArray, List.set_cons_succ, List.set_cons_zero]
            obtain ⟨F, HFe⟩ : ∃ n, Hid (w4.heap.size = n) := ⟨_, rfl⟩
            have HFl := hid HBw4.out.size
            rw [HFe.out] at HFw5 HFl
            try rw [HFe.out]
            generalize w4.alloc (.cells #[.int .i64 0, .int .i64 0] 33) = w5 at *
            refine wpAnyH_ready (rs := [6]) (by kernel_rfl) (by simp) ?_
            refine AllReadyH.cons rfl (fun K hK => ?_) AllReadyH.nil
            have HFE := hid (kfeed_any HSDw5.out rfl _ _ _ (fun W vd hg => HLw5.out.gd hg (by show some B3 ≠ some b; have := HLB.out; simp; omega) (fun k e e2 => by cases e2) (fun j _ => by match j with | 0 => exact HAn.out | 1 => exact HBn.out | j + 2 => exact (by show nS.ownBlock ≠ some b; intro e; cases e)) (fun j k _ e e2 => by cases e2)) (by decide) (by decide) (by decide))
            rw [run_bye] at HFE
            go_simp
            refine HFE.out.mono ?_
            rintro e w6 ⟨vl, v4, fs, rfl, hof, hsd4, hg4, hm4⟩
            obtain ⟨va, rfl⟩ := map_one hm4
            have HVw6 := hid (show Sd w6 b b v4 9 ⟨[], 6, 1, 0, 0, [6]⟩ from hsd4)
            have HBw6 := hid (Below.trans HBw5.out ((HSDw5.out.low hg4).mono HBW.out))
            have HOw6 := hid hof
            have HFw6 := hid ((hg4.block F (hp_lt HFw5.out) (own_blk HSDw5.out.kb.blk HFw5.out (by decide)) (fun e => by cases e)).trans HFw5.out)
            obtain ⟨al, cl, el⟩ := hof.shape
            simp only [List.length_singleton] at el
            subst el
            clear hof hsd4 hg4 hm4 HFE HSDw5 HLw5
            go_wp2_with fail
            refine hK.out _ _ trivial (fun hHeld => ?_)
            clear hK K
            try simp only [Act.put, List.getElem_toArray, List.getElem_cons_zero, List.getElem_cons_succ, List.setIfInBounds_toArray, List.set_cons_succ, List.set_cons_zero]
            refine wpAnyH_take (i := 7) (v := .tuple #[.slice al 1 cl, .agg #[.int .i64 0, .int .i64 0]]) rfl (by kernel_rfl) (by kernel_rfl) (by kernel_rfl) (fun _ _ _ h => h) (Or.inl ⟨by rfl, fun W _ => by go_simp⟩) hHeld ?_
            simp only [Act.put, List.getElem_toArray, List.getElem_cons_zero, List.getElem_cons_succ, List.setIfInBounds_toArray, List.set_cons_succ, List.set_cons_zero]
            refine wpAnyH_take (i := 8) (v := .slice al 1 cl) rfl (by kernel_rfl) (by kernel_rfl) (by kernel_rfl) (fun _ _ _ h => h) (Or.inl ⟨by rfl, fun W _ => by go_simp⟩) hHeld ?_
            simp only [Act.put, List.getElem_toArray, List.getElem_cons_zero, List.getElem_cons_succ, List.setIfInBounds_toArray, List.set_cons_succ, List.set_cons_zero]
            refine wpAnyH_take (i := 9) (v := .agg #[.int .i64 0, .int .i64 0]) rfl (by kernel_rfl) (by kernel_rfl) (by kernel_rfl) (fun _ _ _ h => h) (Or.inl ⟨by rfl, fun W _ => by go_simp⟩) hHeld ?_
            simp only [Act.put, List.getElem_toArray, List.getElem_cons_zero, List.getElem_cons_succ, List.setIfInBounds_toArray, List.set_cons_succ, List.set_cons_zero]
            refine wpAnyH_take (i := 11) (v := .slice al 1 cl) rfl (by kernel_rfl) (by kernel_rfl) (by kernel_rfl) (fun _ _ _ h => h) (Or.inl ⟨by rfl, fun W _ => by go_simp⟩) hHeld ?_
            simp only [Act.put, List.getElem_toArray, List.getElem_cons_zero, List.getElem_cons_succ, List.setIfInBounds_toArray, List.set_cons_succ, List.set_cons_zero]
            refine wpAnyH_ready (rs := [12]) (by kernel_rfl) (by simp) ?_
            refine AllReadyH.cons rfl (fun K hK => ?_) AllReadyH.nil
            refine step_store_row (by rfl) 33 _ _ (by rfl) F [Value.int .i64 0, .int .i64 0] (by rfl) (by rfl) 33 _ HFw6.out faultSize rfl (fault_one _ _) ?_
            intro wz hwz
            refine hK.out _ _ trivial (fun hHeld => ?_)
            clear hK K
            try simp only [Act.put, List.getElem_toArray, List.getElem_cons_zero, List.getElem_cons_succ]
            refine wpAnyH_done (by kernel_rfl) ?_ _
            simp only [noPanic]
            clear hHeld
            have HFz := hid hwz.blk
            have HBz := hid (Below.of_gb HBw6.out hwz.grown (by have := HFl.out; omega))
            have HVz := hid (HVw6.out.far hwz.grown (fun e => own_blk HVw6.out.kb.blk HFw6.out (by decide) e.symm) (fun k e h9 => own_block HVw6.out.kb.own HFw6.out (by decide) (h9 ▸ e)))
            have HOz := hid (HOw6.out.gone hwz.grown HFw6.out (by decide) (by decide))
            clear hwz
            have HWa := hid (below_walk wz (.cells #[.int .u8 128, .int .u8 0] 5))
            have HSa := hid (src_two wz)
            have HWb := hid (below_walk (wz.alloc (.cells #[.int .u8 128, .int .u8 0] 5)) (.cells #[.slice (some ⟨wz.heap.size, 0, none⟩) 2 2] 22))
            have HLb := hid (lsts_one _ _ _ HSa.out)
            have HVb := hid ((HVz.out.below HWa.out).below HWb.out)
            have HOb := hid ((HOz.out.below HWa.out).below HWb.out)
            have HFb := hid (bel_keep HWb.out (bel_keep HWa.out HFz.out))
            have HBb := hid (below_then (below_then HBz.out HWa.out) HWb.out)
            have HVl := hid HVz.out.kb.lt
            have HVo := hid (fun k e => (World.ownsRow.lt HVz.out.kb.own k e).2)
            have HSz : Hid ((wz.alloc (.cells #[.int .u8 128, .int .u8 0] 5)).heap.size = wz.heap.size + 1) := hid (by simp)
            rw [HSz.out] at HLb
            obtain ⟨Z, HZe⟩ : ∃ n, Hid (wz.heap.size = n) := ⟨_, rfl⟩
            rw [HZe.out] at HLb HVb HOb HFb HBb HVl HVo
            go_wp2_with fail
            try rw [HZe.out]
            generalize (wz.alloc (.cells #[.int .u8 128, .int .u8 0] 5)).alloc (.cells #[.slice (some ⟨Z, 0, none⟩) 2 2] 22) = wb at HLb HVb HOb HFb HBb ⊢
            have HFE := hid (kfeed_any HVb.out rfl _ _ _ (fun W vd hg => HLb.out.gd hg (by show some (Z + 1) ≠ some b; have := HVl.out; simp; omega) (fun k e e2 => by have := HVo.out k e2; simp [Value.ownBlock] at e; omega) (fun j _ => by match j with | 0 => exact (by show some Z ≠ some b; have := HVl.out; simp; omega) | j + 1 => exact (by show nS.ownBlock ≠ some b; intro e; cases e)) (fun j k _ e e2 => by match j, e with | 0, e => (have := HVo.out k e2; simp [Value.ownBlock] at e; omega) | j + 1, e => (cases (show nS.ownBlock = some k from e)))) (by decide) (by decide) (by decide))
            rw [run_bad] at HFE
            refine HFE.out.mono ?_
            rintro e w7 ⟨vl7, v7, fs7, rfl, hof7, hsd7, hg7, hm7⟩
            have HB7 := hid (Below.trans HBb.out ((HVb.out.low hg7).mono HBW.out))
            have HO7 := hid (HOb.out.sd hg7 HVb.out)
            have HF7 := hid ((hg7.block F (hp_lt HFb.out) (own_blk HVb.out.kb.blk HFb.out (by decide)) (fun e => own_block HVb.out.kb.own HFb.out (by decide) e)).trans HFb.out)
            obtain ⟨al7, cl7, el7⟩ := hof7.shape
            subst el7
            clear hof7 hsd7 hg7 hm7 HFE
            have HW8 := hid (below_walk w7 (.cells [Value.int .i64 5, .int .i64 6].toArray 33))
            have HN8 := hid (hp_new w7 (.cells [Value.int .i64 5, .int .i64 6].toArray 33))
            have HB8 := hid (below_then HB7.out HW8.out)
            have HO8 := hid (HO7.out.below HW8.out)
            have HF8 := hid (bel_keep HW8.out HF7.out)
            go_upto_region 6 with (refine st_new (by rfl) 33 _ _ (by rfl) [Value.int .i64 5, .int .i64 6] (by rfl) (by rfl) 33 _ faultSize rfl (fault_one _ _) ?_)
            obtain ⟨Y, HYe⟩ : ∃ n, Hid (w7.heap.size = n) := ⟨_, rfl⟩
            rw [HYe.out] at HN8
            try rw [HYe.out]
            generalize w7.alloc (.cells [Value.int .i64 5, .int .i64 6].toArray 33) = w8 at HW8 HN8 HB8 HO8 HF8 ⊢
            obtain ⟨lg, lo, el, _, hrg, _⟩ := HO8.out.frs.at 0 (by simp)
            subst el
            have k0 : w8.cell? ⟨lg, lo, none⟩ = some (.int .i64 5) := by have := hrg 0 (.int .i64 5) rfl; simpa using this
            have f0 : w8.cell? ⟨F, 0, none⟩ = some (.int .i64 0) := by simp [World.cell?, HF8.out]
            have f1 : w8.cell? ⟨F, 1, none⟩ = some (.int .i64 0) := by simp [World.cell?, HF8.out]
            have g0 : w8.cell? ⟨Y, 0, none⟩ = some (.int .i64 5) := by simp [World.cell?, HN8.out]
            have g1 : w8.cell? ⟨Y, 1, none⟩ = some (.int .i64 6) := by simp [World.cell?, HN8.out]
            have n1 : ∀ W, (binOp .eql 33 (.agg #[.int .i64 0, .int .i64 0]) (.agg #[.int .i64 0, .int .i64 0])).run Tryz.prog W = .ok (.bool true) W := fun W => fault_eql 0 0 0 0 W
            have n2 : ∀ W, (binOp .eql 33 (.agg #[.int .i64 5, .int .i64 6]) (.agg #[.int .i64 5, .int .i64 6])).run Tryz.prog W = .ok (.bool true) W := fun W => fault_eql 5 6 5 6 W
            clear hrg
            go_wp2_with (first
              | (refine bd_row (by rfl) 33 #[] (by rfl) _ (by simp) _ built_fz ?_)
              | (refine bd_row (by rfl) 33 #[(0, .const (.int .i64 5)), (1, .const (.int .i64 6))] (by rfl) _ (by simp [Act.eval]) _ (built_ft _ _) ?_))
            go_ret
            exact ⟨rfl, HB8.out⟩
      · as_aux_lemma =>
          have HWF := hid (below_walk w3 (.cells #[.int .i64 0, .int .i64 0] 33))
          have HFw4 := hid (hp_new w3 (.cells #[.int .i64 0, .int .i64 0] 33))
          have HSDw4 := hid (HSDw3.out.below HWF.out)
          have HBw4 := hid (below_then HBw3.out HWF.out)
          have HAw4 := hid (HAw3.out.below HWF.out)
          have HCw4 := hid (HCw3.out.below HWF.out)
          refine step_alloc_row8 (by rfl) 33 (by rfl) _ zeroFault ?_
          refine hK.out _ _ trivial (fun hHeld => ?_)
          clear hK K
          try simp only [Act.put, List.getElem_toArray, List.getElem_cons_zero, List.getElem_cons_succ, List.setIfInBounds_toArray, List.set_cons_succ, List.set_cons_zero]
          obtain ⟨F, HFe⟩ : ∃ n, Hid (w3.heap.size = n) := ⟨_, rfl⟩
          have HFl := hid HBw3.out.size
          rw [HFe.out] at HFw4 HFl
          try rw [HFe.out]
          generalize w3.alloc (.cells #[.int .i64 0, .int .i64 0] 33) = w4 at *
          refine wpAnyH_ready (rs := [5]) (by kernel_rfl) (by simp) ?_
          refine AllReadyH.cons rfl (fun K hK => ?_) AllReadyH.nil
          obtain ⟨aA, nA, cA, eA⟩ := src_named HAw4.out
          obtain ⟨aB, nB, cB, eB⟩ := src_named HCw4.out
          have HWA := hid (below_walk w4 (.cells #[vA, vB] 22))
          have HLw5 := hid (lsts_two w4 vA vB _ _ HAw4.out HCw4.out)
          have HSDw5 := hid (HSDw4.out.below HWA.out)
          have HBw5 := hid (below_then HBw4.out HWA.out)
          have HLB := hid (HSDw4.out.kb.lt)
          have HFw5 := hid (bel_keep HWA.out HFw4.out)
          clear hA1 hA2 hB1 hB2 hAo hBo
          subst eA eB
          go_simp
          refine hK.out _ _ trivial (fun hHeld => ?_)
          clear hK K
          try simp only [Act.put, List.getElem_toArray, List.getElem_cons_zero, List.getElem_cons_succ, List.setIfInBounds_toArray, List.set_cons_succ, List.set_cons_zero]
          obtain ⟨B3, HB3e⟩ : ∃ n, Hid (w4.heap.size = n) := ⟨_, rfl⟩
          rw [HB3e.out] at HLw5 HLB
          try rw [HB3e.out]
          generalize w4.alloc (.cells #[.slice aA nA cA, .slice aB nB cB] 22) = w5 at *
          refine wpAnyH_ready (rs := [6]) (by kernel_rfl) (by simp) ?_
          refine AllReadyH.cons rfl (fun K hK => ?_) AllReadyH.nil
          have HFE := hid (kfeed_any HSDw5.out rfl _ _ _ (fun W vd hg => HLw5.out.gd hg (by show some B3 ≠ some b; have := HLB.out; simp; omega) (fun k e e2 => by cases e2) (fun j _ => by match j with | 0 => exact HAn.out | 1 => exact HBn.out | j + 2 => exact (by show nS.ownBlock ≠ some b; intro e; cases e)) (fun j k _ e e2 => by cases e2)) (by decide) (by decide) (by decide))
          rw [run_bye] at HFE
          go_simp
          refine HFE.out.mono ?_
          rintro e w6 ⟨vl, v4, fs, rfl, hof, hsd4, hg4, hm4⟩
          obtain ⟨va, rfl⟩ := map_one hm4
          have HVw6 := hid (show Sd w6 b b v4 9 ⟨[], 6, 1, 0, 0, [6]⟩ from hsd4)
          have HBw6 := hid (Below.trans HBw5.out ((HSDw5.out.low hg4).mono HBW.out))
          have HOw6 := hid hof
          have HFw6 := hid ((hg4.block F (hp_lt HFw5.out) (own_blk HSDw5.out.kb.blk HFw5.out (by decide)) (fun e => by cases e)).trans HFw5.out)
          obtain ⟨al, cl, el⟩ := hof.shape
          simp only [List.length_singleton] at el
          subst el
          clear hof hsd4 hg4 hm4 HFE HSDw5 HLw5
          go_wp2_with fail
          refine hK.out _ _ trivial (fun hHeld => ?_)
          clear hK K
          try simp only [Act.put, List.getElem_toArray, List.getElem_cons_zero, List.getElem_cons_succ, List.setIfInBounds_toArray, List.set_cons_succ, List.set_cons_zero]
          refine wpAnyH_take (i := 7) (v := .tuple #[.slice al 1 cl, .agg #[.int .i64 0, .int .i64 0]]) rfl (by kernel_rfl) (by kernel_rfl) (by kernel_rfl) (fun _ _ _ h => h) (Or.inl ⟨by rfl, fun W _ => by go_simp⟩) hHeld ?_
          simp only [Act.put, List.getElem_toArray, List.getElem_cons_zero, List.getElem_cons_succ, List.setIfInBounds_toArray, List.set_cons_succ, List.set_cons_zero]
          refine wpAnyH_take (i := 8) (v := .slice al 1 cl) rfl (by kernel_rfl) (by kernel_rfl) (by kernel_rfl) (fun _ _ _ h => h) (Or.inl ⟨by rfl, fun W _ => by go_simp⟩) hHeld ?_
          simp only [Act.put, List.getElem_toArray, List.getElem_cons_zero, List.getElem_cons_succ, List.setIfInBounds_toArray, List.set_cons_succ, List.set_cons_zero]
          refine wpAnyH_take (i := 9) (v := .agg #[.int .i64 0, .int .i64 0]) rfl (by kernel_rfl) (by kernel_rfl) (by kernel_rfl) (fun _ _ _ h => h) (Or.inl ⟨by rfl, fun W _ => by go_simp⟩) hHeld ?_
          simp only [Act.put, List.getElem_toArray, List.getElem_cons_zero, List.getElem_cons_succ, List.setIfInBounds_toArray, List.set_cons_succ, List.set_cons_zero]
          refine wpAnyH_take (i := 11) (v := .slice al 1 cl) rfl (by kernel_rfl) (by kernel_rfl) (by kernel_rfl) (fun _ _ _ h => h) (Or.inl ⟨by rfl, fun W _ => by go_simp⟩) hHeld ?_
          simp only [Act.put, List.getElem_toArray, List.getElem_cons_zero, List.getElem_cons_succ, List.setIfInBounds_toArray, List.set_cons_succ, List.set_cons_zero]
          refine wpAnyH_ready (rs := [12]) (by kernel_rfl) (by simp) ?_
          refine AllReadyH.cons rfl (fun K hK => ?_) AllReadyH.nil
          refine step_store_row (by rfl) 33 _ _ (by rfl) F [Value.int .i64 0, .int .i64 0] (by rfl) (by rfl) 33 _ HFw6.out faultSize rfl (fault_one _ _) ?_
          intro wz hwz
          refine hK.out _ _ trivial (fun hHeld => ?_)
          clear hK K
          try simp only [Act.put, List.getElem_toArray, List.getElem_cons_zero, List.getElem_cons_succ]
          refine wpAnyH_done (by kernel_rfl) ?_ _
          simp only [noPanic]
          clear hHeld
          have HFz := hid hwz.blk
          have HBz := hid (Below.of_gb HBw6.out hwz.grown (by have := HFl.out; omega))
          have HVz := hid (HVw6.out.far hwz.grown (fun e => own_blk HVw6.out.kb.blk HFw6.out (by decide) e.symm) (fun k e h9 => own_block HVw6.out.kb.own HFw6.out (by decide) (h9 ▸ e)))
          have HOz := hid (HOw6.out.gone hwz.grown HFw6.out (by decide) (by decide))
          clear hwz
          have HWa := hid (below_walk wz (.cells #[.int .u8 128, .int .u8 0] 5))
          have HSa := hid (src_two wz)
          have HWb := hid (below_walk (wz.alloc (.cells #[.int .u8 128, .int .u8 0] 5)) (.cells #[.slice (some ⟨wz.heap.size, 0, none⟩) 2 2] 22))
          have HLb := hid (lsts_one _ _ _ HSa.out)
          have HVb := hid ((HVz.out.below HWa.out).below HWb.out)
          have HOb := hid ((HOz.out.below HWa.out).below HWb.out)
          have HFb := hid (bel_keep HWb.out (bel_keep HWa.out HFz.out))
          have HBb := hid (below_then (below_then HBz.out HWa.out) HWb.out)
          have HVl := hid HVz.out.kb.lt
          have HVo := hid (fun k e => (World.ownsRow.lt HVz.out.kb.own k e).2)
          have HSz : Hid ((wz.alloc (.cells #[.int .u8 128, .int .u8 0] 5)).heap.size = wz.heap.size + 1) := hid (by simp)
          rw [HSz.out] at HLb
          obtain ⟨Z, HZe⟩ : ∃ n, Hid (wz.heap.size = n) := ⟨_, rfl⟩
          rw [HZe.out] at HLb HVb HOb HFb HBb HVl HVo
          go_wp2_with fail
          try rw [HZe.out]
          generalize (wz.alloc (.cells #[.int .u8 128, .int .u8 0] 5)).alloc (.cells #[.slice (some ⟨Z, 0, none⟩) 2 2] 22) = wb at HLb HVb HOb HFb HBb ⊢
          have HFE := hid (kfeed_any HVb.out rfl _ _ _ (fun W vd hg => HLb.out.gd hg (by show some (Z + 1) ≠ some b; have := HVl.out; simp; omega) (fun k e e2 => by have := HVo.out k e2; simp [Value.ownBlock] at e; omega) (fun j _ => by match j with | 0 => exact (by show some Z ≠ some b; have := HVl.out; simp; omega) | j + 1 => exact (by show nS.ownBlock ≠ some b; intro e; cases e)) (fun j k _ e e2 => by match j, e with | 0, e => (have := HVo.out k e2; simp [Value.ownBlock] at e; omega) | j + 1, e => (cases (show nS.ownBlock = some k from e)))) (by decide) (by decide) (by decide))
          rw [run_bad] at HFE
          refine HFE.out.mono ?_
          rintro e w7 ⟨vl7, v7, fs7, rfl, hof7, hsd7, hg7, hm7⟩
          have HB7 := hid (Below.trans HBb.out ((HVb.out.low hg7).mono HBW.out))
          have HO7 := hid (HOb.out.sd hg7 HVb.out)
          have HF7 := hid ((hg7.block F (hp_lt HFb.out) (own_blk HVb.out.kb.blk HFb.out (by decide)) (fun e => own_block HVb.out.kb.own HFb.out (by decide) e)).trans HFb.out)
          obtain ⟨al7, cl7, el7⟩ := hof7.shape
          subst el7
          clear hof7 hsd7 hg7 hm7 HFE
          have HW8 := hid (below_walk w7 (.cells [Value.int .i64 5, .int .i64 6].toArray 33))
          have HN8 := hid (hp_new w7 (.cells [Value.int .i64 5, .int .i64 6].toArray 33))
          have HB8 := hid (below_then HB7.out HW8.out)
          have HO8 := hid (HO7.out.below HW8.out)
          have HF8 := hid (bel_keep HW8.out HF7.out)
          go_upto_region 6 with (refine st_new (by rfl) 33 _ _ (by rfl) [Value.int .i64 5, .int .i64 6] (by rfl) (by rfl) 33 _ faultSize rfl (fault_one _ _) ?_)
          obtain ⟨Y, HYe⟩ : ∃ n, Hid (w7.heap.size = n) := ⟨_, rfl⟩
          rw [HYe.out] at HN8
          try rw [HYe.out]
          generalize w7.alloc (.cells [Value.int .i64 5, .int .i64 6].toArray 33) = w8 at HW8 HN8 HB8 HO8 HF8 ⊢
          obtain ⟨lg, lo, el, _, hrg, _⟩ := HO8.out.frs.at 0 (by simp)
          subst el
          have k0 : w8.cell? ⟨lg, lo, none⟩ = some (.int .i64 5) := by have := hrg 0 (.int .i64 5) rfl; simpa using this
          have f0 : w8.cell? ⟨F, 0, none⟩ = some (.int .i64 0) := by simp [World.cell?, HF8.out]
          have f1 : w8.cell? ⟨F, 1, none⟩ = some (.int .i64 0) := by simp [World.cell?, HF8.out]
          have g0 : w8.cell? ⟨Y, 0, none⟩ = some (.int .i64 5) := by simp [World.cell?, HN8.out]
          have g1 : w8.cell? ⟨Y, 1, none⟩ = some (.int .i64 6) := by simp [World.cell?, HN8.out]
          have n1 : ∀ W, (binOp .eql 33 (.agg #[.int .i64 0, .int .i64 0]) (.agg #[.int .i64 0, .int .i64 0])).run Tryz.prog W = .ok (.bool true) W := fun W => fault_eql 0 0 0 0 W
          have n2 : ∀ W, (binOp .eql 33 (.agg #[.int .i64 5, .int .i64 6]) (.agg #[.int .i64 5, .int .i64 6])).run Tryz.prog W = .ok (.bool true) W := fun W => fault_eql 5 6 5 6 W
          clear hrg
          go_wp2_with (first
            | (refine bd_row (by rfl) 33 #[] (by rfl) _ (by simp) _ built_fz ?_)
            | (refine bd_row (by rfl) 33 #[(0, .const (.int .i64 5)), (1, .const (.int .i64 6))] (by rfl) _ (by simp [Act.eval]) _ (built_ft _ _) ?_))
          go_ret
          exact ⟨rfl, HB8.out⟩
    · as_aux_lemma =>
        have HWF := hid (below_walk w2 (.cells #[.int .i64 0, .int .i64 0] 33))
        have HFw3 := hid (hp_new w2 (.cells #[.int .i64 0, .int .i64 0] 33))
        have HSDw3 := hid (HSDw2.out.below HWF.out)
        have HBw3 := hid (below_then HBw2.out HWF.out)
        have HAw3 := hid (HAw2.out.below HWF.out)
        refine step_alloc_row8 (by rfl) 33 (by rfl) _ zeroFault ?_
        refine hK.out _ _ trivial (fun hHeld => ?_)
        clear hK K
        try simp only [Act.put, List.getElem_toArray, List.getElem_cons_zero, List.getElem_cons_succ, List.setIfInBounds_toArray, List.set_cons_succ, List.set_cons_zero]
        obtain ⟨F, HFe⟩ : ∃ n, Hid (w2.heap.size = n) := ⟨_, rfl⟩
        have HFl := hid HBw2.out.size
        rw [HFe.out] at HFw3 HFl
        try rw [HFe.out]
        generalize w2.alloc (.cells #[.int .i64 0, .int .i64 0] 33) = w3 at *
        refine wpAnyH_ready (rs := [3]) (by kernel_rfl) (by simp) ?_
        refine AllReadyH.cons rfl (fun K hK => ?_) AllReadyH.nil
        go_simp
        refine (abye_any w3).mono ?_
        rintro e w4 ⟨v21, rfl, ho, hb⟩
        have HSv21 := hid (ho.src (by decide))
        have HLv21 := hid (show ∀ k, v21.ownBlock = some k → k ≠ b from fun k e => by have := (World.ownsRow.lt ho k e).1; have := HSDw3.out.kb.lt; omega)
        have HSDw4 := hid (HSDw3.out.below hb)
        have HBw4 := hid (below_then HBw3.out hb)
        have HFw4 := hid (bel_keep hb HFw3.out)
        have HAw4 := hid (HAw3.out.below hb)
        obtain ⟨av21, cv21, ev21⟩ := ho.shape
        rw [hl6] at ev21
        subst ev21
        clear ho hb
        go_wp2_with fail
        refine hK.out _ _ trivial (fun hHeld => ?_)
        clear hK K
        try simp only [Act.put, List.getElem_toArray, List.getElem_cons_zero, List.getElem_cons_succ, List.setIfInBounds_toArray, List.set_cons_succ, List.set_cons_zero]
        obtain ⟨vB, hB1, hBo, hB2⟩ := cut_endb HSv21.out 2 (by decide)
        have HCw4 := hid hB1
        have HBn := hid (show vB.ownBlock ≠ some b from fun e => HLv21.out b (hBo b e) rfl)
        refine wpAnyH_take (i := 4) (v := vB) rfl (by kernel_rfl) (by kernel_rfl) (by kernel_rfl) (fun _ _ _ h => h) (yields_slice (by rfl) 22 (.tmp 21) (some (.const (.int .i64 2))) none none (by rfl) vB (fun W => hB2 W)) hHeld ?_
        simp only [Act.put, List.getElem_toArray, List.getElem_cons_zero, List.getElem_cons_succ, List.setIfInBounds_toArray, List.set_cons_succ, List.set_cons_zero]
        refine wpAnyH_ready (rs := [5]) (by kernel_rfl) (by simp) ?_
        refine AllReadyH.cons rfl (fun K hK => ?_) AllReadyH.nil
        obtain ⟨aA, nA, cA, eA⟩ := src_named HAw4.out
        obtain ⟨aB, nB, cB, eB⟩ := src_named HCw4.out
        have HWA := hid (below_walk w4 (.cells #[vA, vB] 22))
        have HLw5 := hid (lsts_two w4 vA vB _ _ HAw4.out HCw4.out)
        have HSDw5 := hid (HSDw4.out.below HWA.out)
        have HBw5 := hid (below_then HBw4.out HWA.out)
        have HLB := hid (HSDw4.out.kb.lt)
        have HFw5 := hid (bel_keep HWA.out HFw4.out)
        clear hA1 hA2 hB1 hB2 hAo hBo
        subst eA eB
        go_simp
        refine hK.out _ _ trivial (fun hHeld => ?_)
        clear hK K
        try simp only [Act.put, List.getElem_toArray, List.getElem_cons_zero, List.getElem_cons_succ, List.setIfInBounds_toArray, List.set_cons_succ, List.set_cons_zero]
        obtain ⟨B3, HB3e⟩ : ∃ n, Hid (w4.heap.size = n) := ⟨_, rfl⟩
        rw [HB3e.out] at HLw5 HLB
        try rw [HB3e.out]
        generalize w4.alloc (.cells #[.slice aA nA cA, .slice aB nB cB] 22) = w5 at *
        refine wpAnyH_ready (rs := [6]) (by kernel_rfl) (by simp) ?_
        refine AllReadyH.cons rfl (fun K hK => ?_) AllReadyH.nil
        have HFE := hid (kfeed_any HSDw5.out rfl _ _ _ (fun W vd hg => HLw5.out.gd hg (by show some B3 ≠ some b; have := HLB.out; simp; omega) (fun k e e2 => by cases e2) (fun j _ => by match j with | 0 => exact HAn.out | 1 => exact HBn.out | j + 2 => exact (by show nS.ownBlock ≠ some b; intro e; cases e)) (fun j k _ e e2 => by cases e2)) (by decide) (by decide) (by decide))
        rw [run_bye] at HFE
        go_simp
        refine HFE.out.mono ?_
        rintro e w6 ⟨vl, v4, fs, rfl, hof, hsd4, hg4, hm4⟩
        obtain ⟨va, rfl⟩ := map_one hm4
        have HVw6 := hid (show Sd w6 b b v4 9 ⟨[], 6, 1, 0, 0, [6]⟩ from hsd4)
        have HBw6 := hid (Below.trans HBw5.out ((HSDw5.out.low hg4).mono HBW.out))
        have HOw6 := hid hof
        have HFw6 := hid ((hg4.block F (hp_lt HFw5.out) (own_blk HSDw5.out.kb.blk HFw5.out (by decide)) (fun e => by cases e)).trans HFw5.out)
        obtain ⟨al, cl, el⟩ := hof.shape
        simp only [List.length_singleton] at el
        subst el
        clear hof hsd4 hg4 hm4 HFE HSDw5 HLw5
        go_wp2_with fail
        refine hK.out _ _ trivial (fun hHeld => ?_)
        clear hK K
        try simp only [Act.put, List.getElem_toArray, List.getElem_cons_zero, List.getElem_cons_succ, List.setIfInBounds_toArray, List.set_cons_succ, List.set_cons_zero]
        refine wpAnyH_take (i := 7) (v := .tuple #[.slice al 1 cl, .agg #[.int .i64 0, .int .i64 0]]) rfl (by kernel_rfl) (by kernel_rfl) (by kernel_rfl) (fun _ _ _ h => h) (Or.inl ⟨by rfl, fun W _ => by go_simp⟩) hHeld ?_
        simp only [Act.put, List.getElem_toArray, List.getElem_cons_zero, List.getElem_cons_succ, List.setIfInBounds_toArray, List.set_cons_succ, List.set_cons_zero]
        refine wpAnyH_take (i := 8) (v := .slice al 1 cl) rfl (by kernel_rfl) (by kernel_rfl) (by kernel_rfl) (fun _ _ _ h => h) (Or.inl ⟨by rfl, fun W _ => by go_simp⟩) hHeld ?_
        simp only [Act.put, List.getElem_toArray, List.getElem_cons_zero, List.getElem_cons_succ, List.setIfInBounds_toArray, List.set_cons_succ, List.set_cons_zero]
        refine wpAnyH_take (i := 9) (v := .agg #[.int .i64 0, .int .i64 0]) rfl (by kernel_rfl) (by kernel_rfl) (by kernel_rfl) (fun _ _ _ h => h) (Or.inl ⟨by rfl, fun W _ => by go_simp⟩) hHeld ?_
        simp only [Act.put, List.getElem_toArray, List.getElem_cons_zero, List.getElem_cons_succ, List.setIfInBounds_toArray, List.set_cons_succ, List.set_cons_zero]
        refine wpAnyH_take (i := 11) (v := .slice al 1 cl) rfl (by kernel_rfl) (by kernel_rfl) (by kernel_rfl) (fun _ _ _ h => h) (Or.inl ⟨by rfl, fun W _ => by go_simp⟩) hHeld ?_
        simp only [Act.put, List.getElem_toArray, List.getElem_cons_zero, List.getElem_cons_succ, List.setIfInBounds_toArray, List.set_cons_succ, List.set_cons_zero]
        refine wpAnyH_ready (rs := [12]) (by kernel_rfl) (by simp) ?_
        refine AllReadyH.cons rfl (fun K hK => ?_) AllReadyH.nil
        refine step_store_row (by rfl) 33 _ _ (by rfl) F [Value.int .i64 0, .int .i64 0] (by rfl) (by rfl) 33 _ HFw6.out faultSize rfl (fault_one _ _) ?_
        intro wz hwz
        refine hK.out _ _ trivial (fun hHeld => ?_)
        clear hK K
        try simp only [Act.put, List.getElem_toArray, List.getElem_cons_zero, List.getElem_cons_succ]
        refine wpAnyH_done (by kernel_rfl) ?_ _
        simp only [noPanic]
        clear hHeld
        have HFz := hid hwz.blk
        have HBz := hid (Below.of_gb HBw6.out hwz.grown (by have := HFl.out; omega))
        have HVz := hid (HVw6.out.far hwz.grown (fun e => own_blk HVw6.out.kb.blk HFw6.out (by decide) e.symm) (fun k e h9 => own_block HVw6.out.kb.own HFw6.out (by decide) (h9 ▸ e)))
        have HOz := hid (HOw6.out.gone hwz.grown HFw6.out (by decide) (by decide))
        clear hwz
        have HWa := hid (below_walk wz (.cells #[.int .u8 128, .int .u8 0] 5))
        have HSa := hid (src_two wz)
        have HWb := hid (below_walk (wz.alloc (.cells #[.int .u8 128, .int .u8 0] 5)) (.cells #[.slice (some ⟨wz.heap.size, 0, none⟩) 2 2] 22))
        have HLb := hid (lsts_one _ _ _ HSa.out)
        have HVb := hid ((HVz.out.below HWa.out).below HWb.out)
        have HOb := hid ((HOz.out.below HWa.out).below HWb.out)
        have HFb := hid (bel_keep HWb.out (bel_keep HWa.out HFz.out))
        have HBb := hid (below_then (below_then HBz.out HWa.out) HWb.out)
        have HVl := hid HVz.out.kb.lt
        have HVo := hid (fun k e => (World.ownsRow.lt HVz.out.kb.own k e).2)
        have HSz : Hid ((wz.alloc (.cells #[.int .u8 128, .int .u8 0] 5)).heap.size = wz.heap.size + 1) := hid (by simp)
        rw [HSz.out] at HLb
        obtain ⟨Z, HZe⟩ : ∃ n, Hid (wz.heap.size = n) := ⟨_, rfl⟩
        rw [HZe.out] at HLb HVb HOb HFb HBb HVl HVo
        go_wp2_with fail
        try rw [HZe.out]
        generalize (wz.alloc (.cells #[.int .u8 128, .int .u8 0] 5)).alloc (.cells #[.slice (some ⟨Z, 0, none⟩) 2 2] 22) = wb at HLb HVb HOb HFb HBb ⊢
        have HFE := hid (kfeed_any HVb.out rfl _ _ _ (fun W vd hg => HLb.out.gd hg (by show some (Z + 1) ≠ some b; have := HVl.out; simp; omega) (fun k e e2 => by have := HVo.out k e2; simp [Value.ownBlock] at e; omega) (fun j _ => by match j with | 0 => exact (by show some Z ≠ some b; have := HVl.out; simp; omega) | j + 1 => exact (by show nS.ownBlock ≠ some b; intro e; cases e)) (fun j k _ e e2 => by match j, e with | 0, e => (have := HVo.out k e2; simp [Value.ownBlock] at e; omega) | j + 1, e => (cases (show nS.ownBlock = some k from e)))) (by decide) (by decide) (by decide))
        rw [run_bad] at HFE
        refine HFE.out.mono ?_
        rintro e w7 ⟨vl7, v7, fs7, rfl, hof7, hsd7, hg7, hm7⟩
        have HB7 := hid (Below.trans HBb.out ((HVb.out.low hg7).mono HBW.out))
        have HO7 := hid (HOb.out.sd hg7 HVb.out)
        have HF7 := hid ((hg7.block F (hp_lt HFb.out) (own_blk HVb.out.kb.blk HFb.out (by decide)) (fun e => own_block HVb.out.kb.own HFb.out (by decide) e)).trans HFb.out)
        obtain ⟨al7, cl7, el7⟩ := hof7.shape
        subst el7
        clear hof7 hsd7 hg7 hm7 HFE
        have HW8 := hid (below_walk w7 (.cells [Value.int .i64 5, .int .i64 6].toArray 33))
        have HN8 := hid (hp_new w7 (.cells [Value.int .i64 5, .int .i64 6].toArray 33))
        have HB8 := hid (below_then HB7.out HW8.out)
        have HO8 := hid (HO7.out.below HW8.out)
        have HF8 := hid (bel_keep HW8.out HF7.out)
        go_upto_region 6 with (refine st_new (by rfl) 33 _ _ (by rfl) [Value.int .i64 5, .int .i64 6] (by rfl) (by rfl) 33 _ faultSize rfl (fault_one _ _) ?_)
        obtain ⟨Y, HYe⟩ : ∃ n, Hid (w7.heap.size = n) := ⟨_, rfl⟩
        rw [HYe.out] at HN8
        try rw [HYe.out]
        generalize w7.alloc (.cells [Value.int .i64 5, .int .i64 6].toArray 33) = w8 at HW8 HN8 HB8 HO8 HF8 ⊢
        obtain ⟨lg, lo, el, _, hrg, _⟩ := HO8.out.frs.at 0 (by simp)
        subst el
        have k0 : w8.cell? ⟨lg, lo, none⟩ = some (.int .i64 5) := by have := hrg 0 (.int .i64 5) rfl; simpa using this
        have f0 : w8.cell? ⟨F, 0, none⟩ = some (.int .i64 0) := by simp [World.cell?, HF8.out]
        have f1 : w8.cell? ⟨F, 1, none⟩ = some (.int .i64 0) := by simp [World.cell?, HF8.out]
        have g0 : w8.cell? ⟨Y, 0, none⟩ = some (.int .i64 5) := by simp [World.cell?, HN8.out]
        have g1 : w8.cell? ⟨Y, 1, none⟩ = some (.int .i64 6) := by simp [World.cell?, HN8.out]
        have n1 : ∀ W, (binOp .eql 33 (.agg #[.int .i64 0, .int .i64 0]) (.agg #[.int .i64 0, .int .i64 0])).run Tryz.prog W = .ok (.bool true) W := fun W => fault_eql 0 0 0 0 W
        have n2 : ∀ W, (binOp .eql 33 (.agg #[.int .i64 5, .int .i64 6]) (.agg #[.int .i64 5, .int .i64 6])).run Tryz.prog W = .ok (.bool true) W := fun W => fault_eql 5 6 5 6 W
        clear hrg
        go_wp2_with (first
          | (refine bd_row (by rfl) 33 #[] (by rfl) _ (by simp) _ built_fz ?_)
          | (refine bd_row (by rfl) 33 #[(0, .const (.int .i64 5)), (1, .const (.int .i64 6))] (by rfl) _ (by simp [Act.eval]) _ (built_ft _ _) ?_))
        go_ret
        exact ⟨rfl, HB8.out⟩
  · as_aux_lemma =>
      have HWF := hid (below_walk x (.cells #[.int .i64 0, .int .i64 0] 33))
      have HFw2 := hid (hp_new x (.cells #[.int .i64 0, .int .i64 0] 33))
      have HSDw2 := hid (HSDx.out.below HWF.out)
      have HBw2 := hid (below_then HBx.out HWF.out)
      refine step_alloc_row8 (by rfl) 33 (by rfl) _ zeroFault ?_
      refine hK.out _ _ trivial (fun hHeld => ?_)
      clear hK K
      try simp only [Act.put, List.getElem_toArray, List.getElem_cons_zero, List.getElem_cons_succ, List.setIfInBounds_toArray, List.set_cons_succ, List.set_cons_zero]
      obtain ⟨F, HFe⟩ : ∃ n, Hid (x.heap.size = n) := ⟨_, rfl⟩
      have HFl := hid HBx.out.size
      rw [HFe.out] at HFw2 HFl
      try rw [HFe.out]
      generalize x.alloc (.cells #[.int .i64 0, .int .i64 0] 33) = w2 at *
      refine wpAnyH_ready (rs := [1]) (by kernel_rfl) (by simp) ?_
      refine AllReadyH.cons rfl (fun K hK => ?_) AllReadyH.nil
      go_simp
      refine (abye_any w2).mono ?_
      rintro e w3 ⟨v19, rfl, ho, hb⟩
      have HSv19 := hid (ho.src (by decide))
      have HLv19 := hid (show ∀ k, v19.ownBlock = some k → k ≠ b from fun k e => by have := (World.ownsRow.lt ho k e).1; have := HSDw2.out.kb.lt; omega)
      have HSDw3 := hid (HSDw2.out.below hb)
      have HBw3 := hid (below_then HBw2.out hb)
      have HFw3 := hid (bel_keep hb HFw2.out)
      obtain ⟨av19, cv19, ev19⟩ := ho.shape
      rw [hl6] at ev19
      subst ev19
      clear ho hb
      go_wp2_with fail
      refine hK.out _ _ trivial (fun hHeld => ?_)
      clear hK K
      try simp only [Act.put, List.getElem_toArray, List.getElem_cons_zero, List.getElem_cons_succ, List.setIfInBounds_toArray, List.set_cons_succ, List.set_cons_zero]
      obtain ⟨vA, hA1, hAo, hA2⟩ := cut_atb HSv19.out 2 (by decide)
      have HAw3 := hid hA1
      have HAn := hid (show vA.ownBlock ≠ some b from fun e => HLv19.out b (hAo b e) rfl)
      refine wpAnyH_take (i := 2) (v := vA) rfl (by kernel_rfl) (by kernel_rfl) (by kernel_rfl) (fun _ _ _ h => h) (yields_slice (by rfl) 22 (.tmp 19) none (some (.const (.int .i64 2))) none (by rfl) vA (fun W => hA2 W)) hHeld ?_
      simp only [Act.put, List.getElem_toArray, List.getElem_cons_zero, List.getElem_cons_succ, List.setIfInBounds_toArray, List.set_cons_succ, List.set_cons_zero]
      refine wpAnyH_ready (rs := [3]) (by kernel_rfl) (by simp) ?_
      refine AllReadyH.cons rfl (fun K hK => ?_) AllReadyH.nil
      go_simp
      refine (abye_any w3).mono ?_
      rintro e w4 ⟨v21, rfl, ho, hb⟩
      have HSv21 := hid (ho.src (by decide))
      have HLv21 := hid (show ∀ k, v21.ownBlock = some k → k ≠ b from fun k e => by have := (World.ownsRow.lt ho k e).1; have := HSDw3.out.kb.lt; omega)
      have HSDw4 := hid (HSDw3.out.below hb)
      have HBw4 := hid (below_then HBw3.out hb)
      have HFw4 := hid (bel_keep hb HFw3.out)
      have HAw4 := hid (HAw3.out.below hb)
      obtain ⟨av21, cv21, ev21⟩ := ho.shape
      rw [hl6] at ev21
      subst ev21
      clear ho hb
      go_wp2_with fail
      refine hK.out _ _ trivial (fun hHeld => ?_)
      clear hK K
      try simp only [Act.put, List.getElem_toArray, List.getElem_cons_zero, List.getElem_cons_succ, List.setIfInBounds_toArray, List.set_cons_succ, List.set_cons_zero]
      obtain ⟨vB, hB1, hBo, hB2⟩ := cut_endb HSv21.out 2 (by decide)
      have HCw4 := hid hB1
      have HBn := hid (show vB.ownBlock ≠ some b from fun e => HLv21.out b (hBo b e) rfl)
      refine wpAnyH_take (i := 4) (v := vB) rfl (by kernel_rfl) (by kernel_rfl) (by kernel_rfl) (fun _ _ _ h => h) (yields_slice (by rfl) 22 (.tmp 21) (some (.const (.int .i64 2))) none none (by rfl) vB (fun W => hB2 W)) hHeld ?_
      simp only [Act.put, List.getElem_toArray, List.getElem_cons_zero, List.getElem_cons_succ, List.setIfInBounds_toArray, List.set_cons_succ, List.set_cons_zero]
      refine wpAnyH_ready (rs := [5]) (by kernel_rfl) (by simp) ?_
      refine AllReadyH.cons rfl (fun K hK => ?_) AllReadyH.nil
      obtain ⟨aA, nA, cA, eA⟩ := src_named HAw4.out
      obtain ⟨aB, nB, cB, eB⟩ := src_named HCw4.out
      have HWA := hid (below_walk w4 (.cells #[vA, vB] 22))
      have HLw5 := hid (lsts_two w4 vA vB _ _ HAw4.out HCw4.out)
      have HSDw5 := hid (HSDw4.out.below HWA.out)
      have HBw5 := hid (below_then HBw4.out HWA.out)
      have HLB := hid (HSDw4.out.kb.lt)
      have HFw5 := hid (bel_keep HWA.out HFw4.out)
      clear hA1 hA2 hB1 hB2 hAo hBo
      subst eA eB
      go_simp
      refine hK.out _ _ trivial (fun hHeld => ?_)
      clear hK K
      try simp only [Act.put, List.getElem_toArray, List.getElem_cons_zero, List.getElem_cons_succ, List.setIfInBounds_toArray, List.set_cons_succ, List.set_cons_zero]
      obtain ⟨B3, HB3e⟩ : ∃ n, Hid (w4.heap.size = n) := ⟨_, rfl⟩
      rw [HB3e.out] at HLw5 HLB
      try rw [HB3e.out]
      generalize w4.alloc (.cells #[.slice aA nA cA, .slice aB nB cB] 22) = w5 at *
      refine wpAnyH_ready (rs := [6]) (by kernel_rfl) (by simp) ?_
      refine AllReadyH.cons rfl (fun K hK => ?_) AllReadyH.nil
      have HFE := hid (kfeed_any HSDw5.out rfl _ _ _ (fun W vd hg => HLw5.out.gd hg (by show some B3 ≠ some b; have := HLB.out; simp; omega) (fun k e e2 => by cases e2) (fun j _ => by match j with | 0 => exact HAn.out | 1 => exact HBn.out | j + 2 => exact (by show nS.ownBlock ≠ some b; intro e; cases e)) (fun j k _ e e2 => by cases e2)) (by decide) (by decide) (by decide))
      rw [run_bye] at HFE
      go_simp
      refine HFE.out.mono ?_
      rintro e w6 ⟨vl, v4, fs, rfl, hof, hsd4, hg4, hm4⟩
      obtain ⟨va, rfl⟩ := map_one hm4
      have HVw6 := hid (show Sd w6 b b v4 9 ⟨[], 6, 1, 0, 0, [6]⟩ from hsd4)
      have HBw6 := hid (Below.trans HBw5.out ((HSDw5.out.low hg4).mono HBW.out))
      have HOw6 := hid hof
      have HFw6 := hid ((hg4.block F (hp_lt HFw5.out) (own_blk HSDw5.out.kb.blk HFw5.out (by decide)) (fun e => by cases e)).trans HFw5.out)
      obtain ⟨al, cl, el⟩ := hof.shape
      simp only [List.length_singleton] at el
      subst el
      clear hof hsd4 hg4 hm4 HFE HSDw5 HLw5
      go_wp2_with fail
      refine hK.out _ _ trivial (fun hHeld => ?_)
      clear hK K
      try simp only [Act.put, List.getElem_toArray, List.getElem_cons_zero, List.getElem_cons_succ, List.setIfInBounds_toArray, List.set_cons_succ, List.set_cons_zero]
      refine wpAnyH_take (i := 7) (v := .tuple #[.slice al 1 cl, .agg #[.int .i64 0, .int .i64 0]]) rfl (by kernel_rfl) (by kernel_rfl) (by kernel_rfl) (fun _ _ _ h => h) (Or.inl ⟨by rfl, fun W _ => by go_simp⟩) hHeld ?_
      simp only [Act.put, List.getElem_toArray, List.getElem_cons_zero, List.getElem_cons_succ, List.setIfInBounds_toArray, List.set_cons_succ, List.set_cons_zero]
      refine wpAnyH_take (i := 8) (v := .slice al 1 cl) rfl (by kernel_rfl) (by kernel_rfl) (by kernel_rfl) (fun _ _ _ h => h) (Or.inl ⟨by rfl, fun W _ => by go_simp⟩) hHeld ?_
      simp only [Act.put, List.getElem_toArray, List.getElem_cons_zero, List.getElem_cons_succ, List.setIfInBounds_toArray, List.set_cons_succ, List.set_cons_zero]
      refine wpAnyH_take (i := 9) (v := .agg #[.int .i64 0, .int .i64 0]) rfl (by kernel_rfl) (by kernel_rfl) (by kernel_rfl) (fun _ _ _ h => h) (Or.inl ⟨by rfl, fun W _ => by go_simp⟩) hHeld ?_
      simp only [Act.put, List.getElem_toArray, List.getElem_cons_zero, List.getElem_cons_succ, List.setIfInBounds_toArray, List.set_cons_succ, List.set_cons_zero]
      refine wpAnyH_take (i := 11) (v := .slice al 1 cl) rfl (by kernel_rfl) (by kernel_rfl) (by kernel_rfl) (fun _ _ _ h => h) (Or.inl ⟨by rfl, fun W _ => by go_simp⟩) hHeld ?_
      simp only [Act.put, List.getElem_toArray, List.getElem_cons_zero, List.getElem_cons_succ, List.setIfInBounds_toArray, List.set_cons_succ, List.set_cons_zero]
      refine wpAnyH_ready (rs := [12]) (by kernel_rfl) (by simp) ?_
      refine AllReadyH.cons rfl (fun K hK => ?_) AllReadyH.nil
      refine step_store_row (by rfl) 33 _ _ (by rfl) F [Value.int .i64 0, .int .i64 0] (by rfl) (by rfl) 33 _ HFw6.out faultSize rfl (fault_one _ _) ?_
      intro wz hwz
      refine hK.out _ _ trivial (fun hHeld => ?_)
      clear hK K
      try simp only [Act.put, List.getElem_toArray, List.getElem_cons_zero, List.getElem_cons_succ]
      refine wpAnyH_done (by kernel_rfl) ?_ _
      simp only [noPanic]
      clear hHeld
      have HFz := hid hwz.blk
      have HBz := hid (Below.of_gb HBw6.out hwz.grown (by have := HFl.out; omega))
      have HVz := hid (HVw6.out.far hwz.grown (fun e => own_blk HVw6.out.kb.blk HFw6.out (by decide) e.symm) (fun k e h9 => own_block HVw6.out.kb.own HFw6.out (by decide) (h9 ▸ e)))
      have HOz := hid (HOw6.out.gone hwz.grown HFw6.out (by decide) (by decide))
      clear hwz
      have HWa := hid (below_walk wz (.cells #[.int .u8 128, .int .u8 0] 5))
      have HSa := hid (src_two wz)
      have HWb := hid (below_walk (wz.alloc (.cells #[.int .u8 128, .int .u8 0] 5)) (.cells #[.slice (some ⟨wz.heap.size, 0, none⟩) 2 2] 22))
      have HLb := hid (lsts_one _ _ _ HSa.out)
      have HVb := hid ((HVz.out.below HWa.out).below HWb.out)
      have HOb := hid ((HOz.out.below HWa.out).below HWb.out)
      have HFb := hid (bel_keep HWb.out (bel_keep HWa.out HFz.out))
      have HBb := hid (below_then (below_then HBz.out HWa.out) HWb.out)
      have HVl := hid HVz.out.kb.lt
      have HVo := hid (fun k e => (World.ownsRow.lt HVz.out.kb.own k e).2)
      have HSz : Hid ((wz.alloc (.cells #[.int .u8 128, .int .u8 0] 5)).heap.size = wz.heap.size + 1) := hid (by simp)
      rw [HSz.out] at HLb
      obtain ⟨Z, HZe⟩ : ∃ n, Hid (wz.heap.size = n) := ⟨_, rfl⟩
      rw [HZe.out] at HLb HVb HOb HFb HBb HVl HVo
      go_wp2_with fail
      try rw [HZe.out]
      generalize (wz.alloc (.cells #[.int .u8 128, .int .u8 0] 5)).alloc (.cells #[.slice (some ⟨Z, 0, none⟩) 2 2] 22) = wb at HLb HVb HOb HFb HBb ⊢
      have HFE := hid (kfeed_any HVb.out rfl _ _ _ (fun W vd hg => HLb.out.gd hg (by show some (Z + 1) ≠ some b; have := HVl.out; simp; omega) (fun k e e2 => by have := HVo.out k e2; simp [Value.ownBlock] at e; omega) (fun j _ => by match j with | 0 => exact (by show some Z ≠ some b; have := HVl.out; simp; omega) | j + 1 => exact (by show nS.ownBlock ≠ some b; intro e; cases e)) (fun j k _ e e2 => by match j, e with | 0, e => (have := HVo.out k e2; simp [Value.ownBlock] at e; omega) | j + 1, e => (cases (show nS.ownBlock = some k from e)))) (by decide) (by decide) (by decide))
      rw [run_bad] at HFE
      refine HFE.out.mono ?_
      rintro e w7 ⟨vl7, v7, fs7, rfl, hof7, hsd7, hg7, hm7⟩
      have HB7 := hid (Below.trans HBb.out ((HVb.out.low hg7).mono HBW.out))
      have HO7 := hid (HOb.out.sd hg7 HVb.out)
      have HF7 := hid ((hg7.block F (hp_lt HFb.out) (own_blk HVb.out.kb.blk HFb.out (by decide)) (fun e => own_block HVb.out.kb.own HFb.out (by decide) e)).trans HFb.out)
      obtain ⟨al7, cl7, el7⟩ := hof7.shape
      subst el7
      clear hof7 hsd7 hg7 hm7 HFE
      have HW8 := hid (below_walk w7 (.cells [Value.int .i64 5, .int .i64 6].toArray 33))
      have HN8 := hid (hp_new w7 (.cells [Value.int .i64 5, .int .i64 6].toArray 33))
      have HB8 := hid (below_then HB7.out HW8.out)
      have HO8 := hid (HO7.out.below HW8.out)
      have HF8 := hid (bel_keep HW8.out HF7.out)
      go_upto_region 6 with (refine st_new (by rfl) 33 _ _ (by rfl) [Value.int .i64 5, .int .i64 6] (by rfl) (by rfl) 33 _ faultSize rfl (fault_one _ _) ?_)
      obtain ⟨Y, HYe⟩ : ∃ n, Hid (w7.heap.size = n) := ⟨_, rfl⟩
      rw [HYe.out] at HN8
      try rw [HYe.out]
      generalize w7.alloc (.cells [Value.int .i64 5, .int .i64 6].toArray 33) = w8 at HW8 HN8 HB8 HO8 HF8 ⊢
      obtain ⟨lg, lo, el, _, hrg, _⟩ := HO8.out.frs.at 0 (by simp)
      subst el
      have k0 : w8.cell? ⟨lg, lo, none⟩ = some (.int .i64 5) := by have := hrg 0 (.int .i64 5) rfl; simpa using this
      have f0 : w8.cell? ⟨F, 0, none⟩ = some (.int .i64 0) := by simp [World.cell?, HF8.out]
      have f1 : w8.cell? ⟨F, 1, none⟩ = some (.int .i64 0) := by simp [World.cell?, HF8.out]
      have g0 : w8.cell? ⟨Y, 0, none⟩ = some (.int .i64 5) := by simp [World.cell?, HN8.out]
      have g1 : w8.cell? ⟨Y, 1, none⟩ = some (.int .i64 6) := by simp [World.cell?, HN8.out]
      have n1 : ∀ W, (binOp .eql 33 (.agg #[.int .i64 0, .int .i64 0]) (.agg #[.int .i64 0, .int .i64 0])).run Tryz.prog W = .ok (.bool true) W := fun W => fault_eql 0 0 0 0 W
      have n2 : ∀ W, (binOp .eql 33 (.agg #[.int .i64 5, .int .i64 6]) (.agg #[.int .i64 5, .int .i64 6])).run Tryz.prog W = .ok (.bool true) W := fun W => fault_eql 5 6 5 6 W
      clear hrg
      go_wp2_with (first
        | (refine bd_row (by rfl) 33 #[] (by rfl) _ (by simp) _ built_fz ?_)
        | (refine bd_row (by rfl) 33 #[(0, .const (.int .i64 5)), (1, .const (.int .i64 6))] (by rfl) _ (by simp [Act.eval]) _ (built_ft _ _) ?_))
      go_ret
      exact ⟨rfl, HB8.out⟩
end Go.Proofs.YtiibhccbbpgehaaGreat

/- A region that draws its order: what is held may be made more on the way. Frames that lie apart from what grew. -/
namespace Go.Proofs.YtiibhccbbpgehaaGreat
open Go.RowKit Go.BigFrame

/-- frames and their texts all lie below N -/
def Low (N : Nat) (v : Value) (fs : List FV) : Prop := (∀ k, v.ownBlock = some k → k < N) ∧ ∀ f ∈ fs, ∀ k, f.2.ownBlock = some k → k < N
theorem OFs.low {w : World} {lo : Nat} {v : Value} {fs : List FV} (h : OFs w lo v fs) : Low w.heap.size v fs :=
  ⟨fun k e => (World.ownsRow.lt h.own k e).2, fun f hf k e => (World.ownsRow.lt (h.each f hf).1 k e).2⟩
theorem OFs.off {w w' : World} {lo N : Nat} {v : Value} {row : Option Nat} {fs : List FV} (h : OFs w lo v fs) (hl : Low N v fs) (g : w.grownBy w' row) (hn : ∀ k, row = some k → N ≤ k) : OFs w' lo v fs := by
  have key : ∀ {t : TypeId} {sz m : Nat} {u : Value} {ys : List Value}, w.ownsRow lo t sz u m ys → (∀ k, u.ownBlock = some k → k < N) → w'.ownsRow lo t sz u m ys := by
    intro t sz m u ys hu hb
    refine World.ownsRow.kept hu g ?_
    cases hk : u.ownBlock with
    | none => exact Or.inl rfl
    | some k => exact Or.inr (fun h9 => by have := hb k hk; have := hn k h9.symm; omega)
  exact ⟨key h.own hl.1, fun f hf => ⟨key (h.each f hf).1 (hl.2 f hf), (h.each f hf).2⟩⟩
theorem gb_blk {w w' : World} {row : Option Nat} {b : Nat} {o : Obj} (hb : w.heap[b]? = some o) (g : w.grownBy w' row) (hn : row ≠ some b) : w'.heap[b]? = some o :=
  (g.block b (hp_lt hb) (fun e => hn e.symm)).trans hb
theorem Below.of_gbo {w w1 w2 : World} {row : Option Nat} (h : Below w.heap.size w w1) (g : w1.grownBy w2 row) (hr : ∀ k, row = some k → w.heap.size ≤ k) : Below w.heap.size w w2 :=
  ⟨g.os.trans h.os, g.tape.trans h.tape, g.output.trans h.output, Nat.le_trans h.size g.size, fun k hk => (g.block k (Nat.lt_of_lt_of_le hk h.size) (fun e => by have := hr k e.symm; omega)).trans (h.block k hk)⟩
end Go.Proofs.YtiibhccbbpgehaaGreat

/- The document's reader: what it means that a block is one; its calls fail and short, and New. -/
namespace Go.Proofs.YtiibhccbbpgehaaGreat
open Go.RowKit

/-- block b is a reader of the document's: its bytes, its place, its fault -/
structure Qd (w : World) (base b : Nat) (v : Value) (bs : List UInt8) (a : Nat) (why wat : Int) : Prop where
  lo : base ≤ b
  blk : w.heap[b]? = some (.cells #[v, .int .i64 a, .int .i64 why, .int .i64 wat] 88 (0, 0))
  own : OwnB w base v bs
  ne : v.ownBlock ≠ some b
  le : a ≤ bs.length

section
variable {w w' : World} {base b : Nat} {v : Value} {bs : List UInt8} {a : Nat} {why wat : Int}
theorem Qd.lt (h : Qd w base b v bs a why wat) : b < w.heap.size := by
  rcases Nat.lt_or_ge b w.heap.size with h1 | h1
  · exact h1
  · have := h.blk; rw [Array.getElem?_eq_none h1] at this; cases this
theorem Qd.c0 (h : Qd w base b v bs a why wat) : w.cell? ⟨b, 0, none⟩ = some v := by simp [World.cell?, h.blk]
theorem Qd.c1 (h : Qd w base b v bs a why wat) : w.cell? ⟨b, 1, none⟩ = some (.int .i64 a) := by simp [World.cell?, h.blk]
theorem Qd.c2 (h : Qd w base b v bs a why wat) : w.cell? ⟨b, 2, none⟩ = some (.int .i64 why) := by simp [World.cell?, h.blk]
theorem Qd.c3 (h : Qd w base b v bs a why wat) : w.cell? ⟨b, 3, none⟩ = some (.int .i64 wat) := by simp [World.cell?, h.blk]
theorem Qd.fz (h : Qd w base b v bs a why wat) (i : Nat) : w.frozen? ⟨b, i, none⟩ = false := by simp [World.frozen?, h.blk]
theorem Qd.grown {row : Option Nat} (h : Qd w base b v bs a why wat) (hg : w.grownBy w' row) (hb : row ≠ some b) (hv : v.ownBlock = none ∨ v.ownBlock ≠ row) : Qd w' base b v bs a why wat :=
  ⟨h.lo, (hg.block b h.lt (fun e => hb e.symm)).trans h.blk, h.own.kept hg hv, h.ne, h.le⟩
theorem Qd.below (h : Qd w base b v bs a why wat) (hb : Below w.heap.size w w') : Qd w' base b v bs a why wat :=
  ⟨h.lo, (hb.block b h.lt).trans h.blk, h.own.below hb, h.ne, h.le⟩
theorem Qd.drewN (h : Qd w base b v bs a why wat) (k : Nat) : Qd (w.drewN k) base b v bs a why wat := ⟨h.lo, h.blk, h.own, h.ne, h.le⟩
theorem Qd.drew (h : Qd w base b v bs a why wat) : Qd w.drew base b v bs a why wat := ⟨h.lo, h.blk, h.own, h.ne, h.le⟩
theorem Qd.setAt (h : Qd w base b v bs a why wat) (a' : Nat) (h' : a' ≤ bs.length) : Qd (w.setCell ⟨b, 1, none⟩ (.int .i64 a')) base b v bs a' why wat :=
  ⟨h.lo, blk_set h.blk _, h.own.kept (gb_set w _ _) (Or.inr (by simpa using h.ne)), h.ne, h'⟩
theorem Qd.setFault (h : Qd w base b v bs a why wat) (e x : Int) : Qd ((w.setCell ⟨b, 2, none⟩ (.int .i64 e)).setCell ⟨b, 3, none⟩ (.int .i64 x)) base b v bs a e x :=
  ⟨h.lo, blk_set (blk_set h.blk _) _, (h.own.kept (gb_set w _ _) (Or.inr (by simpa using h.ne))).kept (gb_set _ _ _) (Or.inr (by simpa using h.ne)), h.ne, h.le⟩

end

end Go.Proofs.YtiibhccbbpgehaaGreat

/- The document's reader: Uint, Int, Fail, End. -/
namespace Go.Proofs.YtiibhccbbpgehaaGreat
open Go.RowKit

section

variable {w : World} {base b : Nat} {v : Value} {bs : List UInt8} {a : Nat} {why wat : Int}

end

end Go.Proofs.YtiibhccbbpgehaaGreat

/- The document's Need. -/
namespace Go.Proofs.YtiibhccbbpgehaaGreat
open Go.RowKit Go.BigFrame

end Go.Proofs.YtiibhccbbpgehaaGreat
