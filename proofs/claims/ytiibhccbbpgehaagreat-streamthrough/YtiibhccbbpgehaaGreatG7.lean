/- Contracts and pure facts that the proof needs, joined. -/
import Derived.Test.YtiibhccbbpgehaaGreatG6
import Derived.Test.YtiibhccbbpgehaaGreatG1
import Derived.Test.YtiibhccbbpgehaaGreatG2

/- Feed. -/
namespace Go.Proofs.YtiibhccbbpgehaaGreat
open Go.RowKit Go.BigFrame

/-- a slice of slices of bytes: these slices, these bytes -/
def Lsts (w : World) (v : Value) (us : List Value) (pss : List (List UInt8)) : Prop :=
  (∃ ao c, v = .slice ao 0 c ∧ pss = []) ∨ ∃ g o c, v = .slice (some ⟨g, o, none⟩) pss.length c ∧ g < w.heap.size ∧ ∀ j, j < pss.length → w.cell? ⟨g, o + j, none⟩ = some (us.getD j nS) ∧ Src w (us.getD j nS) (pss.getD j [])
theorem Lsts.shape {w : World} {v : Value} {us : List Value} {pss : List (List UInt8)} (h : Lsts w v us pss) : ∃ ao c, v = .slice ao pss.length c := by
  rcases h with ⟨ao, c, rfl, rfl⟩ | ⟨g, o, c, rfl, _⟩
  · exact ⟨_, _, rfl⟩
  · exact ⟨_, _, rfl⟩
theorem Lsts.at {w : World} {ao : Option Addr} {n c : Nat} {us : List Value} {pss : List (List UInt8)} (h : Lsts w (.slice ao n c) us pss) (k : Nat) (hk : k < pss.length) : ∃ g o, ao = some ⟨g, o, none⟩ ∧ w.cell? ⟨g, o + k, none⟩ = some (us.getD k nS) ∧ Src w (us.getD k nS) (pss.getD k []) := by
  rcases h with ⟨_, _, _, rfl⟩ | ⟨g, o, c', e, hlt, hc⟩
  · simp at hk
  · simp only [Value.slice.injEq] at e
    exact ⟨g, o, e.1, hc k hk⟩
theorem Lsts.below {w w' : World} {v : Value} {us : List Value} {pss : List (List UInt8)} (h : Lsts w v us pss) (hb : Below w.heap.size w w') : Lsts w' v us pss := by
  rcases h with h | ⟨g, o, c, hv, hlt, hc⟩
  · exact Or.inl h
  · exact Or.inr ⟨g, o, c, hv, Nat.lt_of_lt_of_le hlt hb.size, fun j hj => ⟨(hb.cell (p := ⟨g, o + j, none⟩) hlt).trans (hc j hj).1, (hc j hj).2.below hb⟩⟩
theorem lists_lsts {w : World} {v : Value} {pss : List (List UInt8)} (h : Lists w v pss) : ∃ us, Lsts w v us pss := by
  rcases h with h | ⟨g, o, c, hv, hlt, hc⟩
  · exact ⟨[], Or.inl h⟩
  · have : ∀ j, ∃ u, j < pss.length → w.cell? ⟨g, o + j, none⟩ = some u ∧ Src w u (pss.getD j []) := by
      intro j
      by_cases hj : j < pss.length
      · obtain ⟨u, hu⟩ := hc j hj
        exact ⟨u, fun _ => hu⟩
      · exact ⟨nS, fun h => absurd h hj⟩
    obtain ⟨f, hf⟩ := Classical.axiomOfChoice this
    refine ⟨(List.range pss.length).map f, Or.inr ⟨g, o, c, hv, hlt, fun j hj => ?_⟩⟩
    have e : ((List.range pss.length).map f).getD j nS = f j := by simp [List.getD_eq_getElem?_getD, hj]
    rw [e]
    exact hf j hj
theorem fault_at {w : World} {b : Nat} {v : Value} {ca wh lg : Nat} {y t : Int} {ty : TypeId} (h : w.heap[b]? = some (.cells #[v, .int .i64 ca, .int .i64 wh, .int .i64 lg, .int .i64 y, .int .i64 t] ty (0, 0))) : w.rangeAt b 4 [.int .i64 y, .int .i64 t] := by
  intro j u hu
  match j, hu with
  | 0, hu => simp at hu; subst hu; simp [World.cell?, h]
  | 1, hu => simp at hu; subst hu; simp [World.cell?, h]
theorem OFs.gone {w w' : World} {base n : Nat} {vo : Value} {fs : List FV} {cs : Array Value} {ty : TypeId} (h : OFs w base vo fs) (hg : w.grownBy w' (some n)) (hb : w.heap[n]? = some (.cells cs ty (0, 0))) (h1 : 30 ≠ ty) (h2 : 9 ≠ ty) : OFs w' base vo fs := by
  have key : ∀ {t : TypeId} {sz m : Nat} {u : Value} {ys : List Value}, w.ownsRow base t sz u m ys → t ≠ ty → w'.ownsRow base t sz u m ys := by
    intro t sz m u ys hu ht
    refine World.ownsRow.kept hu hg ?_
    cases hk : u.ownBlock with
    | none => exact Or.inl rfl
    | some k => exact Or.inr (fun h9 => own_block hu hb ht (hk.trans h9))
  exact ⟨key h.own h1, fun f hf => ⟨key (h.each f hf).1 h2, (h.each f hf).2⟩⟩
def nev : Nat → Bool := fun _ => false
section
variable {w w' : World} {base b : Nat} {v : Value} {M : Nat} {s : Sx}
theorem kref_ok {r : List UInt8} {ca wh lg : Nat} {t : Int} (h : Kb w base b v r ca wh lg 0 t) (hl : 0 < lg) :
    Calls Tryz.prog 54 #[.pointer (some ⟨b, 0, none⟩)] w fun e w' => e = .returned (.agg #[.int .i64 0, .int .i64 0]) ∧ Below w.heap.size w w' := kref_any h hl
theorem kref_bad {r : List UInt8} {ca wh lg : Nat} {y t : Int} (h : Kb w base b v r ca wh lg y t) (hl : 0 < lg) (hy : y ≠ 0) :
    Calls Tryz.prog 54 #[.pointer (some ⟨b, 0, none⟩)] w fun e w' => e = .returned (.agg #[.int .i64 80, .int .i64 ca]) ∧ Below w.heap.size w w' := by
  refine (kref_any h hl).mono fun e w' k => ?_
  rw [if_neg hy, if_neg hy] at k
  exact k
/-- what Feed answers -/
def FeedP (w : World) (base b : Nat) (v : Value) (M : Nat) (a : Ra) (e : Ending) (w' : World) : Prop :=
  ∃ vl v' fs, e = .returned (.tuple #[vl, .agg #[.int .i64 a.1.why, .int .i64 a.1.wat]]) ∧ OFs w' w.heap.size vl fs ∧ Sd w' base b v' M a.1 ∧ Gd w w' b v v' ∧ fs.map (·.1) = a.2.1

set_option maxRecDepth 100000 in
set_option maxHeartbeats 8000000 in
theorem kfeed_any (h : Sd w base b v M s) (h0 : s.why = 0) (vp : Value) (us : List Value) (pss : List (List UInt8)) (hp : ∀ W vd, Gd w W b v vd → Lsts W vp us pss) (hn : pss.length ≤ 140737488355327) (hc : s.came + (fl pss).length ≤ 4611686018427387904) (hbl : (fl pss).length ≤ 900000000000) :
    Calls Tryz.prog 23 #[.pointer (some ⟨b, 0, none⟩), vp] w (FeedP w base b v M (runP M nev (s, [], 0) (fl pss))) := by
  have HB0 := hid (below_walk w (.cells #[.int .i64 0, .int .i64 0] 33))
  have HN0 := hid (hp_new w (.cells #[.int .i64 0, .int .i64 0] 33))
  have HSD0 := hid (h.below HB0.out)
  have HLT := hid h.kb.lt
  have HP := hid hp
  have HBL := hid hbl
  have HC := hid hc
  obtain ⟨A, HAA⟩ : ∃ n, Hid (w.heap.size = n) := ⟨_, rfl⟩
  obtain ⟨ap, cp, rfl⟩ := (hp w v (Gd.refl _ _ _)).shape
  have HRF := hid (kref_ok (t := s.wat) (h0 ▸ HSD0.out.kb) (lng_pos M))
  clear h hp
  go_enter Tryz.func23, Tryz.ntmps23
  go_upto_region 1 with fail
  generalize w.alloc (.cells #[.int .i64 0, .int .i64 0] 33) = w0 at HB0 HN0 HSD0 HRF ⊢
  rw [HAA.out] at HN0 HLT ⊢
  go_wp2_with fail
  refine HRF.out.mono ?_
  rintro e w1 ⟨rfl, hb1⟩
  have HW1 := hid (below_walk w1 (.cells [Value.int .i64 0, .int .i64 0].toArray 33))
  have HSD2 := hid ((HSD0.out.below hb1).below HW1.out)
  have HN2 := hid (bel_keep HW1.out (bel_keep hb1 HN0.out))
  have HB2 := hid (below_then (below_then HB0.out hb1) HW1.out)
  have HT := hid (hp_new w1 (.cells [Value.int .i64 0, .int .i64 0].toArray 33))
  clear hb1 HRF HSD0 HN0 HB0
  go_upto_region 2 with (refine st_new (by rfl) 33 _ _ (by rfl) [Value.int .i64 0, .int .i64 0] (by rfl) (by rfl) 33 _ faultSize rfl (fault_one _ _) ?_)
  obtain ⟨B, HBe⟩ : ∃ n, Hid (w1.heap.size = n) := ⟨_, rfl⟩
  rw [HBe.out] at HT ⊢
  generalize w1.alloc (.cells [Value.int .i64 0, .int .i64 0].toArray 33) = w2 at HW1 HSD2 HN2 HB2 HT ⊢
  have t0 : w2.cell? ⟨B, 0, none⟩ = some (.int .i64 0) := by simp [World.cell?, HT.out]
  have HG2 := hid (Gd.below (Gd.refl w b v) HB2.out)
  clear HW1 HT
  go_wp2
  clear t0
  go_loopw [7, 20] (fun vl vi wr => ∃ (k : Nat) (vd : Value) (fs : List FV) (a : Ra), k ≤ pss.length ∧ vi = .int .i64 k ∧ Hid (runP M nev (s, [], 0) (fl (pss.take k)) = a) ∧ Hid (fs.map (·.1) = a.2.1) ∧ Hid (OFs wr w.heap.size vl fs) ∧ Hid (Sd wr base b vd M a.1) ∧ Hid (Gd w wr b v vd) ∧ Hid (wr.heap[A]? = some (.cells #[.int .i64 0, .int .i64 0] 33 (0, 0)))) (fun _ vi _ => pss.length - (intOf vi).toNat)
  case atStart => exact ⟨0, v, [], (s, [], 0), by omega, rfl, by rw [List.take_zero, fl_nil]; exact runP_nil _ _ _, rfl, OFs.nil _ _, HSD2.out, HG2.out, HN2.out⟩
  case round =>
    obtain ⟨k, vd, fs, a, hk, rfl, HR, HFS, HOF, HSD, HGD, HN⟩ := hrel
    obtain ⟨alv, clv, rfl⟩ := HOF.out.shape
    by_cases hlt : k < pss.length
    · as_aux_lemma =>
        obtain ⟨g, o, rfl, hcl, _⟩ := (HP.out _ _ HGD.out).at k hlt
        obtain ⟨u, HU⟩ : ∃ u, Hid (us.getD k nS = u) := ⟨_, rfl⟩
        obtain ⟨p, HPP⟩ : ∃ p, Hid (pss.getD k [] = p) := ⟨_, rfl⟩
        have HX := hid (fl_snoc pss k hlt)
        rw [HPP.out] at HX
        have hsum : (fl (pss.take k)).length + p.length ≤ (fl pss).length := by
          have e : fl pss = fl (pss.take (k + 1)) ++ fl (pss.drop (k + 1)) := by
            unfold fl
            rw [← List.flatten_append, List.take_append_drop]
          rw [e, HX.out, List.length_append, List.length_append]
          omega
        have HFE := hid (run_few (M := M) (q := nev) (fl (pss.take k)) (s, [], 0))
        rw [HR.out] at HFE
        have HFL := hid (show fs.length = a.2.1.length by rw [← HFS.out, List.length_map])
        have HCA := hid (show a.1.came ≤ s.came + (fl (pss.take k)).length by
          have h1 := run_came (M := M) (q := nev) (fl (pss.take k)) (s, [], 0)
          have h2 := (run_took (M := M) (q := nev) (fl (pss.take k)) (s, [], 0)).2
          rw [HR.out] at h1 h2
          simp at h1 h2
          omega)
        rw [HU.out] at hcl
        have HUN := hid (kuntil_any HSD.out 9223372036854775807 u p (fun W vd' hg => by
          obtain ⟨_, _, _, _, h3⟩ := (HP.out W vd' (HGD.out.trans hg)).at k hlt
          rw [HU.out, HPP.out] at h3
          exact h3) (by have := HCA.out; have := HC.out; omega) (by have := HBL.out; omega))
        rw [run_congr (q' := nev) p (a.1, [], 0) (fun j hj => decide_eq_false (by simp at hj; have := HBL.out; omega))] at HUN
        have HSH := hid (run_shift (M := M) p a.1 a.2.1 a.2.2)
        have HFP := hid (run_few (M := M) (q := nev) p (a.1, [], 0))
        obtain ⟨R, HRR⟩ : ∃ R, Hid (runP M nev (a.1, [], 0) p = R) := ⟨_, rfl⟩
        have HSH2 := hid (show runP M nev (s, [], 0) (fl (pss.take (k + 1))) = (R.1, a.2.1 ++ R.2.1, a.2.2 + R.2.2) by
          rw [HX.out, runP_app, HR.out, ← HRR.out]; exact HSH.out)
        rw [HRR.out] at HUN HFP
        clear HSH HRR HX HR
        go_wp2_with fail
        refine HUN.out.mono ?_
        rintro e w3 ⟨vl3, v3, fs3, rfl, hof3, hsd3, hg3, hm3⟩
        have HOA := hid (HOF.out.sd hg3 HSD.out)
        have HF3 := hid hof3.frs
        have HE3 := hid (show ∀ f ∈ fs3, WOwnS w3 w.heap.size f.2 f.1.args ∧ Rng f.1 from fun f hf => ⟨own_le (hof3.each f hf).1 HGD.out.size, (hof3.each f hf).2⟩)
        have HNI3 := hid hof3.nilc
        have HSD3 := hid hsd3
        have HG3 := hid (HGD.out.trans hg3)
        have HM3 := hid hm3
        have HN3 := hid ((hg3.block A (hp_lt HN.out) (by have := HLT.out; omega) (fun e => own_block HSD.out.kb.own HN.out (by decide) e)).trans HN.out)
        have hlen : fs.length + fs3.length ≤ 1000000000000 := by
          have h1 : fs3.length = R.2.1.length := by rw [← hm3, List.length_map]
          have h2 := HFP.out
          have h3 := HFE.out
          have h4 := HFL.out
          have h5 := HBL.out
          simp at h2 h3
          omega
        have HL3 := hid hlen
        obtain ⟨a3, c3, e3⟩ := hof3.shape
        subst e3
        clear hof3 hsd3 hg3 hm3 HUN hlen
        go_wp2_with (at_builtin; refine app_frs rfl _ _ rfl w.heap.size _ fs rfl HOA.out fs3 _ rfl HF3.out HNI3.out HE3.out HL3.out HG3.out.size ?_)
        intro v6 w6 ho6 hg6 hp6
        have HG6 := hid (HG3.out.newer hg6 (fun k e => (World.ownsRow.lt HOA.out.own k e).1))
        have HSD6 := hid (HSD3.out.apart hg6 HOA.out)
        have HO6 := hid ho6
        have HN6 := hid ((hg6.block A (hp_lt HN3.out) (fun e => own_block HOA.out.own HN3.out (by decide) e.symm)).trans HN3.out)
        obtain ⟨a6, c6, e6⟩ := ho6.shape
        have hl6 : (fs ++ fs3).length = fs.length + fs3.length := List.length_append
        rw [hl6] at e6
        subst e6
        clear ho6 hg6 hp6
        go_wp2
        refine ⟨⟨k + 1, v3, fs ++ fs3, _, hlt, by simp, HSH2.out, ?_, HO6.out, HSD6.out, HG6.out, HN6.out⟩, by simp [intOf]; omega⟩
        show (fs ++ fs3).map (·.1) = a.2.1 ++ R.2.1
        rw [List.map_append, HFS.out, HM3.out]
    · obtain rfl : k = pss.length := by omega
      as_aux_lemma =>
        rw [fl_all] at HR
        obtain ⟨y, HY⟩ : ∃ y, Hid (a.1.why = y) := ⟨_, rfl⟩
        obtain ⟨t, HTt⟩ : ∃ y, Hid (a.1.wat = y) := ⟨_, rfl⟩
        have HBK := hid HSD.out.kb.blk
        rw [HY.out, HTt.out] at HBK
        go_upto_region 11 with fail
        refine wp_noPanic (wp_region_held_drew (S := fun W => W.heap[b]? = some (.cells #[vd, .int .i64 a.1.came, .int .i64 a.1.whole, .int .i64 (lngP M : Nat), .int .i64 y, .int .i64 t] 104 (0, 0))) (by kernel_rfl) HBK.out ?_)
        intro hHeld
        refine wpAnyH_take (i := 0) (v := .slice alv fs.length clv) rfl (by kernel_rfl) (by kernel_rfl) (by kernel_rfl) (fun _ _ _ h => h) (Or.inl ⟨by rfl, fun W _ => by go_simp⟩) hHeld ?_
        simp only [Act.put, List.getElem_toArray, List.getElem_cons_zero, List.setIfInBounds_toArray, List.set_cons_succ, List.set_cons_zero]
        refine wpAnyH_take (i := 1) (v := .pointer (some ⟨b, 0, none⟩)) rfl (by kernel_rfl) (by kernel_rfl) (by kernel_rfl) (fun _ _ _ h => h) (Or.inl ⟨by rfl, fun W _ => by go_simp⟩) hHeld ?_
        simp only [Act.put, List.getElem_toArray, List.getElem_cons_zero, List.getElem_cons_succ, List.setIfInBounds_toArray, List.set_cons_succ, List.set_cons_zero]
        refine wpAnyH_take (i := 2) (v := .pointer (some ⟨b, 0, none⟩)) rfl (by kernel_rfl) (by kernel_rfl) (by kernel_rfl) (fun _ _ _ h => h) (Or.inl ⟨by rfl, fun W _ => by go_simp⟩) hHeld ?_
        simp only [Act.put, List.getElem_toArray, List.getElem_cons_zero, List.getElem_cons_succ, List.setIfInBounds_toArray, List.set_cons_succ, List.set_cons_zero]
        refine wpAnyH_take (i := 3) (v := .pointer (some ⟨b, 4, none⟩)) rfl (by kernel_rfl) (by kernel_rfl) (by kernel_rfl) (fun _ _ _ h => h) (Or.inl ⟨by rfl, fun W _ => by go_simp⟩) hHeld ?_
        simp only [Act.put, List.getElem_toArray, List.getElem_cons_zero, List.getElem_cons_succ, List.setIfInBounds_toArray, List.set_cons_succ, List.set_cons_zero]
        refine wpAnyH_take (i := 4) (v := .agg [Value.int .i64 y, .int .i64 t].toArray) rfl (by kernel_rfl) (by kernel_rfl) (by kernel_rfl) (fun _ _ _ h => h) (yieldsIf_load_mid (by rfl) 33 (.tmp 37) rfl b 4 rfl [Value.int .i64 y, .int .i64 t] _ (fun W hW => fault_at hW) Tryz.underlying33 rfl faultSize) hHeld ?_
        simp only [Act.put, List.getElem_toArray, List.getElem_cons_zero, List.getElem_cons_succ, List.setIfInBounds_toArray, List.set_cons_succ, List.set_cons_zero]
        refine wpAnyH_take (i := 5) (v := .slice alv fs.length clv) rfl (by kernel_rfl) (by kernel_rfl) (by kernel_rfl) (fun _ _ _ h => h) (Or.inl ⟨by rfl, fun W _ => by go_simp⟩) hHeld ?_
        simp only [Act.put, List.getElem_toArray, List.getElem_cons_zero, List.getElem_cons_succ, List.setIfInBounds_toArray, List.set_cons_succ, List.set_cons_zero]
        refine wpAnyH_ready (rs := [6]) (by kernel_rfl) (by simp) ?_
        refine AllReadyH.cons rfl (fun K9 hK9 => ?_) AllReadyH.nil
        refine step_store_row (by rfl) 33 _ _ (by rfl) A [Value.int .i64 y, .int .i64 t] (by rfl) (by rfl) 33 _ HN.out faultSize rfl (fault_one _ _) ?_
        intro wz hwz
        refine hK9.out _ _ (gb_keep hwz.grown HBK.out (by have := HLT.out; omega)) (fun hHeld => ?_)
        clear hK9 K9
        try simp only [Act.put, List.getElem_toArray, List.getElem_cons_zero, List.getElem_cons_succ]
        refine wpAnyH_done (by kernel_rfl) ?_ _
        simp only [noPanic]
        clear hHeld
        go_wp2
        refine ret_tc 4 5 33 rfl _ rfl A rfl _ 33 hwz.blk _ Tryz.underlying33 rfl faultSize rfl ?_
        rw [HR.out]
        exact ⟨_, vd, fs, by rw [HY.out, HTt.out]; rfl, (HOF.out.below (bel_drw wr 1)).gone hwz.grown HN.out (by decide) (by decide), ((HSD.out.drew 1).far hwz.grown (by have := HLT.out; omega) (fun k e h9 => own_block HSD.out.kb.own HN.out (by decide) (h9 ▸ e))), (HGD.out.below (bel_drw wr 1)).fresh hwz.grown (by have := HAA.out; omega), HFS.out⟩
end
end Go.Proofs.YtiibhccbbpgehaaGreat

/- The other methods of a decoder, and New. -/
namespace Go.Proofs.YtiibhccbbpgehaaGreat
open Go.RowKit Go.BigFrame

theorem results_ttc {fn : Func} {p r q : Tmp} {ty : TypeId} (h : fn.results = #[.tmp p, .tmp r, .cell q ty]) (tmps : Array Value) (P : Program) (w : World) :
    (results fn tmps).run P w = ((asAddr (tmps.getD q undef)).run P w).andThen fun a w₁ => ((loadVar ty a).run P w₁).andThen fun v w₂ => .ok (.tuple #[tmps.getD p undef, tmps.getD r undef, v]) w₂ := by
  simp only [results, h]
  simp [Sem.run_bind, Result.andThen]
theorem ret_ttc {P : Program} {fn : Func} {R : Ending → World → Prop} {a : Act} {w : World} (p r q : Tmp) (ty : TypeId) (h : fn.results = #[.tmp p, .tmp r, .cell q ty]) (v u : Value) (hv : a.tmps.getD p undef = v) (hu0 : a.tmps.getD r undef = u) (g : Nat) (hp : a.tmps.getD q undef = .pointer (some ⟨g, 0, none⟩))
    (cs : List Value) (t : TypeId) (hb : w.heap[g]? = some (.cells cs.toArray t (0, 0))) (d : TypeDesc) (hu : P.underlying ty = some d) (hd : d.isRow = true) (hi : (P.info? ty).map (·.size) = some cs.length)
    (hdf : a.defers = []) (hR : R (.returned (.tuple #[v, u, .agg cs.toArray])) w) : bodyPost P fn R .ret a w := by
  refine bodyPost_ret (v := .tuple #[v, u, .agg cs.toArray]) ?_ hdf hR
  rw [results_ttc h, hp, hv, hu0]
  have := run_loadVar_mid (P := P) w g 0 ty cs d (fun j v hv => by rw [Nat.zero_add, cell_of_row w g j cs.toArray t (0, 0) hb]; simpa using hv) hu hd hi
  simp [asAddr, this]
theorem decSize : (Tryz.prog.info? 104).map (·.size) = some 6 := by kernel_rfl
theorem zeroDec (W : World) : (zeroValue 104).run Tryz.prog W = .ok (.agg #[.slice none 0 0, .int .i64 0, .int .i64 0, .int .i64 0, .int .i64 0, .int .i64 0]) W := by kernel_rfl
theorem built_dec (l : Int) : Tryz.prog.built 104 [(2, .int .i64 l)] = some #[.slice none 0 0, .int .i64 0, .int .i64 0, .int .i64 l, .int .i64 0, .int .i64 0] := by kernel_rfl
theorem need_sn (m : Nat) (h1 : 1 ≤ m) (h2 : m ≤ 2097152) : needP (sn m) = (lngP m, (sn m).length, 0) := by
  have h := dec_sn m [] (by omega)
  rw [List.append_nil] at h
  unfold needP lngP
  rw [h, if_neg (by simp), if_neg (by simp), if_neg (by simpa using h2), if_neg (by simp; omega)]

def wantP (s : Sx) : Nat := if s.why ≠ 0 then 0 else lackP s.r
def stopP (s : Sx) : Int × Int := if s.why ≠ 0 then (s.why, s.wat) else if 0 < s.r.length then (4, (s.came : Int)) else (0, 0)
/-- what Some answers -/
def SomeP (w : World) (base b : Nat) (v : Value) (M : Nat) (a : Ra) (e : Ending) (w' : World) : Prop :=
  ∃ vl v' fs, e = .returned (.tuple #[vl, .int .i64 (a.2.2 : Nat), .agg #[.int .i64 a.1.why, .int .i64 a.1.wat]]) ∧ OFs w' w.heap.size vl fs ∧ Sd w' base b v' M a.1 ∧ Gd w w' b v v' ∧ fs.map (·.1) = a.2.1

theorem new_bad8 (w : World) (r : Int) (hr : r < 1 ∨ 2097152 < r) :
    Calls Tryz.prog 13 #[.int .i64 r] w fun e w' => e = .returned (.tuple #[.pointer none, .int .i64 1]) ∧ w' = w := by
  rcases hr with h | h
  · go_enter Tryz.func13, Tryz.ntmps13
    go_wp2
    exact bodyPost_ret (results_tmp2 rfl _ _ _) rfl ⟨rfl, rfl⟩
  · have h2 : ¬ r < 1 := by omega
    go_enter Tryz.func13, Tryz.ntmps13
    go_wp2
    exact bodyPost_ret (results_tmp2 rfl _ _ _) rfl ⟨rfl, rfl⟩

set_option maxRecDepth 100000 in
set_option maxHeartbeats 1000000 in
theorem new_ok8 (w : World) (m : Nat) (h1 : 1 ≤ m) (h2 : m ≤ 2097152) :
    Calls Tryz.prog 13 #[.int .i64 m] w fun e w' => ∃ b, e = .returned (.tuple #[.pointer (some ⟨b, 0, none⟩), .int .i64 0]) ∧ w.heap.size ≤ b ∧ Sd w' b b (.slice none 0 0) m zS ∧ Below w.heap.size w w' := by
  have q1 : ¬ (m : Int) < 1 := by omega
  have q2 : ¬ (2097152 : Int) < (m : Int) := by omega
  have q3 : IntKind.u64.wrap (m : Int) = (m : Int) := by rw [IntKind.wrap_u64]; omega
  have HPU := hid (putUint_any (.slice none 0 0) [] m w (OwnB.nil w w.heap.size |>.src (by simp)) (by omega) (by simp))
  have HNS := hid (need_sn m h1 h2)
  obtain ⟨lg, HLG⟩ : ∃ n, Hid (lngP m = n) := ⟨_, rfl⟩
  rw [HLG.out] at HNS
  go_enter Tryz.func13, Tryz.ntmps13
  go_wp2_with fail
  refine HPU.out.mono ?_
  rintro e w1 ⟨v1, rfl, ho1, hb1⟩
  have ho1' : OwnB w1 w.heap.size v1 (sn m) := by simpa using ho1
  have HNE := hid (need_any v1 (sn m) w1 (ho1'.src (by have := sn_length_le m; omega)))
  rw [HNS.out] at HNE
  obtain ⟨a1, c1, e1⟩ := ho1'.shape
  subst e1
  have HB1 := hid hb1
  clear ho1 ho1' hb1 HPU
  go_wp2_with fail
  refine HNE.out.mono ?_
  rintro e w2 ⟨rfl, hb2⟩
  have HB2 := hid (below_then HB1.out hb2)
  clear hb2 HNE HB1
  have HN := hid (hp_new w2 (.cells #[.slice none 0 0, .int .i64 0, .int .i64 0, .int .i64 lg, .int .i64 0, .int .i64 0] 104))
  have HB3 := hid (below_then HB2.out (below_walk w2 (.cells #[.slice none 0 0, .int .i64 0, .int .i64 0, .int .i64 lg, .int .i64 0, .int .i64 0] 104)))
  go_wp2_with (first
    | (refine bd_row (by rfl) 104 #[(2, .tmp 19)] (by rfl) _ (by simp [Act.eval]) _ (built_dec _) ?_)
    | (refine bx_row (by rfl) 104 (.tmp 20) (by rfl) _ (by rfl) ?_))
  refine bodyPost_ret (results_tmp2 rfl _ _ _) rfl ⟨_, rfl, HB2.out.size, ⟨⟨Nat.le_refl _, ?_, OwnB.nil _ _⟩, Gs.zero m, h1, h2⟩, HB3.out⟩
  rw [HLG.out]
  exact HN.out

section
variable {w w' : World} {base b : Nat} {v : Value} {M : Nat} {s : Sx}

theorem kcount_any (h : Sd w base b v M s) :
    Calls Tryz.prog 24 #[.pointer (some ⟨b, 0, none⟩)] w fun e w' => e = .returned (.tuple #[.int .i64 s.came, .int .i64 s.whole]) ∧ ∃ q, w' = w.drewN q := by
  have h1 := hid (kmade_any h.kb (lng_pos M))
  have h2 := hid (kboth_any h.kb)
  clear h
  go_enter Tryz.func24, Tryz.ntmps24
  go_wp2_with fail
  refine h1.out.mono ?_
  rintro e w1 ⟨rfl, hw⟩
  subst hw
  go_wp2_with fail
  refine h2.out.mono ?_
  rintro e w1 ⟨rfl, q, hw⟩
  subst hw
  go_wp2
  exact bodyPost_ret (results_tmp2 rfl _ _ _) rfl ⟨rfl, _, rfl⟩

theorem krest_any (h : Sd w base b v M s) :
    Calls Tryz.prog 25 #[.pointer (some ⟨b, 0, none⟩)] w fun e w' => ∃ v', e = .returned v' ∧ OwnB w' w.heap.size v' s.r ∧ Below w.heap.size w w' := by
  have h1 := hid (kmade_any h.kb (lng_pos M))
  have h2 := hid (kcopied_any h.kb (by have := h.few; omega))
  clear h
  go_enter Tryz.func25, Tryz.ntmps25
  go_wp2_with fail
  refine h1.out.mono ?_
  rintro e w1 ⟨rfl, hw⟩
  subst hw
  go_wp2_with fail
  refine h2.out.mono ?_
  rintro e w2 ⟨v2, rfl, ho, hb⟩
  go_wp2
  go_ret
  exact ⟨_, rfl, ho, hb⟩

theorem kwant_any (h : Sd w base b v M s) :
    Calls Tryz.prog 26 #[.pointer (some ⟨b, 0, none⟩)] w fun e w' => e = .returned (.int .i64 (wantP s : Nat)) ∧ Below w.heap.size w w' := by
  have h1 := hid (kmade_any h.kb (lng_pos M))
  have h2 := hid (kpois_any h.kb)
  unfold wantP
  by_cases hy : s.why = 0
  · have q1 : (s.why != 0) = false := by simpa using hy
    rw [q1] at h2
    rw [if_neg (by simpa using hy)]
    have h3 := hid (klack_any h.kb (by have := h.few; omega) (by
      obtain ⟨_, h1, h2⟩ := h.good.ok hy
      rw [(needM_ok h1).1] at h2
      rcases h2 with h2 | h2
      · exact Or.inl h2
      · exact Or.inr (by omega)) (need_le _))
    obtain ⟨L, HL⟩ : ∃ n, Hid (lackP s.r = n) := ⟨_, rfl⟩
    rw [HL.out] at h3 ⊢
    clear h
    go_enter Tryz.func26, Tryz.ntmps26
    go_wp2_with fail
    refine h1.out.mono ?_
    rintro e w1 ⟨rfl, hw⟩
    subst hw
    go_wp2_with fail
    refine h2.out.mono ?_
    rintro e w1 ⟨rfl, hw⟩
    subst hw
    go_wp2_with fail
    refine h3.out.mono ?_
    rintro e w2 ⟨rfl, hb⟩
    go_wp2
    go_ret
    exact ⟨rfl, hb⟩
  · have q1 : (s.why != 0) = true := by simpa using hy
    rw [q1] at h2
    rw [if_pos hy]
    clear h
    go_enter Tryz.func26, Tryz.ntmps26
    go_wp2_with fail
    refine h1.out.mono ?_
    rintro e w1 ⟨rfl, hw⟩
    subst hw
    go_wp2_with fail
    refine h2.out.mono ?_
    rintro e w1 ⟨rfl, hw⟩
    subst hw
    go_wp2
    go_ret
    exact ⟨rfl, Below.refl _ _⟩

set_option maxRecDepth 100000 in
set_option maxHeartbeats 1000000 in
theorem kpoison_any (h : Sd w base b v M s) :
    Calls Tryz.prog 27 #[.pointer (some ⟨b, 0, none⟩)] w fun e w' => e = .returned (.agg #[.int .i64 s.why, .int .i64 s.wat]) ∧ Below w.heap.size w w' := by
  have HB0 := hid (below_walk w (.cells #[.int .i64 0, .int .i64 0] 33))
  have HN0 := hid (hp_new w (.cells #[.int .i64 0, .int .i64 0] 33))
  have HK0 := hid (h.kb.below HB0.out)
  obtain ⟨A, HAA⟩ : ∃ n, Hid (w.heap.size = n) := ⟨_, rfl⟩
  clear h
  go_enter Tryz.func27, Tryz.ntmps27
  go_upto_region 1 with fail
  generalize w.alloc (.cells #[.int .i64 0, .int .i64 0] 33) = w0 at HB0 HN0 HK0 ⊢
  rw [HAA.out] at HN0 ⊢
  have h1 := hid (kmade_any HK0.out (lng_pos M))
  obtain ⟨y, HY⟩ : ∃ y, Hid (s.why = y) := ⟨_, rfl⟩
  obtain ⟨t, HTt⟩ : ∃ y, Hid (s.wat = y) := ⟨_, rfl⟩
  have HFA := hid HK0.out.fault
  rw [HY.out, HTt.out] at HFA
  go_wp2_with fail
  refine h1.out.mono ?_
  rintro e w1 ⟨rfl, hw⟩
  subst hw
  go_wp2_with (first
    | (refine wpList_load_mid (by rfl) 33 _ (by rfl) b 4 (by rfl) [Value.int .i64 y, .int .i64 t] _ HFA.out Tryz.underlying33 rfl faultSize ?_)
    | (refine st_row (by rfl) 33 _ _ (by rfl) A [Value.int .i64 y, .int .i64 t] (by rfl) (by rfl) 33 _ HN0.out faultSize rfl (fault_one _ _) ?_; intro w3 hw3))
  refine ret_row 2 33 rfl A rfl _ 33 hw3.blk _ Tryz.underlying33 rfl faultSize rfl ⟨?_, Below.of_gb HB0.out hw3.grown (by have := HAA.out; omega)⟩
  rw [HY.out, HTt.out]

set_option maxRecDepth 100000 in
set_option maxHeartbeats 1000000 in
theorem kend_any (h : Sd w base b v M s) :
    Calls Tryz.prog 46 #[.pointer (some ⟨b, 0, none⟩)] w fun e w' => e = .returned (.agg #[.int .i64 (stopP s).1, .int .i64 (stopP s).2]) ∧ Below w.heap.size w w' := by
  have HB0 := hid (below_walk w (.cells #[.int .i64 0, .int .i64 0] 33))
  have HN0 := hid (hp_new w (.cells #[.int .i64 0, .int .i64 0] 33))
  have HK0 := hid (h.kb.below HB0.out)
  obtain ⟨A, HAA⟩ : ∃ n, Hid (w.heap.size = n) := ⟨_, rfl⟩
  have HEP : Hid (stopP s = if s.why ≠ 0 then (s.why, s.wat) else if 0 < s.r.length then (4, (s.came : Int)) else (0, 0)) := hid rfl
  clear h
  go_enter Tryz.func46, Tryz.ntmps46
  go_upto_region 1 with fail
  generalize w.alloc (.cells #[.int .i64 0, .int .i64 0] 33) = w0 at HB0 HN0 HK0 ⊢
  rw [HAA.out] at HN0 ⊢
  have h1 := hid (kmade_any HK0.out (lng_pos M))
  have h2 := hid (kpois_any HK0.out)
  have h3 := hid (ksz_any HK0.out)
  have HFA := hid HK0.out.fault
  have c1 := HK0.out.c1
  obtain ⟨y, HY⟩ : ∃ y, Hid (s.why = y) := ⟨_, rfl⟩
  obtain ⟨t, HTt⟩ : ∃ y, Hid (s.wat = y) := ⟨_, rfl⟩
  obtain ⟨L, HL⟩ : ∃ y, Hid (s.r.length = y) := ⟨_, rfl⟩
  obtain ⟨ca, HCa⟩ : ∃ y, Hid (s.came = y) := ⟨_, rfl⟩
  rw [HY.out, HTt.out] at HFA
  rw [HY.out] at h2
  rw [HL.out] at h3
  rw [HCa.out] at c1
  rw [HY.out, HTt.out, HL.out, HCa.out] at HEP
  go_wp2_with fail
  refine h1.out.mono ?_
  rintro e w1 ⟨rfl, hw⟩
  subst hw
  go_wp2_with fail
  refine h2.out.mono ?_
  rintro e w1 ⟨rfl, hw⟩
  subst hw
  by_cases hy : y = 0
  · have q1 : (y != 0) = false := by simpa using hy
    rw [if_neg (by simpa using hy)] at HEP
    rw [q1]
    go_wp2_with fail
    refine h3.out.mono ?_
    rintro e w1 ⟨rfl, hw⟩
    subst hw
    by_cases hl : 0 < L
    · rw [if_pos hl] at HEP
      have q2 : (0 : Int) < (L : Int) := by omega
      go_wp2_with (first
        | (refine bd_row (by rfl) 33 #[(0, .const (.int .i64 4)), (1, .tmp 25)] (by rfl) _ (by simp [Act.eval]) _ (built_ft _ _) ?_)
        | (refine st_row (by rfl) 33 _ _ (by rfl) A [Value.int .i64 4, .int .i64 (ca : Int)] (by rfl) (by rfl) 33 _ HN0.out faultSize rfl (fault_one _ _) ?_; intro w3 hw3))
      refine ret_row 2 33 rfl A rfl _ 33 hw3.blk _ Tryz.underlying33 rfl faultSize rfl ⟨?_, Below.of_gb HB0.out hw3.grown (by have := HAA.out; omega)⟩
      rw [HEP.out]
    · rw [if_neg hl] at HEP
      have q2 : ¬ (0 : Int) < (L : Int) := by omega
      go_wp2_with (first
        | (refine bd_row (by rfl) 33 #[] (by rfl) _ (by simp) _ built_fz ?_)
        | (refine st_row (by rfl) 33 _ _ (by rfl) A [Value.int .i64 0, .int .i64 0] (by rfl) (by rfl) 33 _ HN0.out faultSize rfl (fault_one _ _) ?_; intro w3 hw3))
      refine ret_row 2 33 rfl A rfl _ 33 hw3.blk _ Tryz.underlying33 rfl faultSize rfl ⟨?_, Below.of_gb HB0.out hw3.grown (by have := HAA.out; omega)⟩
      rw [HEP.out]
  · have q1 : (y != 0) = true := by simpa using hy
    rw [if_pos hy] at HEP
    rw [q1]
    go_wp2_with (first
      | (refine wpList_load_mid (by rfl) 33 _ (by rfl) b 4 (by rfl) [Value.int .i64 y, .int .i64 t] _ HFA.out Tryz.underlying33 rfl faultSize ?_)
      | (refine st_row (by rfl) 33 _ _ (by rfl) A [Value.int .i64 y, .int .i64 t] (by rfl) (by rfl) 33 _ HN0.out faultSize rfl (fault_one _ _) ?_; intro w3 hw3))
    refine ret_row 2 33 rfl A rfl _ 33 hw3.blk _ Tryz.underlying33 rfl faultSize rfl ⟨?_, Below.of_gb HB0.out hw3.grown (by have := HAA.out; omega)⟩
    rw [HEP.out]

set_option maxRecDepth 100000 in
set_option maxHeartbeats 1000000 in
theorem kclone_any (h : Sd w base b v M s) :
    Calls Tryz.prog 16 #[.pointer (some ⟨b, 0, none⟩)] w fun e w' => ∃ b' v', e = .returned (.pointer (some ⟨b', 0, none⟩)) ∧ b' = w.heap.size ∧ Sd w' w.heap.size b' v' M s ∧ Below w.heap.size w w' := by
  have H := hid h
  have h1 := hid (kmade_any h.kb (lng_pos M))
  have HBK := hid h.kb.blk
  obtain ⟨DC, HDC⟩ : ∃ l : List Value, Hid ([v, .int .i64 s.came, .int .i64 s.whole, .int .i64 (lngP M : Nat), .int .i64 s.why, .int .i64 s.wat] = l) := ⟨_, rfl⟩
  have HD6 := hid (show DC.length = 6 by rw [← HDC.out]; rfl)
  have HBK2 := hid (show w.heap[b]? = some (.cells DC.toArray 104 (0, 0)) by rw [← HDC.out]; exact HBK.out)
  have HON := hid (show ∀ u ∈ DC, u.oneCell' = true by
    intro u hu
    rw [← HDC.out] at hu
    simp only [List.mem_cons, List.not_mem_nil, or_false] at hu
    obtain ⟨av, cv, e⟩ := h.kb.own.shape
    rcases hu with rfl | rfl | rfl | rfl | rfl | rfl <;> first | (rw [e]; rfl) | rfl)
  have HSZ := hid (show (Tryz.prog.info? 104).map (·.size) = some DC.length by rw [HD6.out]; exact decSize)
  have HW := hid (below_walk w (.cells DC.toArray 104))
  have HSD1 := hid (h.below HW.out)
  have HN1 := hid (hp_new w (.cells DC.toArray 104))
  obtain ⟨A, HAA⟩ : ∃ n, Hid (w.heap.size = n) := ⟨_, rfl⟩
  clear h
  go_enter Tryz.func16, Tryz.ntmps16
  go_wp2_with fail
  refine h1.out.mono ?_
  rintro e w1 ⟨rfl, hw⟩
  subst hw
  go_upto_region 4 with (first
    | (refine ld_row (by rfl) 104 _ (by rfl) b (by rfl) DC 104 HBK2.out _ Tryz.underlying104 rfl HSZ.out ?_)
    | (refine al_row (by rfl) 104 (by rfl) _ zeroDec ?_)
    | (refine st_new (by rfl) 104 _ _ (by rfl) DC (by rfl) (by rfl) 104 _ HSZ.out (by rw [HD6.out]; rfl) HON.out ?_))
  generalize w1.alloc (.cells DC.toArray 104) = w2 at HW HSD1 HN1 ⊢
  rw [HAA.out] at HN1 ⊢
  have h2 := hid (kcopied_any HSD1.out.kb (by have := HSD1.out.few; omega))
  have HA2 := hid (hp_lt HN1.out)
  go_wp2_with fail
  refine h2.out.mono ?_
  rintro e w3 ⟨v3, rfl, ho3, hb3⟩
  have HN3 := hid (bel_keep hb3 HN1.out)
  have HB3 := hid (below_then HW.out hb3)
  have c0 : w3.cell? ⟨A, 0, none⟩ = some v := by simp [World.cell?, HN3.out, ← HDC.out]
  have z0 : w3.frozen? ⟨A, 0, none⟩ = false := by simp [World.frozen?, HN3.out]
  have HO3 := hid (ho3.le (show A ≤ w2.heap.size from Nat.le_of_lt HA2.out))
  have HAB := hid (show v3.ownBlock ≠ some A from fun e => by have := (World.ownsRow.lt ho3 A e).1; have := HA2.out; omega)
  have HKN := hid (show (w3.setCell ⟨A, 0, none⟩ v3).heap[A]? = some (.cells #[v3, .int .i64 s.came, .int .i64 s.whole, .int .i64 (lngP M : Nat), .int .i64 s.why, .int .i64 s.wat] 104 (0, 0)) by
    rw [blk_set HN3.out, ← HDC.out]; rfl)
  have HBE := hid (Below.of_gb HB3.out (gb_set w3 ⟨A, 0, none⟩ v3) (by have := HAA.out; show w1.heap.size ≤ A; omega))
  have HO4 := hid (HO3.out.kept (gb_set w3 ⟨A, 0, none⟩ v3) (Or.inr (by simpa using HAB.out)))
  obtain ⟨a3, c3, e3⟩ := ho3.shape
  obtain ⟨av, cv, ev⟩ := HSD1.out.kb.own.shape
  subst e3
  subst ev
  clear ho3 hb3
  go_wp2
  go_ret
  refine ⟨A, _, rfl, HAA.out.symm, ⟨⟨?_, HKN.out, HO4.out.le (by have := HAA.out; omega)⟩, H.out.good, H.out.one, H.out.big⟩, HBE.out⟩
  have := HAA.out
  omega

set_option maxRecDepth 100000 in
set_option maxHeartbeats 4000000 in
theorem kfeed_bad (h : Sd w base b v M s) (h0 : s.why ≠ 0) (vp : Value) :
    Calls Tryz.prog 23 #[.pointer (some ⟨b, 0, none⟩), vp] w fun e w' => e = .returned (.tuple #[.slice none 0 0, .agg #[.int .i64 80, .int .i64 s.came]]) ∧ Below w.heap.size w w' := by
  have HB0 := hid (below_walk w (.cells #[.int .i64 0, .int .i64 0] 33))
  have HN0 := hid (hp_new w (.cells #[.int .i64 0, .int .i64 0] 33))
  have HSD0 := hid (h.below HB0.out)
  have HLT := hid h.kb.lt
  obtain ⟨A, HAA⟩ : ∃ n, Hid (w.heap.size = n) := ⟨_, rfl⟩
  have HRF := hid (kref_bad HSD0.out.kb (lng_pos M) h0)
  clear h
  go_enter Tryz.func23, Tryz.ntmps23
  go_upto_region 1 with fail
  generalize w.alloc (.cells #[.int .i64 0, .int .i64 0] 33) = w0 at HB0 HN0 HSD0 HRF ⊢
  rw [HAA.out] at HN0 HLT ⊢
  go_wp2_with fail
  refine HRF.out.mono ?_
  rintro e w1 ⟨rfl, hb1⟩
  have HW1 := hid (below_walk w1 (.cells [Value.int .i64 80, .int .i64 (s.came : Int)].toArray 33))
  have HSD2 := hid ((HSD0.out.below hb1).below HW1.out)
  have HN2 := hid (bel_keep HW1.out (bel_keep hb1 HN0.out))
  have HB2 := hid (below_then (below_then HB0.out hb1) HW1.out)
  have HT := hid (hp_new w1 (.cells [Value.int .i64 80, .int .i64 (s.came : Int)].toArray 33))
  have HBA := hid (hp_lt (bel_keep hb1 HN0.out))
  clear hb1 HRF HSD0 HN0 HB0
  go_upto_region 2 with (refine st_new (by rfl) 33 _ _ (by rfl) [Value.int .i64 80, .int .i64 (s.came : Int)] (by rfl) (by rfl) 33 _ faultSize rfl (fault_one _ _) ?_)
  obtain ⟨B, HBe⟩ : ∃ n, Hid (w1.heap.size = n) := ⟨_, rfl⟩
  rw [HBe.out] at HT HBA ⊢
  generalize w1.alloc (.cells [Value.int .i64 80, .int .i64 (s.came : Int)].toArray 33) = w2 at HW1 HSD2 HN2 HB2 HT ⊢
  have t0 : w2.cell? ⟨B, 0, none⟩ = some (.int .i64 80) := by simp [World.cell?, HT.out]
  go_upto_region 3 with fail
  refine wp_noPanic (wp_region_held_drew (S := fun W => W.heap[B]? = some (.cells [Value.int .i64 80, .int .i64 (s.came : Int)].toArray 33 (0, 0))) (by kernel_rfl) HT.out ?_)
  intro hHeld
  refine wpAnyH_take (i := 0) (v := .agg [Value.int .i64 80, .int .i64 (s.came : Int)].toArray) rfl (by kernel_rfl) (by kernel_rfl) (by kernel_rfl) (fun _ _ _ h => h) (yieldsIf_load_mid (by rfl) 33 (.tmp 6) rfl B 0 rfl [Value.int .i64 80, .int .i64 (s.came : Int)] _ (fun W hW => range_row hW) Tryz.underlying33 rfl faultSize) hHeld ?_
  simp only [Act.put, List.getElem_toArray, List.getElem_cons_zero, List.setIfInBounds_toArray, List.set_cons_succ, List.set_cons_zero]
  refine wpAnyH_take (i := 1) (v := .slice none 0 0) rfl (by kernel_rfl) (by kernel_rfl) (by kernel_rfl) (fun _ _ _ h => h) (Or.inl ⟨by rfl, fun W _ => by go_simp⟩) hHeld ?_
  simp only [Act.put, List.getElem_toArray, List.getElem_cons_zero, List.getElem_cons_succ, List.setIfInBounds_toArray, List.set_cons_succ, List.set_cons_zero]
  refine wpAnyH_ready (rs := [2]) (by kernel_rfl) (by simp) ?_
  refine AllReadyH.cons rfl (fun K9 hK9 => ?_) AllReadyH.nil
  refine step_store_row (by rfl) 33 _ _ (by rfl) A [Value.int .i64 80, .int .i64 (s.came : Int)] (by rfl) (by rfl) 33 _ HN2.out faultSize rfl (fault_one _ _) ?_
  intro wz hwz
  refine hK9.out _ _ (gb_keep hwz.grown HT.out (by have := HBA.out; omega)) (fun hHeld => ?_)
  clear hK9 K9
  try simp only [Act.put, List.getElem_toArray, List.getElem_cons_zero, List.getElem_cons_succ]
  refine wpAnyH_done (by kernel_rfl) ?_ _
  simp only [noPanic]
  clear hHeld
  go_wp2
  exact ret_tc 4 5 33 rfl _ rfl A rfl _ 33 hwz.blk _ Tryz.underlying33 rfl faultSize rfl ⟨rfl, Below.of_gb (below_then HB2.out (bel_drw w2 1)) hwz.grown (by have := HAA.out; omega)⟩

set_option maxRecDepth 100000 in
set_option maxHeartbeats 4000000 in
theorem ksome_bad (h : Sd w base b v M s) (h0 : s.why ≠ 0) (n : Int) (vp : Value) :
    Calls Tryz.prog 50 #[.pointer (some ⟨b, 0, none⟩), .int .i64 n, vp] w fun e w' => e = .returned (.tuple #[.slice none 0 0, .int .i64 0, .agg #[.int .i64 80, .int .i64 s.came]]) ∧ Below w.heap.size w w' := by
  have HB0 := hid (below_walk w (.cells #[.int .i64 0, .int .i64 0] 33))
  have HN0 := hid (hp_new w (.cells #[.int .i64 0, .int .i64 0] 33))
  have HSD0 := hid (h.below HB0.out)
  have HLT := hid h.kb.lt
  obtain ⟨A, HAA⟩ : ∃ n, Hid (w.heap.size = n) := ⟨_, rfl⟩
  have HRF := hid (kref_bad HSD0.out.kb (lng_pos M) h0)
  clear h
  go_enter Tryz.func50, Tryz.ntmps50
  go_upto_region 1 with fail
  generalize w.alloc (.cells #[.int .i64 0, .int .i64 0] 33) = w0 at HB0 HN0 HSD0 HRF ⊢
  rw [HAA.out] at HN0 HLT ⊢
  go_wp2_with fail
  refine HRF.out.mono ?_
  rintro e w1 ⟨rfl, hb1⟩
  have HW1 := hid (below_walk w1 (.cells [Value.int .i64 80, .int .i64 (s.came : Int)].toArray 33))
  have HSD2 := hid ((HSD0.out.below hb1).below HW1.out)
  have HN2 := hid (bel_keep HW1.out (bel_keep hb1 HN0.out))
  have HB2 := hid (below_then (below_then HB0.out hb1) HW1.out)
  have HT := hid (hp_new w1 (.cells [Value.int .i64 80, .int .i64 (s.came : Int)].toArray 33))
  have HBA := hid (hp_lt (bel_keep hb1 HN0.out))
  clear hb1 HRF HSD0 HN0 HB0
  go_upto_region 2 with (refine st_new (by rfl) 33 _ _ (by rfl) [Value.int .i64 80, .int .i64 (s.came : Int)] (by rfl) (by rfl) 33 _ faultSize rfl (fault_one _ _) ?_)
  obtain ⟨B, HBe⟩ : ∃ n, Hid (w1.heap.size = n) := ⟨_, rfl⟩
  rw [HBe.out] at HT HBA ⊢
  generalize w1.alloc (.cells [Value.int .i64 80, .int .i64 (s.came : Int)].toArray 33) = w2 at HW1 HSD2 HN2 HB2 HT ⊢
  have t0 : w2.cell? ⟨B, 0, none⟩ = some (.int .i64 80) := by simp [World.cell?, HT.out]
  go_upto_region 3 with fail
  refine wp_noPanic (wp_region_held_drew (S := fun W => W.heap[B]? = some (.cells [Value.int .i64 80, .int .i64 (s.came : Int)].toArray 33 (0, 0))) (by kernel_rfl) HT.out ?_)
  intro hHeld
  refine wpAnyH_take (i := 0) (v := .agg [Value.int .i64 80, .int .i64 (s.came : Int)].toArray) rfl (by kernel_rfl) (by kernel_rfl) (by kernel_rfl) (fun _ _ _ h => h) (yieldsIf_load_mid (by rfl) 33 (.tmp 9) rfl B 0 rfl [Value.int .i64 80, .int .i64 (s.came : Int)] _ (fun W hW => range_row hW) Tryz.underlying33 rfl faultSize) hHeld ?_
  simp only [Act.put, List.getElem_toArray, List.getElem_cons_zero, List.setIfInBounds_toArray, List.set_cons_succ, List.set_cons_zero]
  refine wpAnyH_take (i := 1) (v := .slice none 0 0) rfl (by kernel_rfl) (by kernel_rfl) (by kernel_rfl) (fun _ _ _ h => h) (Or.inl ⟨by rfl, fun W _ => by go_simp⟩) hHeld ?_
  simp only [Act.put, List.getElem_toArray, List.getElem_cons_zero, List.getElem_cons_succ, List.setIfInBounds_toArray, List.set_cons_succ, List.set_cons_zero]
  refine wpAnyH_take (i := 2) (v := .int .i64 0) rfl (by kernel_rfl) (by kernel_rfl) (by kernel_rfl) (fun _ _ _ h => h) (Or.inl ⟨by rfl, fun W _ => by go_simp⟩) hHeld ?_
  simp only [Act.put, List.getElem_toArray, List.getElem_cons_zero, List.getElem_cons_succ, List.setIfInBounds_toArray, List.set_cons_succ, List.set_cons_zero]
  refine wpAnyH_ready (rs := [3]) (by kernel_rfl) (by simp) ?_
  refine AllReadyH.cons rfl (fun K9 hK9 => ?_) AllReadyH.nil
  refine step_store_row (by rfl) 33 _ _ (by rfl) A [Value.int .i64 80, .int .i64 (s.came : Int)] (by rfl) (by rfl) 33 _ HN2.out faultSize rfl (fault_one _ _) ?_
  intro wz hwz
  refine hK9.out _ _ (gb_keep hwz.grown HT.out (by have := HBA.out; omega)) (fun hHeld => ?_)
  clear hK9 K9
  try simp only [Act.put, List.getElem_toArray, List.getElem_cons_zero, List.getElem_cons_succ]
  refine wpAnyH_done (by kernel_rfl) ?_ _
  simp only [noPanic]
  clear hHeld
  go_wp2
  exact ret_ttc 6 7 8 33 rfl _ _ rfl rfl A rfl _ 33 hwz.blk _ Tryz.underlying33 rfl faultSize rfl ⟨rfl, Below.of_gb (below_then HB2.out (bel_drw w2 1)) hwz.grown (by have := HAA.out; omega)⟩

set_option maxRecDepth 100000 in
set_option maxHeartbeats 4000000 in
theorem ksome_any (h : Sd w base b v M s) (h0 : s.why = 0) (n : Int) (vx : Value) (bs : List UInt8) (hx : ∀ W vd, Gd w W b v vd → Src W vx bs) (hc : s.came + bs.length ≤ 4611686018427387904) (hbl : bs.length ≤ 900000000000) :
    Calls Tryz.prog 50 #[.pointer (some ⟨b, 0, none⟩), .int .i64 n, vx] w (SomeP w base b v M (runP M (fun j => decide (n ≤ (j : Int))) (s, [], 0) bs)) := by
  have HX := hid hx
  obtain ⟨ax, cx, rfl⟩ := src_shape (hx w v (Gd.refl _ _ _))
  clear hx
  have HB0 := hid (below_walk w (.cells #[.int .i64 0, .int .i64 0] 33))
  have HN0 := hid (hp_new w (.cells #[.int .i64 0, .int .i64 0] 33))
  have HSD0 := hid (h.below HB0.out)
  have HLT := hid h.kb.lt
  obtain ⟨A, HAA⟩ : ∃ n, Hid (w.heap.size = n) := ⟨_, rfl⟩
  have HRF := hid (kref_ok (t := s.wat) (h0 ▸ HSD0.out.kb) (lng_pos M))
  clear h
  go_enter Tryz.func50, Tryz.ntmps50
  go_upto_region 1 with fail
  generalize w.alloc (.cells #[.int .i64 0, .int .i64 0] 33) = w0 at HB0 HN0 HSD0 HRF ⊢
  rw [HAA.out] at HN0 HLT ⊢
  go_wp2_with fail
  refine HRF.out.mono ?_
  rintro e w1 ⟨rfl, hb1⟩
  have HW1 := hid (below_walk w1 (.cells [Value.int .i64 0, .int .i64 0].toArray 33))
  have HSD2 := hid ((HSD0.out.below hb1).below HW1.out)
  have HN2 := hid (bel_keep HW1.out (bel_keep hb1 HN0.out))
  have HB2 := hid (below_then (below_then HB0.out hb1) HW1.out)
  have HT := hid (hp_new w1 (.cells [Value.int .i64 0, .int .i64 0].toArray 33))
  have HBA := hid (hp_lt (bel_keep hb1 HN0.out))
  clear hb1 HRF HSD0 HN0 HB0
  go_upto_region 2 with (refine st_new (by rfl) 33 _ _ (by rfl) [Value.int .i64 0, .int .i64 0] (by rfl) (by rfl) 33 _ faultSize rfl (fault_one _ _) ?_)
  obtain ⟨B, HBe⟩ : ∃ n, Hid (w1.heap.size = n) := ⟨_, rfl⟩
  rw [HBe.out] at HT HBA ⊢
  generalize w1.alloc (.cells [Value.int .i64 0, .int .i64 0].toArray 33) = w2 at HW1 HSD2 HN2 HB2 HT ⊢
  have t0 : w2.cell? ⟨B, 0, none⟩ = some (.int .i64 0) := by simp [World.cell?, HT.out]
  have HG2 := hid (Gd.below (Gd.refl w b v) HB2.out)
  have HUN := hid (kuntil_any HSD2.out n _ bs (fun W vd hg => HX.out W vd (HG2.out.trans hg)) hc hbl)
  obtain ⟨R, HRR⟩ : ∃ R, Hid (runP M (fun j => decide (n ≤ (j : Int))) (s, [], 0) bs = R) := ⟨_, rfl⟩
  rw [HRR.out] at HUN
  go_wp2_with fail
  refine HUN.out.mono ?_
  rintro e w3 ⟨vl3, v3, fs3, rfl, hof3, hsd3, hg3, hm3⟩
  have HOF3 := hid (hof3.le (show w.heap.size ≤ w2.heap.size from HG2.out.size))
  have HSD3 := hid hsd3
  have HG3 := hid (HG2.out.trans hg3)
  have HM3 := hid hm3
  have HN3 := hid ((hg3.block A (hp_lt HN2.out) (by have := HLT.out; omega) (fun e => own_block HSD2.out.kb.own HN2.out (by decide) e)).trans HN2.out)
  have HBK := hid hsd3.kb.blk
  obtain ⟨y, HY⟩ : ∃ y, Hid (R.1.why = y) := ⟨_, rfl⟩
  obtain ⟨t, HTt⟩ : ∃ y, Hid (R.1.wat = y) := ⟨_, rfl⟩
  rw [HY.out, HTt.out] at HBK
  clear hof3 hsd3 hg3 hm3 HUN
  go_upto_region 5 with fail
  refine wp_noPanic (wp_region_held_drew (S := fun W => W.heap[b]? = some (.cells #[v3, .int .i64 R.1.came, .int .i64 R.1.whole, .int .i64 (lngP M : Nat), .int .i64 y, .int .i64 t] 104 (0, 0))) (by kernel_rfl) HBK.out ?_)
  intro hHeld
  refine wpAnyH_take (i := 0) (v := vl3) rfl (by kernel_rfl) (by kernel_rfl) (by kernel_rfl) (fun _ _ _ h => h) (Or.inl ⟨by rfl, fun W _ => by go_simp⟩) hHeld ?_
  simp only [Act.put, List.getElem_toArray, List.getElem_cons_zero, List.setIfInBounds_toArray, List.set_cons_succ, List.set_cons_zero]
  refine wpAnyH_take (i := 1) (v := .int .i64 (R.2.2 : Nat)) rfl (by kernel_rfl) (by kernel_rfl) (by kernel_rfl) (fun _ _ _ h => h) (Or.inl ⟨by rfl, fun W _ => by go_simp⟩) hHeld ?_
  simp only [Act.put, List.getElem_toArray, List.getElem_cons_zero, List.getElem_cons_succ, List.setIfInBounds_toArray, List.set_cons_succ, List.set_cons_zero]
  refine wpAnyH_take (i := 2) (v := .pointer (some ⟨b, 0, none⟩)) rfl (by kernel_rfl) (by kernel_rfl) (by kernel_rfl) (fun _ _ _ h => h) (Or.inl ⟨by rfl, fun W _ => by go_simp⟩) hHeld ?_
  simp only [Act.put, List.getElem_toArray, List.getElem_cons_zero, List.getElem_cons_succ, List.setIfInBounds_toArray, List.set_cons_succ, List.set_cons_zero]
  refine wpAnyH_take (i := 3) (v := .pointer (some ⟨b, 0, none⟩)) rfl (by kernel_rfl) (by kernel_rfl) (by kernel_rfl) (fun _ _ _ h => h) (Or.inl ⟨by rfl, fun W _ => by go_simp⟩) hHeld ?_
  simp only [Act.put, List.getElem_toArray, List.getElem_cons_zero, List.getElem_cons_succ, List.setIfInBounds_toArray, List.set_cons_succ, List.set_cons_zero]
  refine wpAnyH_take (i := 4) (v := .pointer (some ⟨b, 4, none⟩)) rfl (by kernel_rfl) (by kernel_rfl) (by kernel_rfl) (fun _ _ _ h => h) (Or.inl ⟨by rfl, fun W _ => by go_simp⟩) hHeld ?_
  simp only [Act.put, List.getElem_toArray, List.getElem_cons_zero, List.getElem_cons_succ, List.setIfInBounds_toArray, List.set_cons_succ, List.set_cons_zero]
  refine wpAnyH_take (i := 5) (v := .agg [Value.int .i64 y, .int .i64 t].toArray) rfl (by kernel_rfl) (by kernel_rfl) (by kernel_rfl) (fun _ _ _ h => h) (yieldsIf_load_mid (by rfl) 33 (.tmp 29) rfl b 4 rfl [Value.int .i64 y, .int .i64 t] _ (fun W hW => fault_at hW) Tryz.underlying33 rfl faultSize) hHeld ?_
  simp only [Act.put, List.getElem_toArray, List.getElem_cons_zero, List.getElem_cons_succ, List.setIfInBounds_toArray, List.set_cons_succ, List.set_cons_zero]
  refine wpAnyH_take (i := 6) (v := vl3) rfl (by kernel_rfl) (by kernel_rfl) (by kernel_rfl) (fun _ _ _ h => h) (Or.inl ⟨by rfl, fun W _ => by go_simp⟩) hHeld ?_
  simp only [Act.put, List.getElem_toArray, List.getElem_cons_zero, List.getElem_cons_succ, List.setIfInBounds_toArray, List.set_cons_succ, List.set_cons_zero]
  refine wpAnyH_take (i := 7) (v := .int .i64 (R.2.2 : Nat)) rfl (by kernel_rfl) (by kernel_rfl) (by kernel_rfl) (fun _ _ _ h => h) (Or.inl ⟨by rfl, fun W _ => by go_simp⟩) hHeld ?_
  simp only [Act.put, List.getElem_toArray, List.getElem_cons_zero, List.getElem_cons_succ, List.setIfInBounds_toArray, List.set_cons_succ, List.set_cons_zero]
  refine wpAnyH_ready (rs := [8]) (by kernel_rfl) (by simp) ?_
  refine AllReadyH.cons rfl (fun K9 hK9 => ?_) AllReadyH.nil
  refine step_store_row (by rfl) 33 _ _ (by rfl) A [Value.int .i64 y, .int .i64 t] (by rfl) (by rfl) 33 _ HN3.out faultSize rfl (fault_one _ _) ?_
  intro wz hwz
  refine hK9.out _ _ (gb_keep hwz.grown HBK.out (by have := HLT.out; omega)) (fun hHeld => ?_)
  clear hK9 K9
  try simp only [Act.put, List.getElem_toArray, List.getElem_cons_zero, List.getElem_cons_succ]
  refine wpAnyH_done (by kernel_rfl) ?_ _
  simp only [noPanic]
  clear hHeld
  go_wp2
  refine ret_ttc 6 7 8 33 rfl _ _ rfl rfl A rfl _ 33 hwz.blk _ Tryz.underlying33 rfl faultSize rfl ?_
  rw [HRR.out]
  exact ⟨_, v3, fs3, by rw [HY.out, HTt.out]; rfl, (HOF3.out.below (bel_drw w3 1)).gone hwz.grown HN3.out (by decide) (by decide), ((HSD3.out.drew 1).far hwz.grown (by have := HLT.out; omega) (fun k e h9 => own_block HSD3.out.kb.own HN3.out (by decide) (h9 ▸ e))), (HG3.out.below (bel_drw w3 1)).fresh hwz.grown (by have := HAA.out; omega), HM3.out⟩
end
end Go.Proofs.YtiibhccbbpgehaaGreat

/- Whether all fields of two frames are the same. -/
namespace Go.Proofs.YtiibhccbbpgehaaGreat
open Go.RowKit

set_option maxRecDepth 100000 in
set_option maxHeartbeats 4000000 in
theorem rsame_any (f g : Fr) (va vb : Value) (w : World) (hf : f.tool.length = 32) (hg : g.tool.length = 32) (ha : Strs w va f.args) (hb : Strs w vb g.args) (hn : f.args.length ≤ 9223372036854775807) :
    Calls Tryz.prog 11 #[.agg (fcells f va).toArray, .agg (fcells g vb).toArray] w fun e w' => e = .returned (.bool (sameP f g)) ∧ Below w.heap.size w w' := by
  have HNA := hid (hp_two w (.cells (fcells f va).toArray 30) (.cells (fcells g vb).toArray 30))
  have HBL := hid (below_walk2 w (.cells (fcells f va).toArray 30) (.cells (fcells g vb).toArray 30))
  have HSA := hid ha
  have HSB := hid hb
  have HN := hid hn
  have HF := hid hf
  have HG := hid hg
  clear ha hb hn hf hg
  go_enter Tryz.func11, Tryz.ntmps11
  go_upto_region 1 with fail
  generalize (w.alloc (.cells (fcells f va).toArray 30)).alloc (.cells (fcells g vb).toArray 30) = w2 at HNA HBL ⊢
  have HA := hid (Fb.of HNA.out.1 HF.out)
  have HB := hid (Fb.of HNA.out.2 HG.out)
  clear HNA
  have HSA2 := hid (HSA.out.below HBL.out)
  have HSB2 := hid (HSB.out.below HBL.out)
  clear HSA HSB
  have hlg := limG
  have hdg := digG
  have HEQ := hid (wsame_any va vb f.args g.args w2 HSA2.out HSB2.out HN.out)
  obtain ⟨fk, fi, fv, fs, ft, fst, fl, fa, fb⟩ := f
  obtain ⟨gk, gi, gv, gs, gt, gst, gl, ga, gb⟩ := g
  obtain ⟨fl1, fl2, fl3⟩ := fl
  obtain ⟨gl1, gl2, gl3⟩ := gl
  obtain ⟨B2, HB2⟩ : ∃ b : Nat, Hid (w.heap.size + 1 = b) := ⟨_, rfl⟩
  obtain ⟨B1, HB1⟩ : ∃ b : Nat, Hid (w.heap.size = b) := ⟨_, rfl⟩
  rw [HB2.out] at HB ⊢
  rw [HB1.out] at HA ⊢
  clear HB1 HB2
  by_cases hne : fk = gk
  · subst hne
    by_cases hne : fi = gi
    · subst hne
      by_cases hne : fv = gv
      · subst hne
        by_cases hne : fs = gs
        · subst hne
          by_cases hne : ft = gt
          · subst hne
            by_cases hne : fst = gst
            · subst hne
              by_cases hne : (fl1, fl2, fl3) = (gl1, gl2, gl3)
              · injection hne with h1 h2; injection h2 with h2 h3; subst h1; subst h2; subst h3
                by_cases hne : fa = ga
                · subst hne
                  by_cases hne : fb = gb
                  · subst hne
                    have HR : Hid (sameP ⟨fk, fi, fv, fs, ft, fst, (fl1, fl2, fl3), fa, fb⟩ ⟨fk, fi, fv, fs, ft, fst, (fl1, fl2, fl3), fa, fb⟩ = true) := hid (sameP_self _)
                    have a0 := HA.out.k
                    have b0 := HB.out.k
                    have a1 := HA.out.i
                    have b1 := HB.out.i
                    have a2 := HA.out.v
                    have b2 := HB.out.v
                    have a3 := HA.out.s
                    have b3 := HB.out.s
                    have a4 := hid HA.out.t
                    have b4 := hid HB.out.t
                    have HS1 := hid (tool_size ft HF.out)
                    have HS2 := hid (tool_size ft HG.out)
                    have a5 := HA.out.st
                    have b5 := HB.out.st
                    have a61 := HA.out.l1
                    have b61 := HB.out.l1
                    have a62 := HA.out.l2
                    have b62 := HB.out.l2
                    have a63 := HA.out.l3
                    have b63 := HB.out.l3
                    have a7 := HA.out.a
                    have b7 := HB.out.a
                    have e4 := dig_eql ft ft HF.out HF.out
                    rw [decide_eq_true rfl] at e4
                    have e6 := lim_eql fl1 fl2 fl3 fl1 fl2 fl3
                    rw [decide_eq_true rfl] at e6
                    have HE2 := hid HEQ.out
                    simp only [decide_true] at HE2
                    have HA8 := hid (fun n => (show (w2.drewN n).cell? ⟨B1, 41, none⟩ = _ from HA.out.bd))
                    have HB8 := hid (fun n => (show (w2.drewN n).cell? ⟨B2, 41, none⟩ = _ from HB.out.bd))
                    clear HA HB HEQ HF HG
                    go_wp2_with (first | (refine ld_gd (by rfl) 25 (.tmp 32) (by rfl) B1 4 (by rfl) _ _ a4.out Tryz.underlying25 rfl HS1.out ?_) | (refine ld_gd (by rfl) 25 (.tmp 34) (by rfl) B2 4 (by rfl) _ _ b4.out Tryz.underlying25 rfl HS2.out ?_))
                    refine HE2.out.mono ?_
                    rintro e w3 ⟨rfl, n, rfl⟩
                    have a8 := HA8.out n
                    have b8 := HB8.out n
                    clear HA8 HB8
                    clear HE2
                    go_wp2
                    go_ret
                    exact ⟨ret_eq HR.out.symm, HBL.out.trans ⟨rfl, rfl, rfl, Nat.le_refl _, fun _ _ => rfl⟩⟩
                  · have HR : Hid (sameP ⟨fk, fi, fv, fs, ft, fst, (fl1, fl2, fl3), fa, fb⟩ ⟨fk, fi, fv, fs, ft, fst, (fl1, fl2, fl3), fa, gb⟩ = false) := hid (decide_eq_false (fun h9 => hne (by exact h9.2.2.2.2.2.2.2.2)))
                    have a0 := HA.out.k
                    have b0 := HB.out.k
                    have a1 := HA.out.i
                    have b1 := HB.out.i
                    have a2 := HA.out.v
                    have b2 := HB.out.v
                    have a3 := HA.out.s
                    have b3 := HB.out.s
                    have a4 := hid HA.out.t
                    have b4 := hid HB.out.t
                    have HS1 := hid (tool_size ft HF.out)
                    have HS2 := hid (tool_size ft HG.out)
                    have a5 := HA.out.st
                    have b5 := HB.out.st
                    have a61 := HA.out.l1
                    have b61 := HB.out.l1
                    have a62 := HA.out.l2
                    have b62 := HB.out.l2
                    have a63 := HA.out.l3
                    have b63 := HB.out.l3
                    have a7 := HA.out.a
                    have b7 := HB.out.a
                    have e4 := dig_eql ft ft HF.out HF.out
                    rw [decide_eq_true rfl] at e4
                    have e6 := lim_eql fl1 fl2 fl3 fl1 fl2 fl3
                    rw [decide_eq_true rfl] at e6
                    have HE2 := hid HEQ.out
                    simp only [decide_true] at HE2
                    have HA8 := hid (fun n => (show (w2.drewN n).cell? ⟨B1, 41, none⟩ = _ from HA.out.bd))
                    have HB8 := hid (fun n => (show (w2.drewN n).cell? ⟨B2, 41, none⟩ = _ from HB.out.bd))
                    have t1 : ¬ (mk fb).toList = (mk gb).toList := fun h9 => hne ((bl_mk fb).symm.trans (h9.trans (bl_mk gb)))
                    have t2 : ((mk fb).toList == (mk gb).toList) = false := by simpa using t1
                    clear HA HB HEQ HF HG
                    clear hne
                    go_wp2_with (first | (refine ld_gd (by rfl) 25 (.tmp 32) (by rfl) B1 4 (by rfl) _ _ a4.out Tryz.underlying25 rfl HS1.out ?_) | (refine ld_gd (by rfl) 25 (.tmp 34) (by rfl) B2 4 (by rfl) _ _ b4.out Tryz.underlying25 rfl HS2.out ?_))
                    refine HE2.out.mono ?_
                    rintro e w3 ⟨rfl, n, rfl⟩
                    have a8 := HA8.out n
                    have b8 := HB8.out n
                    clear HA8 HB8
                    clear HE2
                    go_wp2
                    go_ret
                    exact ⟨ret_eq HR.out.symm, HBL.out.trans ⟨rfl, rfl, rfl, Nat.le_refl _, fun _ _ => rfl⟩⟩
                · have HR : Hid (sameP ⟨fk, fi, fv, fs, ft, fst, (fl1, fl2, fl3), fa, fb⟩ ⟨fk, fi, fv, fs, ft, fst, (fl1, fl2, fl3), ga, gb⟩ = false) := hid (decide_eq_false (fun h9 => hne (by exact h9.2.2.2.2.2.2.2.1)))
                  have a0 := HA.out.k
                  have b0 := HB.out.k
                  have a1 := HA.out.i
                  have b1 := HB.out.i
                  have a2 := HA.out.v
                  have b2 := HB.out.v
                  have a3 := HA.out.s
                  have b3 := HB.out.s
                  have a4 := hid HA.out.t
                  have b4 := hid HB.out.t
                  have HS1 := hid (tool_size ft HF.out)
                  have HS2 := hid (tool_size ft HG.out)
                  have a5 := HA.out.st
                  have b5 := HB.out.st
                  have a61 := HA.out.l1
                  have b61 := HB.out.l1
                  have a62 := HA.out.l2
                  have b62 := HB.out.l2
                  have a63 := HA.out.l3
                  have b63 := HB.out.l3
                  have a7 := HA.out.a
                  have b7 := HB.out.a
                  have e4 := dig_eql ft ft HF.out HF.out
                  rw [decide_eq_true rfl] at e4
                  have e6 := lim_eql fl1 fl2 fl3 fl1 fl2 fl3
                  rw [decide_eq_true rfl] at e6
                  have HE2 := hid HEQ.out
                  simp only [decide_eq_false hne] at HE2
                  clear HA HB HEQ HF HG
                  clear hne
                  go_wp2_with (first | (refine ld_gd (by rfl) 25 (.tmp 32) (by rfl) B1 4 (by rfl) _ _ a4.out Tryz.underlying25 rfl HS1.out ?_) | (refine ld_gd (by rfl) 25 (.tmp 34) (by rfl) B2 4 (by rfl) _ _ b4.out Tryz.underlying25 rfl HS2.out ?_))
                  refine HE2.out.mono ?_
                  rintro e w3 ⟨rfl, n, rfl⟩
                  clear HE2
                  go_wp2
                  go_ret
                  exact ⟨ret_eq HR.out.symm, HBL.out.trans ⟨rfl, rfl, rfl, Nat.le_refl _, fun _ _ => rfl⟩⟩
              · have HR : Hid (sameP ⟨fk, fi, fv, fs, ft, fst, (fl1, fl2, fl3), fa, fb⟩ ⟨fk, fi, fv, fs, ft, fst, (gl1, gl2, gl3), ga, gb⟩ = false) := hid (decide_eq_false (fun h9 => hne (by exact h9.2.2.2.2.2.2.1)))
                have a0 := HA.out.k
                have b0 := HB.out.k
                have a1 := HA.out.i
                have b1 := HB.out.i
                have a2 := HA.out.v
                have b2 := HB.out.v
                have a3 := HA.out.s
                have b3 := HB.out.s
                have a4 := hid HA.out.t
                have b4 := hid HB.out.t
                have HS1 := hid (tool_size ft HF.out)
                have HS2 := hid (tool_size ft HG.out)
                have a5 := HA.out.st
                have b5 := HB.out.st
                have a61 := HA.out.l1
                have b61 := HB.out.l1
                have a62 := HA.out.l2
                have b62 := HB.out.l2
                have a63 := HA.out.l3
                have b63 := HB.out.l3
                have e4 := dig_eql ft ft HF.out HF.out
                rw [decide_eq_true rfl] at e4
                have e6 := lim_eql fl1 fl2 fl3 gl1 gl2 gl3
                rw [decide_eq_false hne] at e6
                clear HA HB HEQ HF HG
                clear hne
                go_wp2_with (first | (refine ld_gd (by rfl) 25 (.tmp 32) (by rfl) B1 4 (by rfl) _ _ a4.out Tryz.underlying25 rfl HS1.out ?_) | (refine ld_gd (by rfl) 25 (.tmp 34) (by rfl) B2 4 (by rfl) _ _ b4.out Tryz.underlying25 rfl HS2.out ?_))
                go_ret
                exact ⟨ret_eq HR.out.symm, HBL.out⟩
            · have HR : Hid (sameP ⟨fk, fi, fv, fs, ft, fst, (fl1, fl2, fl3), fa, fb⟩ ⟨fk, fi, fv, fs, ft, gst, (gl1, gl2, gl3), ga, gb⟩ = false) := hid (decide_eq_false (fun h9 => hne (by exact h9.2.2.2.2.2.1)))
              have a0 := HA.out.k
              have b0 := HB.out.k
              have a1 := HA.out.i
              have b1 := HB.out.i
              have a2 := HA.out.v
              have b2 := HB.out.v
              have a3 := HA.out.s
              have b3 := HB.out.s
              have a4 := hid HA.out.t
              have b4 := hid HB.out.t
              have HS1 := hid (tool_size ft HF.out)
              have HS2 := hid (tool_size ft HG.out)
              have a5 := HA.out.st
              have b5 := HB.out.st
              have e4 := dig_eql ft ft HF.out HF.out
              rw [decide_eq_true rfl] at e4
              have q1 : (fst == gst) = false := by simpa using hne
              clear HA HB HEQ HF HG
              go_wp2_with (first | (refine ld_gd (by rfl) 25 (.tmp 32) (by rfl) B1 4 (by rfl) _ _ a4.out Tryz.underlying25 rfl HS1.out ?_) | (refine ld_gd (by rfl) 25 (.tmp 34) (by rfl) B2 4 (by rfl) _ _ b4.out Tryz.underlying25 rfl HS2.out ?_))
              go_ret
              exact ⟨ret_eq HR.out.symm, HBL.out⟩
          · have HR : Hid (sameP ⟨fk, fi, fv, fs, ft, fst, (fl1, fl2, fl3), fa, fb⟩ ⟨fk, fi, fv, fs, gt, gst, (gl1, gl2, gl3), ga, gb⟩ = false) := hid (decide_eq_false (fun h9 => hne (by exact h9.2.2.2.2.1)))
            have a0 := HA.out.k
            have b0 := HB.out.k
            have a1 := HA.out.i
            have b1 := HB.out.i
            have a2 := HA.out.v
            have b2 := HB.out.v
            have a3 := HA.out.s
            have b3 := HB.out.s
            have a4 := hid HA.out.t
            have b4 := hid HB.out.t
            have HS1 := hid (tool_size ft HF.out)
            have HS2 := hid (tool_size gt HG.out)
            have e4 := dig_eql ft gt HF.out HG.out
            rw [decide_eq_false hne] at e4
            clear HA HB HEQ HF HG
            clear hne
            go_wp2_with (first | (refine ld_gd (by rfl) 25 (.tmp 32) (by rfl) B1 4 (by rfl) _ _ a4.out Tryz.underlying25 rfl HS1.out ?_) | (refine ld_gd (by rfl) 25 (.tmp 34) (by rfl) B2 4 (by rfl) _ _ b4.out Tryz.underlying25 rfl HS2.out ?_))
            go_ret
            exact ⟨ret_eq HR.out.symm, HBL.out⟩
        · have HR : Hid (sameP ⟨fk, fi, fv, fs, ft, fst, (fl1, fl2, fl3), fa, fb⟩ ⟨fk, fi, fv, gs, gt, gst, (gl1, gl2, gl3), ga, gb⟩ = false) := hid (decide_eq_false (fun h9 => hne (by exact h9.2.2.2.1)))
          have a0 := HA.out.k
          have b0 := HB.out.k
          have a1 := HA.out.i
          have b1 := HB.out.i
          have a2 := HA.out.v
          have b2 := HB.out.v
          have a3 := HA.out.s
          have b3 := HB.out.s
          have q1 : (fs == gs) = false := by simpa using hne
          clear HA HB HEQ HF HG
          go_wp2
          go_ret
          exact ⟨ret_eq HR.out.symm, HBL.out⟩
      · have HR : Hid (sameP ⟨fk, fi, fv, fs, ft, fst, (fl1, fl2, fl3), fa, fb⟩ ⟨fk, fi, gv, gs, gt, gst, (gl1, gl2, gl3), ga, gb⟩ = false) := hid (decide_eq_false (fun h9 => hne (by exact h9.2.2.1)))
        have a0 := HA.out.k
        have b0 := HB.out.k
        have a1 := HA.out.i
        have b1 := HB.out.i
        have a2 := HA.out.v
        have b2 := HB.out.v
        have q1 : (fv == gv) = false := by simpa using hne
        clear HA HB HEQ HF HG
        go_wp2
        go_ret
        exact ⟨ret_eq HR.out.symm, HBL.out⟩
    · have HR : Hid (sameP ⟨fk, fi, fv, fs, ft, fst, (fl1, fl2, fl3), fa, fb⟩ ⟨fk, gi, gv, gs, gt, gst, (gl1, gl2, gl3), ga, gb⟩ = false) := hid (decide_eq_false (fun h9 => hne (by exact h9.2.1)))
      have a0 := HA.out.k
      have b0 := HB.out.k
      have a1 := HA.out.i
      have b1 := HB.out.i
      have q1 : (fi == gi) = false := by simpa using hne
      clear HA HB HEQ HF HG
      go_wp2
      go_ret
      exact ⟨ret_eq HR.out.symm, HBL.out⟩
  · have HR : Hid (sameP ⟨fk, fi, fv, fs, ft, fst, (fl1, fl2, fl3), fa, fb⟩ ⟨gk, gi, gv, gs, gt, gst, (gl1, gl2, gl3), ga, gb⟩ = false) := hid (decide_eq_false (fun h9 => hne (by exact h9.1)))
    have a0 := HA.out.k
    have b0 := HB.out.k
    have q1 : (fk == gk) = false := by simpa using hne
    clear HA HB HEQ HF HG
    go_wp2
    go_ret
    exact ⟨ret_eq HR.out.symm, HBL.out⟩

end Go.Proofs.YtiibhccbbpgehaaGreat

/- A Bye, written by the document. -/
namespace Go.Proofs.YtiibhccbbpgehaaGreat
open Go.RowKit Go.BigFrame

set_option maxRecDepth 100000 in
set_option maxHeartbeats 4000000 in
theorem onlyBye_any (w : World) :
    Calls Tryz.prog 90 #[.agg (fcells byeF nS).toArray] w fun e w' => e = .returned (.agg (fcells byeF nS).toArray) ∧ Below w.heap.size w w' := by
  have HNB := hid (hp_two w (.cells (fcells byeF nS).toArray 30) (.cells (fcells zF nS).toArray 30))
  have HBL := hid (below_walk2 w (.cells (fcells byeF nS).toArray 30) (.cells (fcells zF nS).toArray 30))
  have HZ : Hid ((w.alloc (.cells (fcells byeF nS).toArray 30)).heap.size = w.heap.size + 1) := hid (by simp)
  have HSZ := hid (frame_size byeF nS rfl)
  go_enter Tryz.func90, Tryz.ntmps90
  go_upto_region 1 with (refine al_row (by rfl) 30 (by rfl) _ zeroFrame ?_)
  try rw [HZ.out]
  generalize (w.alloc (.cells (fcells byeF nS).toArray 30)).alloc (.cells (fcells zF nS).toArray 30) = w2 at HNB HBL ⊢
  have x0 : w2.cell? ⟨w.heap.size, 0, none⟩ = some (.int .i64 5) := (Fb.of HNB.out.1 rfl).k
  have HL2 := hid (hp_lt HNB.out.2)
  go_upto_region 2 with (first
    | (refine bd_row (by rfl) 30 #[(0, .tmp 5)] (by rfl) _ (by simp [Act.eval]) _ built_bye ?_)
    | (refine al_row (by rfl) 30 (by rfl) _ zeroFrame ?_)
    | (refine st_new (by rfl) 30 _ _ (by rfl) (fcells byeF nS) (by rfl) (by rfl) 30 _ HSZ.out rfl (fcells_one byeF nS rfl) ?_))
  have HN1 := hid ((below_walk w2 (.cells (fcells byeF nS).toArray 30)).block _ (by have := HL2.out; omega) |>.trans HNB.out.1)
  have HN2 := hid ((below_walk w2 (.cells (fcells byeF nS).toArray 30)).block _ HL2.out |>.trans HNB.out.2)
  have HN3 := hid (hp_new w2 (.cells (fcells byeF nS).toArray 30))
  have HB3 := hid (below_then HBL.out (below_walk w2 (.cells (fcells byeF nS).toArray 30)))
  obtain ⟨B3, HE3⟩ : ∃ b : Nat, Hid (w2.heap.size = b) := ⟨_, rfl⟩
  rw [HE3.out] at HN3 ⊢
  generalize w2.alloc (.cells (fcells byeF nS).toArray 30) = w3 at HN1 HN2 HN3 HB3 ⊢
  clear x0 HNB HBL HL2
  have x1 : w3.cell? ⟨w.heap.size, 0, none⟩ = some (.int .i64 5) := (Fb.of HN1.out rfl).k
  go_wp2_with (first
    | (refine ld_row (by rfl) 30 (.tmp 3) (by rfl) B3 (by rfl) (fcells byeF nS) 30 HN3.out _ Tryz.underlying30 rfl HSZ.out ?_)
    | (refine st_row (by rfl) 30 _ _ (by rfl) (w.heap.size + 1) (fcells byeF nS) (by rfl) (by rfl) 30 _ HN2.out HSZ.out rfl (fcells_one byeF nS rfl) ?_; intro w4 hw4))
  refine ret_row 2 30 rfl (w.heap.size + 1) rfl (fcells byeF nS) 30 hw4.blk _ Tryz.underlying30 rfl HSZ.out rfl ⟨rfl, Below.of_gb HB3.out hw4.grown (by omega)⟩

theorem ruint_five (w : World) : Calls Tryz.prog 61 #[.int .u64 5] w fun e w' => ∃ ao c, e = .returned (.slice ao 1 c) ∧ OwnB w' w.heap.size (.slice ao 1 c) [5] ∧ Below w.heap.size w w' := by
  refine (refUint_any 5 w (by decide)).mono ?_
  rintro e w' ⟨v, rfl, ho, hb⟩
  have ho' : OwnB w' w.heap.size v [5] := ho
  obtain ⟨ao, c, rfl⟩ := src_shape (ho'.src (by simp))
  exact ⟨ao, c, rfl, ho', hb⟩
theorem ruint_one (w : World) : Calls Tryz.prog 61 #[.int .u64 1] w fun e w' => ∃ ao c, e = .returned (.slice ao 1 c) ∧ OwnB w' w.heap.size (.slice ao 1 c) [1] ∧ Below w.heap.size w w' := by
  refine (refUint_any 1 w (by decide)).mono ?_
  rintro e w' ⟨v, rfl, ho, hb⟩
  have ho' : OwnB w' w.heap.size v [1] := ho
  obtain ⟨ao, c, rfl⟩ := src_shape (ho'.src (by simp))
  exact ⟨ao, c, rfl, ho', hb⟩

set_option maxRecDepth 100000 in
set_option maxHeartbeats 4000000 in
theorem bodyBye_any (w : World) :
    Calls Tryz.prog 60 #[.agg (fcells byeF nS).toArray] w fun e w' => ∃ ao c, e = .returned (.slice ao 1 c) ∧ Src w' (.slice ao 1 c) [5] ∧ Below w.heap.size w w' := by
  have HNB := hid (hp_new w (.cells (fcells byeF nS).toArray 30))
  have HBL := hid (below_walk w (.cells (fcells byeF nS).toArray 30))
  go_enter Tryz.func60, Tryz.ntmps60
  go_upto_region 1 with fail
  generalize w.alloc (.cells (fcells byeF nS).toArray 30) = w1 at HNB HBL ⊢
  have x0 : w1.cell? ⟨w.heap.size, 0, none⟩ = some (.int .i64 5) := (Fb.of HNB.out rfl).k
  have hw5 : IntKind.u64.wrap 5 = 5 := rfl
  go_wp2_with fail
  refine (ruint_five w1).mono ?_
  rintro e w2 ⟨ao, c, rfl, ho2, hb2⟩
  have HS2 := hid (ho2.src (by simp))
  have HN2 := hid ((hb2.block _ (hp_lt HNB.out)).trans HNB.out)
  have HB2 := hid (below_then HBL.out hb2)
  have x1 : w2.cell? ⟨w.heap.size, 0, none⟩ = some (.int .i64 5) := (Fb.of HN2.out rfl).k
  clear x0 hw5 ho2 hb2 HNB HBL HN2
  go_wp2
  go_ret
  exact ⟨_, _, rfl, HS2.out, HB2.out⟩

theorem rsame_bye (w : World) : Calls Tryz.prog 11 #[.agg (fcells byeF nS).toArray, .agg (fcells byeF nS).toArray] w fun e w' => e = .returned (.bool true) ∧ Below w.heap.size w w' := by
  have := rsame_any byeF byeF nS nS w rfl rfl (strs_nil w) (strs_nil w) (by simp [byeF])
  rwa [sameP_self] at this

set_option maxRecDepth 100000 in
set_option maxHeartbeats 4000000 in
theorem checkBye_any (w : World) :
    Calls Tryz.prog 59 #[.agg (fcells byeF nS).toArray] w fun e w' => e = .returned (.int .i64 0) ∧ Below w.heap.size w w' := by
  have HNB := hid (hp_new w (.cells (fcells byeF nS).toArray 30))
  have HBL := hid (below_walk w (.cells (fcells byeF nS).toArray 30))
  have HSZ := hid (frame_size byeF nS rfl)
  go_enter Tryz.func59, Tryz.ntmps59
  go_upto_region 1 with fail
  generalize w.alloc (.cells (fcells byeF nS).toArray 30) = w1 at HNB HBL ⊢
  have HL := hid (hp_lt HNB.out)
  have x0 : w1.cell? ⟨w.heap.size, 0, none⟩ = some (.int .i64 5) := (Fb.of HNB.out rfl).k
  have x7 : w1.cell? ⟨w.heap.size, 40, none⟩ = some (.slice none 0 0) := (Fb.of HNB.out rfl).a
  have z0 := fun p : Bel w1 => p.cell x0 HL.out
  have z7 := fun p : Bel w1 => p.cell x7 HL.out
  have ib : Nonempty (Bel w1) := bel_some w1
  have HRA := hid (Bel.range (range_row HNB.out) HL.out)
  clear x0 x7
  refine wp_region_quiet_bel (by kernel_rfl) (by kernel_rfl) ?_
  go_big_quiet_step (fail)
  go_big_quiet_step (fail)
  go_big_quiet_step (fail)
  go_big_quiet_step (fail)
  go_big_quiet_step (fail)
  go_big_quiet_step (fail)
  go_big_quiet_step (fail)
  go_big_quiet_step (fail)
  go_big_quiet_step (fail)
  refine wpQuiet_want (by rfl) fun K hK => quiet_ld 30 (.tmp 1) (by rfl) w.heap.size 0 (by rfl) _ _ HRA.out Tryz.underlying30 rfl HSZ.out (hK _ ?_)
  simp only [Act.put, List.setIfInBounds_toArray, List.set_cons_succ, List.set_cons_zero]
  refine wpQuiet_want (by rfl) fun K hK => quiet_ld 30 (.tmp 1) (by rfl) w.heap.size 0 (by rfl) _ _ HRA.out Tryz.underlying30 rfl HSZ.out (hK _ ?_)
  simp only [Act.put, List.setIfInBounds_toArray, List.set_cons_succ, List.set_cons_zero]
  go_big_quiet_step (first | (go_at_call 90; exact bel_of (onlyBye_any _)))
  go_big_quiet_step (first | (go_at_call 11; exact bel_of (rsame_bye _)))
  go_big_quiet_step (fail)
  go_big_quiet_step (fail)
  go_big_quiet_step (fail)
  go_big_quiet_step (fail)
  go_big_quiet_step (fail)
  go_big_quiet_step (fail)
  go_big_quiet_step (fail)
  go_big_quiet_step (fail)
  go_big_quiet_step (fail)
  refine wpQuiet_nil ?_
  rintro w2 ⟨⟨w2', hb2⟩, hw2⟩
  obtain rfl : w2 = w2' := hw2
  have HN2 := hid ((hb2.block _ HL.out).trans HNB.out)
  have HB2 := hid (below_then HBL.out hb2)
  clear hb2 z0 z7 ib HRA HNB HBL HL
  have x0 : w2.cell? ⟨w.heap.size, 0, none⟩ = some (.int .i64 5) := (Fb.of HN2.out rfl).k
  have l1 : w2.cell? ⟨w.heap.size, 37, none⟩ = some (.int .i64 0) := (Fb.of HN2.out rfl).l1
  have l2 : w2.cell? ⟨w.heap.size, 38, none⟩ = some (.int .i64 0) := (Fb.of HN2.out rfl).l2
  have l3 : w2.cell? ⟨w.heap.size, 39, none⟩ = some (.int .i64 0) := (Fb.of HN2.out rfl).l3
  have x7 : w2.cell? ⟨w.heap.size, 40, none⟩ = some (.slice none 0 0) := (Fb.of HN2.out rfl).a
  have x8 : w2.cell? ⟨w.heap.size, 41, none⟩ = some (.string ⟨#[]⟩) := (Fb.of HN2.out rfl).bd
  go_wp2_with fail
  go_loopw [3, 4] (fun b i wr => b = .bool false ∧ i = .int .i64 0 ∧ wr = w2) (fun _ _ _ => 0)
  case atStart => exact ⟨rfl, rfl, rfl⟩
  case round =>
    obtain ⟨rfl, rfl, rfl⟩ := hrel
    have HRG := hid (range_row HN2.out)
    go_wp2_with (refine ld_gd (by rfl) 30 (.tmp 1) (by rfl) w.heap.size 0 (by rfl) _ _ HRG.out Tryz.underlying30 rfl HSZ.out ?_)
    refine (bodyBye_any wr).mono ?_
    rintro e w3 ⟨ao, c, rfl, hs3, hb3⟩
    have HB3 := hid (below_then HB2.out hb3)
    clear hs3 hb3 x0 l1 l2 l3 x7 x8 HN2 HB2
    go_wp2
    go_ret
    exact ⟨rfl, HB3.out⟩

set_option maxRecDepth 100000 in
set_option maxHeartbeats 4000000 in
theorem rencodeBye_any (w : World) :
    Calls Tryz.prog 28 #[.agg (fcells byeF nS).toArray] w fun e w' => ∃ v, e = .returned (.tuple #[v, .int .i64 0]) ∧ OwnB w' w.heap.size v (sealP [1, 5]) ∧ Below w.heap.size w w' := by
  have HNB := hid (hp_new w (.cells (fcells byeF nS).toArray 30))
  have HBL := hid (below_walk w (.cells (fcells byeF nS).toArray 30))
  have HSZ := hid (frame_size byeF nS rfl)
  go_enter Tryz.func28, Tryz.ntmps28
  go_upto_region 1 with fail
  generalize w.alloc (.cells (fcells byeF nS).toArray 30) = w1 at HNB HBL ⊢
  go_wp2_with (refine ld_row (by rfl) 30 (.tmp 1) (by rfl) w.heap.size (by rfl) (fcells byeF nS) 30 HNB.out _ Tryz.underlying30 rfl HSZ.out ?_)
  refine (checkBye_any w1).mono ?_
  rintro e w2 ⟨rfl, hb2⟩
  have HN2 := hid ((hb2.block _ (hp_lt HNB.out)).trans HNB.out)
  have HB2 := hid (below_then HBL.out hb2)
  clear hb2 HNB HBL
  go_wp2_with (refine ld_row (by rfl) 30 (.tmp 1) (by rfl) w.heap.size (by rfl) (fcells byeF nS) 30 HN2.out _ Tryz.underlying30 rfl HSZ.out ?_)
  refine (bodyBye_any w2).mono ?_
  rintro e w3 ⟨ao, c, rfl, hs3, hb3⟩
  have HS3 := hid hs3
  have HB3 := hid (below_then HB2.out hb3)
  have hw1 : IntKind.u64.wrap 1 = 1 := rfl
  clear hs3 hb3 HN2 HB2
  go_wp2_with fail
  refine (ruint_one w3).mono ?_
  rintro e w4 ⟨a4, c4, rfl, ho4, hb4⟩
  have HO4 := hid ho4
  have HS4 := hid (HS3.out.below hb4)
  have HB4 := hid (below_then HB3.out hb4)
  have HZ4 := hid hb4.size
  clear ho4 hb4 HS3
  go_wp2_with (at_builtin; refine app_src rfl _ _ rfl w3.heap.size _ [1] rfl HO4.out _ [5] rfl HS4.out (by simp) HZ4.out ?_)
  intro v5 w5 ho5 hg5
  have hs5 : Src w5 v5 [1, 5] := ho5.src (by simp)
  have HB5 := hid (show Below w.heap.size w w5 from below_tr HB4.out ⟨hg5.os, hg5.tape, hg5.output, hg5.size, fun k hk => hg5.block k (by have := HB3.out.size; have := HZ4.out; omega) (fun e => by have := (HO4.out.lt k e.symm).1; have := HB3.out.size; omega)⟩)
  have HSE := hid (rseal_any w5 v5 [1, 5] hs5 (by simp))
  obtain ⟨a5, c5, e5⟩ := src_shape hs5
  subst e5
  clear ho5 hg5 hs5 HB4 HB3 HZ4 HO4 HS4
  go_wp2_with fail
  refine HSE.out.mono ?_
  rintro e w6 ⟨v6, rfl, ho6, hb6⟩
  have HO6 := hid (ho6.le HB5.out.size)
  have HB7 := hid (below_then HB5.out hb6)
  obtain ⟨a6, c6, e6⟩ := src_shape (ho6.src (by rw [sealP_length]; simp))
  subst e6
  clear ho6 hb6
  go_wp2
  go_ret2
  exact ⟨_, rfl, HO6.out, HB7.out⟩

end Go.Proofs.YtiibhccbbpgehaaGreat

/- The law's bye and awake. -/
namespace Go.Proofs.YtiibhccbbpgehaaGreat
open Go.RowKit Go.BigFrame

theorem faultG : Tryz.prog.eqGuardType Tryz.prog.depth 33 = false := by kernel_rfl
theorem fault_run (a b x y : Int) (w : World) : (Op.equalIn 10000 33 (.agg #[.int .i64 a, .int .i64 b]) (.agg #[.int .i64 x, .int .i64 y])).run Tryz.prog w = .ok (a == x && b == y) w := by
  have hS : Tryz.prog.underlying 33 = some (.struct (Tryz.prog.fieldsOf 33)) := by kernel_rfl
  have hp : Tryz.prog.stoodInHeld 33 = false := by kernel_rfl
  have u3 := Tryz.underlying3
  have a3 := Tryz.isAgg3
  have z3 := Tryz.sizeOf3
  have u4 := Tryz.underlying31
  have a4 := Tryz.isAgg31
  have z4 := Tryz.sizeOf31
  rw [show (10000 : Nat) = 9999 + 1 from rfl, run_equalIn_agg w 9999 33 _ _ hS hp]
  simp only [Program.fieldsOf, Tryz.underlying33]
  go_simp
  by_cases h1 : a = x <;> by_cases h2 : b = y <;> simp [h1, h2]
theorem fault_neq (a b x y : Int) (w : World) : (binOp .neq 33 (.agg #[.int .i64 a, .int .i64 b]) (.agg #[.int .i64 x, .int .i64 y])).run Tryz.prog w = .ok (.bool (!decide ((a, b) = (x, y)))) w := by
  rw [run_neq_struct, fault_run]
  have : (a == x && b == y) = decide ((a, b) = (x, y)) := by
    rw [Bool.eq_iff_iff]
    simp
  rw [this]
  rfl
theorem fault_eql (a b x y : Int) (w : World) : (binOp .eql 33 (.agg #[.int .i64 a, .int .i64 b]) (.agg #[.int .i64 x, .int .i64 y])).run Tryz.prog w = .ok (.bool (decide ((a, b) = (x, y)))) w := by
  rw [run_eql_struct, fault_run]
  have : (a == x && b == y) = decide ((a, b) = (x, y)) := by
    rw [Bool.eq_iff_iff]
    simp
  rw [this]
  rfl

theorem own_blk {w : World} {b n : Nat} {cs ds : Array Value} {e t : TypeId} (hb : w.heap[b]? = some (.cells cs e (0, 0))) (hn : w.heap[n]? = some (.cells ds t (0, 0))) (he : e ≠ t) : n ≠ b := by
  intro h
  subst h
  rw [hb] at hn
  simp at hn
  exact he hn.2
theorem yields_slice {P : Program} {ops : Array Oper} {S : World → Prop} {o : Oper} {a : Act} (hw : Region.wanted o (yielded ops a.tmps) = true) (t : TypeId) (x : Operand) (lo hi mx : Option Operand) (ho : o.op = .slice t x lo hi mx) (vx : Value)
    (h : ∀ W, (Instr.sliceAt t (a.eval x) (lo.map a.eval) (hi.map a.eval) (mx.map a.eval)).run P W = .ok vx W) : YieldsIf P ops S o vx a :=
  .inl ⟨hw, fun W _ => by
    unfold execOp
    simp only [ho, Sem.run_bind, h, Sem.run_pure, Result.andThen_ok]⟩
theorem step_alloc_row8 {P : Program} {ops : Array Oper} {o : Oper} {a : Act} {w : World} {K : Act → World → Prop} {Q : Exit → Act → World → Prop} {E : Prop} (hgd : o.guard = none) (ty : TypeId) (ho : o.op = .alloc ty)
    (cs : Array Value) (hz : ∀ w, (zeroValue ty).run P w = .ok (.agg cs) w)
    (h : K (a.put o.dst (.pointer (some ⟨w.heap.size, 0, none⟩))) (w.alloc (.cells cs ty))) : if Region.wanted o (yielded ops a.tmps) = true then Oper.wp P o a w K Q else E := by
  rw [if_pos (by simp [Region.wanted, hgd])]
  unfold Oper.wp execOp
  simp only [ho, Instr.alloc, Sem.run_bind, hz, newVar, newRow, run_newObj_alloc, Sem.run_pure, Result.andThen_ok, Value.cells]
  exact h
def BY : List UInt8 := sealP [1, 5]
theorem by_len : BY.length = 6 := rfl
theorem run_by : runP 9 nev (zS, [], 0) BY = (⟨[], 6, 1, 0, 0, [6]⟩, [byeF], 6) := by kernel_rfl
theorem run_bye : runP 9 nev (zS, [], 0) (fl [BY.take 2, BY.drop 2]) = (⟨[], 6, 1, 0, 0, [6]⟩, [byeF], 6) := by
  rw [show fl [BY.take 2, BY.drop 2] = BY by simp [fl]]
  exact run_by
theorem run_bad : runP 9 nev (⟨[], 6, 1, 0, 0, [6]⟩, [], 0) (fl [[128, 0]]) = (⟨[128, 0], 8, 1, 5, 6, [6]⟩, [], 2) := by kernel_rfl
theorem map_one {fs : List FV} {f : Fr} (h : fs.map (·.1) = [f]) : ∃ va, fs = [(f, va)] := by
  match fs, h with
  | [(g, va)], h => simp at h; exact ⟨va, by rw [h]⟩
theorem cut_atb {w : World} {v : Value} {bs : List UInt8} (h : Src w v bs) (k : Nat) (hk : k ≤ bs.length) :
    ∃ vx, Src w vx (bs.take k) ∧ (∀ j, vx.ownBlock = some j → v.ownBlock = some j) ∧ (∀ W, (Instr.sliceAt 22 v none (some (.int .i64 (k : Int))) none).run Tryz.prog W = .ok vx W) := by
  obtain ⟨hl, ⟨rfl, rfl⟩ | ⟨ad, cap, rfl, h1, h2, hlt, hc⟩⟩ := h
  · simp at hk
    subst hk
    exact ⟨.slice none 0 0, ⟨by simp, Or.inl ⟨rfl, rfl⟩⟩, fun _ e => e, fun W => by go_simp⟩
  · have hlen : (bs.take k).length = k := by simp; omega
    refine ⟨.slice (some ad) k cap, ⟨by omega, Or.inr ⟨ad, cap, by rw [hlen], by omega, h2, fun h0 => hlt (by omega), fun j hj => ?_⟩⟩, fun _ e => e, fun W => ?_⟩
    · rw [hlen] at hj
      rw [hc j (by omega)]
      simp [List.getD_eq_getElem?_getD, hj]
    · have hk2 : (k : Int) ≤ (cap : Int) := by omega
      go_simp
theorem cut_endb {w : World} {v : Value} {bs : List UInt8} (h : Src w v bs) (k : Nat) (hk : k ≤ bs.length) :
    ∃ vx, Src w vx (bs.drop k) ∧ (∀ j, vx.ownBlock = some j → v.ownBlock = some j) ∧ (∀ W, (Instr.sliceAt 22 v (some (.int .i64 (k : Int))) none none).run Tryz.prog W = .ok vx W) := cut_end h k hk
theorem src_two (w : World) : Src (w.alloc (.cells #[.int .u8 128, .int .u8 0] 5)) (.slice (some ⟨w.heap.size, 0, none⟩) 2 2) [128, 0] := by
  refine ⟨by simp, Or.inr ⟨⟨w.heap.size, 0, none⟩, 2, rfl, by simp, by decide, fun _ => by simp, fun j hj => ?_⟩⟩
  match j, hj with
  | 0, _ => simp [Addr.add]
  | 1, _ => simp [Addr.add]
theorem lsts_two (w : World) (u v : Value) (a b : List UInt8) (h1 : Src w u a) (h2 : Src w v b) : Lsts (w.alloc (.cells #[u, v] 22)) (.slice (some ⟨w.heap.size, 0, none⟩) 2 2) [u, v] [a, b] := by
  have hb := below_walk w (.cells #[u, v] 22)
  refine Or.inr ⟨w.heap.size, 0, 2, rfl, by simp, fun j hj => ?_⟩
  match j, hj with
  | 0, _ => exact ⟨by simp, h1.below hb⟩
  | 1, _ => exact ⟨by simp, h2.below hb⟩
theorem lsts_one (w : World) (u : Value) (a : List UInt8) (h1 : Src w u a) : Lsts (w.alloc (.cells #[u] 22)) (.slice (some ⟨w.heap.size, 0, none⟩) 1 1) [u] [a] := by
  have hb := below_walk w (.cells #[u] 22)
  refine Or.inr ⟨w.heap.size, 0, 1, rfl, by simp, fun j hj => ?_⟩
  match j, hj with
  | 0, _ => exact ⟨by simp, h1.below hb⟩
theorem Src.empty {w : World} {v : Value} (h : Src w v []) (w' : World) : Src w' v [] := by
  obtain ⟨h0, h | ⟨ad, cap, rfl, h1, h2, hlt, hc⟩⟩ := h
  · exact ⟨h0, Or.inl h⟩
  · exact ⟨h0, Or.inr ⟨ad, cap, rfl, h1, h2, fun h => by simp at h, fun j hj => by simp at hj⟩⟩
theorem src_lt {w : World} {v : Value} {bs : List UInt8} (h : Src w v bs) (hne : bs ≠ []) {k : Nat} (e : v.ownBlock = some k) : k < w.heap.size := by
  obtain ⟨h0, ⟨rfl, _⟩ | ⟨ad, cap, rfl, h1, h2, hlt, hc⟩⟩ := h
  · cases e
  · simp only [Value.ownBlock, Option.some.injEq] at e
    rw [← e]
    exact hlt (List.length_pos_iff.2 hne)
theorem Lsts.gd {w w' : World} {b : Nat} {v v' vp : Value} {us : List Value} {pss : List (List UInt8)} (h : Lsts w vp us pss) (g : Gd w w' b v v') (hb : vp.ownBlock ≠ some b) (hv : ∀ k, vp.ownBlock = some k → v.ownBlock ≠ some k) (hub : ∀ j, pss.getD j [] ≠ [] → (us.getD j nS).ownBlock ≠ some b) (huv : ∀ j k, pss.getD j [] ≠ [] → (us.getD j nS).ownBlock = some k → v.ownBlock ≠ some k) : Lsts w' vp us pss := by
  rcases h with h | ⟨g0, o, c, rfl, hlt, hc⟩
  · exact Or.inl h
  · refine Or.inr ⟨g0, o, c, rfl, Nat.lt_of_lt_of_le hlt g.size, fun j hj => ⟨?_, ?_⟩⟩
    rotate_left
    · by_cases he : pss.getD j [] = []
      · have h9 := (hc j hj).2
        rw [he] at h9 ⊢
        exact h9.empty w'
      · exact (hc j hj).2.gd g (hub j he) (fun k => huv j k he)
    rw [World.cell?_of_block (g.block g0 hlt (fun e => hb (by rw [e]; rfl)) (hv g0 rfl))]
    exact (hc j hj).1

set_option maxRecDepth 100000 in
set_option maxHeartbeats 1000000 in
theorem abye_any (w : World) : Calls Tryz.prog 42 #[] w fun e w' => ∃ v, e = .returned v ∧ OwnB w' w.heap.size v BY ∧ Below w.heap.size w w' := by
  have HR := hid (rencodeBye_any w)
  go_enter Tryz.func42, Tryz.ntmps42
  go_wp2_with (refine bd_row (by rfl) 30 #[(0, .const (.int .i64 5))] (by rfl) _ (by simp [Act.eval]) _ built_bye ?_)
  refine HR.out.mono ?_
  rintro e w1 ⟨v1, rfl, ho1, hb1⟩
  have HO := hid ho1
  have HB := hid hb1
  obtain ⟨a1, c1, e1⟩ := ho1.shape
  subst e1
  clear ho1 hb1 HR
  go_wp2
  go_ret
  exact ⟨_, rfl, HO.out, HB.out⟩
theorem new9 (w : World) : Calls Tryz.prog 13 #[.int .i64 9] w fun e w' => ∃ b, e = .returned (.tuple #[.pointer (some ⟨b, 0, none⟩), .int .i64 0]) ∧ w.heap.size ≤ b ∧ Sd w' b b (.slice none 0 0) 9 zS ∧ Below w.heap.size w w' := new_ok8 w 9 (by omega) (by omega)

set_option maxRecDepth 100000 in
set_option maxHeartbeats 8000000 in
theorem awake8_any (w : World) : Calls Tryz.prog 15 #[] w fun e w' => e = .returned (.bool true) ∧ Below w.heap.size w w' := by
  have hl6 : BY.length = 6 := by_len
  go_enter Tryz.func15, Tryz.ntmps15
  go_wp2_with fail
  refine (new9 w).mono ?_
  rintro e w1 ⟨b, rfl, hbw, hsd, hb1⟩
  have HBW := hid hbw
  have HSD := hid hsd
  have HB1 := hid hb1
  clear hbw hsd hb1
  go_upto_region 4 with fail
  refine wp_noPanic (wp_region_held_drew (S := fun _ => True) (by kernel_rfl) trivial ?_)
  intro hHeld
  refine wpAnyH_take (i := 0) (v := .pointer (some ⟨b, 0, none⟩)) rfl (by kernel_rfl) (by kernel_rfl) (by kernel_rfl) (fun _ _ _ h => h) (Or.inl ⟨by rfl, fun W _ => by go_simp⟩) hHeld ?_
  simp only [Act.put, List.getElem_toArray, List.getElem_cons_zero, List.setIfInBounds_toArray, List.set_cons_succ, List.set_cons_zero]
  have HSDx := hid (HSD.out.drew 1)
  have HBx := hid (below_then HB1.out (bel_drw w1 1))
  obtain ⟨x, HWX⟩ : ∃ x, Hid (w1.drewN 1 = x) := ⟨_, rfl⟩
  have HWY := hid (show w1.drew = x from HWX.out)
  rw [HWX.out] at HSDx HBx
  rw [HWY.out]
  refine wpAnyH_ready (rs := [1, 10]) (by kernel_rfl) (by simp) ?_
  refine AllReadyH.cons rfl (fun K hK => ?_) (AllReadyH.cons rfl (fun K hK => ?_) AllReadyH.nil)
  · skip
    go_simp
    refine (abye_any x).mono ?_
    rintro e w2 ⟨v19, rfl, ho, hb⟩
    have HSv19 := hid (ho.src (by decide))
    have HLv19 := hid (show ∀ k, v19.ownBlock = some k → k ≠ b from fun k e => by have := (World.ownsRow.lt ho k e).1; have := HSDx.out.kb.lt; omega)
    have HSDw2 := hid (HSDx.out.below hb)
    have HBw2 := hid (below_then HBx.out hb)
    obtain ⟨av19, cv19, ev19⟩ := ho.shape
    rw [hl6] at ev19
    subst ev19
    clear ho hb
    go_wp2_with fail
    refine hK.out _ _ trivial (fun hHeld => ?_)
    clear hK K
    try simp only [Act.put, List.getElem_toArray, List.getElem_cons_zero, List.getElem_cons_succ, List.setIfInBounds_toArray, List.set_cons_succ, List.set_cons_zero]
    obtain ⟨vA, hA1, hAo, hA2⟩ := cut_atb HSv19.out 2 (by decide)
    have HAw2 := hid hA1
    have HAn := hid (show vA.ownBlock ≠ some b from fun e => HLv19.out b (hAo b e) rfl)
    refine wpAnyH_take (i := 2) (v := vA) rfl (by kernel_rfl) (by kernel_rfl) (by kernel_rfl) (fun _ _ _ h => h) (yields_slice (by rfl) 22 (.tmp 19) none (some (.const (.int .i64 2))) none (by rfl) vA (fun W => hA2 W)) hHeld ?_
    simp only [Act.put, List.getElem_toArray, List.getElem_cons_zero, List.getElem_cons_succ, List.setIfInBounds_toArray, List.set_cons_succ, List.set_cons_zero]
    refine wpAnyH_ready (rs := [3, 10]) (by kernel_rfl) (by simp) ?_
    refine AllReadyH.cons rfl (fun K hK => ?_) (AllReadyH.cons rfl (fun K hK => ?_) AllReadyH.nil)
    · skip
      go_simp
      refine (abye_any w2).mono ?_
      rintro e w3 ⟨v21, rfl, ho, hb⟩
      have HSv21 := hid (ho.src (by decide))
      have HLv21 := hid (show ∀ k, v21.ownBlock = some k → k ≠ b from fun k e => by have := (World.ownsRow.lt ho k e).1; have := HSDw2.out.kb.lt; omega)
      have HSDw3 := hid (HSDw2.out.below hb)
      have HBw3 := hid (below_then HBw2.out hb)
      have HAw3 := hid (HAw2.out.below hb)
      obtain ⟨av21, cv21, ev21⟩ := ho.shape
      rw [hl6] at ev21
      subst ev21
      clear ho hb
      go_wp2_with fail
      refine hK.out _ _ trivial (fun hHeld => ?_)
      clear hK K
      try simp only [Act.put, List.getElem_toArray, List.getElem_cons_zero, List.getElem_cons_succ, List.setIfInBounds_toArray, List.set_cons_succ, List.set_cons_zero]
      obtain ⟨vB, hB1, hBo, hB2⟩ := cut_endb HSv21.out 2 (by decide)
      have HCw3 := hid hB1
      have HBn := hid (show vB.ownBlock ≠ some b from fun e => HLv21.out b (hBo b e) rfl)
      refine wpAnyH_take (i := 4) (v := vB) rfl (by kernel_rfl) (by kernel_rfl) (by kernel_rfl) (fun _ _ _ h => h) (yields_slice (by rfl) 22 (.tmp 21) (some (.const (.int .i64 2))) none none (by rfl) vB (fun W => hB2 W)) hHeld ?_
      simp only [Act.put, List.getElem_toArray, List.getElem_cons_zero, List.getElem_cons_succ, List.setIfInBounds_toArray, List.set_cons_succ, List.set_cons_zero]
      refine wpAnyH_ready (rs := [5, 10]) (by kernel_rfl) (by simp) ?_
      refine AllReadyH.cons rfl (fun K hK => ?_) (AllReadyH.cons rfl (fun K hK => ?_) AllReadyH.nil)
      · skip
        obtain ⟨aA, nA, cA, eA⟩ := src_named HAw3.out
        obtain ⟨aB, nB, cB, eB⟩ := src_named HCw3.out
        have HWA := hid (below_walk w3 (.cells #[vA, vB] 22))
        have HLw4 := hid (lsts_two w3 vA vB _ _ HAw3.out HCw3.out)
        have HSDw4 := hid (HSDw3.out.below HWA.out)
        have HBw4 := hid (below_then HBw3.out HWA.out)
        have HLB := hid (HSDw3.out.kb.lt)
        clear hA1 hA2 hB1 hB2 hAo hBo
        subst eA eB
        go_simp
        refine hK.out _ _ trivial (fun hHeld => ?_)
        clear hK K
        try simp only [Act.put, List.getElem_toArray, List.getElem_cons_zero, List.getElem_cons_succ, List.setIfInBounds_toArray, List.set_cons_succ, List.set_cons_zero]
        obtain ⟨B3, HB3e⟩ : ∃ n, Hid (w3.heap.size = n) := ⟨_, rfl⟩
        rw [HB3e.out] at HLw4 HLB
        try rw [HB3e.out]
        generalize w3.alloc (.cells #[.slice aA nA cA, .slice aB nB cB] 22) = w4 at *
        refine wpAnyH_ready (rs := [6, 10]) (by kernel_rfl) (by simp) ?_
        refine AllReadyH.cons rfl (fun K hK => ?_) (AllReadyH.cons rfl (fun K hK => ?_) AllReadyH.nil)
        · skip
          have HFE := hid (kfeed_any HSDw4.out rfl _ _ _ (fun W vd hg => HLw4.out.gd hg (by show some B3 ≠ some b; have := HLB.out; simp; omega) (fun k e e2 => by cases e2) (fun j _ => by match j with | 0 => exact HAn.out | 1 => exact HBn.out | j + 2 => exact (by show nS.ownBlock ≠ some b; intro e; cases e)) (fun j k _ e e2 => by cases e2)) (by decide) (by decide) (by decide))
          rw [run_bye] at HFE
          go_simp
          refine HFE.out.mono ?_
          rintro e w5 ⟨vl, v4, fs, rfl, hof, hsd4, hg4, hm4⟩
          obtain ⟨va, rfl⟩ := map_one hm4
          have HVw5 := hid (show Sd w5 b b v4 9 ⟨[], 6, 1, 0, 0, [6]⟩ from hsd4)
          have HBw5 := hid (Below.trans HBw4.out ((HSDw4.out.low hg4).mono HBW.out))
          have HOw5 := hid hof
          obtain ⟨al, cl, el⟩ := hof.shape
          simp only [List.length_singleton] at el
          subst el
          clear hof hsd4 hg4 hm4 HFE HSDw4 HLw4
          go_wp2_with fail
          refine hK.out _ _ trivial (fun hHeld => ?_)
          clear hK K
          try simp only [Act.put, List.getElem_toArray, List.getElem_cons_zero, List.getElem_cons_succ, List.setIfInBounds_toArray, List.set_cons_succ, List.set_cons_zero]
          refine wpAnyH_take (i := 7) (v := .tuple #[.slice al 1 cl, .agg #[.int .i64 0, .int .i64 0]]) rfl (by kernel_rfl) (by kernel_rfl) (by kernel_rfl) (fun _ _ _ h => h) (Or.inl ⟨by rfl, fun W _ => by go_simp⟩) hHeld ?_
          simp only [Act.put, List.getElem_toArray, List.getElem_cons_zero, List.getElem_cons_succ, List.setIfInBounds_toArray, List.set_cons_succ, List.set_cons_zero]
          refine wpAnyH_take (i := 8) (v := .slice al 1 cl) rfl (by kernel_rfl) (by kernel_rfl) (by kernel_rfl) (fun _ _ _ h => h) (Or.inl ⟨by rfl, fun W _ => by go_simp⟩) hHeld ?_
          simp only [Act.put, List.getElem_toArray, List.getElem_cons_zero, List.getElem_cons_succ, List.setIfInBounds_toArray, List.set_cons_succ, List.set_cons_zero]
          refine wpAnyH_take (i := 9) (v := .agg #[.int .i64 0, .int .i64 0]) rfl (by kernel_rfl) (by kernel_rfl) (by kernel_rfl) (fun _ _ _ h => h) (Or.inl ⟨by rfl, fun W _ => by go_simp⟩) hHeld ?_
          simp only [Act.put, List.getElem_toArray, List.getElem_cons_zero, List.getElem_cons_succ, List.setIfInBounds_toArray, List.set_cons_succ, List.set_cons_zero]
          refine wpAnyH_ready (rs := [10]) (by kernel_rfl) (by simp) ?_
          refine AllReadyH.cons rfl (fun K hK => ?_) AllReadyH.nil
          have HWF := hid (below_walk w5 (.cells #[.int .i64 0, .int .i64 0] 33))
          have HFw6 := hid (hp_new w5 (.cells #[.int .i64 0, .int .i64 0] 33))
          have HVw6 := hid (HVw5.out.below HWF.out)
          have HBw6 := hid (below_then HBw5.out HWF.out)
          have HOw6 := hid (HOw5.out.below HWF.out)
          refine step_alloc_row8 (by rfl) 33 (by rfl) _ zeroFault ?_
          refine hK.out _ _ trivial (fun hHeld => ?_)
          clear hK K
          try simp only [Act.put, List.getElem_toArray, List.getElem_cons_zero, List.getElem_cons_succ, List.setIfInBounds_toArray, List.set_cons_succ, List.set_cons_zero]
          obtain ⟨F, HFe⟩ : ∃ n, Hid (w5.heap.size = n) := ⟨_, rfl⟩
          have HFl := hid HBw5.out.size
          rw [HFe.out] at HFw6 HFl
          try rw [HFe.out]
          generalize w5.alloc (.cells #[.int .i64 0, .int .i64 0] 33) = w6 at *
          refine wpAnyH_take (i := 11) (v := .slice al 1 cl) rfl (by kernel_rfl) (by kernel_rfl) (by kernel_rfl) (fun _ _ _ h => h) (Or.inl ⟨by rfl, fun W _ => by go_simp⟩) hHeld ?_
          simp only [Act.put, List.getElem_toArray, List.getElem_cons_zero, List.getElem_cons_succ, List.setIfInBounds_toArray, List.set_cons_succ, List.set_cons_zero]
          refine wpAnyH_ready (rs := [12]) (by kernel_rfl) (by simp) ?_
          refine AllReadyH.cons rfl (fun K hK => ?_) AllReadyH.nil
          refine step_store_row (by rfl) 33 _ _ (by rfl) F [Value.int .i64 0, .int .i64 0] (by rfl) (by rfl) 33 _ HFw6.out faultSize rfl (fault_one _ _) ?_
          intro wz hwz
          refine hK.out _ _ trivial (fun hHeld => ?_)
          clear hK K
          try simp only [Act.put, List.getElem_toArray, List.getElem_cons_zero, List.getElem_cons_succ]
          refine wpAnyH_done (by kernel_rfl) ?_ _
          simp only [noPanic]
          clear hHeld
          have HFz := hid hwz.blk
          have HBz := hid (Below.of_gb HBw6.out hwz.grown (by have := HFl.out; omega))
          have HVz := hid (HVw6.out.far hwz.grown (fun e => own_blk HVw6.out.kb.blk HFw6.out (by decide) e.symm) (fun k e h9 => own_block HVw6.out.kb.own HFw6.out (by decide) (h9 ▸ e)))
          have HOz := hid (HOw6.out.gone hwz.grown HFw6.out (by decide) (by decide))
          clear hwz
          have HWa := hid (below_walk wz (.cells #[.int .u8 128, .int .u8 0] 5))
          have HSa := hid (src_two wz)
          have HWb := hid (below_walk (wz.alloc (.cells #[.int .u8 128, .int .u8 0] 5)) (.cells #[.slice (some ⟨wz.heap.size, 0, none⟩) 2 2] 22))
          have HLb := hid (lsts_one _ _ _ HSa.out)
          have HVb := hid ((HVz.out.below HWa.out).below HWb.out)
          have HOb := hid ((HOz.out.below HWa.out).below HWb.out)
          have HFb := hid (bel_keep HWb.out (bel_keep HWa.out HFz.out))
          have HBb := hid (below_then (below_then HBz.out HWa.out) HWb.out)
          have HVl := hid HVz.out.kb.lt
          have HVo := hid (fun k e => (World.ownsRow.lt HVz.out.kb.own k e).2)
          have HSz : Hid ((wz.alloc (.cells #[.int .u8 128, .int .u8 0] 5)).heap.size = wz.heap.size + 1) := hid (by simp)
          rw [HSz.out] at HLb
          obtain ⟨Z, HZe⟩ : ∃ n, Hid (wz.heap.size = n) := ⟨_, rfl⟩
          rw [HZe.out] at HLb HVb HOb HFb HBb HVl HVo
          go_wp2_with fail
          try rw [HZe.out]
          generalize (wz.alloc (.cells #[.int .u8 128, .int .u8 0] 5)).alloc (.cells #[.slice (some ⟨Z, 0, none⟩) 2 2] 22) = wb at HLb HVb HOb HFb HBb ⊢
          have HFE := hid (kfeed_any HVb.out rfl _ _ _ (fun W vd hg => HLb.out.gd hg (by show some (Z + 1) ≠ some b; have := HVl.out; simp; omega) (fun k e e2 => by have := HVo.out k e2; simp [Value.ownBlock] at e; omega) (fun j _ => by match j with | 0 => exact (by show some Z ≠ some b; have := HVl.out; simp; omega) | j + 1 => exact (by show nS.ownBlock ≠ some b; intro e; cases e)) (fun j k _ e e2 => by match j, e with | 0, e => (have := HVo.out k e2; simp [Value.ownBlock] at e; omega) | j + 1, e => (cases (show nS.ownBlock = some k from e)))) (by decide) (by decide) (by decide))
          rw [run_bad] at HFE
          refine HFE.out.mono ?_
          rintro e w7 ⟨vl7, v7, fs7, rfl, hof7, hsd7, hg7, hm7⟩
          have HB7 := hid (Below.trans HBb.out ((HVb.out.low hg7).mono HBW.out))
          have HO7 := hid (HOb.out.sd hg7 HVb.out)
          have HF7 := hid ((hg7.block F (hp_lt HFb.out) (own_blk HVb.out.kb.blk HFb.out (by decide)) (fun e => own_block HVb.out.kb.own HFb.out (by decide) e)).trans HFb.out)
          obtain ⟨al7, cl7, el7⟩ := hof7.shape
          subst el7
          clear hof7 hsd7 hg7 hm7 HFE
          have HW8 := hid (below_walk w7 (.cells [Value.int .i64 5, .int .i64 6].toArray 33))
          have HN8 := hid (hp_new w7 (.cells [Value.int .i64 5, .int .i64 6].toArray 33))
          have HB8 := hid (below_then HB7.out HW8.out)
          have HO8 := hid (HO7.out.below HW8.out)
          have HF8 := hid (bel_keep HW8.out HF7.out)
          go_upto_region 6 with (refine st_new (by rfl) 33 _ _ (by rfl) [Value.int .i64 5, .int .i64 6] (by rfl) (by rfl) 33 _ faultSize rfl (fault_one _ _) ?_)
          obtain ⟨Y, HYe⟩ : ∃ n, Hid (w7.heap.size = n) := ⟨_, rfl⟩
          rw [HYe.out] at HN8
          try rw [HYe.out]
          generalize w7.alloc (.cells [Value.int .i64 5, .int .i64 6].toArray 33) = w8 at HW8 HN8 HB8 HO8 HF8 ⊢
          obtain ⟨lg, lo, el, _, hrg, _⟩ := HO8.out.frs.at 0 (by simp)
          subst el
          have k0 : w8.cell? ⟨lg, lo, none⟩ = some (.int .i64 5) := by have := hrg 0 (.int .i64 5) rfl; simpa using this
          have f0 : w8.cell? ⟨F, 0, none⟩ = some (.int .i64 0) := by simp [World.cell?, HF8.out]
          have f1 : w8.cell? ⟨F, 1, none⟩ = some (.int .i64 0) := by simp [World.cell?, HF8.out]
          have g0 : w8.cell? ⟨Y, 0, none⟩ = some (.int .i64 5) := by simp [World.cell?, HN8.out]
          have g1 : w8.cell? ⟨Y, 1, none⟩ = some (.int .i64 6) := by simp [World.cell?, HN8.out]
          have n1 : ∀ W, (binOp .eql 33 (.agg #[.int .i64 0, .int .i64 0]) (.agg #[.int .i64 0, .int .i64 0])).run Tryz.prog W = .ok (.bool true) W := fun W => fault_eql 0 0 0 0 W
          have n2 : ∀ W, (binOp .eql 33 (.agg #[.int .i64 5, .int .i64 6]) (.agg #[.int .i64 5, .int .i64 6])).run Tryz.prog W = .ok (.bool true) W := fun W => fault_eql 5 6 5 6 W
          clear hrg
          go_wp2_with (first
            | (refine bd_row (by rfl) 33 #[] (by rfl) _ (by simp) _ built_fz ?_)
            | (refine bd_row (by rfl) 33 #[(0, .const (.int .i64 5)), (1, .const (.int .i64 6))] (by rfl) _ (by simp [Act.eval]) _ (built_ft _ _) ?_))
          go_ret
          exact ⟨rfl, HB8.out⟩
        · as_aux_lemma =>
            have HWF := hid (below_walk w4 (.cells #[.int .i64 0, .int .i64 0] 33))
            have HFw5 := hid (hp_new w4 (.cells #[.int .i64 0, .int .i64 0] 33))
            have HSDw5 := hid (HSDw4.out.below HWF.out)
            have HBw5 := hid (below_then HBw4.out HWF.out)
            have HLw5 := hid (HLw4.out.below HWF.out)
            refine step_alloc_row8 (by rfl) 33 (by rfl) _ zeroFault ?_
            refine hK.out _ _ trivial (fun hHeld => ?_)
            clear hK K
            try simp only [Act.put, List.getElem_toArray, List.getElem_cons_zero, List.getElem_cons_succ, List.setIfInBounds_toArray, List.set_cons_succ, List.set_cons_zero]
            obtain ⟨F, HFe⟩ : ∃ n, Hid (w4.heap.size = n) := ⟨_, rfl⟩
            have HFl := hid HBw4.out.size
            rw [HFe.out] at HFw5 HFl
            try rw [HFe.out]
            generalize w4.alloc (.cells #[.int .i64 0, .int .i64 0] 33) = w5 at *
            refine wpAnyH_ready (rs := [6]) (by kernel_rfl) (by simp) ?_
            refine AllReadyH.cons rfl (fun K hK => ?_) AllReadyH.nil
            have HFE := hid (kfeed_any HSDw5.out rfl _ _ _ (fun W vd hg => HLw5.out.gd hg (by show some B3 ≠ some b; have := HLB.out; simp; omega) (fun k e e2 => by cases e2) (fun j _ => by match j with | 0 => exact HAn.out | 1 => exact HBn.out | j + 2 => exact (by show nS.ownBlock ≠ some b; intro e; cases e)) (fun j k _ e e2 => by cases e2)) (by decide) (by decide) (by decide))
            rw [run_bye] at HFE
            go_simp
            refine HFE.out.mono ?_
            rintro e w6 ⟨vl, v4, fs, rfl, hof, hsd4, hg4, hm4⟩
            obtain ⟨va, rfl⟩ := map_one hm4
            have HVw6 := hid (show Sd w6 b b v4 9 ⟨[], 6, 1, 0, 0, [6]⟩ from hsd4)
            have HBw6 := hid (Below.trans HBw5.out ((HSDw5.out.low hg4).mono HBW.out))
            have HOw6 := hid hof
            have HFw6 := hid ((hg4.block F (hp_lt HFw5.out) (own_blk HSDw5.out.kb.blk HFw5.out (by decide)) (fun e => by cases e)).trans HFw5.out)
            obtain ⟨al, cl, el⟩ := hof.shape
            simp only [List.length_singleton] at el
            subst el
            clear hof hsd4 hg4 hm4 HFE HSDw5 HLw5
            go_wp2_with fail
            refine hK.out _ _ trivial (fun hHeld => ?_)
            clear hK K
            try simp only [Act.put, List.getElem_toArray, List.getElem_cons_zero, List.getElem_cons_succ, List.setIfInBounds_toArray, List.set_cons_succ, List.set_cons_zero]
            refine wpAnyH_take (i := 7) (v := .tuple #[.slice al 1 cl, .agg #[.int .i64 0, .int .i64 0]]) rfl (by kernel_rfl) (by kernel_rfl) (by kernel_rfl) (fun _ _ _ h => h) (Or.inl ⟨by rfl, fun W _ => by go_simp⟩) hHeld ?_
            simp only [Act.put, List.getElem_toArray, List.getElem_cons_zero, List.getElem_cons_succ, List.setIfInBounds_toArray, List.set_cons_succ, List.set_cons_zero]
            refine wpAnyH_take (i := 8) (v := .slice al 1 cl) rfl (by kernel_rfl) (by kernel_rfl) (by kernel_rfl) (fun _ _ _ h => h) (Or.inl ⟨by rfl, fun W _ => by go_simp⟩) hHeld ?_
            simp only [Act.put, List.getElem_toArray, List.getElem_cons_zero, List.getElem_cons_succ, List.setIfInBounds_toArray, List.set_cons_succ, List.set_cons_zero]
            refine wpAnyH_take (i := 9) (v := .agg #[.int .i64 0, .int .i64 0]) rfl (by kernel_rfl) (by kernel_rfl) (by kernel_rfl) (fun _ _ _ h => h) (Or.inl ⟨by rfl, fun W _ => by go_simp⟩) hHeld ?_
            simp only [Act.put, List.getElem_toArray, List.getElem_cons_zero, List.getElem_cons_succ, List.setIfInBounds_toArray, List.set_cons_succ, List.set_cons_zero]
            refine wpAnyH_take (i := 11) (v := .slice al 1 cl) rfl (by kernel_rfl) (by kernel_rfl) (by kernel_rfl) (fun _ _ _ h => h) (Or.inl ⟨by rfl, fun W _ => by go_simp⟩) hHeld ?_
            simp only [Act.put, List.getElem_toArray, List.getElem_cons_zero, List.getElem_cons_succ, List.setIfInBounds_toArray, List.set_cons_succ, List.set_cons_zero]
            refine wpAnyH_ready (rs := [12]) (by kernel_rfl) (by simp) ?_
            refine AllReadyH.cons rfl (fun K hK => ?_) AllReadyH.nil
            refine step_store_row (by rfl) 33 _ _ (by rfl) F [Value.int .i64 0, .int .i64 0] (by rfl) (by rfl) 33 _ HFw6.out faultSize rfl (fault_one _ _) ?_
            intro wz hwz
            refine hK.out _ _ trivial (fun hHeld => ?_)
            clear hK K
            try simp only [Act.put, List.getElem_toArray, List.getElem_cons_zero, List.getElem_cons_succ]
            refine wpAnyH_done (by kernel_rfl) ?_ _
            simp only [noPanic]
            clear hHeld
            have HFz := hid hwz.blk
            have HBz := hid (Below.of_gb HBw6.out hwz.grown (by have := HFl.out; omega))
            have HVz := hid (HVw6.out.far hwz.grown (fun e => own_blk HVw6.out.kb.blk HFw6.out (by decide) e.symm) (fun k e h9 => own_block HVw6.out.kb.own HFw6.out (by decide) (h9 ▸ e)))
            have HOz := hid (HOw6.out.gone hwz.grown HFw6.out (by decide) (by decide))
            clear hwz
            have HWa := hid (below_walk wz (.cells #[.int .u8 128, .int .u8 0] 5))
            have HSa := hid (src_two wz)
            have HWb := hid (below_walk (wz.alloc (.cells #[.int .u8 128, .int .u8 0] 5)) (.cells #[.slice (some ⟨wz.heap.size, 0, none⟩) 2 2] 22))
            have HLb := hid (lsts_one _ _ _ HSa.out)
            have HVb := hid ((HVz.out.below HWa.out).below HWb.out)
            have HOb := hid ((HOz.out.below HWa.out).below HWb.out)
            have HFb := hid (bel_keep HWb.out (bel_keep HWa.out HFz.out))
            have HBb := hid (below_then (below_then HBz.out HWa.out) HWb.out)
            have HVl := hid HVz.out.kb.lt
            have HVo := hid (fun k e => (World.ownsRow.lt HVz.out.kb.own k e).2)
            have HSz : Hid ((wz.alloc (.cells #[.int .u8 128, .int .u8 0] 5)).heap.size = wz.heap.size + 1) := hid (by simp)
            rw [HSz.out] at HLb
            obtain ⟨Z, HZe⟩ : ∃ n, Hid (wz.heap.size = n) := ⟨_, rfl⟩
            rw [HZe.out] at HLb HVb HOb HFb HBb HVl HVo
            go_wp2_with fail
            try rw [HZe.out]
            generalize (wz.alloc (.cells #[.int .u8 128, .int .u8 0] 5)).alloc (.cells #[.slice (some ⟨Z, 0, none⟩) 2 2] 22) = wb at HLb HVb HOb HFb HBb ⊢
            have HFE := hid (kfeed_any HVb.out rfl _ _ _ (fun W vd hg => HLb.out.gd hg (by show some (Z + 1) ≠ some b; have := HVl.out; simp; omega) (fun k e e2 => by have := HVo.out k e2; simp [Value.ownBlock] at e; omega) (fun j _ => by match j with | 0 => exact (by show some Z ≠ some b; have := HVl.out; simp; omega) | j + 1 => exact (by show nS.ownBlock ≠ some b; intro e; cases e)) (fun j k _ e e2 => by match j, e with | 0, e => (have := HVo.out k e2; simp [Value.ownBlock] at e; omega) | j + 1, e => (cases (show nS.ownBlock = some k from e)))) (by decide) (by decide) (by decide))
            rw [run_bad] at HFE
            refine HFE.out.mono ?_
            rintro e w7 ⟨vl7, v7, fs7, rfl, hof7, hsd7, hg7, hm7⟩
            have HB7 := hid (Below.trans HBb.out ((HVb.out.low hg7).mono HBW.out))
            have HO7 := hid (HOb.out.sd hg7 HVb.out)
            have HF7 := hid ((hg7.block F (hp_lt HFb.out) (own_blk HVb.out.kb.blk HFb.out (by decide)) (fun e => own_block HVb.out.kb.own HFb.out (by decide) e)).trans HFb.out)
            obtain ⟨al7, cl7, el7⟩ := hof7.shape
            subst el7
            clear hof7 hsd7 hg7 hm7 HFE
            have HW8 := hid (below_walk w7 (.cells [Value.int .i64 5, .int .i64 6].toArray 33))
            have HN8 := hid (hp_new w7 (.cells [Value.int .i64 5, .int .i64 6].toArray 33))
            have HB8 := hid (below_then HB7.out HW8.out)
            have HO8 := hid (HO7.out.below HW8.out)
            have HF8 := hid (bel_keep HW8.out HF7.out)
            go_upto_region 6 with (refine st_new (by rfl) 33 _ _ (by rfl) [Value.int .i64 5, .int .i64 6] (by rfl) (by rfl) 33 _ faultSize rfl (fault_one _ _) ?_)
            obtain ⟨Y, HYe⟩ : ∃ n, Hid (w7.heap.size = n) := ⟨_, rfl⟩
            rw [HYe.out] at HN8
            try rw [HYe.out]
            generalize w7.alloc (.cells [Value.int .i64 5, .int .i64 6].toArray 33) = w8 at HW8 HN8 HB8 HO8 HF8 ⊢
            obtain ⟨lg, lo, el, _, hrg, _⟩ := HO8.out.frs.at 0 (by simp)
            subst el
            have k0 : w8.cell? ⟨lg, lo, none⟩ = some (.int .i64 5) := by have := hrg 0 (.int .i64 5) rfl; simpa using this
            have f0 : w8.cell? ⟨F, 0, none⟩ = some (.int .i64 0) := by simp [World.cell?, HF8.out]
            have f1 : w8.cell? ⟨F, 1, none⟩ = some (.int .i64 0) := by simp [World.cell?, HF8.out]
            have g0 : w8.cell? ⟨Y, 0, none⟩ = some (.int .i64 5) := by simp [World.cell?, HN8.out]
            have g1 : w8.cell? ⟨Y, 1, none⟩ = some (.int .i64 6) := by simp [World.cell?, HN8.out]
            have n1 : ∀ W, (binOp .eql 33 (.agg #[.int .i64 0, .int .i64 0]) (.agg #[.int .i64 0, .int .i64 0])).run Tryz.prog W = .ok (.bool true) W := fun W => fault_eql 0 0 0 0 W
            have n2 : ∀ W, (binOp .eql 33 (.agg #[.int .i64 5, .int .i64 6]) (.agg #[.int .i64 5, .int .i64 6])).run Tryz.prog W = .ok (.bool true) W := fun W => fault_eql 5 6 5 6 W
            clear hrg
            go_wp2_with (first
              | (refine bd_row (by rfl) 33 #[] (by rfl) _ (by simp) _ built_fz ?_)
              | (refine bd_row (by rfl) 33 #[(0, .const (.int .i64 5)), (1, .const (.int .i64 6))] (by rfl) _ (by simp [Act.eval]) _ (built_ft _ _) ?_))
            go_ret
            exact ⟨rfl, HB8.out⟩
      · as_aux_lemma =>
          have HWF := hid (below_walk w3 (.cells #[.int .i64 0, .int .i64 0] 33))
          have HFw4 := hid (hp_new w3 (.cells #[.int .i64 0, .int .i64 0] 33))
          have HSDw4 := hid (HSDw3.out.below HWF.out)
          have HBw4 := hid (below_then HBw3.out HWF.out)
          have HAw4 := hid (HAw3.out.below HWF.out)
          have HCw4 := hid (HCw3.out.below HWF.out)
          refine step_alloc_row8 (by rfl) 33 (by rfl) _ zeroFault ?_
          refine hK.out _ _ trivial (fun hHeld => ?_)
          clear hK K
          try simp only [Act.put, List.getElem_toArray, List.getElem_cons_zero, List.getElem_cons_succ, List.setIfInBounds_toArray, List.set_cons_succ, List.set_cons_zero]
          obtain ⟨F, HFe⟩ : ∃ n, Hid (w3.heap.size = n) := ⟨_, rfl⟩
          have HFl := hid HBw3.out.size
          rw [HFe.out] at HFw4 HFl
          try rw [HFe.out]
          generalize w3.alloc (.cells #[.int .i64 0, .int .i64 0] 33) = w4 at *
          refine wpAnyH_ready (rs := [5]) (by kernel_rfl) (by simp) ?_
          refine AllReadyH.cons rfl (fun K hK => ?_) AllReadyH.nil
          obtain ⟨aA, nA, cA, eA⟩ := src_named HAw4.out
          obtain ⟨aB, nB, cB, eB⟩ := src_named HCw4.out
          have HWA := hid (below_walk w4 (.cells #[vA, vB] 22))
          have HLw5 := hid (lsts_two w4 vA vB _ _ HAw4.out HCw4.out)
          have HSDw5 := hid (HSDw4.out.below HWA.out)
          have HBw5 := hid (below_then HBw4.out HWA.out)
          have HLB := hid (HSDw4.out.kb.lt)
          have HFw5 := hid (bel_keep HWA.out HFw4.out)
          clear hA1 hA2 hB1 hB2 hAo hBo
          subst eA eB
          go_simp
          refine hK.out _ _ trivial (fun hHeld => ?_)
          clear hK K
          try simp only [Act.put, List.getElem_toArray, List.getElem_cons_zero, List.getElem_cons_succ, List.setIfInBounds_toArray, List.set_cons_succ, List.set_cons_zero]
          obtain ⟨B3, HB3e⟩ : ∃ n, Hid (w4.heap.size = n) := ⟨_, rfl⟩
          rw [HB3e.out] at HLw5 HLB
          try rw [HB3e.out]
          generalize w4.alloc (.cells #[.slice aA nA cA, .slice aB nB cB] 22) = w5 at *
          refine wpAnyH_ready (rs := [6]) (by kernel_rfl) (by simp) ?_
          refine AllReadyH.cons rfl (fun K hK => ?_) AllReadyH.nil
          have HFE := hid (kfeed_any HSDw5.out rfl _ _ _ (fun W vd hg => HLw5.out.gd hg (by show some B3 ≠ some b; have := HLB.out; simp; omega) (fun k e e2 => by cases e2) (fun j _ => by match j with | 0 => exact HAn.out | 1 => exact HBn.out | j + 2 => exact (by show nS.ownBlock ≠ some b; intro e; cases e)) (fun j k _ e e2 => by cases e2)) (by decide) (by decide) (by decide))
          rw [run_bye] at HFE
          go_simp
          refine HFE.out.mono ?_
          rintro e w6 ⟨vl, v4, fs, rfl, hof, hsd4, hg4, hm4⟩
          obtain ⟨va, rfl⟩ := map_one hm4
          have HVw6 := hid (show Sd w6 b b v4 9 ⟨[], 6, 1, 0, 0, [6]⟩ from hsd4)
          have HBw6 := hid (Below.trans HBw5.out ((HSDw5.out.low hg4).mono HBW.out))
          have HOw6 := hid hof
          have HFw6 := hid ((hg4.block F (hp_lt HFw5.out) (own_blk HSDw5.out.kb.blk HFw5.out (by decide)) (fun e => by cases e)).trans HFw5.out)
          obtain ⟨al, cl, el⟩ := hof.shape
          simp only [List.length_singleton] at el
          subst el
          clear hof hsd4 hg4 hm4 HFE HSDw5 HLw5
          go_wp2_with fail
          refine hK.out _ _ trivial (fun hHeld => ?_)
          clear hK K
          try simp only [Act.put, List.getElem_toArray, List.getElem_cons_zero, List.getElem_cons_succ, List.setIfInBounds_toArray, List.set_cons_succ, List.set_cons_zero]
          refine wpAnyH_take (i := 7) (v := .tuple #[.slice al 1 cl, .agg #[.int .i64 0, .int .i64 0]]) rfl (by kernel_rfl) (by kernel_rfl) (by kernel_rfl) (fun _ _ _ h => h) (Or.inl ⟨by rfl, fun W _ => by go_simp⟩) hHeld ?_
          simp only [Act.put, List.getElem_toArray, List.getElem_cons_zero, List.getElem_cons_succ, List.setIfInBounds_toArray, List.set_cons_succ, List.set_cons_zero]
          refine wpAnyH_take (i := 8) (v := .slice al 1 cl) rfl (by kernel_rfl) (by kernel_rfl) (by kernel_rfl) (fun _ _ _ h => h) (Or.inl ⟨by rfl, fun W _ => by go_simp⟩) hHeld ?_
          simp only [Act.put, List.getElem_toArray, List.getElem_cons_zero, List.getElem_cons_succ, List.setIfInBounds_toArray, List.set_cons_succ, List.set_cons_zero]
          refine wpAnyH_take (i := 9) (v := .agg #[.int .i64 0, .int .i64 0]) rfl (by kernel_rfl) (by kernel_rfl) (by kernel_rfl) (fun _ _ _ h => h) (Or.inl ⟨by rfl, fun W _ => by go_simp⟩) hHeld ?_
          simp only [Act.put, List.getElem_toArray, List.getElem_cons_zero, List.getElem_cons_succ, List.setIfInBounds_toArray, List.set_cons_succ, List.set_cons_zero]
          refine wpAnyH_take (i := 11) (v := .slice al 1 cl) rfl (by kernel_rfl) (by kernel_rfl) (by kernel_rfl) (fun _ _ _ h => h) (Or.inl ⟨by rfl, fun W _ => by go_simp⟩) hHeld ?_
          simp only [Act.put, List.getElem_toArray, List.getElem_cons_zero, List.getElem_cons_succ, List.setIfInBounds_toArray, List.set_cons_succ, List.set_cons_zero]
          refine wpAnyH_ready (rs := [12]) (by kernel_rfl) (by simp) ?_
          refine AllReadyH.cons rfl (fun K hK => ?_) AllReadyH.nil
          refine step_store_row (by rfl) 33 _ _ (by rfl) F [Value.int .i64 0, .int .i64 0] (by rfl) (by rfl) 33 _ HFw6.out faultSize rfl (fault_one _ _) ?_
          intro wz hwz
          refine hK.out _ _ trivial (fun hHeld => ?_)
          clear hK K
          try simp only [Act.put, List.getElem_toArray, List.getElem_cons_zero, List.getElem_cons_succ]
          refine wpAnyH_done (by kernel_rfl) ?_ _
          simp only [noPanic]
          clear hHeld
          have HFz := hid hwz.blk
          have HBz := hid (Below.of_gb HBw6.out hwz.grown (by have := HFl.out; omega))
          have HVz := hid (HVw6.out.far hwz.grown (fun e => own_blk HVw6.out.kb.blk HFw6.out (by decide) e.symm) (fun k e h9 => own_block HVw6.out.kb.own HFw6.out (by decide) (h9 ▸ e)))
          have HOz := hid (HOw6.out.gone hwz.grown HFw6.out (by decide) (by decide))
          clear hwz
          have HWa := hid (below_walk wz (.cells #[.int .u8 128, .int .u8 0] 5))
          have HSa := hid (src_two wz)
          have HWb := hid (below_walk (wz.alloc (.cells #[.int .u8 128, .int .u8 0] 5)) (.cells #[.slice (some ⟨wz.heap.size, 0, none⟩) 2 2] 22))
          have HLb := hid (lsts_one _ _ _ HSa.out)
          have HVb := hid ((HVz.out.below HWa.out).below HWb.out)
          have HOb := hid ((HOz.out.below HWa.out).below HWb.out)
          have HFb := hid (bel_keep HWb.out (bel_keep HWa.out HFz.out))
          have HBb := hid (below_then (below_then HBz.out HWa.out) HWb.out)
          have HVl := hid HVz.out.kb.lt
          have HVo := hid (fun k e => (World.ownsRow.lt HVz.out.kb.own k e).2)
          have HSz : Hid ((wz.alloc (.cells #[.int .u8 128, .int .u8 0] 5)).heap.size = wz.heap.size + 1) := hid (by simp)
          rw [HSz.out] at HLb
          obtain ⟨Z, HZe⟩ : ∃ n, Hid (wz.heap.size = n) := ⟨_, rfl⟩
          rw [HZe.out] at HLb HVb HOb HFb HBb HVl HVo
          go_wp2_with fail
          try rw [HZe.out]
          generalize (wz.alloc (.cells #[.int .u8 128, .int .u8 0] 5)).alloc (.cells #[.slice (some ⟨Z, 0, none⟩) 2 2] 22) = wb at HLb HVb HOb HFb HBb ⊢
          have HFE := hid (kfeed_any HVb.out rfl _ _ _ (fun W vd hg => HLb.out.gd hg (by show some (Z + 1) ≠ some b; have := HVl.out; simp; omega) (fun k e e2 => by have := HVo.out k e2; simp [Value.ownBlock] at e; omega) (fun j _ => by match j with | 0 => exact (by show some Z ≠ some b; have := HVl.out; simp; omega) | j + 1 => exact (by show nS.ownBlock ≠ some b; intro e; cases e)) (fun j k _ e e2 => by match j, e with | 0, e => (have := HVo.out k e2; simp [Value.ownBlock] at e; omega) | j + 1, e => (cases (show nS.ownBlock = some k from e)))) (by decide) (by decide) (by decide))
          rw [run_bad] at HFE
          refine HFE.out.mono ?_
          rintro e w7 ⟨vl7, v7, fs7, rfl, hof7, hsd7, hg7, hm7⟩
          have HB7 := hid (Below.trans HBb.out ((HVb.out.low hg7).mono HBW.out))
          have HO7 := hid (HOb.out.sd hg7 HVb.out)
          have HF7 := hid ((hg7.block F (hp_lt HFb.out) (own_blk HVb.out.kb.blk HFb.out (by decide)) (fun e => own_block HVb.out.kb.own HFb.out (by decide) e)).trans HFb.out)
          obtain ⟨al7, cl7, el7⟩ := hof7.shape
          subst el7
          clear hof7 hsd7 hg7 hm7 HFE
          have HW8 := hid (below_walk w7 (.cells [Value.int .i64 5, .int .i64 6].toArray 33))
          have HN8 := hid (hp_new w7 (.cells [Value.int .i64 5, .int .i64 6].toArray 33))
          have HB8 := hid (below_then HB7.out HW8.out)
          have HO8 := hid (HO7.out.below HW8.out)
          have HF8 := hid (bel_keep HW8.out HF7.out)
          go_upto_region 6 with (refine st_new (by rfl) 33 _ _ (by rfl) [Value.int .i64 5, .int .i64 6] (by rfl) (by rfl) 33 _ faultSize rfl (fault_one _ _) ?_)
          obtain ⟨Y, HYe⟩ : ∃ n, Hid (w7.heap.size = n) := ⟨_, rfl⟩
          rw [HYe.out] at HN8
          try rw [HYe.out]
          generalize w7.alloc (.cells [Value.int .i64 5, .int .i64 6].toArray 33) = w8 at HW8 HN8 HB8 HO8 HF8 ⊢
          obtain ⟨lg, lo, el, _, hrg, _⟩ := HO8.out.frs.at 0 (by simp)
          subst el
          have k0 : w8.cell? ⟨lg, lo, none⟩ = some (.int .i64 5) := by have := hrg 0 (.int .i64 5) rfl; simpa using this
          have f0 : w8.cell? ⟨F, 0, none⟩ = some (.int .i64 0) := by simp [World.cell?, HF8.out]
          have f1 : w8.cell? ⟨F, 1, none⟩ = some (.int .i64 0) := by simp [World.cell?, HF8.out]
          have g0 : w8.cell? ⟨Y, 0, none⟩ = some (.int .i64 5) := by simp [World.cell?, HN8.out]
          have g1 : w8.cell? ⟨Y, 1, none⟩ = some (.int .i64 6) := by simp [World.cell?, HN8.out]
          have n1 : ∀ W, (binOp .eql 33 (.agg #[.int .i64 0, .int .i64 0]) (.agg #[.int .i64 0, .int .i64 0])).run Tryz.prog W = .ok (.bool true) W := fun W => fault_eql 0 0 0 0 W
          have n2 : ∀ W, (binOp .eql 33 (.agg #[.int .i64 5, .int .i64 6]) (.agg #[.int .i64 5, .int .i64 6])).run Tryz.prog W = .ok (.bool true) W := fun W => fault_eql 5 6 5 6 W
          clear hrg
          go_wp2_with (first
            | (refine bd_row (by rfl) 33 #[] (by rfl) _ (by simp) _ built_fz ?_)
            | (refine bd_row (by rfl) 33 #[(0, .const (.int .i64 5)), (1, .const (.int .i64 6))] (by rfl) _ (by simp [Act.eval]) _ (built_ft _ _) ?_))
          go_ret
          exact ⟨rfl, HB8.out⟩
    · as_aux_lemma =>
        have HWF := hid (below_walk w2 (.cells #[.int .i64 0, .int .i64 0] 33))
        have HFw3 := hid (hp_new w2 (.cells #[.int .i64 0, .int .i64 0] 33))
        have HSDw3 := hid (HSDw2.out.below HWF.out)
        have HBw3 := hid (below_then HBw2.out HWF.out)
        have HAw3 := hid (HAw2.out.below HWF.out)
        refine step_alloc_row8 (by rfl) 33 (by rfl) _ zeroFault ?_
        refine hK.out _ _ trivial (fun hHeld => ?_)
        clear hK K
        try simp only [Act.put, List.getElem_toArray, List.getElem_cons_zero, List.getElem_cons_succ, List.setIfInBounds_toArray, List.set_cons_succ, List.set_cons_zero]
        obtain ⟨F, HFe⟩ : ∃ n, Hid (w2.heap.size = n) := ⟨_, rfl⟩
        have HFl := hid HBw2.out.size
        rw [HFe.out] at HFw3 HFl
        try rw [HFe.out]
        generalize w2.alloc (.cells #[.int .i64 0, .int .i64 0] 33) = w3 at *
        refine wpAnyH_ready (rs := [3]) (by kernel_rfl) (by simp) ?_
        refine AllReadyH.cons rfl (fun K hK => ?_) AllReadyH.nil
        go_simp
        refine (abye_any w3).mono ?_
        rintro e w4 ⟨v21, rfl, ho, hb⟩
        have HSv21 := hid (ho.src (by decide))
        have HLv21 := hid (show ∀ k, v21.ownBlock = some k → k ≠ b from fun k e => by have := (World.ownsRow.lt ho k e).1; have := HSDw3.out.kb.lt; omega)
        have HSDw4 := hid (HSDw3.out.below hb)
        have HBw4 := hid (below_then HBw3.out hb)
        have HFw4 := hid (bel_keep hb HFw3.out)
        have HAw4 := hid (HAw3.out.below hb)
        obtain ⟨av21, cv21, ev21⟩ := ho.shape
        rw [hl6] at ev21
        subst ev21
        clear ho hb
        go_wp2_with fail
        refine hK.out _ _ trivial (fun hHeld => ?_)
        clear hK K
        try simp only [Act.put, List.getElem_toArray, List.getElem_cons_zero, List.getElem_cons_succ, List.setIfInBounds_toArray, List.set_cons_succ, List.set_cons_zero]
        obtain ⟨vB, hB1, hBo, hB2⟩ := cut_endb HSv21.out 2 (by decide)
        have HCw4 := hid hB1
        have HBn := hid (show vB.ownBlock ≠ some b from fun e => HLv21.out b (hBo b e) rfl)
        refine wpAnyH_take (i := 4) (v := vB) rfl (by kernel_rfl) (by kernel_rfl) (by kernel_rfl) (fun _ _ _ h => h) (yields_slice (by rfl) 22 (.tmp 21) (some (.const (.int .i64 2))) none none (by rfl) vB (fun W => hB2 W)) hHeld ?_
        simp only [Act.put, List.getElem_toArray, List.getElem_cons_zero, List.getElem_cons_succ, List.setIfInBounds_toArray, List.set_cons_succ, List.set_cons_zero]
        refine wpAnyH_ready (rs := [5]) (by kernel_rfl) (by simp) ?_
        refine AllReadyH.cons rfl (fun K hK => ?_) AllReadyH.nil
        obtain ⟨aA, nA, cA, eA⟩ := src_named HAw4.out
        obtain ⟨aB, nB, cB, eB⟩ := src_named HCw4.out
        have HWA := hid (below_walk w4 (.cells #[vA, vB] 22))
        have HLw5 := hid (lsts_two w4 vA vB _ _ HAw4.out HCw4.out)
        have HSDw5 := hid (HSDw4.out.below HWA.out)
        have HBw5 := hid (below_then HBw4.out HWA.out)
        have HLB := hid (HSDw4.out.kb.lt)
        have HFw5 := hid (bel_keep HWA.out HFw4.out)
        clear hA1 hA2 hB1 hB2 hAo hBo
        subst eA eB
        go_simp
        refine hK.out _ _ trivial (fun hHeld => ?_)
        clear hK K
        try simp only [Act.put, List.getElem_toArray, List.getElem_cons_zero, List.getElem_cons_succ, List.setIfInBounds_toArray, List.set_cons_succ, List.set_cons_zero]
        obtain ⟨B3, HB3e⟩ : ∃ n, Hid (w4.heap.size = n) := ⟨_, rfl⟩
        rw [HB3e.out] at HLw5 HLB
        try rw [HB3e.out]
        generalize w4.alloc (.cells #[.slice aA nA cA, .slice aB nB cB] 22) = w5 at *
        refine wpAnyH_ready (rs := [6]) (by kernel_rfl) (by simp) ?_
        refine AllReadyH.cons rfl (fun K hK => ?_) AllReadyH.nil
        have HFE := hid (kfeed_any HSDw5.out rfl _ _ _ (fun W vd hg => HLw5.out.gd hg (by show some B3 ≠ some b; have := HLB.out; simp; omega) (fun k e e2 => by cases e2) (fun j _ => by match j with | 0 => exact HAn.out | 1 => exact HBn.out | j + 2 => exact (by show nS.ownBlock ≠ some b; intro e; cases e)) (fun j k _ e e2 => by cases e2)) (by decide) (by decide) (by decide))
        rw [run_bye] at HFE
        go_simp
        refine HFE.out.mono ?_
        rintro e w6 ⟨vl, v4, fs, rfl, hof, hsd4, hg4, hm4⟩
        obtain ⟨va, rfl⟩ := map_one hm4
        have HVw6 := hid (show Sd w6 b b v4 9 ⟨[], 6, 1, 0, 0, [6]⟩ from hsd4)
        have HBw6 := hid (Below.trans HBw5.out ((HSDw5.out.low hg4).mono HBW.out))
        have HOw6 := hid hof
        have HFw6 := hid ((hg4.block F (hp_lt HFw5.out) (own_blk HSDw5.out.kb.blk HFw5.out (by decide)) (fun e => by cases e)).trans HFw5.out)
        obtain ⟨al, cl, el⟩ := hof.shape
        simp only [List.length_singleton] at el
        subst el
        clear hof hsd4 hg4 hm4 HFE HSDw5 HLw5
        go_wp2_with fail
        refine hK.out _ _ trivial (fun hHeld => ?_)
        clear hK K
        try simp only [Act.put, List.getElem_toArray, List.getElem_cons_zero, List.getElem_cons_succ, List.setIfInBounds_toArray, List.set_cons_succ, List.set_cons_zero]
        refine wpAnyH_take (i := 7) (v := .tuple #[.slice al 1 cl, .agg #[.int .i64 0, .int .i64 0]]) rfl (by kernel_rfl) (by kernel_rfl) (by kernel_rfl) (fun _ _ _ h => h) (Or.inl ⟨by rfl, fun W _ => by go_simp⟩) hHeld ?_
        simp only [Act.put, List.getElem_toArray, List.getElem_cons_zero, List.getElem_cons_succ, List.setIfInBounds_toArray, List.set_cons_succ, List.set_cons_zero]
        refine wpAnyH_take (i := 8) (v := .slice al 1 cl) rfl (by kernel_rfl) (by kernel_rfl) (by kernel_rfl) (fun _ _ _ h => h) (Or.inl ⟨by rfl, fun W _ => by go_simp⟩) hHeld ?_
        simp only [Act.put, List.getElem_toArray, List.getElem_cons_zero, List.getElem_cons_succ, List.setIfInBounds_toArray, List.set_cons_succ, List.set_cons_zero]
        refine wpAnyH_take (i := 9) (v := .agg #[.int .i64 0, .int .i64 0]) rfl (by kernel_rfl) (by kernel_rfl) (by kernel_rfl) (fun _ _ _ h => h) (Or.inl ⟨by rfl, fun W _ => by go_simp⟩) hHeld ?_
        simp only [Act.put, List.getElem_toArray, List.getElem_cons_zero, List.getElem_cons_succ, List.setIfInBounds_toArray, List.set_cons_succ, List.set_cons_zero]
        refine wpAnyH_take (i := 11) (v := .slice al 1 cl) rfl (by kernel_rfl) (by kernel_rfl) (by kernel_rfl) (fun _ _ _ h => h) (Or.inl ⟨by rfl, fun W _ => by go_simp⟩) hHeld ?_
        simp only [Act.put, List.getElem_toArray, List.getElem_cons_zero, List.getElem_cons_succ, List.setIfInBounds_toArray, List.set_cons_succ, List.set_cons_zero]
        refine wpAnyH_ready (rs := [12]) (by kernel_rfl) (by simp) ?_
        refine AllReadyH.cons rfl (fun K hK => ?_) AllReadyH.nil
        refine step_store_row (by rfl) 33 _ _ (by rfl) F [Value.int .i64 0, .int .i64 0] (by rfl) (by rfl) 33 _ HFw6.out faultSize rfl (fault_one _ _) ?_
        intro wz hwz
        refine hK.out _ _ trivial (fun hHeld => ?_)
        clear hK K
        try simp only [Act.put, List.getElem_toArray, List.getElem_cons_zero, List.getElem_cons_succ]
        refine wpAnyH_done (by kernel_rfl) ?_ _
        simp only [noPanic]
        clear hHeld
        have HFz := hid hwz.blk
        have HBz := hid (Below.of_gb HBw6.out hwz.grown (by have := HFl.out; omega))
        have HVz := hid (HVw6.out.far hwz.grown (fun e => own_blk HVw6.out.kb.blk HFw6.out (by decide) e.symm) (fun k e h9 => own_block HVw6.out.kb.own HFw6.out (by decide) (h9 ▸ e)))
        have HOz := hid (HOw6.out.gone hwz.grown HFw6.out (by decide) (by decide))
        clear hwz
        have HWa := hid (below_walk wz (.cells #[.int .u8 128, .int .u8 0] 5))
        have HSa := hid (src_two wz)
        have HWb := hid (below_walk (wz.alloc (.cells #[.int .u8 128, .int .u8 0] 5)) (.cells #[.slice (some ⟨wz.heap.size, 0, none⟩) 2 2] 22))
        have HLb := hid (lsts_one _ _ _ HSa.out)
        have HVb := hid ((HVz.out.below HWa.out).below HWb.out)
        have HOb := hid ((HOz.out.below HWa.out).below HWb.out)
        have HFb := hid (bel_keep HWb.out (bel_keep HWa.out HFz.out))
        have HBb := hid (below_then (below_then HBz.out HWa.out) HWb.out)
        have HVl := hid HVz.out.kb.lt
        have HVo := hid (fun k e => (World.ownsRow.lt HVz.out.kb.own k e).2)
        have HSz : Hid ((wz.alloc (.cells #[.int .u8 128, .int .u8 0] 5)).heap.size = wz.heap.size + 1) := hid (by simp)
        rw [HSz.out] at HLb
        obtain ⟨Z, HZe⟩ : ∃ n, Hid (wz.heap.size = n) := ⟨_, rfl⟩
        rw [HZe.out] at HLb HVb HOb HFb HBb HVl HVo
        go_wp2_with fail
        try rw [HZe.out]
        generalize (wz.alloc (.cells #[.int .u8 128, .int .u8 0] 5)).alloc (.cells #[.slice (some ⟨Z, 0, none⟩) 2 2] 22) = wb at HLb HVb HOb HFb HBb ⊢
        have HFE := hid (kfeed_any HVb.out rfl _ _ _ (fun W vd hg => HLb.out.gd hg (by show some (Z + 1) ≠ some b; have := HVl.out; simp; omega) (fun k e e2 => by have := HVo.out k e2; simp [Value.ownBlock] at e; omega) (fun j _ => by match j with | 0 => exact (by show some Z ≠ some b; have := HVl.out; simp; omega) | j + 1 => exact (by show nS.ownBlock ≠ some b; intro e; cases e)) (fun j k _ e e2 => by match j, e with | 0, e => (have := HVo.out k e2; simp [Value.ownBlock] at e; omega) | j + 1, e => (cases (show nS.ownBlock = some k from e)))) (by decide) (by decide) (by decide))
        rw [run_bad] at HFE
        refine HFE.out.mono ?_
        rintro e w7 ⟨vl7, v7, fs7, rfl, hof7, hsd7, hg7, hm7⟩
        have HB7 := hid (Below.trans HBb.out ((HVb.out.low hg7).mono HBW.out))
        have HO7 := hid (HOb.out.sd hg7 HVb.out)
        have HF7 := hid ((hg7.block F (hp_lt HFb.out) (own_blk HVb.out.kb.blk HFb.out (by decide)) (fun e => own_block HVb.out.kb.own HFb.out (by decide) e)).trans HFb.out)
        obtain ⟨al7, cl7, el7⟩ := hof7.shape
        subst el7
        clear hof7 hsd7 hg7 hm7 HFE
        have HW8 := hid (below_walk w7 (.cells [Value.int .i64 5, .int .i64 6].toArray 33))
        have HN8 := hid (hp_new w7 (.cells [Value.int .i64 5, .int .i64 6].toArray 33))
        have HB8 := hid (below_then HB7.out HW8.out)
        have HO8 := hid (HO7.out.below HW8.out)
        have HF8 := hid (bel_keep HW8.out HF7.out)
        go_upto_region 6 with (refine st_new (by rfl) 33 _ _ (by rfl) [Value.int .i64 5, .int .i64 6] (by rfl) (by rfl) 33 _ faultSize rfl (fault_one _ _) ?_)
        obtain ⟨Y, HYe⟩ : ∃ n, Hid (w7.heap.size = n) := ⟨_, rfl⟩
        rw [HYe.out] at HN8
        try rw [HYe.out]
        generalize w7.alloc (.cells [Value.int .i64 5, .int .i64 6].toArray 33) = w8 at HW8 HN8 HB8 HO8 HF8 ⊢
        obtain ⟨lg, lo, el, _, hrg, _⟩ := HO8.out.frs.at 0 (by simp)
        subst el
        have k0 : w8.cell? ⟨lg, lo, none⟩ = some (.int .i64 5) := by have := hrg 0 (.int .i64 5) rfl; simpa using this
        have f0 : w8.cell? ⟨F, 0, none⟩ = some (.int .i64 0) := by simp [World.cell?, HF8.out]
        have f1 : w8.cell? ⟨F, 1, none⟩ = some (.int .i64 0) := by simp [World.cell?, HF8.out]
        have g0 : w8.cell? ⟨Y, 0, none⟩ = some (.int .i64 5) := by simp [World.cell?, HN8.out]
        have g1 : w8.cell? ⟨Y, 1, none⟩ = some (.int .i64 6) := by simp [World.cell?, HN8.out]
        have n1 : ∀ W, (binOp .eql 33 (.agg #[.int .i64 0, .int .i64 0]) (.agg #[.int .i64 0, .int .i64 0])).run Tryz.prog W = .ok (.bool true) W := fun W => fault_eql 0 0 0 0 W
        have n2 : ∀ W, (binOp .eql 33 (.agg #[.int .i64 5, .int .i64 6]) (.agg #[.int .i64 5, .int .i64 6])).run Tryz.prog W = .ok (.bool true) W := fun W => fault_eql 5 6 5 6 W
        clear hrg
        go_wp2_with (first
          | (refine bd_row (by rfl) 33 #[] (by rfl) _ (by simp) _ built_fz ?_)
          | (refine bd_row (by rfl) 33 #[(0, .const (.int .i64 5)), (1, .const (.int .i64 6))] (by rfl) _ (by simp [Act.eval]) _ (built_ft _ _) ?_))
        go_ret
        exact ⟨rfl, HB8.out⟩
  · as_aux_lemma =>
      have HWF := hid (below_walk x (.cells #[.int .i64 0, .int .i64 0] 33))
      have HFw2 := hid (hp_new x (.cells #[.int .i64 0, .int .i64 0] 33))
      have HSDw2 := hid (HSDx.out.below HWF.out)
      have HBw2 := hid (below_then HBx.out HWF.out)
      refine step_alloc_row8 (by rfl) 33 (by rfl) _ zeroFault ?_
      refine hK.out _ _ trivial (fun hHeld => ?_)
      clear hK K
      try simp only [Act.put, List.getElem_toArray, List.getElem_cons_zero, List.getElem_cons_succ, List.setIfInBounds_toArray, List.set_cons_succ, List.set_cons_zero]
      obtain ⟨F, HFe⟩ : ∃ n, Hid (x.heap.size = n) := ⟨_, rfl⟩
      have HFl := hid HBx.out.size
      rw [HFe.out] at HFw2 HFl
      try rw [HFe.out]
      generalize x.alloc (.cells #[.int .i64 0, .int .i64 0] 33) = w2 at *
      refine wpAnyH_ready (rs := [1]) (by kernel_rfl) (by simp) ?_
      refine AllReadyH.cons rfl (fun K hK => ?_) AllReadyH.nil
      go_simp
      refine (abye_any w2).mono ?_
      rintro e w3 ⟨v19, rfl, ho, hb⟩
      have HSv19 := hid (ho.src (by decide))
      have HLv19 := hid (show ∀ k, v19.ownBlock = some k → k ≠ b from fun k e => by have := (World.ownsRow.lt ho k e).1; have := HSDw2.out.kb.lt; omega)
      have HSDw3 := hid (HSDw2.out.below hb)
      have HBw3 := hid (below_then HBw2.out hb)
      have HFw3 := hid (bel_keep hb HFw2.out)
      obtain ⟨av19, cv19, ev19⟩ := ho.shape
      rw [hl6] at ev19
      subst ev19
      clear ho hb
      go_wp2_with fail
      refine hK.out _ _ trivial (fun hHeld => ?_)
      clear hK K
      try simp only [Act.put, List.getElem_toArray, List.getElem_cons_zero, List.getElem_cons_succ, List.setIfInBounds_toArray, List.set_cons_succ, List.set_cons_zero]
      obtain ⟨vA, hA1, hAo, hA2⟩ := cut_atb HSv19.out 2 (by decide)
      have HAw3 := hid hA1
      have HAn := hid (show vA.ownBlock ≠ some b from fun e => HLv19.out b (hAo b e) rfl)
      refine wpAnyH_take (i := 2) (v := vA) rfl (by kernel_rfl) (by kernel_rfl) (by kernel_rfl) (fun _ _ _ h => h) (yields_slice (by rfl) 22 (.tmp 19) none (some (.const (.int .i64 2))) none (by rfl) vA (fun W => hA2 W)) hHeld ?_
      simp only [Act.put, List.getElem_toArray, List.getElem_cons_zero, List.getElem_cons_succ, List.setIfInBounds_toArray, List.set_cons_succ, List.set_cons_zero]
      refine wpAnyH_ready (rs := [3]) (by kernel_rfl) (by simp) ?_
      refine AllReadyH.cons rfl (fun K hK => ?_) AllReadyH.nil
      go_simp
      refine (abye_any w3).mono ?_
      rintro e w4 ⟨v21, rfl, ho, hb⟩
      have HSv21 := hid (ho.src (by decide))
      have HLv21 := hid (show ∀ k, v21.ownBlock = some k → k ≠ b from fun k e => by have := (World.ownsRow.lt ho k e).1; have := HSDw3.out.kb.lt; omega)
      have HSDw4 := hid (HSDw3.out.below hb)
      have HBw4 := hid (below_then HBw3.out hb)
      have HFw4 := hid (bel_keep hb HFw3.out)
      have HAw4 := hid (HAw3.out.below hb)
      obtain ⟨av21, cv21, ev21⟩ := ho.shape
      rw [hl6] at ev21
      subst ev21
      clear ho hb
      go_wp2_with fail
      refine hK.out _ _ trivial (fun hHeld => ?_)
      clear hK K
      try simp only [Act.put, List.getElem_toArray, List.getElem_cons_zero, List.getElem_cons_succ, List.setIfInBounds_toArray, List.set_cons_succ, List.set_cons_zero]
      obtain ⟨vB, hB1, hBo, hB2⟩ := cut_endb HSv21.out 2 (by decide)
      have HCw4 := hid hB1
      have HBn := hid (show vB.ownBlock ≠ some b from fun e => HLv21.out b (hBo b e) rfl)
      refine wpAnyH_take (i := 4) (v := vB) rfl (by kernel_rfl) (by kernel_rfl) (by kernel_rfl) (fun _ _ _ h => h) (yields_slice (by rfl) 22 (.tmp 21) (some (.const (.int .i64 2))) none none (by rfl) vB (fun W => hB2 W)) hHeld ?_
      simp only [Act.put, List.getElem_toArray, List.getElem_cons_zero, List.getElem_cons_succ, List.setIfInBounds_toArray, List.set_cons_succ, List.set_cons_zero]
      refine wpAnyH_ready (rs := [5]) (by kernel_rfl) (by simp) ?_
      refine AllReadyH.cons rfl (fun K hK => ?_) AllReadyH.nil
      obtain ⟨aA, nA, cA, eA⟩ := src_named HAw4.out
      obtain ⟨aB, nB, cB, eB⟩ := src_named HCw4.out
      have HWA := hid (below_walk w4 (.cells #[vA, vB] 22))
      have HLw5 := hid (lsts_two w4 vA vB _ _ HAw4.out HCw4.out)
      have HSDw5 := hid (HSDw4.out.below HWA.out)
      have HBw5 := hid (below_then HBw4.out HWA.out)
      have HLB := hid (HSDw4.out.kb.lt)
      have HFw5 := hid (bel_keep HWA.out HFw4.out)
      clear hA1 hA2 hB1 hB2 hAo hBo
      subst eA eB
      go_simp
      refine hK.out _ _ trivial (fun hHeld => ?_)
      clear hK K
      try simp only [Act.put, List.getElem_toArray, List.getElem_cons_zero, List.getElem_cons_succ, List.setIfInBounds_toArray, List.set_cons_succ, List.set_cons_zero]
      obtain ⟨B3, HB3e⟩ : ∃ n, Hid (w4.heap.size = n) := ⟨_, rfl⟩
      rw [HB3e.out] at HLw5 HLB
      try rw [HB3e.out]
      generalize w4.alloc (.cells #[.slice aA nA cA, .slice aB nB cB] 22) = w5 at *
      refine wpAnyH_ready (rs := [6]) (by kernel_rfl) (by simp) ?_
      refine AllReadyH.cons rfl (fun K hK => ?_) AllReadyH.nil
      have HFE := hid (kfeed_any HSDw5.out rfl _ _ _ (fun W vd hg => HLw5.out.gd hg (by show some B3 ≠ some b; have := HLB.out; simp; omega) (fun k e e2 => by cases e2) (fun j _ => by match j with | 0 => exact HAn.out | 1 => exact HBn.out | j + 2 => exact (by show nS.ownBlock ≠ some b; intro e; cases e)) (fun j k _ e e2 => by cases e2)) (by decide) (by decide) (by decide))
      rw [run_bye] at HFE
      go_simp
      refine HFE.out.mono ?_
      rintro e w6 ⟨vl, v4, fs, rfl, hof, hsd4, hg4, hm4⟩
      obtain ⟨va, rfl⟩ := map_one hm4
      have HVw6 := hid (show Sd w6 b b v4 9 ⟨[], 6, 1, 0, 0, [6]⟩ from hsd4)
      have HBw6 := hid (Below.trans HBw5.out ((HSDw5.out.low hg4).mono HBW.out))
      have HOw6 := hid hof
      have HFw6 := hid ((hg4.block F (hp_lt HFw5.out) (own_blk HSDw5.out.kb.blk HFw5.out (by decide)) (fun e => by cases e)).trans HFw5.out)
      obtain ⟨al, cl, el⟩ := hof.shape
      simp only [List.length_singleton] at el
      subst el
      clear hof hsd4 hg4 hm4 HFE HSDw5 HLw5
      go_wp2_with fail
      refine hK.out _ _ trivial (fun hHeld => ?_)
      clear hK K
      try simp only [Act.put, List.getElem_toArray, List.getElem_cons_zero, List.getElem_cons_succ, List.setIfInBounds_toArray, List.set_cons_succ, List.set_cons_zero]
      refine wpAnyH_take (i := 7) (v := .tuple #[.slice al 1 cl, .agg #[.int .i64 0, .int .i64 0]]) rfl (by kernel_rfl) (by kernel_rfl) (by kernel_rfl) (fun _ _ _ h => h) (Or.inl ⟨by rfl, fun W _ => by go_simp⟩) hHeld ?_
      simp only [Act.put, List.getElem_toArray, List.getElem_cons_zero, List.getElem_cons_succ, List.setIfInBounds_toArray, List.set_cons_succ, List.set_cons_zero]
      refine wpAnyH_take (i := 8) (v := .slice al 1 cl) rfl (by kernel_rfl) (by kernel_rfl) (by kernel_rfl) (fun _ _ _ h => h) (Or.inl ⟨by rfl, fun W _ => by go_simp⟩) hHeld ?_
      simp only [Act.put, List.getElem_toArray, List.getElem_cons_zero, List.getElem_cons_succ, List.setIfInBounds_toArray, List.set_cons_succ, List.set_cons_zero]
      refine wpAnyH_take (i := 9) (v := .agg #[.int .i64 0, .int .i64 0]) rfl (by kernel_rfl) (by kernel_rfl) (by kernel_rfl) (fun _ _ _ h => h) (Or.inl ⟨by rfl, fun W _ => by go_simp⟩) hHeld ?_
      simp only [Act.put, List.getElem_toArray, List.getElem_cons_zero, List.getElem_cons_succ, List.setIfInBounds_toArray, List.set_cons_succ, List.set_cons_zero]
      refine wpAnyH_take (i := 11) (v := .slice al 1 cl) rfl (by kernel_rfl) (by kernel_rfl) (by kernel_rfl) (fun _ _ _ h => h) (Or.inl ⟨by rfl, fun W _ => by go_simp⟩) hHeld ?_
      simp only [Act.put, List.getElem_toArray, List.getElem_cons_zero, List.getElem_cons_succ, List.setIfInBounds_toArray, List.set_cons_succ, List.set_cons_zero]
      refine wpAnyH_ready (rs := [12]) (by kernel_rfl) (by simp) ?_
      refine AllReadyH.cons rfl (fun K hK => ?_) AllReadyH.nil
      refine step_store_row (by rfl) 33 _ _ (by rfl) F [Value.int .i64 0, .int .i64 0] (by rfl) (by rfl) 33 _ HFw6.out faultSize rfl (fault_one _ _) ?_
      intro wz hwz
      refine hK.out _ _ trivial (fun hHeld => ?_)
      clear hK K
      try simp only [Act.put, List.getElem_toArray, List.getElem_cons_zero, List.getElem_cons_succ]
      refine wpAnyH_done (by kernel_rfl) ?_ _
      simp only [noPanic]
      clear hHeld
      have HFz := hid hwz.blk
      have HBz := hid (Below.of_gb HBw6.out hwz.grown (by have := HFl.out; omega))
      have HVz := hid (HVw6.out.far hwz.grown (fun e => own_blk HVw6.out.kb.blk HFw6.out (by decide) e.symm) (fun k e h9 => own_block HVw6.out.kb.own HFw6.out (by decide) (h9 ▸ e)))
      have HOz := hid (HOw6.out.gone hwz.grown HFw6.out (by decide) (by decide))
      clear hwz
      have HWa := hid (below_walk wz (.cells #[.int .u8 128, .int .u8 0] 5))
      have HSa := hid (src_two wz)
      have HWb := hid (below_walk (wz.alloc (.cells #[.int .u8 128, .int .u8 0] 5)) (.cells #[.slice (some ⟨wz.heap.size, 0, none⟩) 2 2] 22))
      have HLb := hid (lsts_one _ _ _ HSa.out)
      have HVb := hid ((HVz.out.below HWa.out).below HWb.out)
      have HOb := hid ((HOz.out.below HWa.out).below HWb.out)
      have HFb := hid (bel_keep HWb.out (bel_keep HWa.out HFz.out))
      have HBb := hid (below_then (below_then HBz.out HWa.out) HWb.out)
      have HVl := hid HVz.out.kb.lt
      have HVo := hid (fun k e => (World.ownsRow.lt HVz.out.kb.own k e).2)
      have HSz : Hid ((wz.alloc (.cells #[.int .u8 128, .int .u8 0] 5)).heap.size = wz.heap.size + 1) := hid (by simp)
      rw [HSz.out] at HLb
      obtain ⟨Z, HZe⟩ : ∃ n, Hid (wz.heap.size = n) := ⟨_, rfl⟩
      rw [HZe.out] at HLb HVb HOb HFb HBb HVl HVo
      go_wp2_with fail
      try rw [HZe.out]
      generalize (wz.alloc (.cells #[.int .u8 128, .int .u8 0] 5)).alloc (.cells #[.slice (some ⟨Z, 0, none⟩) 2 2] 22) = wb at HLb HVb HOb HFb HBb ⊢
      have HFE := hid (kfeed_any HVb.out rfl _ _ _ (fun W vd hg => HLb.out.gd hg (by show some (Z + 1) ≠ some b; have := HVl.out; simp; omega) (fun k e e2 => by have := HVo.out k e2; simp [Value.ownBlock] at e; omega) (fun j _ => by match j with | 0 => exact (by show some Z ≠ some b; have := HVl.out; simp; omega) | j + 1 => exact (by show nS.ownBlock ≠ some b; intro e; cases e)) (fun j k _ e e2 => by match j, e with | 0, e => (have := HVo.out k e2; simp [Value.ownBlock] at e; omega) | j + 1, e => (cases (show nS.ownBlock = some k from e)))) (by decide) (by decide) (by decide))
      rw [run_bad] at HFE
      refine HFE.out.mono ?_
      rintro e w7 ⟨vl7, v7, fs7, rfl, hof7, hsd7, hg7, hm7⟩
      have HB7 := hid (Below.trans HBb.out ((HVb.out.low hg7).mono HBW.out))
      have HO7 := hid (HOb.out.sd hg7 HVb.out)
      have HF7 := hid ((hg7.block F (hp_lt HFb.out) (own_blk HVb.out.kb.blk HFb.out (by decide)) (fun e => own_block HVb.out.kb.own HFb.out (by decide) e)).trans HFb.out)
      obtain ⟨al7, cl7, el7⟩ := hof7.shape
      subst el7
      clear hof7 hsd7 hg7 hm7 HFE
      have HW8 := hid (below_walk w7 (.cells [Value.int .i64 5, .int .i64 6].toArray 33))
      have HN8 := hid (hp_new w7 (.cells [Value.int .i64 5, .int .i64 6].toArray 33))
      have HB8 := hid (below_then HB7.out HW8.out)
      have HO8 := hid (HO7.out.below HW8.out)
      have HF8 := hid (bel_keep HW8.out HF7.out)
      go_upto_region 6 with (refine st_new (by rfl) 33 _ _ (by rfl) [Value.int .i64 5, .int .i64 6] (by rfl) (by rfl) 33 _ faultSize rfl (fault_one _ _) ?_)
      obtain ⟨Y, HYe⟩ : ∃ n, Hid (w7.heap.size = n) := ⟨_, rfl⟩
      rw [HYe.out] at HN8
      try rw [HYe.out]
      generalize w7.alloc (.cells [Value.int .i64 5, .int .i64 6].toArray 33) = w8 at HW8 HN8 HB8 HO8 HF8 ⊢
      obtain ⟨lg, lo, el, _, hrg, _⟩ := HO8.out.frs.at 0 (by simp)
      subst el
      have k0 : w8.cell? ⟨lg, lo, none⟩ = some (.int .i64 5) := by have := hrg 0 (.int .i64 5) rfl; simpa using this
      have f0 : w8.cell? ⟨F, 0, none⟩ = some (.int .i64 0) := by simp [World.cell?, HF8.out]
      have f1 : w8.cell? ⟨F, 1, none⟩ = some (.int .i64 0) := by simp [World.cell?, HF8.out]
      have g0 : w8.cell? ⟨Y, 0, none⟩ = some (.int .i64 5) := by simp [World.cell?, HN8.out]
      have g1 : w8.cell? ⟨Y, 1, none⟩ = some (.int .i64 6) := by simp [World.cell?, HN8.out]
      have n1 : ∀ W, (binOp .eql 33 (.agg #[.int .i64 0, .int .i64 0]) (.agg #[.int .i64 0, .int .i64 0])).run Tryz.prog W = .ok (.bool true) W := fun W => fault_eql 0 0 0 0 W
      have n2 : ∀ W, (binOp .eql 33 (.agg #[.int .i64 5, .int .i64 6]) (.agg #[.int .i64 5, .int .i64 6])).run Tryz.prog W = .ok (.bool true) W := fun W => fault_eql 5 6 5 6 W
      clear hrg
      go_wp2_with (first
        | (refine bd_row (by rfl) 33 #[] (by rfl) _ (by simp) _ built_fz ?_)
        | (refine bd_row (by rfl) 33 #[(0, .const (.int .i64 5)), (1, .const (.int .i64 6))] (by rfl) _ (by simp [Act.eval]) _ (built_ft _ _) ?_))
      go_ret
      exact ⟨rfl, HB8.out⟩
end Go.Proofs.YtiibhccbbpgehaaGreat

/- A region that draws its order: what is held may be made more on the way. Frames that lie apart from what grew. -/
namespace Go.Proofs.YtiibhccbbpgehaaGreat
open Go.RowKit Go.BigFrame

theorem wpAnyH_turn {P : Program} {md : Region.Mode} {ops : Array Oper} {Q : Exit → Act → World → Prop} {S S' : World → Prop} (hS : ∀ W, S' W → S W) : ∀ (fuel : Nat) (listed : Array Bool) (a : Act) (w : World), wpAnyH P md ops Q S' fuel listed a w → wpAnyH P md ops Q S fuel listed a w
  | 0, _, _, _, h => h
  | fuel + 1, _, _, _, h => ⟨h.1, fun i hi => wpOp_mono (fun a' w' h' => ⟨hS w' h'.1, wpAnyH_turn hS fuel _ a' w' h'.2⟩) (h.2 i hi)⟩
theorem unguard8 {P : Program} {ops : Array Oper} {Q : Exit → Act → World → Prop} {a : Act} {w : World} {rest : List Oper} {d : Option Tmp} {op : Op} {ty : TypeId} {pos : String} {af : Array Edge} {g : Option (Nat × Bool)}
    (hw : Region.wanted ⟨d, op, ty, pos, af, g⟩ (yielded ops a.tmps) = true) (h : wpList P ops Q (⟨d, op, ty, pos, af, none⟩ :: rest) a w) : wpList P ops Q (⟨d, op, ty, pos, af, g⟩ :: rest) a w := by
  have hn : Region.wanted ⟨d, op, ty, pos, af, none⟩ (yielded ops a.tmps) = true := by simp [Region.wanted]
  simp only [wpList] at h ⊢
  rw [if_pos hn] at h
  rw [if_pos hw]
  exact h

/-- frames and their texts all lie below N -/
def Low (N : Nat) (v : Value) (fs : List FV) : Prop := (∀ k, v.ownBlock = some k → k < N) ∧ ∀ f ∈ fs, ∀ k, f.2.ownBlock = some k → k < N
theorem OFs.low {w : World} {lo : Nat} {v : Value} {fs : List FV} (h : OFs w lo v fs) : Low w.heap.size v fs :=
  ⟨fun k e => (World.ownsRow.lt h.own k e).2, fun f hf k e => (World.ownsRow.lt (h.each f hf).1 k e).2⟩
theorem OFs.off {w w' : World} {lo N : Nat} {v : Value} {row : Option Nat} {fs : List FV} (h : OFs w lo v fs) (hl : Low N v fs) (g : w.grownBy w' row) (hn : ∀ k, row = some k → N ≤ k) : OFs w' lo v fs := by
  have key : ∀ {t : TypeId} {sz m : Nat} {u : Value} {ys : List Value}, w.ownsRow lo t sz u m ys → (∀ k, u.ownBlock = some k → k < N) → w'.ownsRow lo t sz u m ys := by
    intro t sz m u ys hu hb
    refine World.ownsRow.kept hu g ?_
    cases hk : u.ownBlock with
    | none => exact Or.inl rfl
    | some k => exact Or.inr (fun h9 => by have := hb k hk; have := hn k h9.symm; omega)
  exact ⟨key h.own hl.1, fun f hf => ⟨key (h.each f hf).1 (hl.2 f hf), (h.each f hf).2⟩⟩
theorem gb_blk {w w' : World} {row : Option Nat} {b : Nat} {o : Obj} (hb : w.heap[b]? = some o) (g : w.grownBy w' row) (hn : row ≠ some b) : w'.heap[b]? = some o :=
  (g.block b (hp_lt hb) (fun e => hn e.symm)).trans hb
theorem cuts_split (bs : List UInt8) (T H N : Nat) (hH : H ≤ N) : (bs.drop T).take (T + H - T) ++ (bs.drop (T + H)).take (T + N - (T + H)) = (bs.drop T).take N := by
  rw [show T + H - T = H by omega, show T + N - (T + H) = N - H by omega, ← List.drop_drop]
  have e : (bs.drop T).take N = ((bs.drop T).take H) ++ ((bs.drop T).drop H).take (N - H) := by
    rw [← List.take_add, show H + (N - H) = N by omega]
  rw [e]
theorem Below.of_gbo {w w1 w2 : World} {row : Option Nat} (h : Below w.heap.size w w1) (g : w1.grownBy w2 row) (hr : ∀ k, row = some k → w.heap.size ≤ k) : Below w.heap.size w w2 :=
  ⟨g.os.trans h.os, g.tape.trans h.tape, g.output.trans h.output, Nat.le_trans h.size g.size, fun k hk => (g.block k (Nat.lt_of_lt_of_le hk h.size) (fun e => by have := hr k e.symm; omega)).trans (h.block k hk)⟩
end Go.Proofs.YtiibhccbbpgehaaGreat

/- The document's Same of frames that are alike. -/
namespace Go.Proofs.YtiibhccbbpgehaaGreat
open Go.RowKit Go.BigFrame

theorem map_at {fs gs : List FV} (h : fs.map (·.1) = gs.map (·.1)) (k : Nat) : (fs.getD k zFV).1 = (gs.getD k zFV).1 := by
  have h1 : (fs.map (·.1))[k]? = (gs.map (·.1))[k]? := by rw [h]
  rw [List.getElem?_map, List.getElem?_map] at h1
  rw [List.getD_eq_getElem?_getD, List.getD_eq_getElem?_getD]
  cases h2 : fs[k]? with
  | none =>
    rw [h2] at h1
    cases h3 : gs[k]? with
    | none => rfl
    | some b => rw [h3] at h1; cases h1
  | some a =>
    rw [h2] at h1
    cases h3 : gs[k]? with
    | none => rw [h3] at h1; cases h1
    | some b => rw [h3] at h1; simpa using h1

set_option maxRecDepth 100000 in
set_option maxHeartbeats 4000000 in
theorem rsl_any (va vb : Value) (fs gs : List FV) (w : World) (ha : Frs w va fs) (hb : Frs w vb gs) (h : fs.map (·.1) = gs.map (·.1)) (hn : fs.length ≤ 140737488355327) :
    Calls Tryz.prog 22 #[va, vb] w fun e w' => e = .returned (.bool true) ∧ Below w.heap.size w w' := by
  have hlen : gs.length = fs.length := by have := congrArg List.length h; simpa using this.symm
  obtain ⟨aa, ca, rfl⟩ := ha.shape
  obtain ⟨ab, cb, eb⟩ := hb.shape
  rw [hlen] at eb
  subst eb
  have HA := hid ha
  have HB := hid hb
  have HM := hid (map_at h)
  have HLN := hid hlen
  clear ha hb h hlen
  go_enter Tryz.func22, Tryz.ntmps22
  go_wp2
  go_loopw [5] (fun vi wr => ∃ k : Nat, k ≤ fs.length ∧ vi = .int .i64 k ∧ Hid (Below w.heap.size w wr)) (fun vi _ => fs.length - (intOf vi).toNat)
  case atStart => exact ⟨0, by omega, rfl, Below.refl _ _⟩
  case round =>
    obtain ⟨k, hk, rfl, HBL⟩ := hrel
    by_cases hlt : k < fs.length
    · as_aux_lemma =>
        have hki : (k : Int) < (fs.length : Int) := by omega
        obtain ⟨g, o, rfl, hgl, hra, hst, hrn⟩ := (HA.out.below HBL.out).at k hlt
        obtain ⟨g2, o2, rfl, hgl2, hra2, hst2, hrn2⟩ := (HB.out.below HBL.out).at k (by rw [HLN.out]; exact hlt)
        have hmk := HM.out k
        rw [← hmk] at hra2 hst2 hrn2
        have HSZ := hid (frame_size (fs.getD k zFV).1 (fs.getD k zFV).2 hrn.tool)
        have HSZ2 := hid (frame_size (fs.getD k zFV).1 (gs.getD k zFV).2 hrn.tool)
        have HRA := hid (Bel.range hra hgl)
        have HRB := hid (Bel.range hra2 hgl2)
        have HSM := hid (fun p : Bel wr => rsame_any (fs.getD k zFV).1 (fs.getD k zFV).1 (fs.getD k zFV).2 (gs.getD k zFV).2 p.out hrn.tool hrn.tool (hst.below p.bel) (hst2.below p.bel) hrn.many)
        rw [sameP_self] at HSM
        obtain ⟨FF, HFF⟩ : ∃ f9, Hid (fcells (fs.getD k zFV).1 (fs.getD k zFV).2 = f9) := ⟨_, rfl⟩
        obtain ⟨GG, HGG⟩ : ∃ f9, Hid (fcells (fs.getD k zFV).1 (gs.getD k zFV).2 = f9) := ⟨_, rfl⟩
        rw [HFF.out] at HSZ HRA HSM
        rw [HGG.out] at HSZ2 HRB HSM
        have ib : Nonempty (Bel wr) := bel_some wr
        have hkw : IntKind.i64.wrap ((k : Int) + 1) = (k : Int) + 1 := by rw [IntKind.wrap_i64]; omega
        clear hra hst hrn hra2 hst2 hrn2 hmk
        go_upto_region 6 with fail
        refine wp_region_quiet_bel (by kernel_rfl) (by kernel_rfl) ?_
        go_big_quiet_step (fail)
        go_big_quiet_step (fail)
        go_big_quiet_step (fail)
        refine wpQuiet_want (by rfl) fun K hK => quiet_ld 30 (.tmp 19) (by rfl) g (o + k * 42) (by rfl) _ _ HRA.out Tryz.underlying30 rfl HSZ.out (hK _ ?_)
        simp only [Act.put, List.setIfInBounds_toArray, List.set_cons_succ, List.set_cons_zero]
        go_big_quiet_step (fail)
        go_big_quiet_step (fail)
        go_big_quiet_step (fail)
        refine wpQuiet_want (by rfl) fun K hK => quiet_ld 30 (.tmp 23) (by rfl) g2 (o2 + k * 42) (by rfl) _ _ HRB.out Tryz.underlying30 rfl HSZ2.out (hK _ ?_)
        simp only [Act.put, List.setIfInBounds_toArray, List.set_cons_succ, List.set_cons_zero]
        go_big_quiet_step (first | (go_at_call 11; exact bel_of (HSM.out _)))
        go_big_quiet_step (fail)
        refine wpQuiet_nil ?_
        rintro w8 ⟨⟨w8', hb8⟩, hw8⟩
        obtain rfl : w8 = w8' := hw8
        have HB8 := hid (below_then HBL.out hb8)
        clear hb8
        go_wp2
        exact ⟨⟨k + 1, hlt, by simp, HB8.out⟩, by simp [intOf]; omega⟩
    · obtain rfl : k = fs.length := by omega
      as_aux_lemma =>
        go_wp2
        go_ret
        exact ⟨rfl, HBL.out⟩
end Go.Proofs.YtiibhccbbpgehaaGreat
