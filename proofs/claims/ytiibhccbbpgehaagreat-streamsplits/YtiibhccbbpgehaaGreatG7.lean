/- Contracts and pure facts that the proof needs, joined. -/
import Derived.Test.YtiibhccbbpgehaaGreatG6
import Derived.Test.YtiibhccbbpgehaaGreatG1
import Derived.Test.YtiibhccbbpgehaaGreatG2
import Derived.Test.YtiibhccbbpgehaaGreatG4
import Derived.StillTailTactics

/- Feed. -/
namespace Go.Proofs.YtiibhccbbpgehaaGreat
open Go.RowKit Go.BigFrame

def Lsts (w : World) (v : Value) (us : List Value) (pss : List (List UInt8)) : Prop :=
  (∃ ao c, v = .slice ao 0 c ∧ pss = []) ∨ ∃ g o c, v = .slice (some ⟨g, o, none⟩) pss.length c ∧ g < w.heap.size ∧ ∀ j, j < pss.length → w.cell? ⟨g, o + j, none⟩ = some (us.getD j nS) ∧ Src w (us.getD j nS) (pss.getD j [])
theorem Lsts.shape {w : World} {v : Value} {us : List Value} {pss : List (List UInt8)} (h : Lsts w v us pss) : ∃ ao c, v = .slice ao pss.length c := by
  rcases h with ⟨ao, c, rfl, rfl⟩ | ⟨g, o, c, rfl, _⟩
  · exact ⟨_, _, rfl⟩
  · exact ⟨_, _, rfl⟩
theorem Lsts.at {w : World} {ao : Option Addr} {n c : Nat} {us : List Value} {pss : List (List UInt8)} (h : Lsts w (.slice ao n c) us pss) (k : Nat) (hk : k < pss.length) : ∃ g o, ao = some ⟨g, o, none⟩ ∧ w.cell? ⟨g, o + k, none⟩ = some (us.getD k nS) ∧ Src w (us.getD k nS) (pss.getD k []) := by
  rcases h with ⟨_, _, _, rfl⟩ | ⟨g, o, c', e, hlt, hc⟩
  · simp at hk
  · simp only [Value.slice.injEq] at e
    exact ⟨g, o, e.1, hc k hk⟩
theorem Lsts.below {w w' : World} {v : Value} {us : List Value} {pss : List (List UInt8)} (h : Lsts w v us pss) (hb : Below w.heap.size w w') : Lsts w' v us pss := by
  rcases h with h | ⟨g, o, c, hv, hlt, hc⟩
  · exact Or.inl h
  · exact Or.inr ⟨g, o, c, hv, Nat.lt_of_lt_of_le hlt hb.size, fun j hj => ⟨(hb.cell (p := ⟨g, o + j, none⟩) hlt).trans (hc j hj).1, (hc j hj).2.below hb⟩⟩
theorem fault_at {w : World} {b : Nat} {v : Value} {ca wh lg : Nat} {y t : Int} {ty : TypeId} (h : w.heap[b]? = some (.cells #[v, .int .i64 ca, .int .i64 wh, .int .i64 lg, .int .i64 y, .int .i64 t] ty (0, 0))) : w.rangeAt b 4 [.int .i64 y, .int .i64 t] := by
  intro j u hu
  match j, hu with
  | 0, hu => simp at hu; subst hu; simp [World.cell?, h]
  | 1, hu => simp at hu; subst hu; simp [World.cell?, h]
theorem OFs.gone {w w' : World} {base n : Nat} {vo : Value} {fs : List FV} {cs : Array Value} {ty : TypeId} (h : OFs w base vo fs) (hg : w.grownBy w' (some n)) (hb : w.heap[n]? = some (.cells cs ty (0, 0))) (h1 : 30 ≠ ty) (h2 : 9 ≠ ty) : OFs w' base vo fs := by
  have key : ∀ {t : TypeId} {sz m : Nat} {u : Value} {ys : List Value}, w.ownsRow base t sz u m ys → t ≠ ty → w'.ownsRow base t sz u m ys := by
    intro t sz m u ys hu ht
    refine World.ownsRow.kept hu hg ?_
    cases hk : u.ownBlock with
    | none => exact Or.inl rfl
    | some k => exact Or.inr (fun h9 => own_block hu hb ht (hk.trans h9))
  exact ⟨key h.own h1, fun f hf => ⟨key (h.each f hf).1 h2, (h.each f hf).2⟩⟩
def nev : Nat → Bool := fun _ => false
section
variable {w w' : World} {base b : Nat} {v : Value} {M : Nat} {s : Sx}
theorem kref_ok {r : List UInt8} {ca wh lg : Nat} {t : Int} (h : Kb w base b v r ca wh lg 0 t) (hl : 0 < lg) :
    Calls Tryz.prog 54 #[.pointer (some ⟨b, 0, none⟩)] w fun e w' => e = .returned (.agg #[.int .i64 0, .int .i64 0]) ∧ Below w.heap.size w w' := kref_any h hl
def FeedP (w : World) (base b : Nat) (v : Value) (M : Nat) (a : Ra) (e : Ending) (w' : World) : Prop :=
  ∃ vl v' fs, e = .returned (.tuple #[vl, .agg #[.int .i64 a.1.why, .int .i64 a.1.wat]]) ∧ OFs w' w.heap.size vl fs ∧ Sd w' base b v' M a.1 ∧ Gd w w' b v v' ∧ fs.map (·.1) = a.2.1

set_option maxRecDepth 100000 in
set_option maxHeartbeats 8000000 in
theorem kfeed_any (h : Sd w base b v M s) (h0 : s.why = 0) (vp : Value) (us : List Value) (pss : List (List UInt8)) (hp : ∀ W vd, Gd w W b v vd → Lsts W vp us pss) (hn : pss.length ≤ 140737488355327) (hc : s.came + (fl pss).length ≤ 4611686018427387904) (hbl : (fl pss).length ≤ 900000000000) :
    Calls Tryz.prog 23 #[.pointer (some ⟨b, 0, none⟩), vp] w (FeedP w base b v M (runP M nev (s, [], 0) (fl pss))) := by
  have HB0 := hid (below_walk w (.cells #[.int .i64 0, .int .i64 0] 33))
  have HN0 := hid (hp_new w (.cells #[.int .i64 0, .int .i64 0] 33))
  have HSD0 := hid (h.below HB0.out)
  have HLT := hid h.kb.lt
  have HP := hid hp
  have HBL := hid hbl
  have HC := hid hc
  obtain ⟨A, HAA⟩ : ∃ n, Hid (w.heap.size = n) := ⟨_, rfl⟩
  obtain ⟨ap, cp, rfl⟩ := (hp w v (Gd.refl _ _ _)).shape
  have HRF := hid (kref_ok (t := s.wat) (h0 ▸ HSD0.out.kb) (lng_pos M))
  clear h hp
  go_enter Tryz.func23, Tryz.ntmps23
  go_upto_region 1 with fail
  generalize w.alloc (.cells #[.int .i64 0, .int .i64 0] 33) = w0 at HB0 HN0 HSD0 HRF ⊢
  rw [HAA.out] at HN0 HLT ⊢
  go_wp2_with fail
  refine HRF.out.mono ?_
  rintro e w1 ⟨rfl, hb1⟩
  have HW1 := hid (below_walk w1 (.cells [Value.int .i64 0, .int .i64 0].toArray 33))
  have HSD2 := hid ((HSD0.out.below hb1).below HW1.out)
  have HN2 := hid (bel_keep HW1.out (bel_keep hb1 HN0.out))
  have HB2 := hid (below_then (below_then HB0.out hb1) HW1.out)
  have HT := hid (hp_new w1 (.cells [Value.int .i64 0, .int .i64 0].toArray 33))
  clear hb1 HRF HSD0 HN0 HB0
  go_upto_region 2 with (refine st_new (by rfl) 33 _ _ (by rfl) [Value.int .i64 0, .int .i64 0] (by rfl) (by rfl) 33 _ faultSize rfl (fault_one _ _) ?_)
  obtain ⟨B, HBe⟩ : ∃ n, Hid (w1.heap.size = n) := ⟨_, rfl⟩
  rw [HBe.out] at HT ⊢
  generalize w1.alloc (.cells [Value.int .i64 0, .int .i64 0].toArray 33) = w2 at HW1 HSD2 HN2 HB2 HT ⊢
  have t0 : w2.cell? ⟨B, 0, none⟩ = some (.int .i64 0) := by simp [World.cell?, HT.out]
  have HG2 := hid (Gd.below (Gd.refl w b v) HB2.out)
  clear HW1 HT
  go_wp2
  clear t0
  go_loopw [7, 20] (fun vl vi wr => ∃ (k : Nat) (vd : Value) (fs : List FV) (a : Ra), k ≤ pss.length ∧ vi = .int .i64 k ∧ Hid (runP M nev (s, [], 0) (fl (pss.take k)) = a) ∧ Hid (fs.map (·.1) = a.2.1) ∧ Hid (OFs wr w.heap.size vl fs) ∧ Hid (Sd wr base b vd M a.1) ∧ Hid (Gd w wr b v vd) ∧ Hid (wr.heap[A]? = some (.cells #[.int .i64 0, .int .i64 0] 33 (0, 0)))) (fun _ vi _ => pss.length - (intOf vi).toNat)
  case atStart => exact ⟨0, v, [], (s, [], 0), by omega, rfl, by rw [List.take_zero, fl_nil]; exact runP_nil _ _ _, rfl, OFs.nil _ _, HSD2.out, HG2.out, HN2.out⟩
  case round =>
    obtain ⟨k, vd, fs, a, hk, rfl, HR, HFS, HOF, HSD, HGD, HN⟩ := hrel
    obtain ⟨alv, clv, rfl⟩ := HOF.out.shape
    by_cases hlt : k < pss.length
    · as_aux_lemma =>
        obtain ⟨g, o, rfl, hcl, _⟩ := (HP.out _ _ HGD.out).at k hlt
        obtain ⟨u, HU⟩ : ∃ u, Hid (us.getD k nS = u) := ⟨_, rfl⟩
        obtain ⟨p, HPP⟩ : ∃ p, Hid (pss.getD k [] = p) := ⟨_, rfl⟩
        have HX := hid (fl_snoc pss k hlt)
        rw [HPP.out] at HX
        have hsum : (fl (pss.take k)).length + p.length ≤ (fl pss).length := by
          have e : fl pss = fl (pss.take (k + 1)) ++ fl (pss.drop (k + 1)) := by
            unfold fl
            rw [← List.flatten_append, List.take_append_drop]
          rw [e, HX.out, List.length_append, List.length_append]
          omega
        have HFE := hid (run_few (M := M) (q := nev) (fl (pss.take k)) (s, [], 0))
        rw [HR.out] at HFE
        have HFL := hid (show fs.length = a.2.1.length by rw [← HFS.out, List.length_map])
        have HCA := hid (show a.1.came ≤ s.came + (fl (pss.take k)).length by
          have h1 := run_came (M := M) (q := nev) (fl (pss.take k)) (s, [], 0)
          have h2 := (run_took (M := M) (q := nev) (fl (pss.take k)) (s, [], 0)).2
          rw [HR.out] at h1 h2
          simp at h1 h2
          omega)
        rw [HU.out] at hcl
        have HUN := hid (kuntil_any HSD.out 9223372036854775807 u p (fun W vd' hg => by
          obtain ⟨_, _, _, _, h3⟩ := (HP.out W vd' (HGD.out.trans hg)).at k hlt
          rw [HU.out, HPP.out] at h3
          exact h3) (by have := HCA.out; have := HC.out; omega) (by have := HBL.out; omega))
        rw [run_congr (q' := nev) p (a.1, [], 0) (fun j hj => decide_eq_false (by simp at hj; have := HBL.out; omega))] at HUN
        have HSH := hid (run_shift (M := M) p a.1 a.2.1 a.2.2)
        have HFP := hid (run_few (M := M) (q := nev) p (a.1, [], 0))
        obtain ⟨R, HRR⟩ : ∃ R, Hid (runP M nev (a.1, [], 0) p = R) := ⟨_, rfl⟩
        have HSH2 := hid (show runP M nev (s, [], 0) (fl (pss.take (k + 1))) = (R.1, a.2.1 ++ R.2.1, a.2.2 + R.2.2) by
          rw [HX.out, runP_app, HR.out, ← HRR.out]; exact HSH.out)
        rw [HRR.out] at HUN HFP
        clear HSH HRR HX HR
        go_wp2_with fail
        refine HUN.out.mono ?_
        rintro e w3 ⟨vl3, v3, fs3, rfl, hof3, hsd3, hg3, hm3⟩
        have HOA := hid (HOF.out.sd hg3 HSD.out)
        have HF3 := hid hof3.frs
        have HE3 := hid (show ∀ f ∈ fs3, WOwnS w3 w.heap.size f.2 f.1.args ∧ Rng f.1 from fun f hf => ⟨own_le (hof3.each f hf).1 HGD.out.size, (hof3.each f hf).2⟩)
        have HNI3 := hid hof3.nilc
        have HSD3 := hid hsd3
        have HG3 := hid (HGD.out.trans hg3)
        have HM3 := hid hm3
        have HN3 := hid ((hg3.block A (hp_lt HN.out) (by have := HLT.out; omega) (fun e => own_block HSD.out.kb.own HN.out (by decide) e)).trans HN.out)
        have hlen : fs.length + fs3.length ≤ 1000000000000 := by
          have h1 : fs3.length = R.2.1.length := by rw [← hm3, List.length_map]
          have h2 := HFP.out
          have h3 := HFE.out
          have h4 := HFL.out
          have h5 := HBL.out
          simp at h2 h3
          omega
        have HL3 := hid hlen
        obtain ⟨a3, c3, e3⟩ := hof3.shape
        subst e3
        clear hof3 hsd3 hg3 hm3 HUN hlen
        go_wp2_with (at_builtin; refine app_frs rfl _ _ rfl w.heap.size _ fs rfl HOA.out fs3 _ rfl HF3.out HNI3.out HE3.out HL3.out HG3.out.size ?_)
        intro v6 w6 ho6 hg6 hp6
        have HG6 := hid (HG3.out.newer hg6 (fun k e => (World.ownsRow.lt HOA.out.own k e).1))
        have HSD6 := hid (HSD3.out.apart hg6 HOA.out)
        have HO6 := hid ho6
        have HN6 := hid ((hg6.block A (hp_lt HN3.out) (fun e => own_block HOA.out.own HN3.out (by decide) e.symm)).trans HN3.out)
        obtain ⟨a6, c6, e6⟩ := ho6.shape
        have hl6 : (fs ++ fs3).length = fs.length + fs3.length := List.length_append
        rw [hl6] at e6
        subst e6
        clear ho6 hg6 hp6
        go_wp2
        refine ⟨⟨k + 1, v3, fs ++ fs3, _, hlt, by simp, HSH2.out, ?_, HO6.out, HSD6.out, HG6.out, HN6.out⟩, by simp [intOf]; omega⟩
        show (fs ++ fs3).map (·.1) = a.2.1 ++ R.2.1
        rw [List.map_append, HFS.out, HM3.out]
    · obtain rfl : k = pss.length := by omega
      as_aux_lemma =>
        rw [fl_all] at HR
        obtain ⟨y, HY⟩ : ∃ y, Hid (a.1.why = y) := ⟨_, rfl⟩
        obtain ⟨t, HTt⟩ : ∃ y, Hid (a.1.wat = y) := ⟨_, rfl⟩
        have HBK := hid HSD.out.kb.blk
        rw [HY.out, HTt.out] at HBK
        go_upto_region 11 with fail
        refine wp_noPanic (wp_region_held_drew (S := fun W => W.heap[b]? = some (.cells #[vd, .int .i64 a.1.came, .int .i64 a.1.whole, .int .i64 (lngP M : Nat), .int .i64 y, .int .i64 t] 104 (0, 0))) (by kernel_rfl) HBK.out ?_)
        intro hHeld
        refine wpAnyH_take (i := 0) (v := .slice alv fs.length clv) rfl (by kernel_rfl) (by kernel_rfl) (by kernel_rfl) (fun _ _ _ h => h) (Or.inl ⟨by rfl, fun W _ => by go_simp⟩) hHeld ?_
        simp only [Act.put, List.getElem_toArray, List.getElem_cons_zero, List.setIfInBounds_toArray, List.set_cons_succ, List.set_cons_zero]
        refine wpAnyH_take (i := 1) (v := .pointer (some ⟨b, 0, none⟩)) rfl (by kernel_rfl) (by kernel_rfl) (by kernel_rfl) (fun _ _ _ h => h) (Or.inl ⟨by rfl, fun W _ => by go_simp⟩) hHeld ?_
        simp only [Act.put, List.getElem_toArray, List.getElem_cons_zero, List.getElem_cons_succ, List.setIfInBounds_toArray, List.set_cons_succ, List.set_cons_zero]
        refine wpAnyH_take (i := 2) (v := .pointer (some ⟨b, 0, none⟩)) rfl (by kernel_rfl) (by kernel_rfl) (by kernel_rfl) (fun _ _ _ h => h) (Or.inl ⟨by rfl, fun W _ => by go_simp⟩) hHeld ?_
        simp only [Act.put, List.getElem_toArray, List.getElem_cons_zero, List.getElem_cons_succ, List.setIfInBounds_toArray, List.set_cons_succ, List.set_cons_zero]
        refine wpAnyH_take (i := 3) (v := .pointer (some ⟨b, 4, none⟩)) rfl (by kernel_rfl) (by kernel_rfl) (by kernel_rfl) (fun _ _ _ h => h) (Or.inl ⟨by rfl, fun W _ => by go_simp⟩) hHeld ?_
        simp only [Act.put, List.getElem_toArray, List.getElem_cons_zero, List.getElem_cons_succ, List.setIfInBounds_toArray, List.set_cons_succ, List.set_cons_zero]
        refine wpAnyH_take (i := 4) (v := .agg [Value.int .i64 y, .int .i64 t].toArray) rfl (by kernel_rfl) (by kernel_rfl) (by kernel_rfl) (fun _ _ _ h => h) (yieldsIf_load_mid (by rfl) 33 (.tmp 37) rfl b 4 rfl [Value.int .i64 y, .int .i64 t] _ (fun W hW => fault_at hW) Tryz.underlying33 rfl faultSize) hHeld ?_
        simp only [Act.put, List.getElem_toArray, List.getElem_cons_zero, List.getElem_cons_succ, List.setIfInBounds_toArray, List.set_cons_succ, List.set_cons_zero]
        refine wpAnyH_take (i := 5) (v := .slice alv fs.length clv) rfl (by kernel_rfl) (by kernel_rfl) (by kernel_rfl) (fun _ _ _ h => h) (Or.inl ⟨by rfl, fun W _ => by go_simp⟩) hHeld ?_
        simp only [Act.put, List.getElem_toArray, List.getElem_cons_zero, List.getElem_cons_succ, List.setIfInBounds_toArray, List.set_cons_succ, List.set_cons_zero]
        refine wpAnyH_ready (rs := [6]) (by kernel_rfl) (by simp) ?_
        refine AllReadyH.cons rfl (fun K9 hK9 => ?_) AllReadyH.nil
        refine step_store_row (by rfl) 33 _ _ (by rfl) A [Value.int .i64 y, .int .i64 t] (by rfl) (by rfl) 33 _ HN.out faultSize rfl (fault_one _ _) ?_
        intro wz hwz
        refine hK9.out _ _ (gb_keep hwz.grown HBK.out (by have := HLT.out; omega)) (fun hHeld => ?_)
        clear hK9 K9
        try simp only [Act.put, List.getElem_toArray, List.getElem_cons_zero, List.getElem_cons_succ]
        refine wpAnyH_done (by kernel_rfl) ?_ _
        simp only [noPanic]
        clear hHeld
        go_wp2
        refine ret_tc 4 5 33 rfl _ rfl A rfl _ 33 hwz.blk _ Tryz.underlying33 rfl faultSize rfl ?_
        rw [HR.out]
        exact ⟨_, vd, fs, by rw [HY.out, HTt.out]; rfl, (HOF.out.below (bel_drw wr 1)).gone hwz.grown HN.out (by decide) (by decide), ((HSD.out.drew 1).far hwz.grown (by have := HLT.out; omega) (fun k e h9 => own_block HSD.out.kb.own HN.out (by decide) (h9 ▸ e))), (HGD.out.below (bel_drw wr 1)).fresh hwz.grown (by have := HAA.out; omega), HFS.out⟩
end
end Go.Proofs.YtiibhccbbpgehaaGreat

/- The other methods of a decoder, and New. -/
namespace Go.Proofs.YtiibhccbbpgehaaGreat
open Go.RowKit Go.BigFrame

theorem results_ttc {fn : Func} {p r q : Tmp} {ty : TypeId} (h : fn.results = #[.tmp p, .tmp r, .cell q ty]) (tmps : Array Value) (P : Program) (w : World) :
    (results fn tmps).run P w = ((asAddr (tmps.getD q undef)).run P w).andThen fun a w₁ => ((loadVar ty a).run P w₁).andThen fun v w₂ => .ok (.tuple #[tmps.getD p undef, tmps.getD r undef, v]) w₂ := by
  simp only [results, h]
  simp [Sem.run_bind, Result.andThen]
theorem ret_ttc {P : Program} {fn : Func} {R : Ending → World → Prop} {a : Act} {w : World} (p r q : Tmp) (ty : TypeId) (h : fn.results = #[.tmp p, .tmp r, .cell q ty]) (v u : Value) (hv : a.tmps.getD p undef = v) (hu0 : a.tmps.getD r undef = u) (g : Nat) (hp : a.tmps.getD q undef = .pointer (some ⟨g, 0, none⟩))
    (cs : List Value) (t : TypeId) (hb : w.heap[g]? = some (.cells cs.toArray t (0, 0))) (d : TypeDesc) (hu : P.underlying ty = some d) (hd : d.isRow = true) (hi : (P.info? ty).map (·.size) = some cs.length)
    (hdf : a.defers = []) (hR : R (.returned (.tuple #[v, u, .agg cs.toArray])) w) : bodyPost P fn R .ret a w := by
  refine bodyPost_ret (v := .tuple #[v, u, .agg cs.toArray]) ?_ hdf hR
  rw [results_ttc h, hp, hv, hu0]
  have := run_loadVar_mid (P := P) w g 0 ty cs d (fun j v hv => by rw [Nat.zero_add, cell_of_row w g j cs.toArray t (0, 0) hb]; simpa using hv) hu hd hi
  simp [asAddr, this]
theorem built_dec (l : Int) : Tryz.prog.built 104 [(2, .int .i64 l)] = some #[.slice none 0 0, .int .i64 0, .int .i64 0, .int .i64 l, .int .i64 0, .int .i64 0] := by kernel_rfl
theorem need_sn (m : Nat) (h1 : 1 ≤ m) (h2 : m ≤ 2097152) : needP (sn m) = (lngP m, (sn m).length, 0) := by
  have h := dec_sn m [] (by omega)
  rw [List.append_nil] at h
  unfold needP lngP
  rw [h, if_neg (by simp), if_neg (by simp), if_neg (by simpa using h2), if_neg (by simp; omega)]

def stopP (s : Sx) : Int × Int := if s.why ≠ 0 then (s.why, s.wat) else if 0 < s.r.length then (4, (s.came : Int)) else (0, 0)
set_option maxRecDepth 100000 in
set_option maxHeartbeats 1000000 in
theorem new_ok8 (w : World) (m : Nat) (h1 : 1 ≤ m) (h2 : m ≤ 2097152) :
    Calls Tryz.prog 13 #[.int .i64 m] w fun e w' => ∃ b, e = .returned (.tuple #[.pointer (some ⟨b, 0, none⟩), .int .i64 0]) ∧ w.heap.size ≤ b ∧ Sd w' b b (.slice none 0 0) m zS ∧ Below w.heap.size w w' := by
  have q1 : ¬ (m : Int) < 1 := by omega
  have q2 : ¬ (2097152 : Int) < (m : Int) := by omega
  have q3 : IntKind.u64.wrap (m : Int) = (m : Int) := by rw [IntKind.wrap_u64]; omega
  have HPU := hid (putUint_any (.slice none 0 0) [] m w (OwnB.nil w w.heap.size |>.src (by simp)) (by omega) (by simp))
  have HNS := hid (need_sn m h1 h2)
  obtain ⟨lg, HLG⟩ : ∃ n, Hid (lngP m = n) := ⟨_, rfl⟩
  rw [HLG.out] at HNS
  go_enter Tryz.func13, Tryz.ntmps13
  go_wp2_with fail
  refine HPU.out.mono ?_
  rintro e w1 ⟨v1, rfl, ho1, hb1⟩
  have ho1' : OwnB w1 w.heap.size v1 (sn m) := by simpa using ho1
  have HNE := hid (need_any v1 (sn m) w1 (ho1'.src (by have := sn_length_le m; omega)))
  rw [HNS.out] at HNE
  obtain ⟨a1, c1, e1⟩ := ho1'.shape
  subst e1
  have HB1 := hid hb1
  clear ho1 ho1' hb1 HPU
  go_wp2_with fail
  refine HNE.out.mono ?_
  rintro e w2 ⟨rfl, hb2⟩
  have HB2 := hid (below_then HB1.out hb2)
  clear hb2 HNE HB1
  have HN := hid (hp_new w2 (.cells #[.slice none 0 0, .int .i64 0, .int .i64 0, .int .i64 lg, .int .i64 0, .int .i64 0] 104))
  have HB3 := hid (below_then HB2.out (below_walk w2 (.cells #[.slice none 0 0, .int .i64 0, .int .i64 0, .int .i64 lg, .int .i64 0, .int .i64 0] 104)))
  go_wp2_with (first
    | (refine bd_row (by rfl) 104 #[(2, .tmp 19)] (by rfl) _ (by simp [Act.eval]) _ (built_dec _) ?_)
    | (refine bx_row (by rfl) 104 (.tmp 20) (by rfl) _ (by rfl) ?_))
  refine bodyPost_ret (results_tmp2 rfl _ _ _) rfl ⟨_, rfl, HB2.out.size, ⟨⟨Nat.le_refl _, ?_, OwnB.nil _ _⟩, Gs.zero m, h1, h2⟩, HB3.out⟩
  rw [HLG.out]
  exact HN.out

section
variable {w w' : World} {base b : Nat} {v : Value} {M : Nat} {s : Sx}

set_option maxRecDepth 100000 in
set_option maxHeartbeats 1000000 in
theorem kend_any (h : Sd w base b v M s) :
    Calls Tryz.prog 46 #[.pointer (some ⟨b, 0, none⟩)] w fun e w' => e = .returned (.agg #[.int .i64 (stopP s).1, .int .i64 (stopP s).2]) ∧ Below w.heap.size w w' := by
  have HB0 := hid (below_walk w (.cells #[.int .i64 0, .int .i64 0] 33))
  have HN0 := hid (hp_new w (.cells #[.int .i64 0, .int .i64 0] 33))
  have HK0 := hid (h.kb.below HB0.out)
  obtain ⟨A, HAA⟩ : ∃ n, Hid (w.heap.size = n) := ⟨_, rfl⟩
  have HEP : Hid (stopP s = if s.why ≠ 0 then (s.why, s.wat) else if 0 < s.r.length then (4, (s.came : Int)) else (0, 0)) := hid rfl
  clear h
  go_enter Tryz.func46, Tryz.ntmps46
  go_upto_region 1 with fail
  generalize w.alloc (.cells #[.int .i64 0, .int .i64 0] 33) = w0 at HB0 HN0 HK0 ⊢
  rw [HAA.out] at HN0 ⊢
  have h1 := hid (kmade_any HK0.out (lng_pos M))
  have h2 := hid (kpois_any HK0.out)
  have h3 := hid (ksz_any HK0.out)
  have HFA := hid HK0.out.fault
  have c1 := HK0.out.c1
  obtain ⟨y, HY⟩ : ∃ y, Hid (s.why = y) := ⟨_, rfl⟩
  obtain ⟨t, HTt⟩ : ∃ y, Hid (s.wat = y) := ⟨_, rfl⟩
  obtain ⟨L, HL⟩ : ∃ y, Hid (s.r.length = y) := ⟨_, rfl⟩
  obtain ⟨ca, HCa⟩ : ∃ y, Hid (s.came = y) := ⟨_, rfl⟩
  rw [HY.out, HTt.out] at HFA
  rw [HY.out] at h2
  rw [HL.out] at h3
  rw [HCa.out] at c1
  rw [HY.out, HTt.out, HL.out, HCa.out] at HEP
  go_wp2_with fail
  refine h1.out.mono ?_
  rintro e w1 ⟨rfl, hw⟩
  subst hw
  go_wp2_with fail
  refine h2.out.mono ?_
  rintro e w1 ⟨rfl, hw⟩
  subst hw
  by_cases hy : y = 0
  · have q1 : (y != 0) = false := by simpa using hy
    rw [if_neg (by simpa using hy)] at HEP
    rw [q1]
    go_wp2_with fail
    refine h3.out.mono ?_
    rintro e w1 ⟨rfl, hw⟩
    subst hw
    by_cases hl : 0 < L
    · rw [if_pos hl] at HEP
      have q2 : (0 : Int) < (L : Int) := by omega
      go_wp2_with (first
        | (refine bd_row (by rfl) 33 #[(0, .const (.int .i64 4)), (1, .tmp 25)] (by rfl) _ (by simp [Act.eval]) _ (built_ft _ _) ?_)
        | (refine st_row (by rfl) 33 _ _ (by rfl) A [Value.int .i64 4, .int .i64 (ca : Int)] (by rfl) (by rfl) 33 _ HN0.out faultSize rfl (fault_one _ _) ?_; intro w3 hw3))
      refine ret_row 2 33 rfl A rfl _ 33 hw3.blk _ Tryz.underlying33 rfl faultSize rfl ⟨?_, Below.of_gb HB0.out hw3.grown (by have := HAA.out; omega)⟩
      rw [HEP.out]
    · rw [if_neg hl] at HEP
      have q2 : ¬ (0 : Int) < (L : Int) := by omega
      go_wp2_with (first
        | (refine bd_row (by rfl) 33 #[] (by rfl) _ (by simp) _ built_fz ?_)
        | (refine st_row (by rfl) 33 _ _ (by rfl) A [Value.int .i64 0, .int .i64 0] (by rfl) (by rfl) 33 _ HN0.out faultSize rfl (fault_one _ _) ?_; intro w3 hw3))
      refine ret_row 2 33 rfl A rfl _ 33 hw3.blk _ Tryz.underlying33 rfl faultSize rfl ⟨?_, Below.of_gb HB0.out hw3.grown (by have := HAA.out; omega)⟩
      rw [HEP.out]
  · have q1 : (y != 0) = true := by simpa using hy
    rw [if_pos hy] at HEP
    rw [q1]
    go_wp2_with (first
      | (refine wpList_load_mid (by rfl) 33 _ (by rfl) b 4 (by rfl) [Value.int .i64 y, .int .i64 t] _ HFA.out Tryz.underlying33 rfl faultSize ?_)
      | (refine st_row (by rfl) 33 _ _ (by rfl) A [Value.int .i64 y, .int .i64 t] (by rfl) (by rfl) 33 _ HN0.out faultSize rfl (fault_one _ _) ?_; intro w3 hw3))
    refine ret_row 2 33 rfl A rfl _ 33 hw3.blk _ Tryz.underlying33 rfl faultSize rfl ⟨?_, Below.of_gb HB0.out hw3.grown (by have := HAA.out; omega)⟩
    rw [HEP.out]

end
end Go.Proofs.YtiibhccbbpgehaaGreat

/- Whether all fields of two frames are the same. -/
namespace Go.Proofs.YtiibhccbbpgehaaGreat
open Go.RowKit

set_option maxRecDepth 100000 in
set_option maxHeartbeats 4000000 in
theorem rsame_any (f g : Fr) (va vb : Value) (w : World) (hf : f.tool.length = 32) (hg : g.tool.length = 32) (ha : Strs w va f.args) (hb : Strs w vb g.args) (hn : f.args.length ≤ 9223372036854775807) :
    Calls Tryz.prog 11 #[.agg (fcells f va).toArray, .agg (fcells g vb).toArray] w fun e w' => e = .returned (.bool (sameP f g)) ∧ Below w.heap.size w w' := by
  have HNA := hid (hp_two w (.cells (fcells f va).toArray 30) (.cells (fcells g vb).toArray 30))
  have HBL := hid (below_walk2 w (.cells (fcells f va).toArray 30) (.cells (fcells g vb).toArray 30))
  have HSA := hid ha
  have HSB := hid hb
  have HN := hid hn
  have HF := hid hf
  have HG := hid hg
  clear ha hb hn hf hg
  go_enter Tryz.func11, Tryz.ntmps11
  go_upto_region 1 with fail
  generalize (w.alloc (.cells (fcells f va).toArray 30)).alloc (.cells (fcells g vb).toArray 30) = w2 at HNA HBL ⊢
  have HA := hid (Fb.of HNA.out.1 HF.out)
  have HB := hid (Fb.of HNA.out.2 HG.out)
  clear HNA
  have HSA2 := hid (HSA.out.below HBL.out)
  have HSB2 := hid (HSB.out.below HBL.out)
  clear HSA HSB
  have hlg := limG
  have hdg := digG
  have HEQ := hid (wsame_any va vb f.args g.args w2 HSA2.out HSB2.out HN.out)
  obtain ⟨fk, fi, fv, fs, ft, fst, fl, fa, fb⟩ := f
  obtain ⟨gk, gi, gv, gs, gt, gst, gl, ga, gb⟩ := g
  obtain ⟨fl1, fl2, fl3⟩ := fl
  obtain ⟨gl1, gl2, gl3⟩ := gl
  obtain ⟨B2, HB2⟩ : ∃ b : Nat, Hid (w.heap.size + 1 = b) := ⟨_, rfl⟩
  obtain ⟨B1, HB1⟩ : ∃ b : Nat, Hid (w.heap.size = b) := ⟨_, rfl⟩
  rw [HB2.out] at HB ⊢
  rw [HB1.out] at HA ⊢
  clear HB1 HB2
  by_cases hne : fk = gk
  · subst hne
    by_cases hne : fi = gi
    · subst hne
      by_cases hne : fv = gv
      · subst hne
        by_cases hne : fs = gs
        · subst hne
          by_cases hne : ft = gt
          · subst hne
            by_cases hne : fst = gst
            · subst hne
              by_cases hne : (fl1, fl2, fl3) = (gl1, gl2, gl3)
              · injection hne with h1 h2; injection h2 with h2 h3; subst h1; subst h2; subst h3
                by_cases hne : fa = ga
                · subst hne
                  by_cases hne : fb = gb
                  · subst hne
                    have HR : Hid (sameP ⟨fk, fi, fv, fs, ft, fst, (fl1, fl2, fl3), fa, fb⟩ ⟨fk, fi, fv, fs, ft, fst, (fl1, fl2, fl3), fa, fb⟩ = true) := hid (sameP_self _)
                    have a0 := HA.out.k
                    have b0 := HB.out.k
                    have a1 := HA.out.i
                    have b1 := HB.out.i
                    have a2 := HA.out.v
                    have b2 := HB.out.v
                    have a3 := HA.out.s
                    have b3 := HB.out.s
                    have a4 := hid HA.out.t
                    have b4 := hid HB.out.t
                    have HS1 := hid (tool_size ft HF.out)
                    have HS2 := hid (tool_size ft HG.out)
                    have a5 := HA.out.st
                    have b5 := HB.out.st
                    have a61 := HA.out.l1
                    have b61 := HB.out.l1
                    have a62 := HA.out.l2
                    have b62 := HB.out.l2
                    have a63 := HA.out.l3
                    have b63 := HB.out.l3
                    have a7 := HA.out.a
                    have b7 := HB.out.a
                    have e4 := dig_eql ft ft HF.out HF.out
                    rw [decide_eq_true rfl] at e4
                    have e6 := lim_eql fl1 fl2 fl3 fl1 fl2 fl3
                    rw [decide_eq_true rfl] at e6
                    have HE2 := hid HEQ.out
                    simp only [decide_true] at HE2
                    have HA8 := hid (fun n => (show (w2.drewN n).cell? ⟨B1, 41, none⟩ = _ from HA.out.bd))
                    have HB8 := hid (fun n => (show (w2.drewN n).cell? ⟨B2, 41, none⟩ = _ from HB.out.bd))
                    clear HA HB HEQ HF HG
                    go_wp2_with (first | (refine ld_gd (by rfl) 25 (.tmp 32) (by rfl) B1 4 (by rfl) _ _ a4.out Tryz.underlying25 rfl HS1.out ?_) | (refine ld_gd (by rfl) 25 (.tmp 34) (by rfl) B2 4 (by rfl) _ _ b4.out Tryz.underlying25 rfl HS2.out ?_))
                    refine HE2.out.mono ?_
                    rintro e w3 ⟨rfl, n, rfl⟩
                    have a8 := HA8.out n
                    have b8 := HB8.out n
                    clear HA8 HB8
                    clear HE2
                    go_wp2
                    go_ret
                    exact ⟨ret_eq HR.out.symm, HBL.out.trans ⟨rfl, rfl, rfl, Nat.le_refl _, fun _ _ => rfl⟩⟩
                  · have HR : Hid (sameP ⟨fk, fi, fv, fs, ft, fst, (fl1, fl2, fl3), fa, fb⟩ ⟨fk, fi, fv, fs, ft, fst, (fl1, fl2, fl3), fa, gb⟩ = false) := hid (decide_eq_false (fun h9 => hne (by exact h9.2.2.2.2.2.2.2.2)))
                    have a0 := HA.out.k
                    have b0 := HB.out.k
                    have a1 := HA.out.i
                    have b1 := HB.out.i
                    have a2 := HA.out.v
                    have b2 := HB.out.v
                    have a3 := HA.out.s
                    have b3 := HB.out.s
                    have a4 := hid HA.out.t
                    have b4 := hid HB.out.t
                    have HS1 := hid (tool_size ft HF.out)
                    have HS2 := hid (tool_size ft HG.out)
                    have a5 := HA.out.st
                    have b5 := HB.out.st
                    have a61 := HA.out.l1
                    have b61 := HB.out.l1
                    have a62 := HA.out.l2
                    have b62 := HB.out.l2
                    have a63 := HA.out.l3
                    have b63 := HB.out.l3
                    have a7 := HA.out.a
                    have b7 := HB.out.a
                    have e4 := dig_eql ft ft HF.out HF.out
                    rw [decide_eq_true rfl] at e4
                    have e6 := lim_eql fl1 fl2 fl3 fl1 fl2 fl3
                    rw [decide_eq_true rfl] at e6
                    have HE2 := hid HEQ.out
                    simp only [decide_true] at HE2
                    have HA8 := hid (fun n => (show (w2.drewN n).cell? ⟨B1, 41, none⟩ = _ from HA.out.bd))
                    have HB8 := hid (fun n => (show (w2.drewN n).cell? ⟨B2, 41, none⟩ = _ from HB.out.bd))
                    have t1 : ¬ (mk fb).toList = (mk gb).toList := fun h9 => hne ((bl_mk fb).symm.trans (h9.trans (bl_mk gb)))
                    have t2 : ((mk fb).toList == (mk gb).toList) = false := by simpa using t1
                    clear HA HB HEQ HF HG
                    clear hne
                    go_wp2_with (first | (refine ld_gd (by rfl) 25 (.tmp 32) (by rfl) B1 4 (by rfl) _ _ a4.out Tryz.underlying25 rfl HS1.out ?_) | (refine ld_gd (by rfl) 25 (.tmp 34) (by rfl) B2 4 (by rfl) _ _ b4.out Tryz.underlying25 rfl HS2.out ?_))
                    refine HE2.out.mono ?_
                    rintro e w3 ⟨rfl, n, rfl⟩
                    have a8 := HA8.out n
                    have b8 := HB8.out n
                    clear HA8 HB8
                    clear HE2
                    go_wp2
                    go_ret
                    exact ⟨ret_eq HR.out.symm, HBL.out.trans ⟨rfl, rfl, rfl, Nat.le_refl _, fun _ _ => rfl⟩⟩
                · have HR : Hid (sameP ⟨fk, fi, fv, fs, ft, fst, (fl1, fl2, fl3), fa, fb⟩ ⟨fk, fi, fv, fs, ft, fst, (fl1, fl2, fl3), ga, gb⟩ = false) := hid (decide_eq_false (fun h9 => hne (by exact h9.2.2.2.2.2.2.2.1)))
                  have a0 := HA.out.k
                  have b0 := HB.out.k
                  have a1 := HA.out.i
                  have b1 := HB.out.i
                  have a2 := HA.out.v
                  have b2 := HB.out.v
                  have a3 := HA.out.s
                  have b3 := HB.out.s
                  have a4 := hid HA.out.t
                  have b4 := hid HB.out.t
                  have HS1 := hid (tool_size ft HF.out)
                  have HS2 := hid (tool_size ft HG.out)
                  have a5 := HA.out.st
                  have b5 := HB.out.st
                  have a61 := HA.out.l1
                  have b61 := HB.out.l1
                  have a62 := HA.out.l2
                  have b62 := HB.out.l2
                  have a63 := HA.out.l3
                  have b63 := HB.out.l3
                  have a7 := HA.out.a
                  have b7 := HB.out.a
                  have e4 := dig_eql ft ft HF.out HF.out
                  rw [decide_eq_true rfl] at e4
                  have e6 := lim_eql fl1 fl2 fl3 fl1 fl2 fl3
                  rw [decide_eq_true rfl] at e6
                  have HE2 := hid HEQ.out
                  simp only [decide_eq_false hne] at HE2
                  clear HA HB HEQ HF HG
                  clear hne
                  go_wp2_with (first | (refine ld_gd (by rfl) 25 (.tmp 32) (by rfl) B1 4 (by rfl) _ _ a4.out Tryz.underlying25 rfl HS1.out ?_) | (refine ld_gd (by rfl) 25 (.tmp 34) (by rfl) B2 4 (by rfl) _ _ b4.out Tryz.underlying25 rfl HS2.out ?_))
                  refine HE2.out.mono ?_
                  rintro e w3 ⟨rfl, n, rfl⟩
                  clear HE2
                  go_wp2
                  go_ret
                  exact ⟨ret_eq HR.out.symm, HBL.out.trans ⟨rfl, rfl, rfl, Nat.le_refl _, fun _ _ => rfl⟩⟩
              · have HR : Hid (sameP ⟨fk, fi, fv, fs, ft, fst, (fl1, fl2, fl3), fa, fb⟩ ⟨fk, fi, fv, fs, ft, fst, (gl1, gl2, gl3), ga, gb⟩ = false) := hid (decide_eq_false (fun h9 => hne (by exact h9.2.2.2.2.2.2.1)))
                have a0 := HA.out.k
                have b0 := HB.out.k
                have a1 := HA.out.i
                have b1 := HB.out.i
                have a2 := HA.out.v
                have b2 := HB.out.v
                have a3 := HA.out.s
                have b3 := HB.out.s
                have a4 := hid HA.out.t
                have b4 := hid HB.out.t
                have HS1 := hid (tool_size ft HF.out)
                have HS2 := hid (tool_size ft HG.out)
                have a5 := HA.out.st
                have b5 := HB.out.st
                have a61 := HA.out.l1
                have b61 := HB.out.l1
                have a62 := HA.out.l2
                have b62 := HB.out.l2
                have a63 := HA.out.l3
                have b63 := HB.out.l3
                have e4 := dig_eql ft ft HF.out HF.out
                rw [decide_eq_true rfl] at e4
                have e6 := lim_eql fl1 fl2 fl3 gl1 gl2 gl3
                rw [decide_eq_false hne] at e6
                clear HA HB HEQ HF HG
                clear hne
                go_wp2_with (first | (refine ld_gd (by rfl) 25 (.tmp 32) (by rfl) B1 4 (by rfl) _ _ a4.out Tryz.underlying25 rfl HS1.out ?_) | (refine ld_gd (by rfl) 25 (.tmp 34) (by rfl) B2 4 (by rfl) _ _ b4.out Tryz.underlying25 rfl HS2.out ?_))
                go_ret
                exact ⟨ret_eq HR.out.symm, HBL.out⟩
            · have HR : Hid (sameP ⟨fk, fi, fv, fs, ft, fst, (fl1, fl2, fl3), fa, fb⟩ ⟨fk, fi, fv, fs, ft, gst, (gl1, gl2, gl3), ga, gb⟩ = false) := hid (decide_eq_false (fun h9 => hne (by exact h9.2.2.2.2.2.1)))
              have a0 := HA.out.k
              have b0 := HB.out.k
              have a1 := HA.out.i
              have b1 := HB.out.i
              have a2 := HA.out.v
              have b2 := HB.out.v
              have a3 := HA.out.s
              have b3 := HB.out.s
              have a4 := hid HA.out.t
              have b4 := hid HB.out.t
              have HS1 := hid (tool_size ft HF.out)
              have HS2 := hid (tool_size ft HG.out)
              have a5 := HA.out.st
              have b5 := HB.out.st
              have e4 := dig_eql ft ft HF.out HF.out
              rw [decide_eq_true rfl] at e4
              have q1 : (fst == gst) = false := by simpa using hne
              clear HA HB HEQ HF HG
              go_wp2_with (first | (refine ld_gd (by rfl) 25 (.tmp 32) (by rfl) B1 4 (by rfl) _ _ a4.out Tryz.underlying25 rfl HS1.out ?_) | (refine ld_gd (by rfl) 25 (.tmp 34) (by rfl) B2 4 (by rfl) _ _ b4.out Tryz.underlying25 rfl HS2.out ?_))
              go_ret
              exact ⟨ret_eq HR.out.symm, HBL.out⟩
          · have HR : Hid (sameP ⟨fk, fi, fv, fs, ft, fst, (fl1, fl2, fl3), fa, fb⟩ ⟨fk, fi, fv, fs, gt, gst, (gl1, gl2, gl3), ga, gb⟩ = false) := hid (decide_eq_false (fun h9 => hne (by exact h9.2.2.2.2.1)))
            have a0 := HA.out.k
            have b0 := HB.out.k
            have a1 := HA.out.i
            have b1 := HB.out.i
            have a2 := HA.out.v
            have b2 := HB.out.v
            have a3 := HA.out.s
            have b3 := HB.out.s
            have a4 := hid HA.out.t
            have b4 := hid HB.out.t
            have HS1 := hid (tool_size ft HF.out)
            have HS2 := hid (tool_size gt HG.out)
            have e4 := dig_eql ft gt HF.out HG.out
            rw [decide_eq_false hne] at e4
            clear HA HB HEQ HF HG
            clear hne
            go_wp2_with (first | (refine ld_gd (by rfl) 25 (.tmp 32) (by rfl) B1 4 (by rfl) _ _ a4.out Tryz.underlying25 rfl HS1.out ?_) | (refine ld_gd (by rfl) 25 (.tmp 34) (by rfl) B2 4 (by rfl) _ _ b4.out Tryz.underlying25 rfl HS2.out ?_))
            go_ret
            exact ⟨ret_eq HR.out.symm, HBL.out⟩
        · have HR : Hid (sameP ⟨fk, fi, fv, fs, ft, fst, (fl1, fl2, fl3), fa, fb⟩ ⟨fk, fi, fv, gs, gt, gst, (gl1, gl2, gl3), ga, gb⟩ = false) := hid (decide_eq_false (fun h9 => hne (by exact h9.2.2.2.1)))
          have a0 := HA.out.k
          have b0 := HB.out.k
          have a1 := HA.out.i
          have b1 := HB.out.i
          have a2 := HA.out.v
          have b2 := HB.out.v
          have a3 := HA.out.s
          have b3 := HB.out.s
          have q1 : (fs == gs) = false := by simpa using hne
          clear HA HB HEQ HF HG
          go_wp2
          go_ret
          exact ⟨ret_eq HR.out.symm, HBL.out⟩
      · have HR : Hid (sameP ⟨fk, fi, fv, fs, ft, fst, (fl1, fl2, fl3), fa, fb⟩ ⟨fk, fi, gv, gs, gt, gst, (gl1, gl2, gl3), ga, gb⟩ = false) := hid (decide_eq_false (fun h9 => hne (by exact h9.2.2.1)))
        have a0 := HA.out.k
        have b0 := HB.out.k
        have a1 := HA.out.i
        have b1 := HB.out.i
        have a2 := HA.out.v
        have b2 := HB.out.v
        have q1 : (fv == gv) = false := by simpa using hne
        clear HA HB HEQ HF HG
        go_wp2
        go_ret
        exact ⟨ret_eq HR.out.symm, HBL.out⟩
    · have HR : Hid (sameP ⟨fk, fi, fv, fs, ft, fst, (fl1, fl2, fl3), fa, fb⟩ ⟨fk, gi, gv, gs, gt, gst, (gl1, gl2, gl3), ga, gb⟩ = false) := hid (decide_eq_false (fun h9 => hne (by exact h9.2.1)))
      have a0 := HA.out.k
      have b0 := HB.out.k
      have a1 := HA.out.i
      have b1 := HB.out.i
      have q1 : (fi == gi) = false := by simpa using hne
      clear HA HB HEQ HF HG
      go_wp2
      go_ret
      exact ⟨ret_eq HR.out.symm, HBL.out⟩
  · have HR : Hid (sameP ⟨fk, fi, fv, fs, ft, fst, (fl1, fl2, fl3), fa, fb⟩ ⟨gk, gi, gv, gs, gt, gst, (gl1, gl2, gl3), ga, gb⟩ = false) := hid (decide_eq_false (fun h9 => hne (by exact h9.1)))
    have a0 := HA.out.k
    have b0 := HB.out.k
    have q1 : (fk == gk) = false := by simpa using hne
    clear HA HB HEQ HF HG
    go_wp2
    go_ret
    exact ⟨ret_eq HR.out.symm, HBL.out⟩

end Go.Proofs.YtiibhccbbpgehaaGreat

/- A Bye, written by the document. -/
namespace Go.Proofs.YtiibhccbbpgehaaGreat
open Go.RowKit Go.BigFrame

set_option maxRecDepth 100000 in
set_option maxHeartbeats 4000000 in
theorem onlyBye_any (w : World) :
    Calls Tryz.prog 90 #[.agg (fcells byeF nS).toArray] w fun e w' => e = .returned (.agg (fcells byeF nS).toArray) ∧ Below w.heap.size w w' := by
  have HNB := hid (hp_two w (.cells (fcells byeF nS).toArray 30) (.cells (fcells zF nS).toArray 30))
  have HBL := hid (below_walk2 w (.cells (fcells byeF nS).toArray 30) (.cells (fcells zF nS).toArray 30))
  have HZ : Hid ((w.alloc (.cells (fcells byeF nS).toArray 30)).heap.size = w.heap.size + 1) := hid (by simp)
  have HSZ := hid (frame_size byeF nS rfl)
  go_enter Tryz.func90, Tryz.ntmps90
  go_upto_region 1 with (refine al_row (by rfl) 30 (by rfl) _ zeroFrame ?_)
  try rw [HZ.out]
  generalize (w.alloc (.cells (fcells byeF nS).toArray 30)).alloc (.cells (fcells zF nS).toArray 30) = w2 at HNB HBL ⊢
  have x0 : w2.cell? ⟨w.heap.size, 0, none⟩ = some (.int .i64 5) := (Fb.of HNB.out.1 rfl).k
  have HL2 := hid (hp_lt HNB.out.2)
  go_upto_region 2 with (first
    | (refine bd_row (by rfl) 30 #[(0, .tmp 5)] (by rfl) _ (by simp [Act.eval]) _ built_bye ?_)
    | (refine al_row (by rfl) 30 (by rfl) _ zeroFrame ?_)
    | (refine st_new (by rfl) 30 _ _ (by rfl) (fcells byeF nS) (by rfl) (by rfl) 30 _ HSZ.out rfl (fcells_one byeF nS rfl) ?_))
  have HN1 := hid ((below_walk w2 (.cells (fcells byeF nS).toArray 30)).block _ (by have := HL2.out; omega) |>.trans HNB.out.1)
  have HN2 := hid ((below_walk w2 (.cells (fcells byeF nS).toArray 30)).block _ HL2.out |>.trans HNB.out.2)
  have HN3 := hid (hp_new w2 (.cells (fcells byeF nS).toArray 30))
  have HB3 := hid (below_then HBL.out (below_walk w2 (.cells (fcells byeF nS).toArray 30)))
  obtain ⟨B3, HE3⟩ : ∃ b : Nat, Hid (w2.heap.size = b) := ⟨_, rfl⟩
  rw [HE3.out] at HN3 ⊢
  generalize w2.alloc (.cells (fcells byeF nS).toArray 30) = w3 at HN1 HN2 HN3 HB3 ⊢
  clear x0 HNB HBL HL2
  have x1 : w3.cell? ⟨w.heap.size, 0, none⟩ = some (.int .i64 5) := (Fb.of HN1.out rfl).k
  go_wp2_with (first
    | (refine ld_row (by rfl) 30 (.tmp 3) (by rfl) B3 (by rfl) (fcells byeF nS) 30 HN3.out _ Tryz.underlying30 rfl HSZ.out ?_)
    | (refine st_row (by rfl) 30 _ _ (by rfl) (w.heap.size + 1) (fcells byeF nS) (by rfl) (by rfl) 30 _ HN2.out HSZ.out rfl (fcells_one byeF nS rfl) ?_; intro w4 hw4))
  refine ret_row 2 30 rfl (w.heap.size + 1) rfl (fcells byeF nS) 30 hw4.blk _ Tryz.underlying30 rfl HSZ.out rfl ⟨rfl, Below.of_gb HB3.out hw4.grown (by omega)⟩

theorem ruint_five (w : World) : Calls Tryz.prog 61 #[.int .u64 5] w fun e w' => ∃ ao c, e = .returned (.slice ao 1 c) ∧ OwnB w' w.heap.size (.slice ao 1 c) [5] ∧ Below w.heap.size w w' := by
  refine (refUint_any 5 w (by decide)).mono ?_
  rintro e w' ⟨v, rfl, ho, hb⟩
  have ho' : OwnB w' w.heap.size v [5] := ho
  obtain ⟨ao, c, rfl⟩ := src_shape (ho'.src (by simp))
  exact ⟨ao, c, rfl, ho', hb⟩
theorem ruint_one (w : World) : Calls Tryz.prog 61 #[.int .u64 1] w fun e w' => ∃ ao c, e = .returned (.slice ao 1 c) ∧ OwnB w' w.heap.size (.slice ao 1 c) [1] ∧ Below w.heap.size w w' := by
  refine (refUint_any 1 w (by decide)).mono ?_
  rintro e w' ⟨v, rfl, ho, hb⟩
  have ho' : OwnB w' w.heap.size v [1] := ho
  obtain ⟨ao, c, rfl⟩ := src_shape (ho'.src (by simp))
  exact ⟨ao, c, rfl, ho', hb⟩

set_option maxRecDepth 100000 in
set_option maxHeartbeats 4000000 in
theorem bodyBye_any (w : World) :
    Calls Tryz.prog 60 #[.agg (fcells byeF nS).toArray] w fun e w' => ∃ ao c, e = .returned (.slice ao 1 c) ∧ Src w' (.slice ao 1 c) [5] ∧ Below w.heap.size w w' := by
  have HNB := hid (hp_new w (.cells (fcells byeF nS).toArray 30))
  have HBL := hid (below_walk w (.cells (fcells byeF nS).toArray 30))
  go_enter Tryz.func60, Tryz.ntmps60
  go_upto_region 1 with fail
  generalize w.alloc (.cells (fcells byeF nS).toArray 30) = w1 at HNB HBL ⊢
  have x0 : w1.cell? ⟨w.heap.size, 0, none⟩ = some (.int .i64 5) := (Fb.of HNB.out rfl).k
  have hw5 : IntKind.u64.wrap 5 = 5 := rfl
  go_wp2_with fail
  refine (ruint_five w1).mono ?_
  rintro e w2 ⟨ao, c, rfl, ho2, hb2⟩
  have HS2 := hid (ho2.src (by simp))
  have HN2 := hid ((hb2.block _ (hp_lt HNB.out)).trans HNB.out)
  have HB2 := hid (below_then HBL.out hb2)
  have x1 : w2.cell? ⟨w.heap.size, 0, none⟩ = some (.int .i64 5) := (Fb.of HN2.out rfl).k
  clear x0 hw5 ho2 hb2 HNB HBL HN2
  go_wp2
  go_ret
  exact ⟨_, _, rfl, HS2.out, HB2.out⟩

theorem rsame_bye (w : World) : Calls Tryz.prog 11 #[.agg (fcells byeF nS).toArray, .agg (fcells byeF nS).toArray] w fun e w' => e = .returned (.bool true) ∧ Below w.heap.size w w' := by
  have := rsame_any byeF byeF nS nS w rfl rfl (strs_nil w) (strs_nil w) (by simp [byeF])
  rwa [sameP_self] at this

set_option maxRecDepth 100000 in
set_option maxHeartbeats 4000000 in
theorem checkBye_any (w : World) :
    Calls Tryz.prog 59 #[.agg (fcells byeF nS).toArray] w fun e w' => e = .returned (.int .i64 0) ∧ Below w.heap.size w w' := by
  have HNB := hid (hp_new w (.cells (fcells byeF nS).toArray 30))
  have HBL := hid (below_walk w (.cells (fcells byeF nS).toArray 30))
  have HSZ := hid (frame_size byeF nS rfl)
  go_enter Tryz.func59, Tryz.ntmps59
  go_upto_region 1 with fail
  generalize w.alloc (.cells (fcells byeF nS).toArray 30) = w1 at HNB HBL ⊢
  have HL := hid (hp_lt HNB.out)
  have x0 : w1.cell? ⟨w.heap.size, 0, none⟩ = some (.int .i64 5) := (Fb.of HNB.out rfl).k
  have x7 : w1.cell? ⟨w.heap.size, 40, none⟩ = some (.slice none 0 0) := (Fb.of HNB.out rfl).a
  have z0 := fun p : Bel w1 => p.cell x0 HL.out
  have z7 := fun p : Bel w1 => p.cell x7 HL.out
  have ib : Nonempty (Bel w1) := bel_some w1
  have HRA := hid (Bel.range (range_row HNB.out) HL.out)
  clear x0 x7
  refine wp_region_quiet_bel (by kernel_rfl) (by kernel_rfl) ?_
  go_big_quiet_step (fail)
  go_big_quiet_step (fail)
  go_big_quiet_step (fail)
  go_big_quiet_step (fail)
  go_big_quiet_step (fail)
  go_big_quiet_step (fail)
  go_big_quiet_step (fail)
  go_big_quiet_step (fail)
  go_big_quiet_step (fail)
  refine wpQuiet_want (by rfl) fun K hK => quiet_ld 30 (.tmp 1) (by rfl) w.heap.size 0 (by rfl) _ _ HRA.out Tryz.underlying30 rfl HSZ.out (hK _ ?_)
  simp only [Act.put, List.setIfInBounds_toArray, List.set_cons_succ, List.set_cons_zero]
  refine wpQuiet_want (by rfl) fun K hK => quiet_ld 30 (.tmp 1) (by rfl) w.heap.size 0 (by rfl) _ _ HRA.out Tryz.underlying30 rfl HSZ.out (hK _ ?_)
  simp only [Act.put, List.setIfInBounds_toArray, List.set_cons_succ, List.set_cons_zero]
  go_big_quiet_step (first | (go_at_call 90; exact bel_of (onlyBye_any _)))
  go_big_quiet_step (first | (go_at_call 11; exact bel_of (rsame_bye _)))
  go_big_quiet_step (fail)
  go_big_quiet_step (fail)
  go_big_quiet_step (fail)
  go_big_quiet_step (fail)
  go_big_quiet_step (fail)
  go_big_quiet_step (fail)
  go_big_quiet_step (fail)
  go_big_quiet_step (fail)
  go_big_quiet_step (fail)
  refine wpQuiet_nil ?_
  rintro w2 ⟨⟨w2', hb2⟩, hw2⟩
  obtain rfl : w2 = w2' := hw2
  have HN2 := hid ((hb2.block _ HL.out).trans HNB.out)
  have HB2 := hid (below_then HBL.out hb2)
  clear hb2 z0 z7 ib HRA HNB HBL HL
  have x0 : w2.cell? ⟨w.heap.size, 0, none⟩ = some (.int .i64 5) := (Fb.of HN2.out rfl).k
  have l1 : w2.cell? ⟨w.heap.size, 37, none⟩ = some (.int .i64 0) := (Fb.of HN2.out rfl).l1
  have l2 : w2.cell? ⟨w.heap.size, 38, none⟩ = some (.int .i64 0) := (Fb.of HN2.out rfl).l2
  have l3 : w2.cell? ⟨w.heap.size, 39, none⟩ = some (.int .i64 0) := (Fb.of HN2.out rfl).l3
  have x7 : w2.cell? ⟨w.heap.size, 40, none⟩ = some (.slice none 0 0) := (Fb.of HN2.out rfl).a
  have x8 : w2.cell? ⟨w.heap.size, 41, none⟩ = some (.string ⟨#[]⟩) := (Fb.of HN2.out rfl).bd
  go_wp2_with fail
  go_loopw [3, 4] (fun b i wr => b = .bool false ∧ i = .int .i64 0 ∧ wr = w2) (fun _ _ _ => 0)
  case atStart => exact ⟨rfl, rfl, rfl⟩
  case round =>
    obtain ⟨rfl, rfl, rfl⟩ := hrel
    have HRG := hid (range_row HN2.out)
    go_wp2_with (refine ld_gd (by rfl) 30 (.tmp 1) (by rfl) w.heap.size 0 (by rfl) _ _ HRG.out Tryz.underlying30 rfl HSZ.out ?_)
    refine (bodyBye_any wr).mono ?_
    rintro e w3 ⟨ao, c, rfl, hs3, hb3⟩
    have HB3 := hid (below_then HB2.out hb3)
    clear hs3 hb3 x0 l1 l2 l3 x7 x8 HN2 HB2
    go_wp2
    go_ret
    exact ⟨rfl, HB3.out⟩

set_option maxRecDepth 100000 in
set_option maxHeartbeats 4000000 in
theorem rencodeBye_any (w : World) :
    Calls Tryz.prog 28 #[.agg (fcells byeF nS).toArray] w fun e w' => ∃ v, e = .returned (.tuple #[v, .int .i64 0]) ∧ OwnB w' w.heap.size v (sealP [1, 5]) ∧ Below w.heap.size w w' := by
  have HNB := hid (hp_new w (.cells (fcells byeF nS).toArray 30))
  have HBL := hid (below_walk w (.cells (fcells byeF nS).toArray 30))
  have HSZ := hid (frame_size byeF nS rfl)
  go_enter Tryz.func28, Tryz.ntmps28
  go_upto_region 1 with fail
  generalize w.alloc (.cells (fcells byeF nS).toArray 30) = w1 at HNB HBL ⊢
  go_wp2_with (refine ld_row (by rfl) 30 (.tmp 1) (by rfl) w.heap.size (by rfl) (fcells byeF nS) 30 HNB.out _ Tryz.underlying30 rfl HSZ.out ?_)
  refine (checkBye_any w1).mono ?_
  rintro e w2 ⟨rfl, hb2⟩
  have HN2 := hid ((hb2.block _ (hp_lt HNB.out)).trans HNB.out)
  have HB2 := hid (below_then HBL.out hb2)
  clear hb2 HNB HBL
  go_wp2_with (refine ld_row (by rfl) 30 (.tmp 1) (by rfl) w.heap.size (by rfl) (fcells byeF nS) 30 HN2.out _ Tryz.underlying30 rfl HSZ.out ?_)
  refine (bodyBye_any w2).mono ?_
  rintro e w3 ⟨ao, c, rfl, hs3, hb3⟩
  have HS3 := hid hs3
  have HB3 := hid (below_then HB2.out hb3)
  have hw1 : IntKind.u64.wrap 1 = 1 := rfl
  clear hs3 hb3 HN2 HB2
  go_wp2_with fail
  refine (ruint_one w3).mono ?_
  rintro e w4 ⟨a4, c4, rfl, ho4, hb4⟩
  have HO4 := hid ho4
  have HS4 := hid (HS3.out.below hb4)
  have HB4 := hid (below_then HB3.out hb4)
  have HZ4 := hid hb4.size
  clear ho4 hb4 HS3
  go_wp2_with (at_builtin; refine app_src rfl _ _ rfl w3.heap.size _ [1] rfl HO4.out _ [5] rfl HS4.out (by simp) HZ4.out ?_)
  intro v5 w5 ho5 hg5
  have hs5 : Src w5 v5 [1, 5] := ho5.src (by simp)
  have HB5 := hid (show Below w.heap.size w w5 from below_tr HB4.out ⟨hg5.os, hg5.tape, hg5.output, hg5.size, fun k hk => hg5.block k (by have := HB3.out.size; have := HZ4.out; omega) (fun e => by have := (HO4.out.lt k e.symm).1; have := HB3.out.size; omega)⟩)
  have HSE := hid (rseal_any w5 v5 [1, 5] hs5 (by simp))
  obtain ⟨a5, c5, e5⟩ := src_shape hs5
  subst e5
  clear ho5 hg5 hs5 HB4 HB3 HZ4 HO4 HS4
  go_wp2_with fail
  refine HSE.out.mono ?_
  rintro e w6 ⟨v6, rfl, ho6, hb6⟩
  have HO6 := hid (ho6.le HB5.out.size)
  have HB7 := hid (below_then HB5.out hb6)
  obtain ⟨a6, c6, e6⟩ := src_shape (ho6.src (by rw [sealP_length]; simp))
  subst e6
  clear ho6 hb6
  go_wp2
  go_ret2
  exact ⟨_, rfl, HO6.out, HB7.out⟩

end Go.Proofs.YtiibhccbbpgehaaGreat

/- The law's bye and awake. -/
namespace Go.Proofs.YtiibhccbbpgehaaGreat
open Go.RowKit Go.BigFrame

theorem fault_run (a b x y : Int) (w : World) : (Op.equalIn 10000 33 (.agg #[.int .i64 a, .int .i64 b]) (.agg #[.int .i64 x, .int .i64 y])).run Tryz.prog w = .ok (a == x && b == y) w := by
  have hS : Tryz.prog.underlying 33 = some (.struct (Tryz.prog.fieldsOf 33)) := by kernel_rfl
  have hp : Tryz.prog.stoodInHeld 33 = false := by kernel_rfl
  have u3 := Tryz.underlying3
  have a3 := Tryz.isAgg3
  have z3 := Tryz.sizeOf3
  have u4 := Tryz.underlying31
  have a4 := Tryz.isAgg31
  have z4 := Tryz.sizeOf31
  rw [show (10000 : Nat) = 9999 + 1 from rfl, run_equalIn_agg w 9999 33 _ _ hS hp]
  simp only [Program.fieldsOf, Tryz.underlying33]
  go_simp
  by_cases h1 : a = x <;> by_cases h2 : b = y <;> simp [h1, h2]
theorem fault_neq (a b x y : Int) (w : World) : (binOp .neq 33 (.agg #[.int .i64 a, .int .i64 b]) (.agg #[.int .i64 x, .int .i64 y])).run Tryz.prog w = .ok (.bool (!decide ((a, b) = (x, y)))) w := by
  rw [run_neq_struct, fault_run]
  have : (a == x && b == y) = decide ((a, b) = (x, y)) := by
    rw [Bool.eq_iff_iff]
    simp
  rw [this]
  rfl
theorem fault_eql (a b x y : Int) (w : World) : (binOp .eql 33 (.agg #[.int .i64 a, .int .i64 b]) (.agg #[.int .i64 x, .int .i64 y])).run Tryz.prog w = .ok (.bool (decide ((a, b) = (x, y)))) w := by
  rw [run_eql_struct, fault_run]
  have : (a == x && b == y) = decide ((a, b) = (x, y)) := by
    rw [Bool.eq_iff_iff]
    simp
  rw [this]
  rfl

theorem own_blk {w : World} {b n : Nat} {cs ds : Array Value} {e t : TypeId} (hb : w.heap[b]? = some (.cells cs e (0, 0))) (hn : w.heap[n]? = some (.cells ds t (0, 0))) (he : e ≠ t) : n ≠ b := by
  intro h
  subst h
  rw [hb] at hn
  simp at hn
  exact he hn.2
theorem yields_slice {P : Program} {ops : Array Oper} {S : World → Prop} {o : Oper} {a : Act} (hw : Region.wanted o (yielded ops a.tmps) = true) (t : TypeId) (x : Operand) (lo hi mx : Option Operand) (ho : o.op = .slice t x lo hi mx) (vx : Value)
    (h : ∀ W, (Instr.sliceAt t (a.eval x) (lo.map a.eval) (hi.map a.eval) (mx.map a.eval)).run P W = .ok vx W) : YieldsIf P ops S o vx a :=
  .inl ⟨hw, fun W _ => by
    unfold execOp
    simp only [ho, Sem.run_bind, h, Sem.run_pure, Result.andThen_ok]⟩
theorem step_alloc_row8 {P : Program} {ops : Array Oper} {o : Oper} {a : Act} {w : World} {K : Act → World → Prop} {Q : Exit → Act → World → Prop} {E : Prop} (hgd : o.guard = none) (ty : TypeId) (ho : o.op = .alloc ty)
    (cs : Array Value) (hz : ∀ w, (zeroValue ty).run P w = .ok (.agg cs) w)
    (h : K (a.put o.dst (.pointer (some ⟨w.heap.size, 0, none⟩))) (w.alloc (.cells cs ty))) : if Region.wanted o (yielded ops a.tmps) = true then Oper.wp P o a w K Q else E := by
  rw [if_pos (by simp [Region.wanted, hgd])]
  unfold Oper.wp execOp
  simp only [ho, Instr.alloc, Sem.run_bind, hz, newVar, newRow, run_newObj_alloc, Sem.run_pure, Result.andThen_ok, Value.cells]
  exact h
def BY : List UInt8 := sealP [1, 5]
theorem by_len : BY.length = 6 := rfl
theorem run_by : runP 9 nev (zS, [], 0) BY = (⟨[], 6, 1, 0, 0, [6]⟩, [byeF], 6) := by kernel_rfl
theorem run_bye : runP 9 nev (zS, [], 0) (fl [BY.take 2, BY.drop 2]) = (⟨[], 6, 1, 0, 0, [6]⟩, [byeF], 6) := by
  rw [show fl [BY.take 2, BY.drop 2] = BY by simp [fl]]
  exact run_by
theorem run_bad : runP 9 nev (⟨[], 6, 1, 0, 0, [6]⟩, [], 0) (fl [[128, 0]]) = (⟨[128, 0], 8, 1, 5, 6, [6]⟩, [], 2) := by kernel_rfl
theorem map_one {fs : List FV} {f : Fr} (h : fs.map (·.1) = [f]) : ∃ va, fs = [(f, va)] := by
  match fs, h with
  | [(g, va)], h => simp at h; exact ⟨va, by rw [h]⟩
theorem cut_atb {w : World} {v : Value} {bs : List UInt8} (h : Src w v bs) (k : Nat) (hk : k ≤ bs.length) :
    ∃ vx, Src w vx (bs.take k) ∧ (∀ j, vx.ownBlock = some j → v.ownBlock = some j) ∧ (∀ W, (Instr.sliceAt 22 v none (some (.int .i64 (k : Int))) none).run Tryz.prog W = .ok vx W) := by
  obtain ⟨hl, ⟨rfl, rfl⟩ | ⟨ad, cap, rfl, h1, h2, hlt, hc⟩⟩ := h
  · simp at hk
    subst hk
    exact ⟨.slice none 0 0, ⟨by simp, Or.inl ⟨rfl, rfl⟩⟩, fun _ e => e, fun W => by go_simp⟩
  · have hlen : (bs.take k).length = k := by simp; omega
    refine ⟨.slice (some ad) k cap, ⟨by omega, Or.inr ⟨ad, cap, by rw [hlen], by omega, h2, fun h0 => hlt (by omega), fun j hj => ?_⟩⟩, fun _ e => e, fun W => ?_⟩
    · rw [hlen] at hj
      rw [hc j (by omega)]
      simp [List.getD_eq_getElem?_getD, hj]
    · have hk2 : (k : Int) ≤ (cap : Int) := by omega
      go_simp
theorem cut_endb {w : World} {v : Value} {bs : List UInt8} (h : Src w v bs) (k : Nat) (hk : k ≤ bs.length) :
    ∃ vx, Src w vx (bs.drop k) ∧ (∀ j, vx.ownBlock = some j → v.ownBlock = some j) ∧ (∀ W, (Instr.sliceAt 22 v (some (.int .i64 (k : Int))) none none).run Tryz.prog W = .ok vx W) := cut_end h k hk
theorem src_two (w : World) : Src (w.alloc (.cells #[.int .u8 128, .int .u8 0] 5)) (.slice (some ⟨w.heap.size, 0, none⟩) 2 2) [128, 0] := by
  refine ⟨by simp, Or.inr ⟨⟨w.heap.size, 0, none⟩, 2, rfl, by simp, by decide, fun _ => by simp, fun j hj => ?_⟩⟩
  match j, hj with
  | 0, _ => simp [Addr.add]
  | 1, _ => simp [Addr.add]
theorem lsts_two (w : World) (u v : Value) (a b : List UInt8) (h1 : Src w u a) (h2 : Src w v b) : Lsts (w.alloc (.cells #[u, v] 22)) (.slice (some ⟨w.heap.size, 0, none⟩) 2 2) [u, v] [a, b] := by
  have hb := below_walk w (.cells #[u, v] 22)
  refine Or.inr ⟨w.heap.size, 0, 2, rfl, by simp, fun j hj => ?_⟩
  match j, hj with
  | 0, _ => exact ⟨by simp, h1.below hb⟩
  | 1, _ => exact ⟨by simp, h2.below hb⟩
theorem lsts_one (w : World) (u : Value) (a : List UInt8) (h1 : Src w u a) : Lsts (w.alloc (.cells #[u] 22)) (.slice (some ⟨w.heap.size, 0, none⟩) 1 1) [u] [a] := by
  have hb := below_walk w (.cells #[u] 22)
  refine Or.inr ⟨w.heap.size, 0, 1, rfl, by simp, fun j hj => ?_⟩
  match j, hj with
  | 0, _ => exact ⟨by simp, h1.below hb⟩
theorem Src.empty {w : World} {v : Value} (h : Src w v []) (w' : World) : Src w' v [] := by
  obtain ⟨h0, h | ⟨ad, cap, rfl, h1, h2, hlt, hc⟩⟩ := h
  · exact ⟨h0, Or.inl h⟩
  · exact ⟨h0, Or.inr ⟨ad, cap, rfl, h1, h2, fun h => by simp at h, fun j hj => by simp at hj⟩⟩
theorem src_lt {w : World} {v : Value} {bs : List UInt8} (h : Src w v bs) (hne : bs ≠ []) {k : Nat} (e : v.ownBlock = some k) : k < w.heap.size := by
  obtain ⟨h0, ⟨rfl, _⟩ | ⟨ad, cap, rfl, h1, h2, hlt, hc⟩⟩ := h
  · cases e
  · simp only [Value.ownBlock, Option.some.injEq] at e
    rw [← e]
    exact hlt (List.length_pos_iff.2 hne)
theorem Lsts.gd {w w' : World} {b : Nat} {v v' vp : Value} {us : List Value} {pss : List (List UInt8)} (h : Lsts w vp us pss) (g : Gd w w' b v v') (hb : vp.ownBlock ≠ some b) (hv : ∀ k, vp.ownBlock = some k → v.ownBlock ≠ some k) (hub : ∀ j, pss.getD j [] ≠ [] → (us.getD j nS).ownBlock ≠ some b) (huv : ∀ j k, pss.getD j [] ≠ [] → (us.getD j nS).ownBlock = some k → v.ownBlock ≠ some k) : Lsts w' vp us pss := by
  rcases h with h | ⟨g0, o, c, rfl, hlt, hc⟩
  · exact Or.inl h
  · refine Or.inr ⟨g0, o, c, rfl, Nat.lt_of_lt_of_le hlt g.size, fun j hj => ⟨?_, ?_⟩⟩
    rotate_left
    · by_cases he : pss.getD j [] = []
      · have h9 := (hc j hj).2
        rw [he] at h9 ⊢
        exact h9.empty w'
      · exact (hc j hj).2.gd g (hub j he) (fun k => huv j k he)
    rw [World.cell?_of_block (g.block g0 hlt (fun e => hb (by rw [e]; rfl)) (hv g0 rfl))]
    exact (hc j hj).1

set_option maxRecDepth 100000 in
set_option maxHeartbeats 1000000 in
theorem abye_any (w : World) : Calls Tryz.prog 42 #[] w fun e w' => ∃ v, e = .returned v ∧ OwnB w' w.heap.size v BY ∧ Below w.heap.size w w' := by
  have HR := hid (rencodeBye_any w)
  go_enter Tryz.func42, Tryz.ntmps42
  go_wp2_with (refine bd_row (by rfl) 30 #[(0, .const (.int .i64 5))] (by rfl) _ (by simp [Act.eval]) _ built_bye ?_)
  refine HR.out.mono ?_
  rintro e w1 ⟨v1, rfl, ho1, hb1⟩
  have HO := hid ho1
  have HB := hid hb1
  obtain ⟨a1, c1, e1⟩ := ho1.shape
  subst e1
  clear ho1 hb1 HR
  go_wp2
  go_ret
  exact ⟨_, rfl, HO.out, HB.out⟩
theorem new9 (w : World) : Calls Tryz.prog 13 #[.int .i64 9] w fun e w' => ∃ b, e = .returned (.tuple #[.pointer (some ⟨b, 0, none⟩), .int .i64 0]) ∧ w.heap.size ≤ b ∧ Sd w' b b (.slice none 0 0) 9 zS ∧ Below w.heap.size w w' := new_ok8 w 9 (by omega) (by omega)

set_option maxRecDepth 100000 in
set_option maxHeartbeats 8000000 in
theorem awake8_any (w : World) : Calls Tryz.prog 15 #[] w fun e w' => e = .returned (.bool true) ∧ Below w.heap.size w w' := by
  have hl6 : BY.length = 6 := by_len
  go_enter Tryz.func15, Tryz.ntmps15
  go_wp2_with fail
  refine (new9 w).mono ?_
  rintro e w1 ⟨b, rfl, hbw, hsd, hb1⟩
  have HBW := hid hbw
  have HSD := hid hsd
  have HB1 := hid hb1
  clear hbw hsd hb1
  go_upto_region 4 with fail
  refine wp_noPanic (wp_region_held_drew (S := fun _ => True) (by kernel_rfl) trivial ?_)
  intro hHeld
  refine wpAnyH_take (i := 0) (v := .pointer (some ⟨b, 0, none⟩)) rfl (by kernel_rfl) (by kernel_rfl) (by kernel_rfl) (fun _ _ _ h => h) (Or.inl ⟨by rfl, fun W _ => by go_simp⟩) hHeld ?_
  simp only [Act.put, List.getElem_toArray, List.getElem_cons_zero, List.setIfInBounds_toArray, List.set_cons_succ, List.set_cons_zero]
  have HSDx := hid (HSD.out.drew 1)
  have HBx := hid (below_then HB1.out (bel_drw w1 1))
  obtain ⟨x, HWX⟩ : ∃ x, Hid (w1.drewN 1 = x) := ⟨_, rfl⟩
  have HWY := hid (show w1.drew = x from HWX.out)
  rw [HWX.out] at HSDx HBx
  rw [HWY.out]
  refine wpAnyH_ready (rs := [1, 10]) (by kernel_rfl) (by simp) ?_
  refine AllReadyH.cons rfl (fun K hK => ?_) (AllReadyH.cons rfl (fun K hK => ?_) AllReadyH.nil)
  · skip
    go_simp
    refine (abye_any x).mono ?_
    rintro e w2 ⟨v19, rfl, ho, hb⟩
    have HSv19 := hid (ho.src (by decide))
    have HLv19 := hid (show ∀ k, v19.ownBlock = some k → k ≠ b from fun k e => by have := (World.ownsRow.lt ho k e).1; have := HSDx.out.kb.lt; omega)
    have HSDw2 := hid (HSDx.out.below hb)
    have HBw2 := hid (below_then HBx.out hb)
    obtain ⟨av19, cv19, ev19⟩ := ho.shape
    rw [hl6] at ev19
    subst ev19
    clear ho hb
    go_wp2_with fail
    refine hK.out _ _ trivial (fun hHeld => ?_)
    clear hK K
    try simp only [Act.put, List.getElem_toArray, List.getElem_cons_zero, List.getElem_cons_succ, List.setIfInBounds_toArray, List.set_cons_succ, List.set_cons_zero]
    obtain ⟨vA, hA1, hAo, hA2⟩ := cut_atb HSv19.out 2 (by decide)
    have HAw2 := hid hA1
    have HAn := hid (show vA.ownBlock ≠ some b from fun e => HLv19.out b (hAo b e) rfl)
    refine wpAnyH_take (i := 2) (v := vA) rfl (by kernel_rfl) (by kernel_rfl) (by kernel_rfl) (fun _ _ _ h => h) (yields_slice (by rfl) 22 (.tmp 19) none (some (.const (.int .i64 2))) none (by rfl) vA (fun W => hA2 W)) hHeld ?_
    simp only [Act.put, List.getElem_toArray, List.getElem_cons_zero, List.getElem_cons_succ, List.setIfInBounds_toArray, List.set_cons_succ, List.set_cons_zero]
    refine wpAnyH_ready (rs := [3, 10]) (by kernel_rfl) (by simp) ?_
    refine AllReadyH.cons rfl (fun K hK => ?_) (AllReadyH.cons rfl (fun K hK => ?_) AllReadyH.nil)
    · skip
      go_simp
      refine (abye_any w2).mono ?_
      rintro e w3 ⟨v21, rfl, ho, hb⟩
      have HSv21 := hid (ho.src (by decide))
      have HLv21 := hid (show ∀ k, v21.ownBlock = some k → k ≠ b from fun k e => by have := (World.ownsRow.lt ho k e).1; have := HSDw2.out.kb.lt; omega)
      have HSDw3 := hid (HSDw2.out.below hb)
      have HBw3 := hid (below_then HBw2.out hb)
      have HAw3 := hid (HAw2.out.below hb)
      obtain ⟨av21, cv21, ev21⟩ := ho.shape
      rw [hl6] at ev21
      subst ev21
      clear ho hb
      go_wp2_with fail
      refine hK.out _ _ trivial (fun hHeld => ?_)
      clear hK K
      try simp only [Act.put, List.getElem_toArray, List.getElem_cons_zero, List.getElem_cons_succ, List.setIfInBounds_toArray, List.set_cons_succ, List.set_cons_zero]
      obtain ⟨vB, hB1, hBo, hB2⟩ := cut_endb HSv21.out 2 (by decide)
      have HCw3 := hid hB1
      have HBn := hid (show vB.ownBlock ≠ some b from fun e => HLv21.out b (hBo b e) rfl)
      refine wpAnyH_take (i := 4) (v := vB) rfl (by kernel_rfl) (by kernel_rfl) (by kernel_rfl) (fun _ _ _ h => h) (yields_slice (by rfl) 22 (.tmp 21) (some (.const (.int .i64 2))) none none (by rfl) vB (fun W => hB2 W)) hHeld ?_
      simp only [Act.put, List.getElem_toArray, List.getElem_cons_zero, List.getElem_cons_succ, List.setIfInBounds_toArray, List.set_cons_succ, List.set_cons_zero]
      refine wpAnyH_ready (rs := [5, 10]) (by kernel_rfl) (by simp) ?_
      refine AllReadyH.cons rfl (fun K hK => ?_) (AllReadyH.cons rfl (fun K hK => ?_) AllReadyH.nil)
      · skip
        obtain ⟨aA, nA, cA, eA⟩ := src_named HAw3.out
        obtain ⟨aB, nB, cB, eB⟩ := src_named HCw3.out
        have HWA := hid (below_walk w3 (.cells #[vA, vB] 22))
        have HLw4 := hid (lsts_two w3 vA vB _ _ HAw3.out HCw3.out)
        have HSDw4 := hid (HSDw3.out.below HWA.out)
        have HBw4 := hid (below_then HBw3.out HWA.out)
        have HLB := hid (HSDw3.out.kb.lt)
        clear hA1 hA2 hB1 hB2 hAo hBo
        subst eA eB
        go_simp
        refine hK.out _ _ trivial (fun hHeld => ?_)
        clear hK K
        try simp only [Act.put, List.getElem_toArray, List.getElem_cons_zero, List.getElem_cons_succ, List.setIfInBounds_toArray, List.set_cons_succ, List.set_cons_zero]
        obtain ⟨B3, HB3e⟩ : ∃ n, Hid (w3.heap.size = n) := ⟨_, rfl⟩
        rw [HB3e.out] at HLw4 HLB
        try rw [HB3e.out]
        generalize w3.alloc (.cells #[.slice aA nA cA, .slice aB nB cB] 22) = w4 at *
        refine wpAnyH_ready (rs := [6, 10]) (by kernel_rfl) (by simp) ?_
        refine AllReadyH.cons rfl (fun K hK => ?_) (AllReadyH.cons rfl (fun K hK => ?_) AllReadyH.nil)
        · skip
          have HFE := hid (kfeed_any HSDw4.out rfl _ _ _ (fun W vd hg => HLw4.out.gd hg (by show some B3 ≠ some b; have := HLB.out; simp; omega) (fun k e e2 => by cases e2) (fun j _ => by match j with | 0 => exact HAn.out | 1 => exact HBn.out | j + 2 => exact (by show nS.ownBlock ≠ some b; intro e; cases e)) (fun j k _ e e2 => by cases e2)) (by decide) (by decide) (by decide))
          rw [run_bye] at HFE
          go_simp
          refine HFE.out.mono ?_
          rintro e w5 ⟨vl, v4, fs, rfl, hof, hsd4, hg4, hm4⟩
          obtain ⟨va, rfl⟩ := map_one hm4
          have HVw5 := hid (show Sd w5 b b v4 9 ⟨[], 6, 1, 0, 0, [6]⟩ from hsd4)
          have HBw5 := hid (Below.trans HBw4.out ((HSDw4.out.low hg4).mono HBW.out))
          have HOw5 := hid hof
          obtain ⟨al, cl, el⟩ := hof.shape
          simp only [List.length_singleton] at el
          subst el
          clear hof hsd4 hg4 hm4 HFE HSDw4 HLw4
          go_wp2_with fail
          refine hK.out _ _ trivial (fun hHeld => ?_)
          clear hK K
          try simp only [Act.put, List.getElem_toArray, List.getElem_cons_zero, List.getElem_cons_succ, List.setIfInBounds_toArray, List.set_cons_succ, List.set_cons_zero]
          refine wpAnyH_take (i := 7) (v := .tuple #[.slice al 1 cl, .agg #[.int .i64 0, .int .i64 0]]) rfl (by kernel_rfl) (by kernel_rfl) (by kernel_rfl) (fun _ _ _ h => h) (Or.inl ⟨by rfl, fun W _ => by go_simp⟩) hHeld ?_
          simp only [Act.put, List.getElem_toArray, List.getElem_cons_zero, List.getElem_cons_succ, List.setIfInBounds_toArray, List.set_cons_succ, List.set_cons_zero]
          refine wpAnyH_take (i := 8) (v := .slice al 1 cl) rfl (by kernel_rfl) (by kernel_rfl) (by kernel_rfl) (fun _ _ _ h => h) (Or.inl ⟨by rfl, fun W _ => by go_simp⟩) hHeld ?_
          simp only [Act.put, List.getElem_toArray, List.getElem_cons_zero, List.getElem_cons_succ, List.setIfInBounds_toArray, List.set_cons_succ, List.set_cons_zero]
          refine wpAnyH_take (i := 9) (v := .agg #[.int .i64 0, .int .i64 0]) rfl (by kernel_rfl) (by kernel_rfl) (by kernel_rfl) (fun _ _ _ h => h) (Or.inl ⟨by rfl, fun W _ => by go_simp⟩) hHeld ?_
          simp only [Act.put, List.getElem_toArray, List.getElem_cons_zero, List.getElem_cons_succ, List.setIfInBounds_toArray, List.set_cons_succ, List.set_cons_zero]
          refine wpAnyH_ready (rs := [10]) (by kernel_rfl) (by simp) ?_
          refine AllReadyH.cons rfl (fun K hK => ?_) AllReadyH.nil
          have HWF := hid (below_walk w5 (.cells #[.int .i64 0, .int .i64 0] 33))
          have HFw6 := hid (hp_new w5 (.cells #[.int .i64 0, .int .i64 0] 33))
          have HVw6 := hid (HVw5.out.below HWF.out)
          have HBw6 := hid (below_then HBw5.out HWF.out)
          have HOw6 := hid (HOw5.out.below HWF.out)
          refine step_alloc_row8 (by rfl) 33 (by rfl) _ zeroFault ?_
          refine hK.out _ _ trivial (fun hHeld => ?_)
          clear hK K
          try simp only [Act.put, List.getElem_toArray, List.getElem_cons_zero, List.getElem_cons_succ, List.setIfInBounds_toArray, List.set_cons_succ, List.set_cons_zero]
          obtain ⟨F, HFe⟩ : ∃ n, Hid (w5.heap.size = n) := ⟨_, rfl⟩
          have HFl := hid HBw5.out.size
          rw [HFe.out] at HFw6 HFl
          try rw [HFe.out]
          generalize w5.alloc (.cells #[.int .i64 0, .int .i64 0] 33) = w6 at *
          refine wpAnyH_take (i := 11) (v := .slice al 1 cl) rfl (by kernel_rfl) (by kernel_rfl) (by kernel_rfl) (fun _ _ _ h => h) (Or.inl ⟨by rfl, fun W _ => by go_simp⟩) hHeld ?_
          simp only [Act.put, List.getElem_toArray, List.getElem_cons_zero, List.getElem_cons_succ, List.setIfInBounds_toArray, List.set_cons_succ, List.set_cons_zero]
          refine wpAnyH_ready (rs := [12]) (by kernel_rfl) (by simp) ?_
          refine AllReadyH.cons rfl (fun K hK => ?_) AllReadyH.nil
          refine step_store_row (by rfl) 33 _ _ (by rfl) F [Value.int .i64 0, .int .i64 0] (by rfl) (by rfl) 33 _ HFw6.out faultSize rfl (fault_one _ _) ?_
          intro wz hwz
          refine hK.out _ _ trivial (fun hHeld => ?_)
          clear hK K
          try simp only [Act.put, List.getElem_toArray, List.getElem_cons_zero, List.getElem_cons_succ]
          refine wpAnyH_done (by kernel_rfl) ?_ _
          simp only [noPanic]
          clear hHeld
          have HFz := hid hwz.blk
          have HBz := hid (Below.of_gb HBw6.out hwz.grown (by have := HFl.out; omega))
          have HVz := hid (HVw6.out.far hwz.grown (fun e => own_blk HVw6.out.kb.blk HFw6.out (by decide) e.symm) (fun k e h9 => own_block HVw6.out.kb.own HFw6.out (by decide) (h9 ▸ e)))
          have HOz := hid (HOw6.out.gone hwz.grown HFw6.out (by decide) (by decide))
          clear hwz
          have HWa := hid (below_walk wz (.cells #[.int .u8 128, .int .u8 0] 5))
          have HSa := hid (src_two wz)
          have HWb := hid (below_walk (wz.alloc (.cells #[.int .u8 128, .int .u8 0] 5)) (.cells #[.slice (some ⟨wz.heap.size, 0, none⟩) 2 2] 22))
          have HLb := hid (lsts_one _ _ _ HSa.out)
          have HVb := hid ((HVz.out.below HWa.out).below HWb.out)
          have HOb := hid ((HOz.out.below HWa.out).below HWb.out)
          have HFb := hid (bel_keep HWb.out (bel_keep HWa.out HFz.out))
          have HBb := hid (below_then (below_then HBz.out HWa.out) HWb.out)
          have HVl := hid HVz.out.kb.lt
          have HVo := hid (fun k e => (World.ownsRow.lt HVz.out.kb.own k e).2)
          have HSz : Hid ((wz.alloc (.cells #[.int .u8 128, .int .u8 0] 5)).heap.size = wz.heap.size + 1) := hid (by simp)
          rw [HSz.out] at HLb
          obtain ⟨Z, HZe⟩ : ∃ n, Hid (wz.heap.size = n) := ⟨_, rfl⟩
          rw [HZe.out] at HLb HVb HOb HFb HBb HVl HVo
          go_wp2_with fail
          try rw [HZe.out]
          generalize (wz.alloc (.cells #[.int .u8 128, .int .u8 0] 5)).alloc (.cells #[.slice (some ⟨Z, 0, none⟩) 2 2] 22) = wb at HLb HVb HOb HFb HBb ⊢
          have HFE := hid (kfeed_any HVb.out rfl _ _ _ (fun W vd hg => HLb.out.gd hg (by show some (Z + 1) ≠ some b; have := HVl.out; simp; omega) (fun k e e2 => by have := HVo.out k e2; simp [Value.ownBlock] at e; omega) (fun j _ => by match j with | 0 => exact (by show some Z ≠ some b; have := HVl.out; simp; omega) | j + 1 => exact (by show nS.ownBlock ≠ some b; intro e; cases e)) (fun j k _ e e2 => by match j, e with | 0, e => (have := HVo.out k e2; simp [Value.ownBlock] at e; omega) | j + 1, e => (cases (show nS.ownBlock = some k from e)))) (by decide) (by decide) (by decide))
          rw [run_bad] at HFE
          refine HFE.out.mono ?_
          rintro e w7 ⟨vl7, v7, fs7, rfl, hof7, hsd7, hg7, hm7⟩
          have HB7 := hid (Below.trans HBb.out ((HVb.out.low hg7).mono HBW.out))
          have HO7 := hid (HOb.out.sd hg7 HVb.out)
          have HF7 := hid ((hg7.block F (hp_lt HFb.out) (own_blk HVb.out.kb.blk HFb.out (by decide)) (fun e => own_block HVb.out.kb.own HFb.out (by decide) e)).trans HFb.out)
          obtain ⟨al7, cl7, el7⟩ := hof7.shape
          subst el7
          clear hof7 hsd7 hg7 hm7 HFE
          have HW8 := hid (below_walk w7 (.cells [Value.int .i64 5, .int .i64 6].toArray 33))
          have HN8 := hid (hp_new w7 (.cells [Value.int .i64 5, .int .i64 6].toArray 33))
          have HB8 := hid (below_then HB7.out HW8.out)
          have HO8 := hid (HO7.out.below HW8.out)
          have HF8 := hid (bel_keep HW8.out HF7.out)
          go_upto_region 6 with (refine st_new (by rfl) 33 _ _ (by rfl) [Value.int .i64 5, .int .i64 6] (by rfl) (by rfl) 33 _ faultSize rfl (fault_one _ _) ?_)
          obtain ⟨Y, HYe⟩ : ∃ n, Hid (w7.heap.size = n) := ⟨_, rfl⟩
          rw [HYe.out] at HN8
          try rw [HYe.out]
          generalize w7.alloc (.cells [Value.int .i64 5, .int .i64 6].toArray 33) = w8 at HW8 HN8 HB8 HO8 HF8 ⊢
          obtain ⟨lg, lo, el, _, hrg, _⟩ := HO8.out.frs.at 0 (by simp)
          subst el
          have k0 : w8.cell? ⟨lg, lo, none⟩ = some (.int .i64 5) := by have := hrg 0 (.int .i64 5) rfl; simpa using this
          have f0 : w8.cell? ⟨F, 0, none⟩ = some (.int .i64 0) := by simp [World.cell?, HF8.out]
          have f1 : w8.cell? ⟨F, 1, none⟩ = some (.int .i64 0) := by simp [World.cell?, HF8.out]
          have g0 : w8.cell? ⟨Y, 0, none⟩ = some (.int .i64 5) := by simp [World.cell?, HN8.out]
          have g1 : w8.cell? ⟨Y, 1, none⟩ = some (.int .i64 6) := by simp [World.cell?, HN8.out]
          have n1 : ∀ W, (binOp .eql 33 (.agg #[.int .i64 0, .int .i64 0]) (.agg #[.int .i64 0, .int .i64 0])).run Tryz.prog W = .ok (.bool true) W := fun W => fault_eql 0 0 0 0 W
          have n2 : ∀ W, (binOp .eql 33 (.agg #[.int .i64 5, .int .i64 6]) (.agg #[.int .i64 5, .int .i64 6])).run Tryz.prog W = .ok (.bool true) W := fun W => fault_eql 5 6 5 6 W
          clear hrg
          go_wp2_with (first
            | (refine bd_row (by rfl) 33 #[] (by rfl) _ (by simp) _ built_fz ?_)
            | (refine bd_row (by rfl) 33 #[(0, .const (.int .i64 5)), (1, .const (.int .i64 6))] (by rfl) _ (by simp [Act.eval]) _ (built_ft _ _) ?_))
          go_ret
          exact ⟨rfl, HB8.out⟩
        · as_aux_lemma =>
            have HWF := hid (below_walk w4 (.cells #[.int .i64 0, .int .i64 0] 33))
            have HFw5 := hid (hp_new w4 (.cells #[.int .i64 0, .int .i64 0] 33))
            have HSDw5 := hid (HSDw4.out.below HWF.out)
            have HBw5 := hid (below_then HBw4.out HWF.out)
            have HLw5 := hid (HLw4.out.below HWF.out)
            refine step_alloc_row8 (by rfl) 33 (by rfl) _ zeroFault ?_
            refine hK.out _ _ trivial (fun hHeld => ?_)
            clear hK K
            try simp only [Act.put, List.getElem_toArray, List.getElem_cons_zero, List.getElem_cons_succ, List.setIfInBounds_toArray, List.set_cons_succ, List.set_cons_zero]
            obtain ⟨F, HFe⟩ : ∃ n, Hid (w4.heap.size = n) := ⟨_, rfl⟩
            have HFl := hid HBw4.out.size
            rw [HFe.out] at HFw5 HFl
            try rw [HFe.out]
            generalize w4.alloc (.cells #[.int .i64 0, .int .i64 0] 33) = w5 at *
            refine wpAnyH_ready (rs := [6]) (by kernel_rfl) (by simp) ?_
            refine AllReadyH.cons rfl (fun K hK => ?_) AllReadyH.nil
            have HFE := hid (kfeed_any HSDw5.out rfl _ _ _ (fun W vd hg => HLw5.out.gd hg (by show some B3 ≠ some b; have := HLB.out; simp; omega) (fun k e e2 => by cases e2) (fun j _ => by match j with | 0 => exact HAn.out | 1 => exact HBn.out | j + 2 => exact (by show nS.ownBlock ≠ some b; intro e; cases e)) (fun j k _ e e2 => by cases e2)) (by decide) (by decide) (by decide))
            rw [run_bye] at HFE
            go_simp
            refine HFE.out.mono ?_
            rintro e w6 ⟨vl, v4, fs, rfl, hof, hsd4, hg4, hm4⟩
            obtain ⟨va, rfl⟩ := map_one hm4
            have HVw6 := hid (show Sd w6 b b v4 9 ⟨[], 6, 1, 0, 0, [6]⟩ from hsd4)
            have HBw6 := hid (Below.trans HBw5.out ((HSDw5.out.low hg4).mono HBW.out))
            have HOw6 := hid hof
            have HFw6 := hid ((hg4.block F (hp_lt HFw5.out) (own_blk HSDw5.out.kb.blk HFw5.out (by decide)) (fun e => by cases e)).trans HFw5.out)
            obtain ⟨al, cl, el⟩ := hof.shape
            simp only [List.length_singleton] at el
            subst el
            clear hof hsd4 hg4 hm4 HFE HSDw5 HLw5
            go_wp2_with fail
            refine hK.out _ _ trivial (fun hHeld => ?_)
            clear hK K
            try simp only [Act.put, List.getElem_toArray, List.getElem_cons_zero, List.getElem_cons_succ, List.setIfInBounds_toArray, List.set_cons_succ, List.set_cons_zero]
            refine wpAnyH_take (i := 7) (v := .tuple #[.slice al 1 cl, .agg #[.int .i64 0, .int .i64 0]]) rfl (by kernel_rfl) (by kernel_rfl) (by kernel_rfl) (fun _ _ _ h => h) (Or.inl ⟨by rfl, fun W _ => by go_simp⟩) hHeld ?_
            simp only [Act.put, List.getElem_toArray, List.getElem_cons_zero, List.getElem_cons_succ, List.setIfInBounds_toArray, List.set_cons_succ, List.set_cons_zero]
            refine wpAnyH_take (i := 8) (v := .slice al 1 cl) rfl (by kernel_rfl) (by kernel_rfl) (by kernel_rfl) (fun _ _ _ h => h) (Or.inl ⟨by rfl, fun W _ => by go_simp⟩) hHeld ?_
            simp only [Act.put, List.getElem_toArray, List.getElem_cons_zero, List.getElem_cons_succ, List.setIfInBounds_toArray, List.set_cons_succ, List.set_cons_zero]
            refine wpAnyH_take (i := 9) (v := .agg #[.int .i64 0, .int .i64 0]) rfl (by kernel_rfl) (by kernel_rfl) (by kernel_rfl) (fun _ _ _ h => h) (Or.inl ⟨by rfl, fun W _ => by go_simp⟩) hHeld ?_
            simp only [Act.put, List.getElem_toArray, List.getElem_cons_zero, List.getElem_cons_succ, List.setIfInBounds_toArray, List.set_cons_succ, List.set_cons_zero]
            refine wpAnyH_take (i := 11) (v := .slice al 1 cl) rfl (by kernel_rfl) (by kernel_rfl) (by kernel_rfl) (fun _ _ _ h => h) (Or.inl ⟨by rfl, fun W _ => by go_simp⟩) hHeld ?_
            simp only [Act.put, List.getElem_toArray, List.getElem_cons_zero, List.getElem_cons_succ, List.setIfInBounds_toArray, List.set_cons_succ, List.set_cons_zero]
            refine wpAnyH_ready (rs := [12]) (by kernel_rfl) (by simp) ?_
            refine AllReadyH.cons rfl (fun K hK => ?_) AllReadyH.nil
            refine step_store_row (by rfl) 33 _ _ (by rfl) F [Value.int .i64 0, .int .i64 0] (by rfl) (by rfl) 33 _ HFw6.out faultSize rfl (fault_one _ _) ?_
            intro wz hwz
            refine hK.out _ _ trivial (fun hHeld => ?_)
            clear hK K
            try simp only [Act.put, List.getElem_toArray, List.getElem_cons_zero, List.getElem_cons_succ]
            refine wpAnyH_done (by kernel_rfl) ?_ _
            simp only [noPanic]
            clear hHeld
            have HFz := hid hwz.blk
            have HBz := hid (Below.of_gb HBw6.out hwz.grown (by have := HFl.out; omega))
            have HVz := hid (HVw6.out.far hwz.grown (fun e => own_blk HVw6.out.kb.blk HFw6.out (by decide) e.symm) (fun k e h9 => own_block HVw6.out.kb.own HFw6.out (by decide) (h9 ▸ e)))
            have HOz := hid (HOw6.out.gone hwz.grown HFw6.out (by decide) (by decide))
            clear hwz
            have HWa := hid (below_walk wz (.cells #[.int .u8 128, .int .u8 0] 5))
            have HSa := hid (src_two wz)
            have HWb := hid (below_walk (wz.alloc (.cells #[.int .u8 128, .int .u8 0] 5)) (.cells #[.slice (some ⟨wz.heap.size, 0, none⟩) 2 2] 22))
            have HLb := hid (lsts_one _ _ _ HSa.out)
            have HVb := hid ((HVz.out.below HWa.out).below HWb.out)
            have HOb := hid ((HOz.out.below HWa.out).below HWb.out)
            have HFb := hid (bel_keep HWb.out (bel_keep HWa.out HFz.out))
            have HBb := hid (below_then (below_then HBz.out HWa.out) HWb.out)
            have HVl := hid HVz.out.kb.lt
            have HVo := hid (fun k e => (World.ownsRow.lt HVz.out.kb.own k e).2)
            have HSz : Hid ((wz.alloc (.cells #[.int .u8 128, .int .u8 0] 5)).heap.size = wz.heap.size + 1) := hid (by simp)
            rw [HSz.out] at HLb
            obtain ⟨Z, HZe⟩ : ∃ n, Hid (wz.heap.size = n) := ⟨_, rfl⟩
            rw [HZe.out] at HLb HVb HOb HFb HBb HVl HVo
            go_wp2_with fail
            try rw [HZe.out]
            generalize (wz.alloc (.cells #[.int .u8 128, .int .u8 0] 5)).alloc (.cells #[.slice (some ⟨Z, 0, none⟩) 2 2] 22) = wb at HLb HVb HOb HFb HBb ⊢
            have HFE := hid (kfeed_any HVb.out rfl _ _ _ (fun W vd hg => HLb.out.gd hg (by show some (Z + 1) ≠ some b; have := HVl.out; simp; omega) (fun k e e2 => by have := HVo.out k e2; simp [Value.ownBlock] at e; omega) (fun j _ => by match j with | 0 => exact (by show some Z ≠ some b; have := HVl.out; simp; omega) | j + 1 => exact (by show nS.ownBlock ≠ some b; intro e; cases e)) (fun j k _ e e2 => by match j, e with | 0, e => (have := HVo.out k e2; simp [Value.ownBlock] at e; omega) | j + 1, e => (cases (show nS.ownBlock = some k from e)))) (by decide) (by decide) (by decide))
            rw [run_bad] at HFE
            refine HFE.out.mono ?_
            rintro e w7 ⟨vl7, v7, fs7, rfl, hof7, hsd7, hg7, hm7⟩
            have HB7 := hid (Below.trans HBb.out ((HVb.out.low hg7).mono HBW.out))
            have HO7 := hid (HOb.out.sd hg7 HVb.out)
            have HF7 := hid ((hg7.block F (hp_lt HFb.out) (own_blk HVb.out.kb.blk HFb.out (by decide)) (fun e => own_block HVb.out.kb.own HFb.out (by decide) e)).trans HFb.out)
            obtain ⟨al7, cl7, el7⟩ := hof7.shape
            subst el7
            clear hof7 hsd7 hg7 hm7 HFE
            have HW8 := hid (below_walk w7 (.cells [Value.int .i64 5, .int .i64 6].toArray 33))
            have HN8 := hid (hp_new w7 (.cells [Value.int .i64 5, .int .i64 6].toArray 33))
            have HB8 := hid (below_then HB7.out HW8.out)
            have HO8 := hid (HO7.out.below HW8.out)
            have HF8 := hid (bel_keep HW8.out HF7.out)
            go_upto_region 6 with (refine st_new (by rfl) 33 _ _ (by rfl) [Value.int .i64 5, .int .i64 6] (by rfl) (by rfl) 33 _ faultSize rfl (fault_one _ _) ?_)
            obtain ⟨Y, HYe⟩ : ∃ n, Hid (w7.heap.size = n) := ⟨_, rfl⟩
            rw [HYe.out] at HN8
            try rw [HYe.out]
            generalize w7.alloc (.cells [Value.int .i64 5, .int .i64 6].toArray 33) = w8 at HW8 HN8 HB8 HO8 HF8 ⊢
            obtain ⟨lg, lo, el, _, hrg, _⟩ := HO8.out.frs.at 0 (by simp)
            subst el
            have k0 : w8.cell? ⟨lg, lo, none⟩ = some (.int .i64 5) := by have := hrg 0 (.int .i64 5) rfl; simpa using this
            have f0 : w8.cell? ⟨F, 0, none⟩ = some (.int .i64 0) := by simp [World.cell?, HF8.out]
            have f1 : w8.cell? ⟨F, 1, none⟩ = some (.int .i64 0) := by simp [World.cell?, HF8.out]
            have g0 : w8.cell? ⟨Y, 0, none⟩ = some (.int .i64 5) := by simp [World.cell?, HN8.out]
            have g1 : w8.cell? ⟨Y, 1, none⟩ = some (.int .i64 6) := by simp [World.cell?, HN8.out]
            have n1 : ∀ W, (binOp .eql 33 (.agg #[.int .i64 0, .int .i64 0]) (.agg #[.int .i64 0, .int .i64 0])).run Tryz.prog W = .ok (.bool true) W := fun W => fault_eql 0 0 0 0 W
            have n2 : ∀ W, (binOp .eql 33 (.agg #[.int .i64 5, .int .i64 6]) (.agg #[.int .i64 5, .int .i64 6])).run Tryz.prog W = .ok (.bool true) W := fun W => fault_eql 5 6 5 6 W
            clear hrg
            go_wp2_with (first
              | (refine bd_row (by rfl) 33 #[] (by rfl) _ (by simp) _ built_fz ?_)
              | (refine bd_row (by rfl) 33 #[(0, .const (.int .i64 5)), (1, .const (.int .i64 6))] (by rfl) _ (by simp [Act.eval]) _ (built_ft _ _) ?_))
            go_ret
            exact ⟨rfl, HB8.out⟩
      · as_aux_lemma =>
          have HWF := hid (below_walk w3 (.cells #[.int .i64 0, .int .i64 0] 33))
          have HFw4 := hid (hp_new w3 (.cells #[.int .i64 0, .int .i64 0] 33))
          have HSDw4 := hid (HSDw3.out.below HWF.out)
          have HBw4 := hid (below_then HBw3.out HWF.out)
          have HAw4 := hid (HAw3.out.below HWF.out)
          have HCw4 := hid (HCw3.out.below HWF.out)
          refine step_alloc_row8 (by rfl) 33 (by rfl) _ zeroFault ?_
          refine hK.out _ _ trivial (fun hHeld => ?_)
          clear hK K
          try simp only [Act.put, List.getElem_toArray, List.getElem_cons_zero, List.getElem_cons_succ, List.setIfInBounds_toArray, List.set_cons_succ, List.set_cons_zero]
          obtain ⟨F, HFe⟩ : ∃ n, Hid (w3.heap.size = n) := ⟨_, rfl⟩
          have HFl := hid HBw3.out.size
          rw [HFe.out] at HFw4 HFl
          try rw [HFe.out]
          generalize w3.alloc (.cells #[.int .i64 0, .int .i64 0] 33) = w4 at *
          refine wpAnyH_ready (rs := [5]) (by kernel_rfl) (by simp) ?_
          refine AllReadyH.cons rfl (fun K hK => ?_) AllReadyH.nil
          obtain ⟨aA, nA, cA, eA⟩ := src_named HAw4.out
          obtain ⟨aB, nB, cB, eB⟩ := src_named HCw4.out
          have HWA := hid (below_walk w4 (.cells #[vA, vB] 22))
          have HLw5 := hid (lsts_two w4 vA vB _ _ HAw4.out HCw4.out)
          have HSDw5 := hid (HSDw4.out.below HWA.out)
          have HBw5 := hid (below_then HBw4.out HWA.out)
          have HLB := hid (HSDw4.out.kb.lt)
          have HFw5 := hid (bel_keep HWA.out HFw4.out)
          clear hA1 hA2 hB1 hB2 hAo hBo
          subst eA eB
          go_simp
          refine hK.out _ _ trivial (fun hHeld => ?_)
          clear hK K
          try simp only [Act.put, List.getElem_toArray, List.getElem_cons_zero, List.getElem_cons_succ, List.setIfInBounds_toArray, List.set_cons_succ, List.set_cons_zero]
          obtain ⟨B3, HB3e⟩ : ∃ n, Hid (w4.heap.size = n) := ⟨_, rfl⟩
          rw [HB3e.out] at HLw5 HLB
          try rw [HB3e.out]
          generalize w4.alloc (.cells #[.slice aA nA cA, .slice aB nB cB] 22) = w5 at *
          refine wpAnyH_ready (rs := [6]) (by kernel_rfl) (by simp) ?_
          refine AllReadyH.cons rfl (fun K hK => ?_) AllReadyH.nil
          have HFE := hid (kfeed_any HSDw5.out rfl _ _ _ (fun W vd hg => HLw5.out.gd hg (by show some B3 ≠ some b; have := HLB.out; simp; omega) (fun k e e2 => by cases e2) (fun j _ => by match j with | 0 => exact HAn.out | 1 => exact HBn.out | j + 2 => exact (by show nS.ownBlock ≠ some b; intro e; cases e)) (fun j k _ e e2 => by cases e2)) (by decide) (by decide) (by decide))
          rw [run_bye] at HFE
          go_simp
          refine HFE.out.mono ?_
          rintro e w6 ⟨vl, v4, fs, rfl, hof, hsd4, hg4, hm4⟩
          obtain ⟨va, rfl⟩ := map_one hm4
          have HVw6 := hid (show Sd w6 b b v4 9 ⟨[], 6, 1, 0, 0, [6]⟩ from hsd4)
          have HBw6 := hid (Below.trans HBw5.out ((HSDw5.out.low hg4).mono HBW.out))
          have HOw6 := hid hof
          have HFw6 := hid ((hg4.block F (hp_lt HFw5.out) (own_blk HSDw5.out.kb.blk HFw5.out (by decide)) (fun e => by cases e)).trans HFw5.out)
          obtain ⟨al, cl, el⟩ := hof.shape
          simp only [List.length_singleton] at el
          subst el
          clear hof hsd4 hg4 hm4 HFE HSDw5 HLw5
          go_wp2_with fail
          refine hK.out _ _ trivial (fun hHeld => ?_)
          clear hK K
          try simp only [Act.put, List.getElem_toArray, List.getElem_cons_zero, List.getElem_cons_succ, List.setIfInBounds_toArray, List.set_cons_succ, List.set_cons_zero]
          refine wpAnyH_take (i := 7) (v := .tuple #[.slice al 1 cl, .agg #[.int .i64 0, .int .i64 0]]) rfl (by kernel_rfl) (by kernel_rfl) (by kernel_rfl) (fun _ _ _ h => h) (Or.inl ⟨by rfl, fun W _ => by go_simp⟩) hHeld ?_
          simp only [Act.put, List.getElem_toArray, List.getElem_cons_zero, List.getElem_cons_succ, List.setIfInBounds_toArray, List.set_cons_succ, List.set_cons_zero]
          refine wpAnyH_take (i := 8) (v := .slice al 1 cl) rfl (by kernel_rfl) (by kernel_rfl) (by kernel_rfl) (fun _ _ _ h => h) (Or.inl ⟨by rfl, fun W _ => by go_simp⟩) hHeld ?_
          simp only [Act.put, List.getElem_toArray, List.getElem_cons_zero, List.getElem_cons_succ, List.setIfInBounds_toArray, List.set_cons_succ, List.set_cons_zero]
          refine wpAnyH_take (i := 9) (v := .agg #[.int .i64 0, .int .i64 0]) rfl (by kernel_rfl) (by kernel_rfl) (by kernel_rfl) (fun _ _ _ h => h) (Or.inl ⟨by rfl, fun W _ => by go_simp⟩) hHeld ?_
          simp only [Act.put, List.getElem_toArray, List.getElem_cons_zero, List.getElem_cons_succ, List.setIfInBounds_toArray, List.set_cons_succ, List.set_cons_zero]
          refine wpAnyH_take (i := 11) (v := .slice al 1 cl) rfl (by kernel_rfl) (by kernel_rfl) (by kernel_rfl) (fun _ _ _ h => h) (Or.inl ⟨by rfl, fun W _ => by go_simp⟩) hHeld ?_
          simp only [Act.put, List.getElem_toArray, List.getElem_cons_zero, List.getElem_cons_succ, List.setIfInBounds_toArray, List.set_cons_succ, List.set_cons_zero]
          refine wpAnyH_ready (rs := [12]) (by kernel_rfl) (by simp) ?_
          refine AllReadyH.cons rfl (fun K hK => ?_) AllReadyH.nil
          refine step_store_row (by rfl) 33 _ _ (by rfl) F [Value.int .i64 0, .int .i64 0] (by rfl) (by rfl) 33 _ HFw6.out faultSize rfl (fault_one _ _) ?_
          intro wz hwz
          refine hK.out _ _ trivial (fun hHeld => ?_)
          clear hK K
          try simp only [Act.put, List.getElem_toArray, List.getElem_cons_zero, List.getElem_cons_succ]
          refine wpAnyH_done (by kernel_rfl) ?_ _
          simp only [noPanic]
          clear hHeld
          have HFz := hid hwz.blk
          have HBz := hid (Below.of_gb HBw6.out hwz.grown (by have := HFl.out; omega))
          have HVz := hid (HVw6.out.far hwz.grown (fun e => own_blk HVw6.out.kb.blk HFw6.out (by decide) e.symm) (fun k e h9 => own_block HVw6.out.kb.own HFw6.out (by decide) (h9 ▸ e)))
          have HOz := hid (HOw6.out.gone hwz.grown HFw6.out (by decide) (by decide))
          clear hwz
          have HWa := hid (below_walk wz (.cells #[.int .u8 128, .int .u8 0] 5))
          have HSa := hid (src_two wz)
          have HWb := hid (below_walk (wz.alloc (.cells #[.int .u8 128, .int .u8 0] 5)) (.cells #[.slice (some ⟨wz.heap.size, 0, none⟩) 2 2] 22))
          have HLb := hid (lsts_one _ _ _ HSa.out)
          have HVb := hid ((HVz.out.below HWa.out).below HWb.out)
          have HOb := hid ((HOz.out.below HWa.out).below HWb.out)
          have HFb := hid (bel_keep HWb.out (bel_keep HWa.out HFz.out))
          have HBb := hid (below_then (below_then HBz.out HWa.out) HWb.out)
          have HVl := hid HVz.out.kb.lt
          have HVo := hid (fun k e => (World.ownsRow.lt HVz.out.kb.own k e).2)
          have HSz : Hid ((wz.alloc (.cells #[.int .u8 128, .int .u8 0] 5)).heap.size = wz.heap.size + 1) := hid (by simp)
          rw [HSz.out] at HLb
          obtain ⟨Z, HZe⟩ : ∃ n, Hid (wz.heap.size = n) := ⟨_, rfl⟩
          rw [HZe.out] at HLb HVb HOb HFb HBb HVl HVo
          go_wp2_with fail
          try rw [HZe.out]
          generalize (wz.alloc (.cells #[.int .u8 128, .int .u8 0] 5)).alloc (.cells #[.slice (some ⟨Z, 0, none⟩) 2 2] 22) = wb at HLb HVb HOb HFb HBb ⊢
          have HFE := hid (kfeed_any HVb.out rfl _ _ _ (fun W vd hg => HLb.out.gd hg (by show some (Z + 1) ≠ some b; have := HVl.out; simp; omega) (fun k e e2 => by have := HVo.out k e2; simp [Value.ownBlock] at e; omega) (fun j _ => by match j with | 0 => exact (by show some Z ≠ some b; have := HVl.out; simp; omega) | j + 1 => exact (by show nS.ownBlock ≠ some b; intro e; cases e)) (fun j k _ e e2 => by match j, e with | 0, e => (have := HVo.out k e2; simp [Value.ownBlock] at e; omega) | j + 1, e => (cases (show nS.ownBlock = some k from e)))) (by decide) (by decide) (by decide))
          rw [run_bad] at HFE
          refine HFE.out.mono ?_
          rintro e w7 ⟨vl7, v7, fs7, rfl, hof7, hsd7, hg7, hm7⟩
          have HB7 := hid (Below.trans HBb.out ((HVb.out.low hg7).mono HBW.out))
          have HO7 := hid (HOb.out.sd hg7 HVb.out)
          have HF7 := hid ((hg7.block F (hp_lt HFb.out) (own_blk HVb.out.kb.blk HFb.out (by decide)) (fun e => own_block HVb.out.kb.own HFb.out (by decide) e)).trans HFb.out)
          obtain ⟨al7, cl7, el7⟩ := hof7.shape
          subst el7
          clear hof7 hsd7 hg7 hm7 HFE
          have HW8 := hid (below_walk w7 (.cells [Value.int .i64 5, .int .i64 6].toArray 33))
          have HN8 := hid (hp_new w7 (.cells [Value.int .i64 5, .int .i64 6].toArray 33))
          have HB8 := hid (below_then HB7.out HW8.out)
          have HO8 := hid (HO7.out.below HW8.out)
          have HF8 := hid (bel_keep HW8.out HF7.out)
          go_upto_region 6 with (refine st_new (by rfl) 33 _ _ (by rfl) [Value.int .i64 5, .int .i64 6] (by rfl) (by rfl) 33 _ faultSize rfl (fault_one _ _) ?_)
          obtain ⟨Y, HYe⟩ : ∃ n, Hid (w7.heap.size = n) := ⟨_, rfl⟩
          rw [HYe.out] at HN8
          try rw [HYe.out]
          generalize w7.alloc (.cells [Value.int .i64 5, .int .i64 6].toArray 33) = w8 at HW8 HN8 HB8 HO8 HF8 ⊢
          obtain ⟨lg, lo, el, _, hrg, _⟩ := HO8.out.frs.at 0 (by simp)
          subst el
          have k0 : w8.cell? ⟨lg, lo, none⟩ = some (.int .i64 5) := by have := hrg 0 (.int .i64 5) rfl; simpa using this
          have f0 : w8.cell? ⟨F, 0, none⟩ = some (.int .i64 0) := by simp [World.cell?, HF8.out]
          have f1 : w8.cell? ⟨F, 1, none⟩ = some (.int .i64 0) := by simp [World.cell?, HF8.out]
          have g0 : w8.cell? ⟨Y, 0, none⟩ = some (.int .i64 5) := by simp [World.cell?, HN8.out]
          have g1 : w8.cell? ⟨Y, 1, none⟩ = some (.int .i64 6) := by simp [World.cell?, HN8.out]
          have n1 : ∀ W, (binOp .eql 33 (.agg #[.int .i64 0, .int .i64 0]) (.agg #[.int .i64 0, .int .i64 0])).run Tryz.prog W = .ok (.bool true) W := fun W => fault_eql 0 0 0 0 W
          have n2 : ∀ W, (binOp .eql 33 (.agg #[.int .i64 5, .int .i64 6]) (.agg #[.int .i64 5, .int .i64 6])).run Tryz.prog W = .ok (.bool true) W := fun W => fault_eql 5 6 5 6 W
          clear hrg
          go_wp2_with (first
            | (refine bd_row (by rfl) 33 #[] (by rfl) _ (by simp) _ built_fz ?_)
            | (refine bd_row (by rfl) 33 #[(0, .const (.int .i64 5)), (1, .const (.int .i64 6))] (by rfl) _ (by simp [Act.eval]) _ (built_ft _ _) ?_))
          go_ret
          exact ⟨rfl, HB8.out⟩
    · as_aux_lemma =>
        have HWF := hid (below_walk w2 (.cells #[.int .i64 0, .int .i64 0] 33))
        have HFw3 := hid (hp_new w2 (.cells #[.int .i64 0, .int .i64 0] 33))
        have HSDw3 := hid (HSDw2.out.below HWF.out)
        have HBw3 := hid (below_then HBw2.out HWF.out)
        have HAw3 := hid (HAw2.out.below HWF.out)
        refine step_alloc_row8 (by rfl) 33 (by rfl) _ zeroFault ?_
        refine hK.out _ _ trivial (fun hHeld => ?_)
        clear hK K
        try simp only [Act.put, List.getElem_toArray, List.getElem_cons_zero, List.getElem_cons_succ, List.setIfInBounds_toArray, List.set_cons_succ, List.set_cons_zero]
        obtain ⟨F, HFe⟩ : ∃ n, Hid (w2.heap.size = n) := ⟨_, rfl⟩
        have HFl := hid HBw2.out.size
        rw [HFe.out] at HFw3 HFl
        try rw [HFe.out]
        generalize w2.alloc (.cells #[.int .i64 0, .int .i64 0] 33) = w3 at *
        refine wpAnyH_ready (rs := [3]) (by kernel_rfl) (by simp) ?_
        refine AllReadyH.cons rfl (fun K hK => ?_) AllReadyH.nil
        go_simp
        refine (abye_any w3).mono ?_
        rintro e w4 ⟨v21, rfl, ho, hb⟩
        have HSv21 := hid (ho.src (by decide))
        have HLv21 := hid (show ∀ k, v21.ownBlock = some k → k ≠ b from fun k e => by have := (World.ownsRow.lt ho k e).1; have := HSDw3.out.kb.lt; omega)
        have HSDw4 := hid (HSDw3.out.below hb)
        have HBw4 := hid (below_then HBw3.out hb)
        have HFw4 := hid (bel_keep hb HFw3.out)
        have HAw4 := hid (HAw3.out.below hb)
        obtain ⟨av21, cv21, ev21⟩ := ho.shape
        rw [hl6] at ev21
        subst ev21
        clear ho hb
        go_wp2_with fail
        refine hK.out _ _ trivial (fun hHeld => ?_)
        clear hK K
        try simp only [Act.put, List.getElem_toArray, List.getElem_cons_zero, List.getElem_cons_succ, List.setIfInBounds_toArray, List.set_cons_succ, List.set_cons_zero]
        obtain ⟨vB, hB1, hBo, hB2⟩ := cut_endb HSv21.out 2 (by decide)
        have HCw4 := hid hB1
        have HBn := hid (show vB.ownBlock ≠ some b from fun e => HLv21.out b (hBo b e) rfl)
        refine wpAnyH_take (i := 4) (v := vB) rfl (by kernel_rfl) (by kernel_rfl) (by kernel_rfl) (fun _ _ _ h => h) (yields_slice (by rfl) 22 (.tmp 21) (some (.const (.int .i64 2))) none none (by rfl) vB (fun W => hB2 W)) hHeld ?_
        simp only [Act.put, List.getElem_toArray, List.getElem_cons_zero, List.getElem_cons_succ, List.setIfInBounds_toArray, List.set_cons_succ, List.set_cons_zero]
        refine wpAnyH_ready (rs := [5]) (by kernel_rfl) (by simp) ?_
        refine AllReadyH.cons rfl (fun K hK => ?_) AllReadyH.nil
        obtain ⟨aA, nA, cA, eA⟩ := src_named HAw4.out
        obtain ⟨aB, nB, cB, eB⟩ := src_named HCw4.out
        have HWA := hid (below_walk w4 (.cells #[vA, vB] 22))
        have HLw5 := hid (lsts_two w4 vA vB _ _ HAw4.out HCw4.out)
        have HSDw5 := hid (HSDw4.out.below HWA.out)
        have HBw5 := hid (below_then HBw4.out HWA.out)
        have HLB := hid (HSDw4.out.kb.lt)
        have HFw5 := hid (bel_keep HWA.out HFw4.out)
        clear hA1 hA2 hB1 hB2 hAo hBo
        subst eA eB
        go_simp
        refine hK.out _ _ trivial (fun hHeld => ?_)
        clear hK K
        try simp only [Act.put, List.getElem_toArray, List.getElem_cons_zero, List.getElem_cons_succ, List.setIfInBounds_toArray, List.set_cons_succ, List.set_cons_zero]
        obtain ⟨B3, HB3e⟩ : ∃ n, Hid (w4.heap.size = n) := ⟨_, rfl⟩
        rw [HB3e.out] at HLw5 HLB
        try rw [HB3e.out]
        generalize w4.alloc (.cells #[.slice aA nA cA, .slice aB nB cB] 22) = w5 at *
        refine wpAnyH_ready (rs := [6]) (by kernel_rfl) (by simp) ?_
        refine AllReadyH.cons rfl (fun K hK => ?_) AllReadyH.nil
        have HFE := hid (kfeed_any HSDw5.out rfl _ _ _ (fun W vd hg => HLw5.out.gd hg (by show some B3 ≠ some b; have := HLB.out; simp; omega) (fun k e e2 => by cases e2) (fun j _ => by match j with | 0 => exact HAn.out | 1 => exact HBn.out | j + 2 => exact (by show nS.ownBlock ≠ some b; intro e; cases e)) (fun j k _ e e2 => by cases e2)) (by decide) (by decide) (by decide))
        rw [run_bye] at HFE
        go_simp
        refine HFE.out.mono ?_
        rintro e w6 ⟨vl, v4, fs, rfl, hof, hsd4, hg4, hm4⟩
        obtain ⟨va, rfl⟩ := map_one hm4
        have HVw6 := hid (show Sd w6 b b v4 9 ⟨[], 6, 1, 0, 0, [6]⟩ from hsd4)
        have HBw6 := hid (Below.trans HBw5.out ((HSDw5.out.low hg4).mono HBW.out))
        have HOw6 := hid hof
        have HFw6 := hid ((hg4.block F (hp_lt HFw5.out) (own_blk HSDw5.out.kb.blk HFw5.out (by decide)) (fun e => by cases e)).trans HFw5.out)
        obtain ⟨al, cl, el⟩ := hof.shape
        simp only [List.length_singleton] at el
        subst el
        clear hof hsd4 hg4 hm4 HFE HSDw5 HLw5
        go_wp2_with fail
        refine hK.out _ _ trivial (fun hHeld => ?_)
        clear hK K
        try simp only [Act.put, List.getElem_toArray, List.getElem_cons_zero, List.getElem_cons_succ, List.setIfInBounds_toArray, List.set_cons_succ, List.set_cons_zero]
        refine wpAnyH_take (i := 7) (v := .tuple #[.slice al 1 cl, .agg #[.int .i64 0, .int .i64 0]]) rfl (by kernel_rfl) (by kernel_rfl) (by kernel_rfl) (fun _ _ _ h => h) (Or.inl ⟨by rfl, fun W _ => by go_simp⟩) hHeld ?_
        simp only [Act.put, List.getElem_toArray, List.getElem_cons_zero, List.getElem_cons_succ, List.setIfInBounds_toArray, List.set_cons_succ, List.set_cons_zero]
        refine wpAnyH_take (i := 8) (v := .slice al 1 cl) rfl (by kernel_rfl) (by kernel_rfl) (by kernel_rfl) (fun _ _ _ h => h) (Or.inl ⟨by rfl, fun W _ => by go_simp⟩) hHeld ?_
        simp only [Act.put, List.getElem_toArray, List.getElem_cons_zero, List.getElem_cons_succ, List.setIfInBounds_toArray, List.set_cons_succ, List.set_cons_zero]
        refine wpAnyH_take (i := 9) (v := .agg #[.int .i64 0, .int .i64 0]) rfl (by kernel_rfl) (by kernel_rfl) (by kernel_rfl) (fun _ _ _ h => h) (Or.inl ⟨by rfl, fun W _ => by go_simp⟩) hHeld ?_
        simp only [Act.put, List.getElem_toArray, List.getElem_cons_zero, List.getElem_cons_succ, List.setIfInBounds_toArray, List.set_cons_succ, List.set_cons_zero]
        refine wpAnyH_take (i := 11) (v := .slice al 1 cl) rfl (by kernel_rfl) (by kernel_rfl) (by kernel_rfl) (fun _ _ _ h => h) (Or.inl ⟨by rfl, fun W _ => by go_simp⟩) hHeld ?_
        simp only [Act.put, List.getElem_toArray, List.getElem_cons_zero, List.getElem_cons_succ, List.setIfInBounds_toArray, List.set_cons_succ, List.set_cons_zero]
        refine wpAnyH_ready (rs := [12]) (by kernel_rfl) (by simp) ?_
        refine AllReadyH.cons rfl (fun K hK => ?_) AllReadyH.nil
        refine step_store_row (by rfl) 33 _ _ (by rfl) F [Value.int .i64 0, .int .i64 0] (by rfl) (by rfl) 33 _ HFw6.out faultSize rfl (fault_one _ _) ?_
        intro wz hwz
        refine hK.out _ _ trivial (fun hHeld => ?_)
        clear hK K
        try simp only [Act.put, List.getElem_toArray, List.getElem_cons_zero, List.getElem_cons_succ]
        refine wpAnyH_done (by kernel_rfl) ?_ _
        simp only [noPanic]
        clear hHeld
        have HFz := hid hwz.blk
        have HBz := hid (Below.of_gb HBw6.out hwz.grown (by have := HFl.out; omega))
        have HVz := hid (HVw6.out.far hwz.grown (fun e => own_blk HVw6.out.kb.blk HFw6.out (by decide) e.symm) (fun k e h9 => own_block HVw6.out.kb.own HFw6.out (by decide) (h9 ▸ e)))
        have HOz := hid (HOw6.out.gone hwz.grown HFw6.out (by decide) (by decide))
        clear hwz
        have HWa := hid (below_walk wz (.cells #[.int .u8 128, .int .u8 0] 5))
        have HSa := hid (src_two wz)
        have HWb := hid (below_walk (wz.alloc (.cells #[.int .u8 128, .int .u8 0] 5)) (.cells #[.slice (some ⟨wz.heap.size, 0, none⟩) 2 2] 22))
        have HLb := hid (lsts_one _ _ _ HSa.out)
        have HVb := hid ((HVz.out.below HWa.out).below HWb.out)
        have HOb := hid ((HOz.out.below HWa.out).below HWb.out)
        have HFb := hid (bel_keep HWb.out (bel_keep HWa.out HFz.out))
        have HBb := hid (below_then (below_then HBz.out HWa.out) HWb.out)
        have HVl := hid HVz.out.kb.lt
        have HVo := hid (fun k e => (World.ownsRow.lt HVz.out.kb.own k e).2)
        have HSz : Hid ((wz.alloc (.cells #[.int .u8 128, .int .u8 0] 5)).heap.size = wz.heap.size + 1) := hid (by simp)
        rw [HSz.out] at HLb
        obtain ⟨Z, HZe⟩ : ∃ n, Hid (wz.heap.size = n) := ⟨_, rfl⟩
        rw [HZe.out] at HLb HVb HOb HFb HBb HVl HVo
        go_wp2_with fail
        try rw [HZe.out]
        generalize (wz.alloc (.cells #[.int .u8 128, .int .u8 0] 5)).alloc (.cells #[.slice (some ⟨Z, 0, none⟩) 2 2] 22) = wb at HLb HVb HOb HFb HBb ⊢
        have HFE := hid (kfeed_any HVb.out rfl _ _ _ (fun W vd hg => HLb.out.gd hg (by show some (Z + 1) ≠ some b; have := HVl.out; simp; omega) (fun k e e2 => by have := HVo.out k e2; simp [Value.ownBlock] at e; omega) (fun j _ => by match j with | 0 => exact (by show some Z ≠ some b; have := HVl.out; simp; omega) | j + 1 => exact (by show nS.ownBlock ≠ some b; intro e; cases e)) (fun j k _ e e2 => by match j, e with | 0, e => (have := HVo.out k e2; simp [Value.ownBlock] at e; omega) | j + 1, e => (cases (show nS.ownBlock = some k from e)))) (by decide) (by decide) (by decide))
        rw [run_bad] at HFE
        refine HFE.out.mono ?_
        rintro e w7 ⟨vl7, v7, fs7, rfl, hof7, hsd7, hg7, hm7⟩
        have HB7 := hid (Below.trans HBb.out ((HVb.out.low hg7).mono HBW.out))
        have HO7 := hid (HOb.out.sd hg7 HVb.out)
        have HF7 := hid ((hg7.block F (hp_lt HFb.out) (own_blk HVb.out.kb.blk HFb.out (by decide)) (fun e => own_block HVb.out.kb.own HFb.out (by decide) e)).trans HFb.out)
        obtain ⟨al7, cl7, el7⟩ := hof7.shape
        subst el7
        clear hof7 hsd7 hg7 hm7 HFE
        have HW8 := hid (below_walk w7 (.cells [Value.int .i64 5, .int .i64 6].toArray 33))
        have HN8 := hid (hp_new w7 (.cells [Value.int .i64 5, .int .i64 6].toArray 33))
        have HB8 := hid (below_then HB7.out HW8.out)
        have HO8 := hid (HO7.out.below HW8.out)
        have HF8 := hid (bel_keep HW8.out HF7.out)
        go_upto_region 6 with (refine st_new (by rfl) 33 _ _ (by rfl) [Value.int .i64 5, .int .i64 6] (by rfl) (by rfl) 33 _ faultSize rfl (fault_one _ _) ?_)
        obtain ⟨Y, HYe⟩ : ∃ n, Hid (w7.heap.size = n) := ⟨_, rfl⟩
        rw [HYe.out] at HN8
        try rw [HYe.out]
        generalize w7.alloc (.cells [Value.int .i64 5, .int .i64 6].toArray 33) = w8 at HW8 HN8 HB8 HO8 HF8 ⊢
        obtain ⟨lg, lo, el, _, hrg, _⟩ := HO8.out.frs.at 0 (by simp)
        subst el
        have k0 : w8.cell? ⟨lg, lo, none⟩ = some (.int .i64 5) := by have := hrg 0 (.int .i64 5) rfl; simpa using this
        have f0 : w8.cell? ⟨F, 0, none⟩ = some (.int .i64 0) := by simp [World.cell?, HF8.out]
        have f1 : w8.cell? ⟨F, 1, none⟩ = some (.int .i64 0) := by simp [World.cell?, HF8.out]
        have g0 : w8.cell? ⟨Y, 0, none⟩ = some (.int .i64 5) := by simp [World.cell?, HN8.out]
        have g1 : w8.cell? ⟨Y, 1, none⟩ = some (.int .i64 6) := by simp [World.cell?, HN8.out]
        have n1 : ∀ W, (binOp .eql 33 (.agg #[.int .i64 0, .int .i64 0]) (.agg #[.int .i64 0, .int .i64 0])).run Tryz.prog W = .ok (.bool true) W := fun W => fault_eql 0 0 0 0 W
        have n2 : ∀ W, (binOp .eql 33 (.agg #[.int .i64 5, .int .i64 6]) (.agg #[.int .i64 5, .int .i64 6])).run Tryz.prog W = .ok (.bool true) W := fun W => fault_eql 5 6 5 6 W
        clear hrg
        go_wp2_with (first
          | (refine bd_row (by rfl) 33 #[] (by rfl) _ (by simp) _ built_fz ?_)
          | (refine bd_row (by rfl) 33 #[(0, .const (.int .i64 5)), (1, .const (.int .i64 6))] (by rfl) _ (by simp [Act.eval]) _ (built_ft _ _) ?_))
        go_ret
        exact ⟨rfl, HB8.out⟩
  · as_aux_lemma =>
      have HWF := hid (below_walk x (.cells #[.int .i64 0, .int .i64 0] 33))
      have HFw2 := hid (hp_new x (.cells #[.int .i64 0, .int .i64 0] 33))
      have HSDw2 := hid (HSDx.out.below HWF.out)
      have HBw2 := hid (below_then HBx.out HWF.out)
      refine step_alloc_row8 (by rfl) 33 (by rfl) _ zeroFault ?_
      refine hK.out _ _ trivial (fun hHeld => ?_)
      clear hK K
      try simp only [Act.put, List.getElem_toArray, List.getElem_cons_zero, List.getElem_cons_succ, List.setIfInBounds_toArray, List.set_cons_succ, List.set_cons_zero]
      obtain ⟨F, HFe⟩ : ∃ n, Hid (x.heap.size = n) := ⟨_, rfl⟩
      have HFl := hid HBx.out.size
      rw [HFe.out] at HFw2 HFl
      try rw [HFe.out]
      generalize x.alloc (.cells #[.int .i64 0, .int .i64 0] 33) = w2 at *
      refine wpAnyH_ready (rs := [1]) (by kernel_rfl) (by simp) ?_
      refine AllReadyH.cons rfl (fun K hK => ?_) AllReadyH.nil
      go_simp
      refine (abye_any w2).mono ?_
      rintro e w3 ⟨v19, rfl, ho, hb⟩
      have HSv19 := hid (ho.src (by decide))
      have HLv19 := hid (show ∀ k, v19.ownBlock = some k → k ≠ b from fun k e => by have := (World.ownsRow.lt ho k e).1; have := HSDw2.out.kb.lt; omega)
      have HSDw3 := hid (HSDw2.out.below hb)
      have HBw3 := hid (below_then HBw2.out hb)
      have HFw3 := hid (bel_keep hb HFw2.out)
      obtain ⟨av19, cv19, ev19⟩ := ho.shape
      rw [hl6] at ev19
      subst ev19
      clear ho hb
      go_wp2_with fail
      refine hK.out _ _ trivial (fun hHeld => ?_)
      clear hK K
      try simp only [Act.put, List.getElem_toArray, List.getElem_cons_zero, List.getElem_cons_succ, List.setIfInBounds_toArray, List.set_cons_succ, List.set_cons_zero]
      obtain ⟨vA, hA1, hAo, hA2⟩ := cut_atb HSv19.out 2 (by decide)
      have HAw3 := hid hA1
      have HAn := hid (show vA.ownBlock ≠ some b from fun e => HLv19.out b (hAo b e) rfl)
      refine wpAnyH_take (i := 2) (v := vA) rfl (by kernel_rfl) (by kernel_rfl) (by kernel_rfl) (fun _ _ _ h => h) (yields_slice (by rfl) 22 (.tmp 19) none (some (.const (.int .i64 2))) none (by rfl) vA (fun W => hA2 W)) hHeld ?_
      simp only [Act.put, List.getElem_toArray, List.getElem_cons_zero, List.getElem_cons_succ, List.setIfInBounds_toArray, List.set_cons_succ, List.set_cons_zero]
      refine wpAnyH_ready (rs := [3]) (by kernel_rfl) (by simp) ?_
      refine AllReadyH.cons rfl (fun K hK => ?_) AllReadyH.nil
      go_simp
      refine (abye_any w3).mono ?_
      rintro e w4 ⟨v21, rfl, ho, hb⟩
      have HSv21 := hid (ho.src (by decide))
      have HLv21 := hid (show ∀ k, v21.ownBlock = some k → k ≠ b from fun k e => by have := (World.ownsRow.lt ho k e).1; have := HSDw3.out.kb.lt; omega)
      have HSDw4 := hid (HSDw3.out.below hb)
      have HBw4 := hid (below_then HBw3.out hb)
      have HFw4 := hid (bel_keep hb HFw3.out)
      have HAw4 := hid (HAw3.out.below hb)
      obtain ⟨av21, cv21, ev21⟩ := ho.shape
      rw [hl6] at ev21
      subst ev21
      clear ho hb
      go_wp2_with fail
      refine hK.out _ _ trivial (fun hHeld => ?_)
      clear hK K
      try simp only [Act.put, List.getElem_toArray, List.getElem_cons_zero, List.getElem_cons_succ, List.setIfInBounds_toArray, List.set_cons_succ, List.set_cons_zero]
      obtain ⟨vB, hB1, hBo, hB2⟩ := cut_endb HSv21.out 2 (by decide)
      have HCw4 := hid hB1
      have HBn := hid (show vB.ownBlock ≠ some b from fun e => HLv21.out b (hBo b e) rfl)
      refine wpAnyH_take (i := 4) (v := vB) rfl (by kernel_rfl) (by kernel_rfl) (by kernel_rfl) (fun _ _ _ h => h) (yields_slice (by rfl) 22 (.tmp 21) (some (.const (.int .i64 2))) none none (by rfl) vB (fun W => hB2 W)) hHeld ?_
      simp only [Act.put, List.getElem_toArray, List.getElem_cons_zero, List.getElem_cons_succ, List.setIfInBounds_toArray, List.set_cons_succ, List.set_cons_zero]
      refine wpAnyH_ready (rs := [5]) (by kernel_rfl) (by simp) ?_
      refine AllReadyH.cons rfl (fun K hK => ?_) AllReadyH.nil
      obtain ⟨aA, nA, cA, eA⟩ := src_named HAw4.out
      obtain ⟨aB, nB, cB, eB⟩ := src_named HCw4.out
      have HWA := hid (below_walk w4 (.cells #[vA, vB] 22))
      have HLw5 := hid (lsts_two w4 vA vB _ _ HAw4.out HCw4.out)
      have HSDw5 := hid (HSDw4.out.below HWA.out)
      have HBw5 := hid (below_then HBw4.out HWA.out)
      have HLB := hid (HSDw4.out.kb.lt)
      have HFw5 := hid (bel_keep HWA.out HFw4.out)
      clear hA1 hA2 hB1 hB2 hAo hBo
      subst eA eB
      go_simp
      refine hK.out _ _ trivial (fun hHeld => ?_)
      clear hK K
      try simp only [Act.put, List.getElem_toArray, List.getElem_cons_zero, List.getElem_cons_succ, List.setIfInBounds_toArray, List.set_cons_succ, List.set_cons_zero]
      obtain ⟨B3, HB3e⟩ : ∃ n, Hid (w4.heap.size = n) := ⟨_, rfl⟩
      rw [HB3e.out] at HLw5 HLB
      try rw [HB3e.out]
      generalize w4.alloc (.cells #[.slice aA nA cA, .slice aB nB cB] 22) = w5 at *
      refine wpAnyH_ready (rs := [6]) (by kernel_rfl) (by simp) ?_
      refine AllReadyH.cons rfl (fun K hK => ?_) AllReadyH.nil
      have HFE := hid (kfeed_any HSDw5.out rfl _ _ _ (fun W vd hg => HLw5.out.gd hg (by show some B3 ≠ some b; have := HLB.out; simp; omega) (fun k e e2 => by cases e2) (fun j _ => by match j with | 0 => exact HAn.out | 1 => exact HBn.out | j + 2 => exact (by show nS.ownBlock ≠ some b; intro e; cases e)) (fun j k _ e e2 => by cases e2)) (by decide) (by decide) (by decide))
      rw [run_bye] at HFE
      go_simp
      refine HFE.out.mono ?_
      rintro e w6 ⟨vl, v4, fs, rfl, hof, hsd4, hg4, hm4⟩
      obtain ⟨va, rfl⟩ := map_one hm4
      have HVw6 := hid (show Sd w6 b b v4 9 ⟨[], 6, 1, 0, 0, [6]⟩ from hsd4)
      have HBw6 := hid (Below.trans HBw5.out ((HSDw5.out.low hg4).mono HBW.out))
      have HOw6 := hid hof
      have HFw6 := hid ((hg4.block F (hp_lt HFw5.out) (own_blk HSDw5.out.kb.blk HFw5.out (by decide)) (fun e => by cases e)).trans HFw5.out)
      obtain ⟨al, cl, el⟩ := hof.shape
      simp only [List.length_singleton] at el
      subst el
      clear hof hsd4 hg4 hm4 HFE HSDw5 HLw5
      go_wp2_with fail
      refine hK.out _ _ trivial (fun hHeld => ?_)
      clear hK K
      try simp only [Act.put, List.getElem_toArray, List.getElem_cons_zero, List.getElem_cons_succ, List.setIfInBounds_toArray, List.set_cons_succ, List.set_cons_zero]
      refine wpAnyH_take (i := 7) (v := .tuple #[.slice al 1 cl, .agg #[.int .i64 0, .int .i64 0]]) rfl (by kernel_rfl) (by kernel_rfl) (by kernel_rfl) (fun _ _ _ h => h) (Or.inl ⟨by rfl, fun W _ => by go_simp⟩) hHeld ?_
      simp only [Act.put, List.getElem_toArray, List.getElem_cons_zero, List.getElem_cons_succ, List.setIfInBounds_toArray, List.set_cons_succ, List.set_cons_zero]
      refine wpAnyH_take (i := 8) (v := .slice al 1 cl) rfl (by kernel_rfl) (by kernel_rfl) (by kernel_rfl) (fun _ _ _ h => h) (Or.inl ⟨by rfl, fun W _ => by go_simp⟩) hHeld ?_
      simp only [Act.put, List.getElem_toArray, List.getElem_cons_zero, List.getElem_cons_succ, List.setIfInBounds_toArray, List.set_cons_succ, List.set_cons_zero]
      refine wpAnyH_take (i := 9) (v := .agg #[.int .i64 0, .int .i64 0]) rfl (by kernel_rfl) (by kernel_rfl) (by kernel_rfl) (fun _ _ _ h => h) (Or.inl ⟨by rfl, fun W _ => by go_simp⟩) hHeld ?_
      simp only [Act.put, List.getElem_toArray, List.getElem_cons_zero, List.getElem_cons_succ, List.setIfInBounds_toArray, List.set_cons_succ, List.set_cons_zero]
      refine wpAnyH_take (i := 11) (v := .slice al 1 cl) rfl (by kernel_rfl) (by kernel_rfl) (by kernel_rfl) (fun _ _ _ h => h) (Or.inl ⟨by rfl, fun W _ => by go_simp⟩) hHeld ?_
      simp only [Act.put, List.getElem_toArray, List.getElem_cons_zero, List.getElem_cons_succ, List.setIfInBounds_toArray, List.set_cons_succ, List.set_cons_zero]
      refine wpAnyH_ready (rs := [12]) (by kernel_rfl) (by simp) ?_
      refine AllReadyH.cons rfl (fun K hK => ?_) AllReadyH.nil
      refine step_store_row (by rfl) 33 _ _ (by rfl) F [Value.int .i64 0, .int .i64 0] (by rfl) (by rfl) 33 _ HFw6.out faultSize rfl (fault_one _ _) ?_
      intro wz hwz
      refine hK.out _ _ trivial (fun hHeld => ?_)
      clear hK K
      try simp only [Act.put, List.getElem_toArray, List.getElem_cons_zero, List.getElem_cons_succ]
      refine wpAnyH_done (by kernel_rfl) ?_ _
      simp only [noPanic]
      clear hHeld
      have HFz := hid hwz.blk
      have HBz := hid (Below.of_gb HBw6.out hwz.grown (by have := HFl.out; omega))
      have HVz := hid (HVw6.out.far hwz.grown (fun e => own_blk HVw6.out.kb.blk HFw6.out (by decide) e.symm) (fun k e h9 => own_block HVw6.out.kb.own HFw6.out (by decide) (h9 ▸ e)))
      have HOz := hid (HOw6.out.gone hwz.grown HFw6.out (by decide) (by decide))
      clear hwz
      have HWa := hid (below_walk wz (.cells #[.int .u8 128, .int .u8 0] 5))
      have HSa := hid (src_two wz)
      have HWb := hid (below_walk (wz.alloc (.cells #[.int .u8 128, .int .u8 0] 5)) (.cells #[.slice (some ⟨wz.heap.size, 0, none⟩) 2 2] 22))
      have HLb := hid (lsts_one _ _ _ HSa.out)
      have HVb := hid ((HVz.out.below HWa.out).below HWb.out)
      have HOb := hid ((HOz.out.below HWa.out).below HWb.out)
      have HFb := hid (bel_keep HWb.out (bel_keep HWa.out HFz.out))
      have HBb := hid (below_then (below_then HBz.out HWa.out) HWb.out)
      have HVl := hid HVz.out.kb.lt
      have HVo := hid (fun k e => (World.ownsRow.lt HVz.out.kb.own k e).2)
      have HSz : Hid ((wz.alloc (.cells #[.int .u8 128, .int .u8 0] 5)).heap.size = wz.heap.size + 1) := hid (by simp)
      rw [HSz.out] at HLb
      obtain ⟨Z, HZe⟩ : ∃ n, Hid (wz.heap.size = n) := ⟨_, rfl⟩
      rw [HZe.out] at HLb HVb HOb HFb HBb HVl HVo
      go_wp2_with fail
      try rw [HZe.out]
      generalize (wz.alloc (.cells #[.int .u8 128, .int .u8 0] 5)).alloc (.cells #[.slice (some ⟨Z, 0, none⟩) 2 2] 22) = wb at HLb HVb HOb HFb HBb ⊢
      have HFE := hid (kfeed_any HVb.out rfl _ _ _ (fun W vd hg => HLb.out.gd hg (by show some (Z + 1) ≠ some b; have := HVl.out; simp; omega) (fun k e e2 => by have := HVo.out k e2; simp [Value.ownBlock] at e; omega) (fun j _ => by match j with | 0 => exact (by show some Z ≠ some b; have := HVl.out; simp; omega) | j + 1 => exact (by show nS.ownBlock ≠ some b; intro e; cases e)) (fun j k _ e e2 => by match j, e with | 0, e => (have := HVo.out k e2; simp [Value.ownBlock] at e; omega) | j + 1, e => (cases (show nS.ownBlock = some k from e)))) (by decide) (by decide) (by decide))
      rw [run_bad] at HFE
      refine HFE.out.mono ?_
      rintro e w7 ⟨vl7, v7, fs7, rfl, hof7, hsd7, hg7, hm7⟩
      have HB7 := hid (Below.trans HBb.out ((HVb.out.low hg7).mono HBW.out))
      have HO7 := hid (HOb.out.sd hg7 HVb.out)
      have HF7 := hid ((hg7.block F (hp_lt HFb.out) (own_blk HVb.out.kb.blk HFb.out (by decide)) (fun e => own_block HVb.out.kb.own HFb.out (by decide) e)).trans HFb.out)
      obtain ⟨al7, cl7, el7⟩ := hof7.shape
      subst el7
      clear hof7 hsd7 hg7 hm7 HFE
      have HW8 := hid (below_walk w7 (.cells [Value.int .i64 5, .int .i64 6].toArray 33))
      have HN8 := hid (hp_new w7 (.cells [Value.int .i64 5, .int .i64 6].toArray 33))
      have HB8 := hid (below_then HB7.out HW8.out)
      have HO8 := hid (HO7.out.below HW8.out)
      have HF8 := hid (bel_keep HW8.out HF7.out)
      go_upto_region 6 with (refine st_new (by rfl) 33 _ _ (by rfl) [Value.int .i64 5, .int .i64 6] (by rfl) (by rfl) 33 _ faultSize rfl (fault_one _ _) ?_)
      obtain ⟨Y, HYe⟩ : ∃ n, Hid (w7.heap.size = n) := ⟨_, rfl⟩
      rw [HYe.out] at HN8
      try rw [HYe.out]
      generalize w7.alloc (.cells [Value.int .i64 5, .int .i64 6].toArray 33) = w8 at HW8 HN8 HB8 HO8 HF8 ⊢
      obtain ⟨lg, lo, el, _, hrg, _⟩ := HO8.out.frs.at 0 (by simp)
      subst el
      have k0 : w8.cell? ⟨lg, lo, none⟩ = some (.int .i64 5) := by have := hrg 0 (.int .i64 5) rfl; simpa using this
      have f0 : w8.cell? ⟨F, 0, none⟩ = some (.int .i64 0) := by simp [World.cell?, HF8.out]
      have f1 : w8.cell? ⟨F, 1, none⟩ = some (.int .i64 0) := by simp [World.cell?, HF8.out]
      have g0 : w8.cell? ⟨Y, 0, none⟩ = some (.int .i64 5) := by simp [World.cell?, HN8.out]
      have g1 : w8.cell? ⟨Y, 1, none⟩ = some (.int .i64 6) := by simp [World.cell?, HN8.out]
      have n1 : ∀ W, (binOp .eql 33 (.agg #[.int .i64 0, .int .i64 0]) (.agg #[.int .i64 0, .int .i64 0])).run Tryz.prog W = .ok (.bool true) W := fun W => fault_eql 0 0 0 0 W
      have n2 : ∀ W, (binOp .eql 33 (.agg #[.int .i64 5, .int .i64 6]) (.agg #[.int .i64 5, .int .i64 6])).run Tryz.prog W = .ok (.bool true) W := fun W => fault_eql 5 6 5 6 W
      clear hrg
      go_wp2_with (first
        | (refine bd_row (by rfl) 33 #[] (by rfl) _ (by simp) _ built_fz ?_)
        | (refine bd_row (by rfl) 33 #[(0, .const (.int .i64 5)), (1, .const (.int .i64 6))] (by rfl) _ (by simp [Act.eval]) _ (built_ft _ _) ?_))
      go_ret
      exact ⟨rfl, HB8.out⟩
end Go.Proofs.YtiibhccbbpgehaaGreat

/- A region that draws its order: what is held may be made more on the way. Frames that lie apart from what grew. -/
namespace Go.Proofs.YtiibhccbbpgehaaGreat
open Go.RowKit Go.BigFrame

def Low (N : Nat) (v : Value) (fs : List FV) : Prop := (∀ k, v.ownBlock = some k → k < N) ∧ ∀ f ∈ fs, ∀ k, f.2.ownBlock = some k → k < N
theorem OFs.low {w : World} {lo : Nat} {v : Value} {fs : List FV} (h : OFs w lo v fs) : Low w.heap.size v fs :=
  ⟨fun k e => (World.ownsRow.lt h.own k e).2, fun f hf k e => (World.ownsRow.lt (h.each f hf).1 k e).2⟩
theorem OFs.off {w w' : World} {lo N : Nat} {v : Value} {row : Option Nat} {fs : List FV} (h : OFs w lo v fs) (hl : Low N v fs) (g : w.grownBy w' row) (hn : ∀ k, row = some k → N ≤ k) : OFs w' lo v fs := by
  have key : ∀ {t : TypeId} {sz m : Nat} {u : Value} {ys : List Value}, w.ownsRow lo t sz u m ys → (∀ k, u.ownBlock = some k → k < N) → w'.ownsRow lo t sz u m ys := by
    intro t sz m u ys hu hb
    refine World.ownsRow.kept hu g ?_
    cases hk : u.ownBlock with
    | none => exact Or.inl rfl
    | some k => exact Or.inr (fun h9 => by have := hb k hk; have := hn k h9.symm; omega)
  exact ⟨key h.own hl.1, fun f hf => ⟨key (h.each f hf).1 (hl.2 f hf), (h.each f hf).2⟩⟩
theorem gb_blk {w w' : World} {row : Option Nat} {b : Nat} {o : Obj} (hb : w.heap[b]? = some o) (g : w.grownBy w' row) (hn : row ≠ some b) : w'.heap[b]? = some o :=
  (g.block b (hp_lt hb) (fun e => hn e.symm)).trans hb
theorem Below.of_gbo {w w1 w2 : World} {row : Option Nat} (h : Below w.heap.size w w1) (g : w1.grownBy w2 row) (hr : ∀ k, row = some k → w.heap.size ≤ k) : Below w.heap.size w w2 :=
  ⟨g.os.trans h.os, g.tape.trans h.tape, g.output.trans h.output, Nat.le_trans h.size g.size, fun k hk => (g.block k (Nat.lt_of_lt_of_le hk h.size) (fun e => by have := hr k e.symm; omega)).trans (h.block k hk)⟩
end Go.Proofs.YtiibhccbbpgehaaGreat

/- The document's reader: what it means that a block is one; its calls fail and short, and New. -/
namespace Go.Proofs.YtiibhccbbpgehaaGreat
open Go.RowKit

structure Qd (w : World) (base b : Nat) (v : Value) (bs : List UInt8) (a : Nat) (why wat : Int) : Prop where
  lo : base ≤ b
  blk : w.heap[b]? = some (.cells #[v, .int .i64 a, .int .i64 why, .int .i64 wat] 88 (0, 0))
  own : OwnB w base v bs
  ne : v.ownBlock ≠ some b
  le : a ≤ bs.length

section
variable {w w' : World} {base b : Nat} {v : Value} {bs : List UInt8} {a : Nat} {why wat : Int}
theorem Qd.lt (h : Qd w base b v bs a why wat) : b < w.heap.size := by
  rcases Nat.lt_or_ge b w.heap.size with h1 | h1
  · exact h1
  · have := h.blk; rw [Array.getElem?_eq_none h1] at this; cases this
theorem Qd.c0 (h : Qd w base b v bs a why wat) : w.cell? ⟨b, 0, none⟩ = some v := by simp [World.cell?, h.blk]
theorem Qd.c1 (h : Qd w base b v bs a why wat) : w.cell? ⟨b, 1, none⟩ = some (.int .i64 a) := by simp [World.cell?, h.blk]
theorem Qd.c2 (h : Qd w base b v bs a why wat) : w.cell? ⟨b, 2, none⟩ = some (.int .i64 why) := by simp [World.cell?, h.blk]
theorem Qd.c3 (h : Qd w base b v bs a why wat) : w.cell? ⟨b, 3, none⟩ = some (.int .i64 wat) := by simp [World.cell?, h.blk]
theorem Qd.fz (h : Qd w base b v bs a why wat) (i : Nat) : w.frozen? ⟨b, i, none⟩ = false := by simp [World.frozen?, h.blk]
theorem Qd.grown {row : Option Nat} (h : Qd w base b v bs a why wat) (hg : w.grownBy w' row) (hb : row ≠ some b) (hv : v.ownBlock = none ∨ v.ownBlock ≠ row) : Qd w' base b v bs a why wat :=
  ⟨h.lo, (hg.block b h.lt (fun e => hb e.symm)).trans h.blk, h.own.kept hg hv, h.ne, h.le⟩
theorem Qd.below (h : Qd w base b v bs a why wat) (hb : Below w.heap.size w w') : Qd w' base b v bs a why wat :=
  ⟨h.lo, (hb.block b h.lt).trans h.blk, h.own.below hb, h.ne, h.le⟩
theorem Qd.drewN (h : Qd w base b v bs a why wat) (k : Nat) : Qd (w.drewN k) base b v bs a why wat := ⟨h.lo, h.blk, h.own, h.ne, h.le⟩
theorem Qd.drew (h : Qd w base b v bs a why wat) : Qd w.drew base b v bs a why wat := ⟨h.lo, h.blk, h.own, h.ne, h.le⟩
theorem Qd.setAt (h : Qd w base b v bs a why wat) (a' : Nat) (h' : a' ≤ bs.length) : Qd (w.setCell ⟨b, 1, none⟩ (.int .i64 a')) base b v bs a' why wat :=
  ⟨h.lo, blk_set h.blk _, h.own.kept (gb_set w _ _) (Or.inr (by simpa using h.ne)), h.ne, h'⟩
theorem Qd.setFault (h : Qd w base b v bs a why wat) (e x : Int) : Qd ((w.setCell ⟨b, 2, none⟩ (.int .i64 e)).setCell ⟨b, 3, none⟩ (.int .i64 x)) base b v bs a e x :=
  ⟨h.lo, blk_set (blk_set h.blk _) _, (h.own.kept (gb_set w _ _) (Or.inr (by simpa using h.ne))).kept (gb_set _ _ _) (Or.inr (by simpa using h.ne)), h.ne, h.le⟩

set_option maxHeartbeats 400000 in
theorem qfail_any (h : Qd w base b v bs a why wat) (e x : Int) :
    Calls Tryz.prog 78 #[.pointer (some ⟨b, 0, none⟩), .int .i64 e, .int .i64 x] w fun r w' => r = .returned (.tuple #[]) ∧ Qd w' base b v bs a e x ∧ w.grownBy w' (some b) := by
  have HR := hid h
  have h2 := h.c2
  have h3 := h.c3
  have f2 := h.fz 2
  have f3 := h.fz 3
  clear h
  go_enter Tryz.func78, Tryz.ntmps78
  go_wp2
  go_end0
  exact ⟨rfl, HR.out.setFault _ _, gb_trans (gb_set _ _ _) (gb_set _ _ _)⟩
end

theorem num_plus {acc c j : Nat} (hj : j ≤ 9) (ha : acc < 128 ^ j) (h9 : j = 9 → c ≤ 1) :
    IntKind.u64.wrap ((acc : Int) + IntKind.u64.wrap ((c : Int) % 128 * 2 ^ (7 * j))) = ((acc + c % 128 * 128 ^ j : Nat) : Int) := by
  have hg := group_lt hj h9
  have hp := pow_mono hj
  have e0 : (c : Int) % 128 = ((c % 128 : Nat) : Int) := by omega
  have e2 : ((c % 128 : Nat) : Int) * 2 ^ (7 * j) = ((c % 128 * 128 ^ j : Nat) : Int) := by rw [← seven_pow j]; simp
  have e3 : IntKind.u64.wrap ((c % 128 * 128 ^ j : Nat) : Int) = ((c % 128 * 128 ^ j : Nat) : Int) := by rw [IntKind.wrap_u64]; omega
  have hb : acc + c % 128 * 128 ^ j < 18446744073709551616 := by
    rcases Nat.lt_or_ge j 9 with h | h
    · have h1 := pow_step h
      have h2 : c % 128 * 128 ^ j ≤ 127 * 72057594037927936 := Nat.mul_le_mul (by omega) h1
      omega
    · obtain rfl : j = 9 := by omega
      have h1 := h9 rfl
      have : c % 128 * 128 ^ 9 ≤ 1 * 128 ^ 9 := Nat.mul_le_mul_right _ (by omega)
      omega
  rw [e0, e2, e3, IntKind.wrap_u64]
  omega

theorem ret_num3 {x y : Int} {k : Int} (h : x = y) : Ending.returned (.tuple #[.int .u64 x, .int .i64 k, .int .i64 0]) = .returned (.tuple #[.int .u64 y, .int .i64 k, .int .i64 0]) := by rw [h]

set_option maxRecDepth 100000 in
set_option maxHeartbeats 1000000 in
theorem short_any (base : Nat) (v : Value) (bs : List UInt8) (a : Nat) (w : World) (ho : OwnB w base v bs) (hle : a ≤ bs.length) (er n k : Nat) (hdec : dec (bs.drop a) 0 0 = (er, n, k)) :
    Calls Tryz.prog 105 #[v, .int .i64 a] w fun e w' => e = .returned (.tuple #[.int .u64 n, .int .i64 k, .int .i64 er]) ∧ w' = w := by
  have HD := hid hdec
  have hl := ho.len
  have HF := hid ho.forms
  obtain ⟨ad, cap, rfl⟩ := ho.shape
  clear ho hdec
  unfold maxLen at hl
  go_enter Tryz.func105, Tryz.ntmps105
  go_wp2_with fail
  go_loop [7, 8] (fun x i => ∃ (j acc : Nat), j ≤ 9 ∧ a + j ≤ bs.length ∧ acc < 128 ^ j ∧ dec (bs.drop (a + j)) j acc = (er, n, k) ∧ x = .int .u64 acc ∧ i = .int .i64 j) (fun _ i => 10 - (intOf i).toNat)
  case atStart => exact ⟨0, 0, by omega, by omega, by simp, HD.out, rfl, rfl⟩
  case round =>
    obtain ⟨j, acc, hj, haj, hacc, hd, rfl, rfl⟩ := hrel
    have HDR := hid hd
    have HAC := hid hacc
    clear hd hacc HD
    by_cases hlt : a + j < bs.length
    · obtain ⟨g, hadr, hbyte⟩ : ∃ g, ad = some ⟨g, 0, none⟩ ∧ w.cell? ⟨g, a + j, none⟩ = some (.int .u8 (bs.getD (a + j) 0).toNat) := by
        rcases HF.out with ⟨_, rfl⟩ | ⟨g, cp, hv, _, _, _, _, _, hc⟩
        · simp at hlt
        · simp only [Value.slice.injEq] at hv
          exact ⟨g, hv.1, hc _ hlt⟩
      subst hadr
      have HDR2 := hid (by rw [← HDR.out, drop_cons hlt, dec_cons] : (er, n, k) = _)
      have hcl := UInt8.toNat_lt (bs.getD (a + j) 0)
      generalize (bs.getD (a + j) 0).toNat = c at *
      have hbd : (a : Int) + (j : Int) < (bs.length : Int) := by omega
      have hbd0 : 0 ≤ (a : Int) + (j : Int) := by omega
      have hte : ((a : Int) + (j : Int)).toNat = a + j := by omega
      by_cases h9 : j = 9
      · subst h9
        have hbd' : (a : Int) + 9 < (bs.length : Int) := by omega
        have hbd0' : 0 ≤ (a : Int) + 9 := by omega
        have hte' : ((a : Int) + 9).toNat = a + 9 := by omega
        by_cases hc1 : (1 : Int) < (c : Int)
        · have HE := hid (end_wide (j := 9) HDR2.out rfl (by omega : 1 < c))
          clear HDR2
          go_wp2_with fail
          go_ret3
          obtain ⟨rfl, rfl, rfl⟩ := HE.out
          exact ⟨rfl, rfl⟩
        · by_cases hz : c = 0
          · have hz' : (c : Int) = 0 := by omega
            have HE := hid (end_form (j := 9) (c := c) HDR2.out (by omega) (by omega) hz)
            clear hz HDR2
            go_wp2_with fail
            go_ret3
            obtain ⟨rfl, rfl, rfl⟩ := HE.out
            exact ⟨rfl, rfl⟩
          · obtain rfl : c = 1 := by omega
            have HE := hid (end_done (j := 9) (c := 1) HDR2.out (by omega) (by omega) (by omega))
            clear HDR2
            go_wp2_with fail
            go_ret3
            obtain ⟨rfl, rfl, rfl⟩ := HE.out
            exact ⟨ret_num3 (num_plus (c := 1) (j := 9) (by omega) HAC.out (by omega)), rfl⟩
      · have HJ9 := hid h9
        have hj9 : ¬ (j : Int) = 9 := by omega
        clear h9
        by_cases hc1 : (c : Int) < 128
        · by_cases hz : c = 0
          · have HZ := hid hz
            have hz' : (c : Int) = 0 := by omega
            clear hz
            by_cases hj0 : 0 < j
            · go_wp2_with fail
              go_ret3
              obtain ⟨rfl, rfl, rfl⟩ := end_form (c := c) (j := j) HDR2.out (by omega) hj0 HZ.out
              exact ⟨rfl, rfl⟩
            · have HE := hid (end_done (c := c) (j := j) HDR2.out (by omega) (by omega) (by omega))
              clear HDR2
              go_wp2_with fail
              go_ret3
              obtain ⟨rfl, rfl, rfl⟩ := HE.out
              refine ⟨ret_num3 (k := (j : Int) + 1) ?_, rfl⟩
              have h1 := pow_mono (show j ≤ 9 by omega)
              have h2 := HAC.out
              rw [HZ.out, IntKind.wrap_u64]
              omega
          · have hz' : ¬ (c : Int) = 0 := by omega
            go_wp2_with fail
            go_ret3
            obtain ⟨rfl, rfl, rfl⟩ := end_done HDR2.out (by have := HJ9.out; omega) (by omega) (by omega)
            have e1 : c % 128 = c := by omega
            exact ⟨ret_num3 (by rw [num_plus (by omega) HAC.out (fun e => absurd e HJ9.out), e1]), rfl⟩
        · go_wp2_with fail
          have e0 := end_more HDR2.out HJ9.out (by omega)
          have e1 : c % 128 = c - 128 := by omega
          have hps : 128 ^ (j + 1) = 128 ^ j * 128 := Nat.pow_succ _ _
          have hlt2 : acc + (c - 128) * 128 ^ j < 128 ^ (j + 1) := by
            have h1 : (c - 128) * 128 ^ j ≤ 127 * 128 ^ j := Nat.mul_le_mul_right _ (by omega)
            have h2 := HAC.out
            omega
          have hj' := HJ9.out
          go_round
          case rel => exact ⟨j + 1, acc + (c - 128) * 128 ^ j, by omega, by omega, hlt2, e0, by rw [num_plus (by omega) HAC.out (fun e => absurd e HJ9.out), e1], by go_num⟩
          case measure => simp [intOf]; omega
    · go_wp2_with fail
      go_ret3
      have e1 : bs.drop (a + j) = [] := List.drop_eq_nil_of_le (by omega)
      have e2 := HDR.out
      rw [e1] at e2
      simp [dec] at e2
      obtain ⟨rfl, rfl, rfl⟩ := e2
      exact ⟨rfl, rfl⟩

end Go.Proofs.YtiibhccbbpgehaaGreat

/- The document's reader: Uint, Int, Fail, End. -/
namespace Go.Proofs.YtiibhccbbpgehaaGreat
open Go.RowKit

theorem watOf_ne {er : Nat} (h : er ≠ 0) (a : Nat) (wat : Int) : watOf er a wat = a := by
  unfold watOf
  simp [h]

section

variable {w : World} {base b : Nat} {v : Value} {bs : List UInt8} {a : Nat} {why wat : Int}

set_option maxHeartbeats 1000000 in
theorem quint_over (h : Qd w base b v bs a why wat) (hw : why ≠ 0) :
    Calls Tryz.prog 70 #[.pointer (some ⟨b, 0, none⟩)] w fun e w' => e = .returned (.int .u64 0) ∧ w' = w := by
  have h2 := h.c2
  have hb : (why != 0) = true := by simpa using hw
  clear h
  go_enter Tryz.func70, Tryz.ntmps70
  go_wp2
  go_ret
  exact ⟨rfl, rfl⟩

set_option maxHeartbeats 1000000 in
theorem quint_go (h : Qd w base b v bs a 0 wat) (er n k : Nat) (hdec : dec (bs.drop a) 0 0 = (er, n, k)) :
    Calls Tryz.prog 70 #[.pointer (some ⟨b, 0, none⟩)] w fun e w' => e = .returned (.int .u64 n) ∧ Qd w' base b v bs (a + k) er (watOf er a wat) ∧ w.grownBy w' (some b) := by
  have HR := hid h
  have h0 := h.c0
  have h1 := h.c1
  have h2 := h.c2
  have f1 := h.fz 1
  have hle := h.le
  have hl := h.own.len
  unfold maxLen at hl
  have HD := hid hdec
  have HL := hid (dec_le _ hdec)
  clear h hdec
  go_enter Tryz.func70, Tryz.ntmps70
  go_wp2_with fail
  go_quiet (first | (go_at_call 105; exact Calls.quiet_of_same (short_any base v bs a _ (HR.out.drewN _).own HR.out.le er n k HD.out)))
  by_cases he : er = 0
  · subst he
    have hk : (a : Int) + (k : Int) ≤ 9223372036854775807 := by have := HL.out.1; simp at this; omega
    go_wp2_with fail
    go_ret
    have R := (HR.out.drewN nq).setAt (a + k) (by have := HL.out.1; simp at this; omega)
    rw [Int.natCast_add] at R
    exact ⟨rfl, by simpa [watOf] using R, gb_trans (gb_drewN _ _ _) (gb_set _ _ _)⟩
  · have hW := watOf_ne he a wat
    have HW := hid hW
    clear hW
    have he' : ((er : Int) != 0) = true := by simpa using he
    obtain ⟨rfl, rfl⟩ := HL.out.2.2.2 he
    clear he
    go_wp2_with fail
    refine (qfail_any (HR.out.drewN nq) _ _).mono ?_
    rintro e w1 ⟨rfl, hq, hg⟩
    have HQ := hid hq
    have HG := hid (gb_trans (gb_drewN w nq _) hg)
    clear hq hg
    go_wp2_with fail
    go_ret
    exact ⟨rfl, by rw [HW.out]; exact HQ.out, HG.out⟩

theorem quint_R (h : Qd w base b v bs a why wat) :
    Calls Tryz.prog 70 #[.pointer (some ⟨b, 0, none⟩)] w fun e w' => e = .returned (.int .u64 (uintF bs a why wat).1) ∧ Qd w' base b v bs (uintF bs a why wat).2.1 (uintF bs a why wat).2.2.1 (uintF bs a why wat).2.2.2 ∧ w.grownBy w' (some b) := by
  unfold uintF
  by_cases hw : why ≠ 0
  · rw [if_pos hw]
    refine (quint_over h hw).mono ?_
    rintro e w' ⟨rfl, rfl⟩
    exact ⟨rfl, h, gb_refl _ _⟩
  · rw [if_neg hw]
    obtain rfl : why = 0 := by omega
    exact quint_go h _ _ _ rfl

set_option maxHeartbeats 1000000 in
theorem qfailm_R (n : Int) (h : Qd w base b v bs a why wat) :
    Calls Tryz.prog 107 #[.pointer (some ⟨b, 0, none⟩), .int .i64 n] w fun e w' => e = .returned (.tuple #[]) ∧
      Qd w' base b v bs a (if why = 0 then n else why) (if why = 0 ∧ n ≠ 0 then a else wat) ∧ w.grownBy w' (some b) := by
  have h1 := h.c1
  have h2 := h.c2
  by_cases hw : why = 0
  · subst hw
    by_cases hn : n = 0
    · subst hn
      rw [if_pos rfl, if_neg (by simp)]
      have HR := hid h
      clear h
      go_enter Tryz.func107, Tryz.ntmps107
      go_wp2_with fail
      go_end0
      exact ⟨rfl, HR.out, gb_refl _ _⟩
    · rw [if_pos rfl, if_pos ⟨rfl, hn⟩]
      have HR := hid h
      have hn' : (n != 0) = true := by simpa using hn
      clear h hn
      go_enter Tryz.func107, Tryz.ntmps107
      go_wp2_with fail
      refine (qfail_any HR.out _ _).mono ?_
      rintro e w1 ⟨rfl, hq, hg⟩
      have HQ := hid hq
      have HG := hid hg
      clear hq hg HR
      go_wp2_with fail
      go_end0
      exact ⟨rfl, HQ.out, HG.out⟩
  · rw [if_neg hw, if_neg (by simp [hw])]
    have HR := hid h
    have hw' : (why == 0) = false := by simpa using hw
    clear h hw
    go_enter Tryz.func107, Tryz.ntmps107
    go_wp2_with fail
    go_end0
    exact ⟨rfl, HR.out, gb_refl _ _⟩

set_option maxHeartbeats 1000000 in
theorem qend_more (h : Qd w base b v bs a 0 wat) (hlt : a < bs.length) :
    Calls Tryz.prog 35 #[.pointer (some ⟨b, 0, none⟩)] w fun e w' => e = .returned (.tuple #[.int .i64 6, .int .i64 a]) ∧ Qd w' base b v bs a 6 a ∧ w.grownBy w' (some b) := by
  obtain ⟨ad, cap, rfl⟩ := h.own.shape
  have HR := hid h
  have h0 := h.c0
  have h1 := h.c1
  have h2 := h.c2
  have hlt' : (a : Int) < (bs.length : Int) := by omega
  clear h
  go_enter Tryz.func35, Tryz.ntmps35
  go_wp2_with fail
  go_quiet (fail)
  go_wp2_with fail
  refine (qfail_any (HR.out.drewN nq) _ _).mono ?_
  rintro e w1 ⟨rfl, hq, hg⟩
  have HQ := hid hq
  have HG := hid (gb_trans (gb_drewN w nq _) hg)
  have g2 := hq.c2
  have g3 := hq.c3
  clear hq hg HR
  go_wp2_with fail
  go_quiet (fail)
  go_wp2_with fail
  go_ret2
  exact ⟨rfl, HQ.out.drewN _, gb_trans HG.out (gb_drewN _ _ _)⟩

set_option maxHeartbeats 1000000 in
theorem qend_idle (h : Qd w base b v bs a why wat) (hidle : why ≠ 0 ∨ a = bs.length) :
    Calls Tryz.prog 35 #[.pointer (some ⟨b, 0, none⟩)] w fun e w' => e = .returned (.tuple #[.int .i64 why, .int .i64 wat]) ∧ Qd w' base b v bs a why wat ∧ w.grownBy w' (some b) := by
  obtain ⟨ad, cap, rfl⟩ := h.own.shape
  have HR := hid h
  have h0 := h.c0
  have h1 := h.c1
  have h2 := h.c2
  have h3 := h.c3
  clear h
  by_cases hw : why = 0
  · subst hw
    obtain rfl : a = bs.length := by rcases hidle with h | h; exact absurd rfl h; exact h
    clear hidle
    go_enter Tryz.func35, Tryz.ntmps35
    go_wp2_with fail
    go_quiet (fail)
    go_wp2_with fail
    go_quiet (fail)
    go_wp2_with fail
    go_ret2
    exact ⟨rfl, (HR.out.drewN _).drewN _, gb_trans (gb_drewN _ _ _) (gb_drewN _ _ _)⟩
  · have hw' : (why == 0) = false := by simpa using hw
    clear hidle hw
    go_enter Tryz.func35, Tryz.ntmps35
    go_wp2_with fail
    go_quiet (fail)
    go_wp2_with fail
    go_quiet (fail)
    go_wp2_with fail
    go_ret2
    exact ⟨rfl, (HR.out.drewN _).drewN _, gb_trans (gb_drewN _ _ _) (gb_drewN _ _ _)⟩

end

end Go.Proofs.YtiibhccbbpgehaaGreat

/- The document's Need. -/
namespace Go.Proofs.YtiibhccbbpgehaaGreat
open Go.RowKit Go.BigFrame

set_option maxRecDepth 100000 in
set_option maxHeartbeats 2000000 in
theorem qnew_any (v0 : Value) (bs : List UInt8) (w : World) (hs : Src w v0 bs) :
    Calls Tryz.prog 33 #[v0] w fun e w' => ∃ v', e = .returned (.agg #[v', .int .i64 0, .int .i64 0, .int .i64 0]) ∧ OwnB w' w.heap.size v' bs ∧ Below w.heap.size w w' := by
  have HS := hid (hs.below (below_walk w (.cells #[.slice none 0 0, .int .i64 0, .int .i64 0, .int .i64 0] 88)))
  have hl := hs.1
  clear hs
  go_enter Tryz.func33, Tryz.ntmps33
  go_wp2_with (at_builtin; refine app_src rfl _ _ rfl (w.heap.size + 1) _ _ rfl (OwnB.nil _ _) _ _ rfl HS.out ?c1 ?c2 ?_)
  case c1 => simpa using hl
  case c2 => simp
  intro v1 w1 ho1 hg1
  have HO1 := hid (by simpa using ho1 : OwnB w1 (w.heap.size + 1) v1 bs)
  have HB1 := hid ((below_walk w _).trans ((gb_below hg1).mono (by simp)))
  have n0 : w1.cell? ⟨w.heap.size, 0, none⟩ = some (.slice none 0 0) := by rw [(gb_below hg1).cell (p := ⟨w.heap.size, 0, none⟩) (by simp)]; simp
  have n1 : w1.cell? ⟨w.heap.size, 1, none⟩ = some (.int .i64 0) := by rw [(gb_below hg1).cell (p := ⟨w.heap.size, 1, none⟩) (by simp)]; simp
  have n2 : w1.cell? ⟨w.heap.size, 2, none⟩ = some (.int .i64 0) := by rw [(gb_below hg1).cell (p := ⟨w.heap.size, 2, none⟩) (by simp)]; simp
  have n3 : w1.cell? ⟨w.heap.size, 3, none⟩ = some (.int .i64 0) := by rw [(gb_below hg1).cell (p := ⟨w.heap.size, 3, none⟩) (by simp)]; simp
  have f0 : ∀ i, w1.frozen? ⟨w.heap.size, i, none⟩ = false := by intro i; rw [(gb_below hg1).frozen (p := ⟨w.heap.size, i, none⟩) (by simp)]; simp
  have f1 := f0 0
  have f2 := f0 1
  have f3 := f0 2
  have f4 := f0 3
  clear ho1 hg1 f0
  obtain ⟨ad, cap, rfl⟩ := HO1.out.shape
  go_wp2_with fail
  have hg : w1.grownBy ((((w1.setCell ⟨w.heap.size, 0, none⟩ (.slice ad bs.length cap)).setCell ⟨w.heap.size, 1, none⟩ (.int .i64 0)).setCell ⟨w.heap.size, 2, none⟩ (.int .i64 0)).setCell ⟨w.heap.size, 3, none⟩ (.int .i64 0)) (some w.heap.size) :=
    gb_trans (gb_trans (gb_trans (gb_set _ _ _) (gb_set _ _ _)) (gb_set _ _ _)) (gb_set _ _ _)
  exact bodyPost_ret (v := .agg #[.slice ad bs.length cap, .int .i64 0, .int .i64 0, .int .i64 0]) (by simp [results, Tryz.results33, go_sem, n0, n1, n2, n3]) rfl ⟨_, rfl, (HO1.out.kept hg (by right; intro e; have := (HO1.out.lt _ e).1; omega)).le (by omega), Below.of_gb HB1.out hg (Nat.le_refl _)⟩

set_option maxRecDepth 100000 in
set_option maxHeartbeats 4000000 in
theorem rneed_any (v : Value) (bs : List UInt8) (w : World) (hs : Src w v bs) :
    Calls Tryz.prog 31 #[v] w fun e w' => e = .returned (.tuple #[.int .i64 (needP bs).1, .int .i64 (needP bs).2.1, .int .i64 (needP bs).2.2]) ∧ Below w.heap.size w w' := by
  obtain ⟨av, cv, rfl⟩ := src_shape hs
  have hsl := hs.1
  have HN := hid (qnew_any _ bs w hs)
  obtain ⟨E, N, K, hdec⟩ : ∃ E N K, dec bs 0 0 = (E, N, K) := ⟨_, _, _, rfl⟩
  have HU : Hid (uintF bs 0 0 0 = (N, K, (E : Int), watOf E 0 0)) := hid (by unfold uintF; rw [if_neg (by simp), List.drop_zero, hdec]; simp)
  have HLE := hid (dec_le bs hdec)
  have HTEN : Hid (K ≤ 10) := hid (by have h1 := dec_head bs; rw [hdec] at h1; have := (dec_le _ h1).1; rw [List.length_take] at this; omega)
  have HP : Hid (needP bs = if E = 4 then (0, 0, 0) else if E ≠ 0 then (0, 0, E) else if 2097152 < N then (0, 0, 3) else if N = 0 then (0, 0, 70) else (K + N + 4, K, 0)) := hid (by unfold needP; rw [hdec])
  clear hdec hs
  go_enter Tryz.func31, Tryz.ntmps31
  go_wp2_with fail
  refine HN.out.mono ?_
  rintro e w1 ⟨v1, rfl, ho1, hb1⟩
  obtain ⟨a1, c1, e1⟩ := src_shape (ho1.src (by omega))
  subst e1
  have HB1 := hid (below_then hb1 (below_walk w1 (.cells #[.slice a1 bs.length c1, .int .i64 0, .int .i64 0, .int .i64 0] 88)))
  have HQ1 : Hid (Qd (w1.alloc (.cells #[.slice a1 bs.length c1, .int .i64 0, .int .i64 0, .int .i64 0] 88)) w.heap.size w1.heap.size (.slice a1 bs.length c1) bs 0 0 0) := hid ⟨hb1.size, hp_new w1 _, ho1.below (below_walk w1 _), fun e => by have := (ho1.lt _ e).2; omega, Nat.zero_le _⟩
  clear ho1 hb1 HN
  go_wp2_with fail
  obtain ⟨B, HBN⟩ : ∃ b : Nat, Hid (w1.heap.size = b) := ⟨_, rfl⟩
  rw [HBN.out] at HQ1 ⊢
  generalize w1.alloc (.cells #[.slice a1 bs.length c1, .int .i64 0, .int .i64 0, .int .i64 0] 88) = w2 at HB1 HQ1 ⊢
  have HUI := hid (quint_R (h := HQ1.out))
  rw [HU.out] at HUI
  refine HUI.out.mono ?_
  rintro e w3 ⟨rfl, hq3, hg3⟩
  have HQ3 := hid hq3
  have HB3 := hid (Below.of_gb HB1.out hg3 hq3.lo)
  have x1 : w3.cell? ⟨B, 1, none⟩ = some (.int .i64 K) := by rw [cell_of_row w3 B 1 _ _ _ hq3.blk]; rfl
  have x2 : w3.cell? ⟨B, 2, none⟩ = some (.int .i64 E) := by rw [cell_of_row w3 B 2 _ _ _ hq3.blk]; rfl
  clear hq3 hg3 HUI HB1 HQ1
  by_cases h4 : E = 4
  · have HV := hid (show needP bs = (0, 0, 0) by rw [HP.out, if_pos h4])
    have q1 : ((E : Int) == 4) = true := by simp [h4]
    have q2 : (E : Int) = 4 := by omega
    clear h4
    go_wp2
    go_ret3
    rw [HV.out]
    exact ⟨rfl, HB3.out⟩
  · have q1 : ((E : Int) == 4) = false := by simp; omega
    have q2 : ¬ (E : Int) = 4 := by omega
    by_cases h0 : E = 0
    · have q3 : ((E : Int) != 0) = false := by simp [h0]
      have q4 : (E : Int) = 0 := by omega
      by_cases hN : 2097152 < N
      · have HV := hid (show needP bs = (0, 0, 3) by rw [HP.out, if_neg h4, if_neg (by simpa using h0), if_pos hN])
        have q5 : (2097152 : Int) < (N : Int) := by omega
        have q6 : decide ((2097152 : Int) < (N : Int)) = true := by simpa using q5
        clear h4 h0 hN
        go_wp2
        go_ret3
        rw [HV.out]
        exact ⟨rfl, HB3.out⟩
      · have q5 : ¬ (2097152 : Int) < (N : Int) := by omega
        have q6 : decide ((2097152 : Int) < (N : Int)) = false := by simpa using q5
        by_cases hz : N = 0
        · have HV := hid (show needP bs = (0, 0, 70) by rw [HP.out, if_neg h4, if_neg (by simpa using h0), if_neg hN, if_pos hz])
          have q7 : ((N : Int) == 0) = true := by simp [hz]
          have q8 : (N : Int) = 0 := by omega
          clear h4 h0 hN hz
          go_wp2
          go_ret3
          rw [HV.out]
          exact ⟨rfl, HB3.out⟩
        · have HV := hid (show needP bs = (K + N + 4, K, 0) by rw [HP.out, if_neg h4, if_neg (by simpa using h0), if_neg hN, if_neg hz])
          have q7 : ((N : Int) == 0) = false := by simp; omega
          have q8 : ¬ (N : Int) = 0 := by omega
          have wa : IntKind.i64.wrap (N : Int) = (N : Int) := by rw [IntKind.wrap_i64]; omega
          have wb : IntKind.i64.wrap ((K : Int) + (N : Int)) = (K : Int) + (N : Int) := by rw [IntKind.wrap_i64]; have := HTEN.out; omega
          have wc : IntKind.i64.wrap ((K : Int) + (N : Int) + 4) = (K : Int) + (N : Int) + 4 := by rw [IntKind.wrap_i64]; have := HTEN.out; omega
          clear h4 h0 hN hz
          go_wp2_with fail
          go_quiet (fail)
          go_wp2
          go_ret3
          rw [HV.out]
          exact ⟨by simp, below_then HB3.out ⟨rfl, rfl, rfl, Nat.le_refl _, fun _ _ => rfl⟩⟩
    · have HV := hid (show needP bs = (0, 0, E) by rw [HP.out, if_neg h4, if_pos h0])
      have q3 : ((E : Int) != 0) = true := by simp; omega
      have q4 : ¬ (E : Int) = 0 := by omega
      clear h4 h0
      go_wp2_with fail
      go_quiet (fail)
      go_wp2
      go_ret3
      rw [HV.out]
      exact ⟨rfl, below_then HB3.out ⟨rfl, rfl, rfl, Nat.le_refl _, fun _ _ => rfl⟩⟩

end Go.Proofs.YtiibhccbbpgehaaGreat

/- The document's reader: Raw, Byte, Bool, Count. -/
namespace Go.Proofs.YtiibhccbbpgehaaGreat
open Go.RowKit

theorem cut_mid {w : World} {base : Nat} {ad : Option Addr} {cap : Nat} {bs : List UInt8} (h : OwnB w base (.slice ad bs.length cap) bs) (hbl : bs.length ≤ 140737488355327) (a m : Nat) (hm : a + m ≤ bs.length) :
    ∃ vx, Src w vx ((bs.drop a).take m) ∧ vx.ownBlock = ad.map (·.block) ∧ (∀ W, (Instr.slice 22 (.slice ad bs.length cap) (some (.int .i64 (a : Int))) (some (.int .i64 ((a : Int) + (m : Int)))) none).run Tryz.prog W = .ok vx W) := by
  rcases h.forms with ⟨h1, rfl⟩ | ⟨g, cap', hv, _, hlt, h1, h2, _, hc⟩
  · simp at hm h1
    obtain ⟨rfl, rfl⟩ := hm
    obtain ⟨rfl, rfl⟩ := h1
    exact ⟨.slice none 0 0, ⟨by simp, Or.inl ⟨rfl, by simp⟩⟩, rfl, fun W => by go_simp⟩
  · simp only [Value.slice.injEq] at hv
    obtain ⟨rfl, _, rfl⟩ := hv
    have hlen : ((bs.drop a).take m).length = m := by simp; omega
    have hk1 : (a : Int) + (m : Int) ≤ (cap : Int) := by omega
    have hk0 : 0 ≤ (a : Int) + (m : Int) := by omega
    have hk2 : (a : Int) ≤ max ((a : Int) + (m : Int)) 0 := by omega
    have ht : ((a : Int) + (m : Int)).toNat - a = m := by omega
    refine ⟨.slice (if cap = a then some ⟨g, 0, none⟩ else some ⟨g, a, none⟩) m (cap - a), ?_, by split <;> rfl, fun W => by go_simp; intro hx; exact absurd hx (by omega)⟩
    refine ⟨by omega, Or.inr ?_⟩
    by_cases hca : cap = a
    · obtain rfl : m = 0 := by omega
      rw [if_pos hca]
      exact ⟨_, _, by rw [hlen], by omega, by omega, fun h => by omega, fun j hj => by rw [hlen] at hj; omega⟩
    · rw [if_neg hca]
      refine ⟨⟨g, a, none⟩, _, by rw [hlen], by omega, by omega, fun _ => hlt, fun j hj => ?_⟩
      rw [hlen] at hj
      have ha : (⟨g, a, none⟩ : Addr).add j = ⟨g, a + j, none⟩ := by
        by_cases h0 : j = 0
        · subst h0; simp [Addr.add]
        · simp [Addr.add, h0]
      rw [ha, hc (a + j) (by omega)]
      simp [List.getD_eq_getElem?_getD, hj]

section

variable {w : World} {base b : Nat} {v : Value} {bs : List UInt8} {a : Nat} {why wat : Int}

set_option maxHeartbeats 1000000 in
theorem qraw_over (m : Int) (h : Qd w base b v bs a why wat) (hw : why ≠ 0) :
    Calls Tryz.prog 74 #[.pointer (some ⟨b, 0, none⟩), .int .i64 m] w fun e w' => e = .returned (.slice none 0 0) ∧ w' = w := by
  have h2 := h.c2
  have hb : (why != 0) = true := by simpa using hw
  clear h
  go_enter Tryz.func74, Tryz.ntmps74
  go_wp2
  go_ret
  exact ⟨rfl, rfl⟩

set_option maxHeartbeats 1000000 in
theorem qraw_arg (m : Int) (h : Qd w base b v bs a 0 wat) (hm : m < 0) :
    Calls Tryz.prog 74 #[.pointer (some ⟨b, 0, none⟩), .int .i64 m] w fun e w' => e = .returned (.slice none 0 0) ∧ Qd w' base b v bs a 1 a ∧ w.grownBy w' (some b) := by
  have h1 := h.c1
  have h2 := h.c2
  have HR := hid h
  clear h
  go_enter Tryz.func74, Tryz.ntmps74
  go_wp2_with fail
  refine (qfail_any HR.out _ _).mono ?_
  rintro e w1 ⟨rfl, hq, hg⟩
  have HQ := hid hq
  have HG := hid hg
  clear hq hg HR
  go_wp2_with fail
  go_ret
  exact ⟨rfl, HQ.out, HG.out⟩

set_option maxHeartbeats 1000000 in
theorem qraw_short (m : Nat) (h : Qd w base b v bs a 0 wat) (hm : bs.length - a < m) :
    Calls Tryz.prog 74 #[.pointer (some ⟨b, 0, none⟩), .int .i64 m] w fun e w' => e = .returned (.slice none 0 0) ∧ Qd w' base b v bs a 4 a ∧ w.grownBy w' (some b) := by
  have hl := h.own.len
  unfold maxLen at hl
  have hle := h.le
  obtain ⟨ad, cap, rfl⟩ := h.own.shape
  have h0 := h.c0
  have h1 := h.c1
  have h2 := h.c2
  have HR := hid h
  have hm' : (bs.length : Int) - (a : Int) < (m : Int) := by omega
  clear h
  go_enter Tryz.func74, Tryz.ntmps74
  go_wp2_with fail
  go_quiet (fail)
  go_wp2_with fail
  refine (qfail_any (HR.out.drewN nq) _ _).mono ?_
  rintro e w1 ⟨rfl, hq, hg⟩
  have HQ := hid hq
  have HG := hid (gb_trans (gb_drewN w nq _) hg)
  clear hq hg HR
  go_wp2_with fail
  go_ret
  exact ⟨rfl, HQ.out, HG.out⟩

set_option maxRecDepth 100000 in
set_option maxHeartbeats 2000000 in
theorem qraw_ok (m : Nat) (h : Qd w base b v bs a 0 wat) (hbl : bs.length ≤ 140737488355327) (hm : a + m ≤ bs.length) :
    Calls Tryz.prog 74 #[.pointer (some ⟨b, 0, none⟩), .int .i64 m] w fun e w' => ∃ v', e = .returned v' ∧ OwnB w' w.heap.size v' ((bs.drop a).take m) ∧ Qd w' base b v bs (a + m) 0 wat ∧ w.grownBy w' (some b) := by
  obtain ⟨ad, cap, rfl⟩ := h.own.shape
  have h0 := h.c0
  have h1 := h.c1
  have h2 := h.c2
  have f1 := h.fz 1
  have HR := hid h
  have hm' : ¬ (bs.length : Int) - (a : Int) < (m : Int) := by omega
  clear h
  go_enter Tryz.func74, Tryz.ntmps74
  go_wp2_with fail
  go_quiet (fail)
  go_wp2_with fail
  have HQ := hid (HR.out.drewN nq |>.setAt (a + m) hm)
  rw [Int.natCast_add] at HQ
  have HG := hid (gb_trans (gb_drewN w nq _) (gb_set (w.drewN nq) ⟨b, 1, none⟩ (.int .i64 ((a : Int) + (m : Int)))))
  generalize (w.drewN nq).setCell ⟨b, 1, none⟩ (.int .i64 ((a : Int) + (m : Int))) = W at *
  clear h0 h1 h2 f1 HR
  have HQD := hid (HQ.out.drew)
  have HGD := hid (gb_trans HG.out (gb_drew W _))
  obtain ⟨X, HX⟩ : ∃ X : World, Hid (X = W.drew) := ⟨_, rfl⟩
  rw [← HX.out] at HQD HGD
  have h0 := HQD.out.c0
  have h1 := HQD.out.c1
  obtain ⟨vx, hvx, hob, hcut⟩ := cut_mid HQD.out.own hbl a m hm
  have HVX := hid hvx
  have HOB := hid hob
  clear hvx hob HQ HG
  have e1 : (a : Int) + (m : Int) - (m : Int) = (a : Int) := by omega
  have e2 : ((a : Int) + (m : Int)) ≤ 140737488355327 := by omega
  have e3 : IntKind.i64.wrap (a : Int) = (a : Int) := by rw [IntKind.wrap_i64]; omega
  rw [Int.natCast_add] at h1
  refine wp_region_still_tail 15 (by kernel_rfl) (by kernel_rfl) ?_
  simp only [List.take_succ_cons, List.take_zero, List.drop_succ_cons, List.drop_zero]
  rw [show ({ W with drawn := W.drawn + 1 } : World) = X from HX.out.symm]
  repeat still_step
  refine wpStill_nil ?_
  go_wp2_with (at_builtin; refine app_src rfl _ _ rfl X.heap.size _ _ rfl (OwnB.nil _ _) _ _ rfl HVX.out ?c1 (Nat.le_refl _) ?_)
  case c1 => omega
  intro v1 w1 ho1 hg1
  have HO1 := hid (by simpa using ho1 : OwnB w1 X.heap.size v1 ((bs.drop a).take m))
  have HB1 := hid (gb_below hg1)
  clear ho1 hg1
  go_wp2_with fail
  go_ret
  exact ⟨_, rfl, HO1.out.le HGD.out.size, HQD.out.below HB1.out, gb_trans HGD.out (below_gb HB1.out _)⟩

theorem qraw_R (m : Int) (hbl : bs.length ≤ 140737488355327) (h : Qd w base b v bs a why wat) :
    Calls Tryz.prog 74 #[.pointer (some ⟨b, 0, none⟩), .int .i64 m] w fun e w' => ∃ v', e = .returned v' ∧ OwnB w' w.heap.size v' (rawF bs a why wat m).1 ∧ Qd w' base b v bs (rawF bs a why wat m).2.1 (rawF bs a why wat m).2.2.1 (rawF bs a why wat m).2.2.2 ∧ w.grownBy w' (some b) := by
  unfold rawF
  by_cases hw : why ≠ 0
  · rw [if_pos hw]
    refine (qraw_over m h hw).mono ?_
    rintro e w' ⟨rfl, rfl⟩
    exact ⟨_, rfl, OwnB.nil _ _, h, gb_refl _ _⟩
  · rw [if_neg hw]
    obtain rfl : why = 0 := by omega
    by_cases h0 : m < 0
    · rw [if_pos h0]
      refine (qraw_arg m h h0).mono ?_
      rintro e w' ⟨rfl, hr⟩
      exact ⟨_, rfl, OwnB.nil _ _, hr⟩
    · rw [if_neg h0]
      obtain ⟨k, rfl⟩ : ∃ k : Nat, m = k := ⟨m.toNat, by omega⟩
      simp only [Int.toNat_natCast]
      have hle := h.le
      by_cases hl : bs.length - a < k
      · rw [if_pos hl]
        refine (qraw_short k h hl).mono ?_
        rintro e w' ⟨rfl, hr⟩
        exact ⟨_, rfl, OwnB.nil _ _, hr⟩
      · rw [if_neg hl]
        exact qraw_ok k h hbl (by omega)

set_option maxHeartbeats 1000000 in
theorem qcount_over (m : Int) (h : Qd w base b v bs a why wat) (hw : why ≠ 0) :
    Calls Tryz.prog 75 #[.pointer (some ⟨b, 0, none⟩), .int .i64 m] w fun e w' => e = .returned (.int .i64 0) ∧ w' = w := by
  have HC := hid (quint_over h hw)
  have h1 := h.c1
  have h2 := h.c2
  have hw' : (why == 0) = false := by simpa using hw
  clear h hw
  go_enter Tryz.func75, Tryz.ntmps75
  go_wp2_with fail
  refine Calls.mono HC.out ?_
  rintro e w1 ⟨rfl, rfl⟩
  go_wp2_with fail
  go_ret
  exact ⟨rfl, rfl⟩

set_option maxHeartbeats 1000000 in
theorem qcount_arg (m : Int) (h : Qd w base b v bs a 0 wat) (hm : m < 0) :
    Calls Tryz.prog 75 #[.pointer (some ⟨b, 0, none⟩), .int .i64 m] w fun e w' => e = .returned (.int .i64 0) ∧ Qd w' base b v bs a 1 a ∧ w.grownBy w' (some b) := by
  have h1 := h.c1
  have h2 := h.c2
  have HR := hid h
  clear h
  go_enter Tryz.func75, Tryz.ntmps75
  go_wp2_with fail
  refine (qfail_any HR.out _ _).mono ?_
  rintro e w1 ⟨rfl, hq, hg⟩
  have HQ := hid hq
  have HG := hid hg
  have g2 := hq.c2
  clear hq hg HR
  go_wp2_with fail
  refine (quint_over HQ.out (by decide)).mono ?_
  rintro e w2 ⟨rfl, rfl⟩
  go_wp2_with fail
  go_ret
  exact ⟨rfl, HQ.out, HG.out⟩

set_option maxHeartbeats 1000000 in
theorem qcount_go (m : Nat) (hm : m ≤ 9223372036854775807) (h : Qd w base b v bs a 0 wat) (er n k : Nat) (hup : upTo (bs.drop a) m 11 = (er, n, k)) :
    Calls Tryz.prog 75 #[.pointer (some ⟨b, 0, none⟩), .int .i64 m] w fun e w' => e = .returned (.int .i64 n) ∧ Qd w' base b v bs (a + k) er (watOf er a wat) ∧ w.grownBy w' (some b) := by
  obtain ⟨d1, d2, d3, hd⟩ : ∃ d1 d2 d3, dec (bs.drop a) 0 0 = (d1, d2, d3) := ⟨_, _, _, rfl⟩
  have HC := hid (quint_go h d1 d2 d3 hd)
  have h1 := h.c1
  have h2 := h.c2
  have hle := h.le
  obtain ⟨_, hlt, _, hz⟩ := dec_le _ hd
  unfold upTo at hup
  rw [hd] at hup
  simp only at hup
  clear h hd
  by_cases he : d1 = 0
  · subst he
    rw [if_neg (by simp)] at hup
    by_cases hn : m < d2
    · rw [if_pos hn] at hup
      simp only [Prod.mk.injEq] at hup
      obtain ⟨rfl, rfl, rfl⟩ := hup
      have hn' : (m : Int) < (d2 : Int) := by omega
      have HW := hid (watOf_ne (er := 11) (by decide) a wat)
      clear hz
      go_enter Tryz.func75, Tryz.ntmps75
      go_wp2_with fail
      refine Calls.mono HC.out ?_
      rintro e w1 ⟨rfl, hq, hg⟩
      have HQ := hid (hq.setAt a hle)
      have HG := hid (gb_trans hg (gb_set w1 ⟨b, 1, none⟩ (.int .i64 a)))
      have g2 := hq.c2
      have f1 := hq.fz 1
      have g1 := hq.c1
      clear hq hg HC
      go_wp2_with fail
      refine (qfail_any HQ.out _ _).mono ?_
      rintro e w2 ⟨rfl, hq, hg⟩
      have HQ2 := hid hq
      have HG2 := hid (gb_trans HG.out hg)
      clear hq hg
      go_wp2_with fail
      go_ret
      exact ⟨rfl, by rw [HW.out]; exact HQ2.out, HG2.out⟩
    · rw [if_neg hn] at hup
      simp only [Prod.mk.injEq] at hup
      obtain ⟨rfl, rfl, rfl⟩ := hup
      have hn' : ¬ (m : Int) < (d2 : Int) := by omega
      clear hz
      go_enter Tryz.func75, Tryz.ntmps75
      go_wp2_with fail
      refine Calls.mono HC.out ?_
      rintro e w1 ⟨rfl, hq, hg⟩
      have HQ := hid hq
      have HG := hid hg
      have g2 := hq.c2
      clear hq hg HC
      go_wp2_with fail
      go_ret
      exact ⟨rfl, HQ.out, HG.out⟩
  · rw [if_pos he] at hup
    simp only [Prod.mk.injEq] at hup
    obtain ⟨rfl, rfl, rfl⟩ := hup
    obtain ⟨rfl, rfl⟩ := hz he
    have he' : ((d1 : Int) == 0) = false := by simpa using he
    clear he hz
    go_enter Tryz.func75, Tryz.ntmps75
    go_wp2_with fail
    refine Calls.mono HC.out ?_
    rintro e w1 ⟨rfl, hq, hg⟩
    have HQ := hid hq
    have HG := hid hg
    have g2 := hq.c2
    clear hq hg HC
    go_wp2_with fail
    go_ret
    exact ⟨rfl, HQ.out, HG.out⟩

theorem qcount_R (m : Int) (hm : m ≤ 9223372036854775807) (h : Qd w base b v bs a why wat) :
    Calls Tryz.prog 75 #[.pointer (some ⟨b, 0, none⟩), .int .i64 m] w fun e w' => e = .returned (.int .i64 (countF bs a why wat m).1) ∧ Qd w' base b v bs (countF bs a why wat m).2.1 (countF bs a why wat m).2.2.1 (countF bs a why wat m).2.2.2 ∧ w.grownBy w' (some b) := by
  unfold countF
  by_cases hw : why ≠ 0
  · rw [if_pos hw]
    refine (qcount_over m h hw).mono ?_
    rintro e w' ⟨rfl, rfl⟩
    exact ⟨rfl, h, gb_refl _ _⟩
  · rw [if_neg hw]
    obtain rfl : why = 0 := by omega
    by_cases h0 : m < 0
    · rw [if_pos h0]
      exact qcount_arg m h h0
    · rw [if_neg h0]
      obtain ⟨k, rfl⟩ : ∃ k : Nat, m = k := ⟨m.toNat, by omega⟩
      exact qcount_go k (by omega) h _ _ _ rfl

end

end Go.Proofs.YtiibhccbbpgehaaGreat

/- The document's reader: Text. -/
namespace Go.Proofs.YtiibhccbbpgehaaGreat
open Go.RowKit

section
variable {w : World} {base b : Nat} {v : Value} {bs : List UInt8} {a : Nat} {why wat : Int}

set_option maxRecDepth 100000 in
set_option maxHeartbeats 1000000 in
theorem qtext_over (m : Int) (h : Qd w base b v bs a why wat) (hw : why ≠ 0) :
    Calls Tryz.prog 77 #[.pointer (some ⟨b, 0, none⟩), .int .i64 m] w fun e w' => e = .returned (.string ⟨#[]⟩) ∧ w' = w := by
  have HC := hid (quint_over h hw)
  have h1 := h.c1
  have h2 := h.c2
  have hw' : (why == 0) = false := by simpa using hw
  have hw2 : (why != 0) = true := by simpa using hw
  clear h hw
  go_enter Tryz.func77, Tryz.ntmps77
  go_wp2_with fail
  refine Calls.mono HC.out ?_
  rintro e w1 ⟨rfl, rfl⟩
  go_wp2_with fail
  go_ret
  exact ⟨rfl, rfl⟩

set_option maxRecDepth 100000 in
set_option maxHeartbeats 1000000 in
theorem qtext_arg (m : Int) (h : Qd w base b v bs a 0 wat) (hm : m < 0) :
    Calls Tryz.prog 77 #[.pointer (some ⟨b, 0, none⟩), .int .i64 m] w fun e w' => e = .returned (.string ⟨#[]⟩) ∧ Qd w' base b v bs a 1 a ∧ w.grownBy w' (some b) := by
  have h1 := h.c1
  have h2 := h.c2
  have HR := hid h
  clear h
  go_enter Tryz.func77, Tryz.ntmps77
  go_wp2_with fail
  refine (qfail_any HR.out _ _).mono ?_
  rintro e w1 ⟨rfl, hq, hg⟩
  have HQ := hid hq
  have HG := hid hg
  have g2 := hq.c2
  clear hq hg HR
  go_wp2_with fail
  refine (quint_over HQ.out (by decide)).mono ?_
  rintro e w2 ⟨rfl, rfl⟩
  go_wp2_with fail
  go_ret
  exact ⟨rfl, HQ.out, HG.out⟩

set_option maxRecDepth 100000 in
set_option maxHeartbeats 2000000 in
theorem qtext_go (m : Nat) (hm : m ≤ 9223372036854775807) (hbl : bs.length ≤ 140737488355327) (h : Qd w base b v bs a 0 wat) (er k : Nat) (s : List UInt8) (ht : wtxt (bs.drop a) m = (er, s, k)) :
    Calls Tryz.prog 77 #[.pointer (some ⟨b, 0, none⟩), .int .i64 m] w fun e w' => e = .returned (.string ⟨s.toArray⟩) ∧ Qd w' base b v bs (a + k) er (watOf er a wat) ∧ w.grownBy w' (some b) := by
  obtain ⟨d1, d2, d3, hd⟩ : ∃ d1 d2 d3, dec (bs.drop a) 0 0 = (d1, d2, d3) := ⟨_, _, _, rfl⟩
  have HC := hid (quint_go h d1 d2 d3 hd)
  have h1 := h.c1
  have h2 := h.c2
  have hle := h.le
  obtain ⟨ad, cap, rfl⟩ := h.own.shape
  obtain ⟨hk3, hlt, _, hz⟩ := dec_le _ hd
  have hdl : (bs.drop a).length = bs.length - a := by simp
  rw [hdl] at hk3
  unfold wtxt upTo at ht
  rw [hd, hdl] at ht
  simp only at ht
  clear h hd hdl
  by_cases he : d1 = 0
  · subst he
    obtain ⟨a', ha'⟩ : ∃ a', a' = a + d3 := ⟨_, rfl⟩
    have HA := hid ha'
    rw [← ha'] at HC
    have hW0 : watOf 0 a wat = wat := by simp [watOf]
    rw [hW0] at HC
    clear hW0
    by_cases hn : m < d2
    · have hsimp : (er, s, k) = (3, [], 0) := by
        rw [← ht]
        simp [hn]
      simp only [Prod.mk.injEq] at hsimp
      obtain ⟨rfl, rfl, rfl⟩ := hsimp
      have hn' : (m : Int) < (d2 : Int) := by omega
      have HW := hid (watOf_ne (er := 3) (by decide) a wat)
      clear hz ht ha'
      go_enter Tryz.func77, Tryz.ntmps77
      go_wp2_with fail
      refine Calls.mono HC.out ?_
      rintro e w1 ⟨rfl, hq, hg⟩
      have HQ := hid hq
      have HG := hid hg
      have g2 := hq.c2
      clear hq hg HC
      go_wp2_with fail
      refine (qfail_any HQ.out _ _).mono ?_
      rintro e w2 ⟨rfl, hq, hg⟩
      have HQ2 := hid (hq.setAt a hle)
      have HG2 := hid (gb_trans (gb_trans HG.out hg) (gb_set w2 ⟨b, 1, none⟩ (.int .i64 a)))
      have p2 := hq.c2
      have p1 := hq.c1
      have f1 := hq.fz 1
      clear hq hg
      go_wp2_with fail
      go_ret
      exact ⟨rfl, by rw [HW.out]; exact HQ2.out, HG2.out⟩
    · by_cases hsh : bs.length - a < d3 + d2
      · have hsimp : (er, s, k) = (4, [], 0) := by
          rw [← ht]
          simp [hn, hsh]
        simp only [Prod.mk.injEq] at hsimp
        obtain ⟨rfl, rfl, rfl⟩ := hsimp
        have hn' : ¬ (m : Int) < (d2 : Int) := by omega
        have hsh' : (bs.length : Int) - (a' : Int) < (d2 : Int) := by omega
        have hwr : IntKind.u64.wrap ((bs.length : Int) - (a' : Int)) = (bs.length : Int) - (a' : Int) := by rw [IntKind.wrap_u64]; omega
        have hi63 : (bs.length : Int) - (a' : Int) ≤ 9223372036854775807 := by omega
        have hi0 : 0 ≤ (bs.length : Int) - (a' : Int) := by omega
        have HW := hid (watOf_ne (er := 4) (by decide) a wat)
        clear hz ht ha'
        go_enter Tryz.func77, Tryz.ntmps77
        go_wp2_with fail
        refine Calls.mono HC.out ?_
        rintro e w1 ⟨rfl, hq, hg⟩
        have HQ := hid hq
        have HG := hid hg
        have g2 := hq.c2
        have g0 := hq.c0
        have g1 := hq.c1
        clear hq hg HC
        go_wp2_with fail
        go_quiet (fail)
        go_wp2_with fail
        refine (qfail_any (HQ.out.drewN nq) _ _).mono ?_
        rintro e w2 ⟨rfl, hq, hg⟩
        have HQ2 := hid (hq.setAt a hle)
        have HG2 := hid (gb_trans (gb_trans (gb_trans HG.out (gb_drewN _ _ _)) hg) (gb_set w2 ⟨b, 1, none⟩ (.int .i64 a)))
        have p2 := hq.c2
        have p1 := hq.c1
        have f1 := hq.fz 1
        clear hq hg
        go_wp2_with fail
        go_ret
        exact ⟨rfl, by rw [HW.out]; exact HQ2.out, HG2.out⟩
      · have hsimp : (er, s, k) = (0, (bs.drop (a + d3)).take d2, d3 + d2) := by
          rw [← ht]
          simp [hn, hsh]
        simp only [Prod.mk.injEq] at hsimp
        obtain ⟨rfl, rfl, rfl⟩ := hsimp
        have hn' : ¬ (m : Int) < (d2 : Int) := by omega
        have hsh' : ¬ (bs.length : Int) - (a' : Int) < (d2 : Int) := by omega
        have hwr : IntKind.u64.wrap ((bs.length : Int) - (a' : Int)) = (bs.length : Int) - (a' : Int) := by rw [IntKind.wrap_u64]; omega
        have hi63 : (bs.length : Int) - (a' : Int) ≤ 9223372036854775807 := by omega
        have hi0 : 0 ≤ (bs.length : Int) - (a' : Int) := by omega
        have HW := hid (by simp [watOf] : watOf 0 a wat = wat)
        have HS := hid (by omega : a' + d2 ≤ bs.length)
        clear hz ht ha'
        go_enter Tryz.func77, Tryz.ntmps77
        go_wp2_with fail
        refine Calls.mono HC.out ?_
        rintro e w1 ⟨rfl, hq, hg⟩
        have HQ := hid hq
        have HG := hid hg
        have g2 := hq.c2
        have g0 := hq.c0
        have g1 := hq.c1
        clear hq hg HC
        go_wp2_with fail
        go_quiet (fail)
        go_wp2_with fail
        refine (qraw_ok d2 (HQ.out.drewN nq) hbl HS.out).mono ?_
        rintro e w2 ⟨v2, rfl, ho, hq, hg⟩
        have hstr := run_str (ho.src (by rw [List.length_take, List.length_drop]; omega))
        have HQ2 := hid hq
        have HG2 := hid (gb_trans (gb_trans HG.out (gb_drewN _ _ _)) hg)
        clear hq hg ho
        rw [HA.out] at hstr HQ2
        go_wp2_with fail
        go_ret
        refine ⟨rfl, ?_, HG2.out⟩
        rw [HW.out, ← Nat.add_assoc]
        exact HQ2.out
  · have hsimp : (er, s, k) = (d1, [], 0) := by
      rw [← ht]
      simp [he]
    simp only [Prod.mk.injEq] at hsimp
    obtain ⟨rfl, rfl, rfl⟩ := hsimp
    obtain ⟨rfl, rfl⟩ := hz he
    have he' : ((er : Int) != 0) = true := by simpa using he
    clear he hz ht
    go_enter Tryz.func77, Tryz.ntmps77
    go_wp2_with fail
    refine Calls.mono HC.out ?_
    rintro e w1 ⟨rfl, hq, hg⟩
    have HQ := hid hq
    have HG := hid hg
    have g2 := hq.c2
    clear hq hg HC
    go_wp2_with fail
    go_ret
    exact ⟨rfl, HQ.out, HG.out⟩

theorem qtext_R (m : Int) (hm : m ≤ 9223372036854775807) (hbl : bs.length ≤ 140737488355327) (h : Qd w base b v bs a why wat) :
    Calls Tryz.prog 77 #[.pointer (some ⟨b, 0, none⟩), .int .i64 m] w fun e w' => e = .returned (.string ⟨(textF bs a why wat m).1.toArray⟩) ∧ Qd w' base b v bs (textF bs a why wat m).2.1 (textF bs a why wat m).2.2.1 (textF bs a why wat m).2.2.2 ∧ w.grownBy w' (some b) := by
  unfold textF
  by_cases hw : why ≠ 0
  · rw [if_pos hw]
    refine (qtext_over m h hw).mono ?_
    rintro e w' ⟨rfl, rfl⟩
    exact ⟨rfl, h, gb_refl _ _⟩
  · rw [if_neg hw]
    obtain rfl : why = 0 := by omega
    by_cases h0 : m < 0
    · rw [if_pos h0]
      exact qtext_arg m h h0
    · rw [if_neg h0]
      obtain ⟨k, rfl⟩ : ∃ k : Nat, m = k := ⟨m.toNat, by omega⟩
      exact qtext_go k (by omega) hbl h _ _ _ rfl
end

end Go.Proofs.YtiibhccbbpgehaaGreat
