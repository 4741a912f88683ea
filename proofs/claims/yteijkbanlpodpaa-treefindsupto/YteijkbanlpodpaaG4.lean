/- Contracts and pure facts that the proof needs, joined. -/
import Derived.Test.YteijkbanlpodpaaG3
import Derived.Test.YteijkbanlpodpaaG2
import Derived.Test.YteijkbanlpodpaaG1
import Derived.Deep.RegionHeld3
import Derived.Deep.RegionLaw

/- The program's Find. -/
namespace Go.Proofs.Yteijkbanlpodpaa
open Go.RowKit Go.BigFrame

/-- what stands at a path, of whatever entries -/
def fnP (t : List Ent) (p : List UInt8) : Ent := if (chkP t).2 = 0 ∧ okP p = true then stP t p else zE
theorem st_shr {t : List Ent} {p : List UInt8} (h : ∀ e ∈ t, mayP e = true) : Shr (stP t p) := by
  unfold stP
  cases hf : fdP t p with
  | none => exact ⟨by simp [zE], by simp [zE]⟩
  | some e => exact may_shr' (h e (fdP_some hf).1)
theorem ebz (w : World) : Eb (w.alloc (.cells #[.string ⟨#[]⟩, .int .i64 0, .string ⟨#[]⟩] 25)) w.heap.size zE := hp_new _ _

theorem eb_other {w : World} {g d i : Nat} {e : Ent} (h : Eb w g e) (hd : g ≠ d) (v : Value) : Eb (w.setCell ⟨d, i, none⟩ v) g e := (Below.heap_setCell w _ v g (by simpa using hd)).trans h

set_option maxRecDepth 100000 in
set_option maxHeartbeats 4000000 in
theorem find_any (v : Value) (t : List Ent) (p : List UInt8) (w : World) (h : Ents w v t) (hs : Short t) (hn : t.length ≤ 4611686018427387904) (hpl : p.length ≤ 4611686018427387904) :
    Calls Try.prog 6 #[v, .string (mk p)] w fun r w' => r = .returned (.tuple #[entA (fnP t p), .bool (decide ((fnP t p).2.1 ≠ 0))]) ∧ Below w.heap.size w w' := by
  obtain ⟨E0, HE0⟩ : ∃ E : Int, Hid ((chkP t).2 = E) := ⟨_, rfl⟩
  have HB0 := hid (below_walk w (.cells #[.string ⟨#[]⟩, .int .i64 0, .string ⟨#[]⟩] 25))
  have HN0 := hid (ebz w)
  have HR := hid (right_one v t (w.alloc (.cells #[.string ⟨#[]⟩, .int .i64 0, .string ⟨#[]⟩] 25)) (h.below HB0.out) hs hn E0 HE0.out)
  have HSZ := hid (show (w.alloc (.cells #[.string ⟨#[]⟩, .int .i64 0, .string ⟨#[]⟩] 25)).heap.size = w.heap.size + 1 by simp)
  rw [HSZ.out] at HR
  have HET := hid h
  obtain ⟨ao, c, rfl⟩ := h.shape
  clear h hs
  by_cases h0 : E0 = 0 ∧ okP p = true
  · obtain ⟨h0, hok⟩ := h0
    subst h0
    have HRT := hid (rgt_iff.1 HE0.out)
    have HFN := hid (show fnP t p = stP t p from by unfold fnP; rw [if_pos ⟨HE0.out, hok⟩])
    have HC := hid (check_is (mk p) 0 (by rw [bl_mk]; unfold chN; rw [hok]; rfl) (by rw [bl_mk]; omega))
    have HST := hid (fun W (hW : Below w.heap.size w W) => standing_any _ t p W (HET.out.below hW) HRT.out.up (fun e he => mayP_ok (HRT.out.may e he)) hok HRT.out.many)
    have HSH := hid (st_shr (p := p) HRT.out.may)
    rw [HFN.out]
    clear hok HFN
    generalize stP t p = e at *
    have HOE := hid (fun W : World => ownEntry_any e W HSH.out)
    unfold entA at HST HOE ⊢
    obtain ⟨K, HK⟩ : ∃ K : Int, Hid (e.2.1 = K) := ⟨_, rfl⟩
    go_enter Try.func6, Try.ntmps6
    go_wp2_with fail
    refine HR.out.mono ?_
    rintro r w1 ⟨rfl, hb1⟩
    rw [← HSZ.out] at hb1
    have HB1 := hid (below_then HB0.out hb1)
    have HN1 := hid (HN0.out.below hb1)
    clear hb1 HR HB0 HN0
    go_wp2_with (first | (go_at_call 18; refine (HC.out _).mono ?_; rintro r w2 ⟨rfl, n2, rfl⟩; have HB2 := hid (below_n HB1.out n2); have HN2 := hid (show Eb (w1.drewN n2) w.heap.size zE from HN1.out); generalize w1.drewN n2 = w2 at *; clear HC) | (go_at_call 19; refine (HST.out _ HB2.out).mono ?_; rintro r w3 ⟨rfl, hb3⟩; have HB3 := hid (below_then HB2.out hb3); have HN3 := hid (HN2.out.below hb3); clear hb3 HST))
    have HD4 := hid (Eb.new w3 e)
    have HB4 := hid (below_then HB3.out (below_walk w3 (.cells #[.string (mk e.1), .int .i64 e.2.1, .string (mk e.2.2)] 25)))
    have HN4 := hid (HN3.out.below (below_walk w3 (.cells #[.string (mk e.1), .int .i64 e.2.1, .string (mk e.2.2)] 25)))
    have HDW := hid (show w.heap.size < w3.heap.size from hp_lt HN3.out)
    obtain ⟨D, HD⟩ : ∃ D : Nat, Hid (w3.heap.size = D) := ⟨_, rfl⟩
    rw [HD.out] at HD4 HDW ⊢
    generalize w3.alloc (.cells #[.string (mk e.1), .int .i64 e.2.1, .string (mk e.2.2)] 25) = wz at *
    refine wp_noPanic (wp_region_held_drew (S := fun W => Eb W D e) (by kernel_rfl) HD4.out ?_)
    intro hHeld
    refine wpAnyH_take (i := 0) (v := .agg #[.string (mk e.1), .int .i64 e.2.1, .string (mk e.2.2)]) rfl (by kernel_rfl) (by kernel_rfl) (by kernel_rfl) (fun _ _ _ h => h) (Or.inl ⟨by rfl, fun W hW => by obtain ⟨h0, h1, h2⟩ := hW.at; clear hW; go_simp⟩) hHeld ?_
    simp only [Act.put, List.getElem_toArray, List.getElem_cons_zero, List.setIfInBounds_toArray, List.set_cons_succ, List.set_cons_zero]
    refine wpAnyH_take (i := 2) (v := .pointer (some ⟨D, 1, none⟩)) rfl (by kernel_rfl) (by kernel_rfl) (by kernel_rfl) (fun _ _ _ h => h) (Or.inl ⟨by rfl, fun W _ => by go_simp⟩) hHeld ?_
    simp only [Act.put, List.getElem_toArray, List.getElem_cons_zero, List.getElem_cons_succ, List.setIfInBounds_toArray, List.set_cons_succ, List.set_cons_zero]
    refine wpAnyH_take (i := 3) (v := .int .i64 e.2.1) rfl (by kernel_rfl) (by kernel_rfl) (by kernel_rfl) (fun _ _ _ h => h) (Or.inl ⟨by rfl, fun W hW => by have hcell := hW.at.2.1; clear hW; go_simp⟩) hHeld ?_
    simp only [Act.put, List.getElem_toArray, List.getElem_cons_zero, List.getElem_cons_succ, List.setIfInBounds_toArray, List.set_cons_succ, List.set_cons_zero]
    refine wpAnyH_take (i := 4) (v := .bool (e.2.1 != 0)) rfl (by kernel_rfl) (by kernel_rfl) (by kernel_rfl) (fun _ _ _ h => h) (Or.inl ⟨by rfl, fun W _ => by go_simp⟩) hHeld ?_
    simp only [Act.put, List.getElem_toArray, List.getElem_cons_zero, List.getElem_cons_succ, List.setIfInBounds_toArray, List.set_cons_succ, List.set_cons_zero]
    refine wpAnyH_ready (rs := [1]) (by kernel_rfl) (by simp) ?_
    refine AllReadyH.cons rfl (fun K hK => ?_) AllReadyH.nil
    go_simp
    refine (HOE.out _).mono ?_
    rintro r w4 ⟨rfl, hb4⟩
    have HB5 := hid (below_then HB4.out ⟨hb4.os, hb4.tape, hb4.output, hb4.size, hb4.block⟩)
    have HN5 := hid (HN4.out.below ⟨hb4.os, hb4.tape, hb4.output, hb4.size, hb4.block⟩)
    have HD5 := hid (HD4.out.below ⟨hb4.os, hb4.tape, hb4.output, hb4.size, hb4.block⟩)
    clear hb4
    go_wp2_with fail
    refine hK.out _ _ HD5.out (fun hHeld => ?_)
    clear hK K
    refine wpAnyH_ready (rs := [5]) (by kernel_rfl) (by simp) ?_
    refine AllReadyH.cons rfl (fun K hK => ?_) AllReadyH.nil
    obtain ⟨g0, g1, g2⟩ := HN5.out.at
    have f0 := HN5.out.fz 0
    have f1 := HN5.out.fz 1
    have f2 := HN5.out.fz 2
    go_simp
    refine hK.out _ _ (eb_other (eb_other (eb_other HD5.out (by have := HDW.out; omega) _) (by have := HDW.out; omega) _) (by have := HDW.out; omega) _) (fun hHeld => ?_)
    clear hK K g0 g1 g2 f0 f1 f2
    refine wpAnyH_take (i := 6) (v := .bool (e.2.1 != 0)) rfl (by kernel_rfl) (by kernel_rfl) (by kernel_rfl) (fun _ _ _ h => h) (Or.inl ⟨by rfl, fun W _ => by go_simp⟩) hHeld ?_
    simp only [Act.put, List.getElem_toArray, List.getElem_cons_zero, List.getElem_cons_succ, List.setIfInBounds_toArray, List.set_cons_succ, List.set_cons_zero]
    refine wpAnyH_done (by kernel_rfl) ?_ _
    simp only [noPanic]
    clear hHeld
    go_wp2_with fail
    refine ret_row2 4 5 25 rfl w.heap.size rfl [.string (mk e.1), .int .i64 e.2.1, .string (mk e.2.2)] 25 (by rw [blk_set (blk_set (blk_set HN5.out _) _) _]; rfl) _ Try.underlying25 rfl (by kernel_rfl) (.bool (e.2.1 != 0)) rfl rfl ⟨?_, ?_⟩
    · by_cases hk : e.2.1 = 0 <;> simp [hk]
    · exact ((HB5.out.setCell (by simp) _).setCell (by simp) _).setCell (by simp) _
  · have HFN := hid (show fnP t p = zE from by unfold fnP; rw [HE0.out, if_neg h0])
    rw [HFN.out]
    unfold entA
    have fin : ∀ w2 : World, Below w.heap.size w w2 → Eb w2 w.heap.size zE → Below w.heap.size w (((w2.setCell ⟨w.heap.size, 0, none⟩ (.string ⟨#[]⟩)).setCell ⟨w.heap.size, 1, none⟩ (.int .i64 0)).setCell ⟨w.heap.size, 2, none⟩ (.string ⟨#[]⟩)) := fun w2 hb _ => ((hb.setCell (p := ⟨w.heap.size, 0, none⟩) (Nat.le_refl _) _).setCell (p := ⟨w.heap.size, 1, none⟩) (Nat.le_refl _) _).setCell (p := ⟨w.heap.size, 2, none⟩) (Nat.le_refl _) _
    have HFI := hid fin
    clear fin
    by_cases h1 : E0 = 0
    · subst h1
      have hok : okP p = false := by cases hx : okP p with
        | false => rfl
        | true => exact absurd ⟨rfl, hx⟩ h0
      have HC := hid (check_is (mk p) 45 (by rw [bl_mk]; unfold chN; rw [hok]; rfl) (by rw [bl_mk]; omega))
      clear h0 hok
      go_enter Try.func6, Try.ntmps6
      go_wp2_with fail
      refine HR.out.mono ?_
      rintro r w1 ⟨rfl, hb1⟩
      rw [← HSZ.out] at hb1
      have HB1 := hid (below_then HB0.out hb1)
      have HN1 := hid (HN0.out.below hb1)
      clear hb1 HR HB0 HN0
      go_wp2_with (go_at_call 18; refine (HC.out _).mono ?_; rintro r w2 ⟨rfl, n2, rfl⟩; have HB2 := hid (below_n HB1.out n2); have HN2 := hid (show Eb (w1.drewN n2) w.heap.size zE from HN1.out); generalize w1.drewN n2 = w2 at *; clear HC; obtain ⟨g0, g1, g2⟩ := HN2.out.at; have f0 := HN2.out.fz 0; have f1 := HN2.out.fz 1; have f2 := HN2.out.fz 2)
      exact ret_row2 4 5 25 rfl w.heap.size rfl [.string ⟨#[]⟩, .int .i64 0, .string ⟨#[]⟩] 25 (by rw [blk_set (blk_set (blk_set HN2.out _) _) _]; rfl) _ Try.underlying25 rfl (by kernel_rfl) (.bool false) rfl rfl ⟨rfl, HFI.out w2 HB2.out HN2.out⟩
    · have e1 : (E0 == 0) = false := by simpa using h1
      clear h0
      go_enter Try.func6, Try.ntmps6
      go_wp2_with fail
      refine HR.out.mono ?_
      rintro r w1 ⟨rfl, hb1⟩
      rw [← HSZ.out] at hb1
      have HB2 := hid (below_then HB0.out hb1)
      have HN2 := hid (HN0.out.below hb1)
      clear hb1 HR HB0 HN0
      obtain ⟨g0, g1, g2⟩ := HN2.out.at
      have f0 := HN2.out.fz 0
      have f1 := HN2.out.fz 1
      have f2 := HN2.out.fz 2
      go_wp2
      exact ret_row2 4 5 25 rfl w.heap.size rfl [.string ⟨#[]⟩, .int .i64 0, .string ⟨#[]⟩] 25 (by rw [blk_set (blk_set (blk_set HN2.out _) _) _]; rfl) _ Try.underlying25 rfl (by kernel_rfl) (.bool false) rfl rfl ⟨rfl, HFI.out w1 HB2.out HN2.out⟩

end Go.Proofs.Yteijkbanlpodpaa

/- The document's Right; what stands at a path, told alike by both sides. -/
namespace Go.Proofs.Yteijkbanlpodpaa
open Go.RowKit Go.BigFrame

set_option maxRecDepth 100000 in
set_option maxHeartbeats 1000000 in
theorem rright_any (v : Value) (t : List Ent) (w : World) (h : Ents w v t) (hl : Bulk t) (hn : t.length ≤ 4611686018427387904) :
    Calls Try.prog 5 #[v] w fun r w' => r = .returned (.bool (decide ((chkP t).2 = 0))) ∧ Below w.heap.size w w' := by
  have HR := hid (rcheck_any v t w h hl hn)
  obtain ⟨E0, HE0⟩ : ∃ E : Int, Hid ((chkP t).2 = E) := ⟨_, hid rfl⟩
  rw [HE0.out] at HR ⊢
  obtain ⟨ao, c, e0⟩ := h.shape
  subst e0
  clear h
  go_enter Try.func5, Try.ntmps5
  go_wp2_with fail
  refine HR.out.mono ?_
  rintro r w1 ⟨rfl, hb1⟩
  have HB1 := hid hb1
  clear hb1 HR
  go_wp2
  go_ret
  exact ⟨ret_bb (by rw [Bool.eq_iff_iff]; simp), HB1.out⟩

/-- both sides tell the same -/
theorem find_both {t : List Ent} (hr : Rgt t) (p : List UInt8) : (∃ k, k < t.length ∧ fiN t p = (k : Int) ∧ fnP t p = t.getD k zE ∧ (fnP t p).2.1 ≠ 0) ∨ (fiN t p = -1 ∧ fnP t p = zE) := by
  cases hf : fiP t p with
  | none =>
    right
    refine ⟨by unfold fiN; rw [hf], ?_⟩
    unfold fnP
    split
    · unfold stP
      rw [fdP_fiP, hf]
      rfl
    · rfl
  | some k =>
    left
    obtain ⟨h1, h2, _⟩ := fiP_some.1 hf
    have hm : t.getD k zE ∈ t := by
      rw [List.getD_eq_getElem?_getD, List.getElem?_eq_getElem h1]
      exact List.getElem_mem h1
    have hy := hr.may _ hm
    have e : fnP t p = t.getD k zE := by
      unfold fnP
      rw [if_pos ⟨rgt_iff.2 hr, by rw [← h2]; exact mayP_ok hy⟩]
      unfold stP
      rw [fdP_fiP, hf]
      rfl
    refine ⟨k, h1, by unfold fiN; rw [hf], e, ?_⟩
    rw [e]
    intro h0
    unfold mayP at hy
    revert hy
    rw [h0]
    simp
end Go.Proofs.Yteijkbanlpodpaa

/- What stands straight in a directory, plainly. -/
namespace Go.Proofs.Yteijkbanlpodpaa

/-- the last names of what stands straight in a directory -/
def kdL (t : List Ent) (d : List UInt8) : List (List UInt8) := (t.filter (fun e => decide (spD e.1 = d))).map (fun e => spN e.1)
/-- what Kids answers -/
def kdP (t : List Ent) (d : List UInt8) : Except Int (List (List UInt8)) := if (chkP t).2 ≠ 0 then .error (chkP t).2 else if whP t d ≠ 0 then .error (whP t d) else .ok (kdL t d)
theorem kdL_snoc (d : List UInt8) (t : List Ent) {k : Nat} (hk : k < t.length) : kdL (t.take (k + 1)) d = kdL (t.take k) d ++ (if spD (t.getD k zE).1 = d then [spN (t.getD k zE).1] else []) := by
  unfold kdL
  rw [take_snoc t k hk, List.filter_append, List.map_append]
  congr 1
  by_cases h : spD (t.getD k zE).1 = d
  · rw [if_pos h, List.filter_cons, if_pos (by simpa using h)]
    rfl
  · rw [if_neg h, List.filter_cons, if_neg (by simpa using h)]
    rfl
theorem kdL_len (t : List Ent) (d : List UInt8) : (kdL t d).length ≤ t.length := by
  unfold kdL
  rw [List.length_map]
  exact List.length_filter_le _ _
/-- what stands straight in a directory lies below it -/
theorem kid_ly {d p : List UInt8} (hp : okP p = true) (h0 : p ≠ []) (h : spD p = d) : lyP d p = true := by
  by_cases hd : d = []
  · unfold lyP
    simp [hd]
  · obtain ⟨x, hx⟩ := spD_pre hp h0 (by rw [h]; exact hd)
    unfold lyP
    rw [decide_eq_false hd, Bool.false_or]
    rw [h] at hx
    rw [hx]
    simp
theorem kdL_und {t : List Ent} (ht : ∀ e ∈ t, mayP e = true) (d : List UInt8) : kdL (t.filter (fun e => lyP d e.1)) d = kdL t d := by
  unfold kdL
  rw [List.filter_filter]
  congr 1
  refine List.filter_congr (fun e he => ?_)
  by_cases h : spD e.1 = d
  · rw [decide_eq_true h, kid_ly (mayP_ok (ht e he)) (mayP_ne (ht e he)) h]
    rfl
  · rw [decide_eq_false h]
    rfl
/-- names and a number, as answered -/
def AnsS (w' : World) (base : Nat) (r : Ending) (x : Except Int (List (List UInt8))) : Prop := match x with
  | .ok t => ∃ v, r = .returned (.tuple #[v, .int .i64 0]) ∧ OwnS w' base v t
  | .error e => r = .returned (.tuple #[.slice none 0 0, .int .i64 e])

end Go.Proofs.Yteijkbanlpodpaa

/- As TSbx, with a row of texts (written by kbx.py). -/
namespace Go.Proofs.Yteijkbanlpodpaa
open Go.RowKit Go.Shelf Go.BigFrame

attribute [local go_sem] Oper.semAt_some

/-- the answer under way, the directory -/
structure Kbx (w W : World) (base bD bS : Nat) (d : List UInt8) (l : List (List UInt8)) : Prop where
  s : ∃ v, Boxed W bS 29 v ∧ OwnS W base v l
  d : Boxed W bD 9 (.string (mk d))
  b : Below w.heap.size w W
  z : base ≤ W.heap.size
theorem OwnS.alloc' {w : World} {base : Nat} {v : Value} {es : List (List UInt8)} (h : OwnS w base v es) (o : Obj) : OwnS (w.alloc o) base v es := h.below (below_walk w o)
theorem OwnS.cells' {w : World} {base : Nat} {v : Value} {es : List (List UInt8)} (h : OwnS w base v es) {k : Nat} (hk : v.ownBlock = some k) : ∃ cur, w.heap[k]? = some (.cells cur 9 (0, 0)) := by
  rcases h.2 with ⟨rfl, _⟩ | ⟨g, cap, cur, rfl, _, hh, _⟩
  · cases hk
  · cases hk
    exact ⟨cur, hh⟩
theorem Kbx.step {w W W' : World} {base bD bS : Nat} {d : List UInt8} {l : List (List UInt8)} (h : Kbx w W base bD bS d l) (hb : Below W.heap.size W W') : Kbx w W' base bD bS d l := by
  obtain ⟨v, h1, h2⟩ := h.s
  exact ⟨⟨v, (hb.block _ h1.lt).trans h1, h2.below hb⟩, (hb.block _ h.d.lt).trans h.d, below_then h.b hb, Nat.le_trans h.z hb.size⟩
theorem kbx_own {w : World} {B base bD bS : Nat} {d : List UInt8} (hB : w.heap.size ≤ B) (f : List MEnt → List (List UInt8)) : OwnFrom B (fun pre W => Kbx w W base bD bS d (f pre)) := by
  intro s X Y row hs hg hr
  obtain ⟨v, h1, h2⟩ := hs.s
  obtain ⟨v', h1', h2', _⟩ := holdsRow_own base bS 29 9 1 (fun s => (f s).length) (fun s => strV (f s)) (fun _ _ => True) s X Y row ⟨v, h1, h2, trivial⟩ hg (fun r e => (hr r e).2)
  refine ⟨⟨v', h1', h2'⟩, ?_, ownFrom_below (β := Unit) (Nat.le_refl _) hB () X Y row hs.b hg hr, Nat.le_trans hs.z hg.size⟩
  refine hs.d.kept hg (fun e => ?_)
  obtain ⟨_, o, ho, hc⟩ := hr bD e.symm
  rw [show X.heap[bD]? = _ from hs.d] at ho
  cases ho
  cases hc
/-- where a round begins: the entry in a block of its own, which is not the answer's -/
def KbA (base bS : Nat) (fr : Nat → MEnt → Array Value) (y : MEnt) (a : Act) (W : World) : Prop :=
  ∃ Be, base ≤ Be ∧ Eb W Be y.1 ∧ (∀ v, Boxed W bS 29 v → v.ownBlock ≠ some Be) ∧ a = { tmps := fr Be y, defers := [] }
theorem kbA_own {B base bS : Nat} {fr : Nat → MEnt → Array Value} (hS : bS < B) (hS2 : bS < base) (y : MEnt) (a : Act) : OwnFrom B (fun (_ : Unit) W => KbA base bS fr y a W) := by
  intro s X Y row hs hg hr
  obtain ⟨Be, h1, h2, h3, h4⟩ := hs
  have hlt := hp_lt (show X.heap[Be]? = _ from h2)
  refine ⟨Be, h1, h2.kept hg (fun e => ?_), fun v hv => h3 v ?_, h4⟩
  · obtain ⟨_, o, ho, hc⟩ := hr Be e.symm
    rw [show X.heap[Be]? = _ from h2] at ho
    cases ho
    cases hc
  · refine (hg.block bS (by omega) (fun e => ?_)).symm.trans hv
    have := (hr bS e.symm).1
    omega
theorem Kbx.put {w W : World} {base bD bS : Nat} {d : List UInt8} {l : List (List UInt8)} (h : Kbx w W base bD bS d l) {Be : Nat} (hB : base ≤ Be) (hw : w.heap.size ≤ base) (hD : bD < base) (hS : bS < base) (hne : ∀ v, Boxed W bS 29 v → v.ownBlock ≠ some Be) (i : Nat) (u : Value) :
    Kbx w (W.setCell ⟨Be, i, none⟩ u) base bD bS d l := by
  obtain ⟨v, h1, h2⟩ := h.s
  have hg : W.grownBy (W.setCell ⟨Be, i, none⟩ u) (some Be) := ⟨rfl, rfl, rfl, (KeepsWalks.setCell W _ u).size, fun k _ hk => Below.heap_setCell _ _ _ k (fun e => hk (by rw [e]))⟩
  refine ⟨⟨v, h1.kept hg (fun e => by cases e; omega), h2.kept hg (Or.inr (hne v h1))⟩, h.d.kept hg (fun e => by cases e; omega), h.b.setCell (p := ⟨Be, i, none⟩) (by show w.heap.size ≤ Be; omega) u, Nat.le_trans h.z hg.size⟩
theorem kb_new {w W : World} {base bD bS : Nat} {d : List UInt8} {l : List (List UInt8)} {o : Obj} (h : Kbx w W base bD bS d l) : ∀ v, Boxed (W.alloc o) bS 29 v → v.ownBlock ≠ some W.heap.size := by
  intro v hv e
  obtain ⟨v', h1, h2⟩ := h.s
  have h3 := (h1.alloc o).symm.trans hv
  injection h3 with h3
  injection h3 with h3 _ _
  injection h3 with h3
  injection h3 with h3 _
  subst h3
  have := (h2.lt _ e).2
  omega
/-- behind an append to the answer and its store -/
theorem Kbx.app {w W wA : World} {base bD bS : Nat} {d : List UInt8} {l l' : List (List UInt8)} {vs vA : Value} {tmp : Obj} (h : Kbx w W base bD bS d l) (hv : Boxed W bS 29 vs) (ho : OwnS W base vs l) (hwS : w.heap.size ≤ bS) (hS : bS < base) (hD : bD < bS)
    (hoA : OwnS wA base vA l') (hgA : (W.alloc tmp).grownBy wA vs.ownBlock) :
    Boxed wA bS 29 vs ∧ KeepsFrom base W (wA.setCell ⟨bS, 0, none⟩ vA) ∧ KpS base bS W (wA.setCell ⟨bS, 0, none⟩ vA) ∧ Kbx w (wA.setCell ⟨bS, 0, none⟩ vA) base bD bS d l' := by
  have hlow := (ho.alloc' tmp).lt
  have hvS : some bS ≠ vs.ownBlock := hv.not_row (by decide) ho
  have hv1 : Boxed wA bS 29 vs := (hv.alloc tmp).kept hgA hvS
  have hg2 := grownBy_setCell' wA bS vA
  have hblk : ∀ b, b < base → wA.heap[b]? = W.heap[b]? := fun b hb => by
    have h1 : b < W.heap.size := Nat.lt_of_lt_of_le hb h.z
    rw [hgA.block b (by simp; omega) (fun e => by have := hlow b e.symm; omega)]
    exact Below.heap_alloc W tmp b h1
  have hnA : some bS ≠ vA.ownBlock := hv1.not_row (by decide) hoA
  refine ⟨hv1, ⟨by have h5 := hgA.size; have h6 := hg2.size; rw [World.size_alloc] at h5; omega, fun k o hk hko hoc => ?_⟩, ⟨by have h5 := hgA.size; have h6 := hg2.size; rw [World.size_alloc] at h5; omega, fun b hb hne => ?_⟩, ⟨⟨vA, hv1.set vA, hoA.kept hg2 (Or.inr hnA.symm)⟩, ?_, ?_, ?_⟩⟩
  · have h1 := hp_lt hko
    rw [hg2.block k (by have h5 := hgA.size; rw [World.size_alloc] at h5; omega) (fun e => by cases e; omega)]
    rw [hgA.block k (by simp; omega) (fun e => ?_)]
    · exact (Below.heap_alloc W tmp k h1).trans hko
    · obtain ⟨cur, hc⟩ := ho.cells' e.symm
      rw [hc] at hko
      cases hko
      cases hoc
  · rw [hg2.block b (by have h5 := hgA.size; have h6 := h.z; rw [World.size_alloc] at h5; omega) (fun e => by cases e; exact hne rfl)]
    exact hblk b hb
  · refine Boxed.kept ?_ hg2 (fun e => by cases e; omega)
    exact (hblk bD (by omega)).trans h.d
  · refine Below.setCell (p := ⟨bS, 0, none⟩) ?_ hwS vA
    refine (h.b.alloc h.b.size tmp).grown hgA (by have := h.b.size; simp; omega) (fun k e => by have := hlow k e; omega)
  · have h5 := hgA.size
    have h6 := hg2.size
    have h7 := h.z
    rw [World.size_alloc] at h5
    omega

end Go.Proofs.Yteijkbanlpodpaa

/- The program's Kids (written by tkids.py). -/
namespace Go.Proofs.Yteijkbanlpodpaa
open Go.RowKit Go.Shelf Go.BigFrame

attribute [local go_sem] Oper.semAt_some

theorem spn_le (p : List UInt8) (h : okP p = true) (h0 : p ≠ []) : (spN p).length ≤ 64 := by
  have hn : nms p ≠ [] := fun e => h0 (nms_nil.1 e)
  have hm : nmP ((nms p).getLast hn) = true := ((okP_iff p).1 h).1 _ (List.getLast_mem hn)
  have e : spN p = (nms p).getLast hn := by
    unfold spN
    rw [if_pos h, List.getLastD_eq_getLast?, List.getLast?_eq_some_getLast hn]
    rfl
  rw [e]
  unfold nmP at hm
  simp only [Bool.and_eq_true, decide_eq_true_iff] at hm
  omega

set_option maxRecDepth 100000 in
set_option maxHeartbeats 2000000 in
theorem kids_any (v : Value) (t : List Ent) (d : List UInt8) (w : World) (h : Ents w v t) (hs : Short t) (hn : t.length ≤ 4611686018427387904) (hd : d.length ≤ 4611686018427387904) :
    Calls Try.prog 8 #[v, .string (mk d)] w fun r w' => AnsS w' w.heap.size r (kdP t d) ∧ Below w.heap.size w w' := by
  obtain ⟨E0, HE0⟩ : ∃ E : Int, Hid ((chkP t).2 = E) := ⟨_, rfl⟩
  have hb0 := below_walk w (.cells #[.string (mk d)] 9)
  have HB0 := hid hb0
  have HBD := hid (Boxed.new w 9 (.string (mk d)))
  have HR := hid (right_one v t _ (h.below hb0) hs hn E0 HE0.out)
  have HET := hid h
  have HZ0 := hid (show (w.alloc (.cells #[.string (mk d)] 9)).heap.size = w.heap.size + 1 by simp)
  rw [HZ0.out] at HR
  clear h hs hb0
  by_cases h0 : E0 = 0
  · subst h0
    have HRT := hid (rgt_iff.1 HE0.out)
    obtain ⟨W0, HW0⟩ : ∃ W, Hid (whP t d = W) := ⟨_, rfl⟩
    have HDI := hid (fun W (hW : Below w.heap.size w W) => directory_any v t d W (HET.out.below hW) HRT.out hd)
    rw [HW0.out] at HDI
    by_cases h1 : W0 = 0
    · subst h1
      obtain ⟨hok, hdir⟩ := wh_zero.1 HW0.out
      have HAP := hid (show kdP t d = .ok (kdL t d) from by unfold kdP; rw [if_neg (by simpa using HE0.out), if_neg (by simpa using HW0.out)])
      have HOK := hid hok
      obtain ⟨T, hT⟩ := vals_of HRT.out.may
      have HT := hid hT
      obtain ⟨ao, c, e0⟩ := HET.out.shape
      subst e0
      clear hok hdir hT
      refine (callsIn_wide (n := 9)).1 ?_
      refine callsIn_of_wp_marks Try.func8 rfl trivial ?_ rfl
      simp only [Try.ntmps8, List.size_toArray, List.length_cons, List.length_nil, Nat.reduceAdd, Nat.reduceSub, Array.replicate_succ, Array.replicate_zero, List.push_toArray, List.append_toArray, List.nil_append, List.cons_append]
      gi_wp2_with fail
      refine ⟨trivial, (callsIn_wide.2 HR.out).mono ?_⟩
      rintro r w1 ⟨rfl, hb1⟩
      have HB1 := hid (below_then HB0.out (show Below (w.alloc (.cells #[.string (mk d)] 9)).heap.size _ w1 from by rw [HZ0.out]; exact hb1))
      have HD1 := hid (show Boxed w1 w.heap.size 9 (.string (mk d)) from (hb1.block _ (by omega)).trans HBD.out)
      clear hb1 HR HBD
      have cd := HD1.out.cell
      gi_wp2_with fail
      refine ⟨trivial, (callsIn_wide.2 (HDI.out w1 HB1.out)).mono ?_⟩
      rintro r w2 ⟨rfl, hb2⟩
      have HB2 := hid (below_then HB1.out hb2)
      have HD2 := hid (show Boxed w2 w.heap.size 9 (.string (mk d)) from (hb2.block _ HD1.out.lt).trans HD1.out)
      clear hb2 HDI HB1 HD1 cd
      have HB3 := hid (HB2.out.alloc HB2.out.size (.cells #[.slice none 0 0] 29))
      have HD3 := hid (HD2.out.alloc (.cells #[.slice none 0 0] 29))
      have HS3 := hid (Boxed.new w2 29 (.slice none 0 0))
      have HUN := hid (under_any (.slice ao t.length c) t d (w2.alloc (.cells #[.slice none 0 0] 29)) (HET.out.below HB3.out) hd w2.heap.size HS3.out.lt (fun g o n c h0 e => by have := HET.out.low h0 e; have := HB2.out.size; omega))
      have HZ2 := hid HD2.out.lt
      have cd := HD3.out.cell
      clear HD2 HB2
      gi_wp2_with fail
      refine ⟨trivial, (callsIn_wide.2 HUN.out).mono ?_⟩
      rintro r w4 ⟨Bt, Bl, f, rfl, hU, hBt, hBl, hb4⟩
      have HB4 := hid (below_then HB3.out hb4)
      have HD4 := hid (show Boxed w4 w.heap.size 9 (.string (mk d)) from (hb4.block _ HD3.out.lt).trans HD3.out)
      have HS4 := hid (show Boxed w4 w2.heap.size 29 (.slice none 0 0) from (hb4.block _ HS3.out.lt).trans HS3.out)
      have HU := hid hU
      clear hU hb4 hBt hBl HUN HB3 HD3 HS3 cd
      gi_wp2_with fail
      have HSL := hid (show w2.heap.size < w4.heap.size from HS4.out.lt)
      have hTl : T.length ≤ 1024 := by have := HRT.out.many; rw [HT.out, vals_len] at this; exact this
      have HU2 := hid (show Und w4 w4.heap.size w2.heap.size (.slice ao t.length c) (vals T) f d Bt Bl from by rw [← HT.out]; exact HU.out)
      refine wpIn_rangeFunc_ownH rfl (by omega) (gf := 41) (lb := #[.pointer (some ⟨Bt, 0, none⟩), .pointer (some ⟨Bl, 0, none⟩)]) rfl trivial (enters_of Try.func41 (by kernel_rfl) rfl)
        (und_stops _ (by omega) Bt Bl w4.heap.size w2.heap.size T hTl (.slice ao t.length c) f d w4 HU2.out (Nat.le_refl _))
        (fun h k => kpS_t h k) (kpS_b (Nat.le_refl _)) (Below.refl _ _) (fun _ => rfl)
        (fun pre W => Kbx w W w4.heap.size w.heap.size w2.heap.size d (kdL (vals pre) d))
        (fun _ _ _ => False)
        (kbx_own HB4.out.size (fun pre => kdL (vals pre) d)) (fun _ _ _ _ _ hs _ _ => hs)
        ⟨⟨_, HS4.out, OwnS.nil _ _⟩, HD4.out, HB4.out, Nat.le_refl _⟩
        (KbA w4.heap.size w2.heap.size (fun Be y => #[.slice ao t.length c, .string (mk d), undef, .pointer (some ⟨w.heap.size, 0, none⟩), .slice none 0 0, .int .i64 0, .int .i64 0, .int .i64 0, .pointer (some ⟨w2.heap.size, 0, none⟩), .string (mk (spN y.1.1)), .pointer (some ⟨Be, 0, none⟩), .slice ao t.length c, .slice (some ⟨w.heap.size + 1, 0, none⟩) 1 1, .int .i64 0, .int .i64 0, .bool false, undef, .slice ao t.length c, .string (mk d), .int .i64 0, .int .i64 0, .bool false, undef, .slice ao t.length c, .string (mk d), .func (.func 41) #[] #[.pointer (some ⟨Bt, 0, none⟩), .pointer (some ⟨Bl, 0, none⟩)], .string (mk (spN y.1.1)), entA y.1, undef, undef, undef, undef, undef, undef, undef, undef, undef, undef, undef]))
        (fun y a' => kbA_own HSL.out HSL.out y a') ?assign ?body ?done ?stop
      case assign =>
        intro l pre y W K hi hK
        unfold undE entA
        gi_wp2
        exact hK _ _ ((KeepsOthers.alloc _ _).from _) (kpS_below (below_walk W _) hi.z) (hi.step (below_walk W _)) ⟨W.heap.size, hi.z, Eb.new W y.1, kb_new hi, rfl⟩
      case body =>
        rintro l pre y a' W hl _ hi ⟨Be, hBe, heb, hnb, rfl⟩ hlt
        obtain ⟨vs, hv, ho⟩ := hi.s
        obtain ⟨av, cv, hvs⟩ := ho.strs.shape
        subst hvs
        have HPA := hid (fun W => parent_any y.1.1 W (by have := okP_short (mayP_ok y.2); omega))
        have HCL := hid (fun W => clone_any (mk (spN y.1.1)) W (by rw [mk_size]; have := spn_le y.1.1 (mayP_ok y.2) (mayP_ne y.2); omega))
        have cd := hi.d.cell
        have ce := heb.at.1
        have hBl := hp_lt (show W.heap[Be]? = _ from heb)
        have HI := hid hi
        have HEB := hid heb
        have HNB := hid (hnb _ hv)
        have HV := hid hv
        have HO := hid ho
        have HBE := hid hBe
        have HDS := hid (show w.heap.size < w2.heap.size from HZ2.out)
        have HPL := hid (show (kdL (vals pre) d).length + 1 ≤ 8796093022208 by have := kdL_len (vals pre) d; rw [vals_len] at this; omega)
        have HMP := hid (show kdL (vals (pre ++ [y])) d = kdL (vals pre) d ++ (if spD y.1.1 = d then [spN y.1.1] else []) by unfold kdL vals; rw [List.map_append, List.filter_append, List.map_append]; congr 1; by_cases h : spD y.1.1 = d <;> simp [h])
        generalize kdL (vals pre) d = L at *
        have hdl := hi.d.lt
        clear hi heb hnb hv ho hBe
        have c0 := fun p : Bel W => p.cell ce hBl
        have c1 := fun p : Bel W => p.cell cd hdl
        have ib : Nonempty (Bel W) := bel_some W
        clear cd ce
        gi_wp2_with fail
        refine wpIn_region_bel_tail 4 (by kernel_rfl) (by kernel_rfl) (by kernel_rfl) (by rintro ⟨_, _, h⟩; exact h) ?_
        simp only [List.take_succ_cons, List.take_zero, List.drop_succ_cons, List.drop_zero]
        repeat (go_big_quiet_step (first | (go_at_call 23; with_reducible exact bel_drew (HPA.out _))))
        refine wpQuiet_nil ?_
        rintro w5 ⟨⟨w5', hb5⟩, hw5⟩
        obtain rfl : w5 = w5' := hw5
        have HB5 := hid hb5
        clear hb5 c0 c1 ib
        by_cases hly : spD y.1.1 = d
        · have q4 : (spD y.1.1 == d) = true := by rw [hly]; simp
          have q3 : ((mk (spD y.1.1)).toList == (mk d).toList) = true := by rw [hly]; simp
          rw [if_pos hly] at HMP
          clear hly
          have hv5 : Boxed w5 w2.heap.size 29 (.slice av L.length cv) := (HB5.out.block _ HV.out.lt).trans HV.out
          have HBd : Hid (Below W.heap.size W w5.drew) := hid HB5.out.drew
          have HId : Hid (Kbx w w5.drew w4.heap.size w.heap.size w2.heap.size d L) := hid (HI.out.step HBd.out)
          have HVd : Hid (Boxed w5.drew w2.heap.size 29 (.slice av L.length cv)) := hid hv5
          have HOd : Hid (OwnS w5.drew w4.heap.size (.slice av L.length cv) L) := hid (HO.out.below HBd.out)
          clear hv5
          go_wp2_with fail
          gi_wp2_with fail
          refine region_in_any (by kernel_rfl) (by kernel_rfl) (by rintro ⟨_, _, h⟩; exact h) ?_
          change wpAny _ _ _ _ _ _ _ (World.drew _)
          generalize w5.drew = wd at *
          refine wpAny_take (i := 1) (v := .string (mk (spN y.1.1))) rfl (by kernel_rfl) (by kernel_rfl) (by kernel_rfl) (fun _ _ _ h => h) (Or.inl ⟨by rfl, fun W => by go_simp⟩) ?_
          simp only [Act.put, List.getElem_toArray, List.getElem_cons_zero, List.getElem_cons_succ, List.setIfInBounds_toArray, List.set_cons_succ, List.set_cons_zero]
          refine wpAny_ready (rs := [0, 2]) (by kernel_rfl) (by simp) ?_
          refine (AllReady.cons rfl (fun K hK => ?_) (AllReady.cons rfl (fun K hK => ?_) AllReady.nil))
          · have c0 := HVd.out.cell
            go_simp
            refine hK _ _ ?_
            clear hK K c0
            refine wpAny_ready (rs := [2]) (by kernel_rfl) (by simp) ?_
            refine (AllReady.cons rfl (fun K hK => ?_) AllReady.nil)
            · go_simp
              refine (HCL.out _).mono ?_
              rintro r w6 ⟨rfl, hb6⟩
              have HV6 := hid (show Boxed w6 w2.heap.size 29 (.slice av L.length cv) from (hb6.block _ HVd.out.lt).trans HVd.out)
              have HI6 := hid (HId.out.step hb6)
              have HO6 := hid (HOd.out.below hb6)
              have HK6 := hid ((KeepsFrom.below (B := w4.heap.size) HBd.out).trans (KeepsFrom.below hb6))
              have HP6 := hid (kpS_t (kpS_below (x := w2.heap.size) HBd.out HI.out.z) (kpS_below hb6 HId.out.z))
              clear hb6
              refine hK _ _ ?_
              clear hK K
              refine wpAny_ready (rs := [3]) (by kernel_rfl) (by simp) ?_
              refine (AllReady.cons rfl (fun K hK => ?_) AllReady.nil)
              · go_simp
                refine hK _ _ ?_
                clear hK K
                have HV7 := hid (show Boxed (w6.alloc (.cells #[.string (mk (spN y.1.1))] 9)) w2.heap.size 29 (.slice av L.length cv) from HV6.out.alloc (.cells #[.string (mk (spN y.1.1))] 9))
                refine wpAny_ready (rs := [4]) (by kernel_rfl) (by simp) ?_
                refine (AllReady.cons rfl (fun K hK => ?_) AllReady.nil)
                · have HOX := hid (HO6.out.alloc' (.cells #[.string (mk (spN y.1.1))] 9))
                  have HBX := hid (show w4.heap.size ≤ (w6.alloc (.cells #[.string (mk (spN y.1.1))] 9)).heap.size by have := HI6.out.z; rw [World.size_alloc]; omega)
                  refine step_app_text (by rfl) (.tmp 33) (.tmp 36) (by rfl) w4.heap.size _ L (by rfl) HOX.out _ [spN y.1.1] (by rfl) (src_txt _ _ _) (by have := HPL.out; simp; omega) HBX.out ?_
                  intro aA nA cA wA hoA hgA
                  obtain ⟨hvA, hK1, hK2, hI⟩ := HI6.out.app HV6.out HO6.out (Nat.le_of_lt HDS.out) HSL.out HDS.out hoA hgA
                  have HKA := hid (HK6.out.trans hK1)
                  have HPA := hid (kpS_t HP6.out hK2)
                  have HIA := hid hI
                  have cA1 := hvA.cell
                  have fA1 := hvA.frozen
                  clear hoA hgA hvA hK1 hK2 hI
                  refine hK _ _ ?_
                  clear hK K
                  refine wpAny_ready (rs := [5]) (by kernel_rfl) (by simp) ?_
                  refine (AllReady.cons rfl (fun K hK => ?_) AllReady.nil)
                  · go_simp
                    refine hK _ _ ?_
                    clear hK K
                    refine wpAny_done (by kernel_rfl) ?_ _
                    gi_wp2_with fail
                    exact ⟨HKA.out, HPA.out, by show Kbx _ _ _ _ _ _ (kdL (vals (pre ++ [y])) d); rw [HMP.out]; exact HIA.out⟩
          · go_simp
            refine (HCL.out _).mono ?_
            rintro r w6 ⟨rfl, hb6⟩
            have HV6 := hid (show Boxed w6 w2.heap.size 29 (.slice av L.length cv) from (hb6.block _ HVd.out.lt).trans HVd.out)
            have HI6 := hid (HId.out.step hb6)
            have HO6 := hid (HOd.out.below hb6)
            have HK6 := hid ((KeepsFrom.below (B := w4.heap.size) HBd.out).trans (KeepsFrom.below hb6))
            have HP6 := hid (kpS_t (kpS_below (x := w2.heap.size) HBd.out HI.out.z) (kpS_below hb6 HId.out.z))
            clear hb6
            refine hK _ _ ?_
            clear hK K
            refine wpAny_ready (rs := [0, 3]) (by kernel_rfl) (by simp) ?_
            refine (AllReady.cons rfl (fun K hK => ?_) (AllReady.cons rfl (fun K hK => ?_) AllReady.nil))
            · have c0 := HV6.out.cell
              go_simp
              refine hK _ _ ?_
              clear hK K c0
              refine wpAny_ready (rs := [3]) (by kernel_rfl) (by simp) ?_
              refine (AllReady.cons rfl (fun K hK => ?_) AllReady.nil)
              · go_simp
                refine hK _ _ ?_
                clear hK K
                have HV7 := hid (show Boxed (w6.alloc (.cells #[.string (mk (spN y.1.1))] 9)) w2.heap.size 29 (.slice av L.length cv) from HV6.out.alloc (.cells #[.string (mk (spN y.1.1))] 9))
                refine wpAny_ready (rs := [4]) (by kernel_rfl) (by simp) ?_
                refine (AllReady.cons rfl (fun K hK => ?_) AllReady.nil)
                · have HOX := hid (HO6.out.alloc' (.cells #[.string (mk (spN y.1.1))] 9))
                  have HBX := hid (show w4.heap.size ≤ (w6.alloc (.cells #[.string (mk (spN y.1.1))] 9)).heap.size by have := HI6.out.z; rw [World.size_alloc]; omega)
                  refine step_app_text (by rfl) (.tmp 33) (.tmp 36) (by rfl) w4.heap.size _ L (by rfl) HOX.out _ [spN y.1.1] (by rfl) (src_txt _ _ _) (by have := HPL.out; simp; omega) HBX.out ?_
                  intro aA nA cA wA hoA hgA
                  obtain ⟨hvA, hK1, hK2, hI⟩ := HI6.out.app HV6.out HO6.out (Nat.le_of_lt HDS.out) HSL.out HDS.out hoA hgA
                  have HKA := hid (HK6.out.trans hK1)
                  have HPA := hid (kpS_t HP6.out hK2)
                  have HIA := hid hI
                  have cA1 := hvA.cell
                  have fA1 := hvA.frozen
                  clear hoA hgA hvA hK1 hK2 hI
                  refine hK _ _ ?_
                  clear hK K
                  refine wpAny_ready (rs := [5]) (by kernel_rfl) (by simp) ?_
                  refine (AllReady.cons rfl (fun K hK => ?_) AllReady.nil)
                  · go_simp
                    refine hK _ _ ?_
                    clear hK K
                    refine wpAny_done (by kernel_rfl) ?_ _
                    gi_wp2_with fail
                    exact ⟨HKA.out, HPA.out, by show Kbx _ _ _ _ _ _ (kdL (vals (pre ++ [y])) d); rw [HMP.out]; exact HIA.out⟩
            · go_simp
              refine hK _ _ ?_
              clear hK K
              have HV7 := hid (show Boxed (w6.alloc (.cells #[.string (mk (spN y.1.1))] 9)) w2.heap.size 29 (.slice av L.length cv) from HV6.out.alloc (.cells #[.string (mk (spN y.1.1))] 9))
              refine wpAny_ready (rs := [0]) (by kernel_rfl) (by simp) ?_
              refine (AllReady.cons rfl (fun K hK => ?_) AllReady.nil)
              · have c0 := HV7.out.cell
                go_simp
                refine hK _ _ ?_
                clear hK K c0
                refine wpAny_ready (rs := [4]) (by kernel_rfl) (by simp) ?_
                refine (AllReady.cons rfl (fun K hK => ?_) AllReady.nil)
                · have HOX := hid (HO6.out.alloc' (.cells #[.string (mk (spN y.1.1))] 9))
                  have HBX := hid (show w4.heap.size ≤ (w6.alloc (.cells #[.string (mk (spN y.1.1))] 9)).heap.size by have := HI6.out.z; rw [World.size_alloc]; omega)
                  refine step_app_text (by rfl) (.tmp 33) (.tmp 36) (by rfl) w4.heap.size _ L (by rfl) HOX.out _ [spN y.1.1] (by rfl) (src_txt _ _ _) (by have := HPL.out; simp; omega) HBX.out ?_
                  intro aA nA cA wA hoA hgA
                  obtain ⟨hvA, hK1, hK2, hI⟩ := HI6.out.app HV6.out HO6.out (Nat.le_of_lt HDS.out) HSL.out HDS.out hoA hgA
                  have HKA := hid (HK6.out.trans hK1)
                  have HPA := hid (kpS_t HP6.out hK2)
                  have HIA := hid hI
                  have cA1 := hvA.cell
                  have fA1 := hvA.frozen
                  clear hoA hgA hvA hK1 hK2 hI
                  refine hK _ _ ?_
                  clear hK K
                  refine wpAny_ready (rs := [5]) (by kernel_rfl) (by simp) ?_
                  refine (AllReady.cons rfl (fun K hK => ?_) AllReady.nil)
                  · go_simp
                    refine hK _ _ ?_
                    clear hK K
                    refine wpAny_done (by kernel_rfl) ?_ _
                    gi_wp2_with fail
                    exact ⟨HKA.out, HPA.out, by show Kbx _ _ _ _ _ _ (kdL (vals (pre ++ [y])) d); rw [HMP.out]; exact HIA.out⟩
        · have q4 : (spD y.1.1 == d) = false := by simpa using hly
          have q3 : ((mk (spD y.1.1)).toList == (mk d).toList) = false := by rw [show (mk (spD y.1.1)).toList = spD y.1.1 from bl_mk _, show (mk d).toList = d from bl_mk _]; exact q4
          rw [if_neg hly, List.append_nil] at HMP
          clear hly
          go_wp2_with fail
          gi_wp2_with fail
          exact ⟨KeepsFrom.below HB5.out, kpS_below HB5.out HI.out.z, by show Kbx _ _ _ _ _ _ (kdL (vals (pre ++ [y])) d); rw [HMP.out]; exact HI.out.step HB5.out⟩
      case done =>
        rintro D ys W hD rfl hi hK
        have hi : Kbx w W w4.heap.size w.heap.size w2.heap.size d (kdL (vals (undL d T)) d) := hi
        rw [vals_und, ← HT.out, kdL_und HRT.out.may] at hi
        obtain ⟨vs, hv, ho⟩ := hi.s
        obtain ⟨av, cv, hvs⟩ := ho.strs.shape
        subst hvs
        have HBW := hid hi.b
        have HKD := hid hK
        have HDL := hid hD
        have HO8 := hid (ho.le HB4.out.size)
        have cv1 := hv.cell
        clear hi hv ho hK hD
        gi_wp2
        refine ⟨by simp, .inl ⟨_, _, rfl, run_takeDeferred HKD.out, ?_⟩⟩
        refine ⟨_, results_tmp2 rfl _ _ _, ?_⟩
        rw [HAP.out]
        exact ⟨⟨_, rfl, ownsRow_putObj HO8.out _ HKD.out rfl⟩, HBW.out.grown (grownBy_putObj' _ D (.deferred none)) HBW.out.size (fun k e => by cases e; exact Nat.le_trans HB4.out.size HDL.out)⟩
      case stop =>
        rintro D c' pre W _ _ h _
        exact h.elim
    · have HAP := hid (show kdP t d = .error W0 from by unfold kdP; rw [if_neg (by simpa using HE0.out), HW0.out, if_pos h1])
      have e1 : (W0 == 0) = false := by simpa using h1
      obtain ⟨ao, c, e0⟩ := HET.out.shape
      subst e0
      clear h1
      go_enter Try.func8, Try.ntmps8
      go_wp2_with fail
      refine HR.out.mono ?_
      rintro r w1 ⟨rfl, hb1⟩
      have HB1 := hid (below_then HB0.out (show Below (w.alloc (.cells #[.string (mk d)] 9)).heap.size _ w1 from by rw [HZ0.out]; exact hb1))
      have cd := (show Boxed w1 w.heap.size 9 (.string (mk d)) from (hb1.block _ (by omega)).trans HBD.out).cell
      clear hb1 HR HBD
      go_wp2_with (go_at_call 21; refine (HDI.out _ HB1.out).mono ?_; rintro r w2 ⟨rfl, hb2⟩; have HB2 := hid (below_then HB1.out hb2); clear hb2)
      go_ret2
      rw [HAP.out]
      exact ⟨rfl, HB2.out⟩
  · have HAP := hid (show kdP t d = .error E0 from by unfold kdP; rw [HE0.out, if_pos h0])
    have e1 : (E0 == 0) = false := by simpa using h0
    obtain ⟨ao, c, e0⟩ := HET.out.shape
    subst e0
    clear h0
    go_enter Try.func8, Try.ntmps8
    go_wp2_with fail
    refine HR.out.mono ?_
    rintro r w1 ⟨rfl, hb1⟩
    have HB1 := hid (below_then HB0.out (show Below (w.alloc (.cells #[.string (mk d)] 9)).heap.size _ w1 from by rw [HZ0.out]; exact hb1))
    clear hb1 HR
    go_wp2
    go_ret2
    rw [HAP.out]
    exact ⟨rfl, HB1.out⟩

end Go.Proofs.Yteijkbanlpodpaa

/- The document's Kids. -/
namespace Go.Proofs.Yteijkbanlpodpaa
open Go.RowKit Go.BigFrame

set_option maxRecDepth 100000 in
set_option maxHeartbeats 4000000 in
theorem rkids_any (v : Value) (t : List Ent) (d : List UInt8) (w : World) (h : Ents w v t) (hl : Bulk t) (hn : t.length ≤ 4611686018427387904) (hd : d.length ≤ 1099511627776) :
    Calls Try.prog 9 #[v, .string (mk d)] w fun r w' => AnsS w' w.heap.size r (kdP t d) ∧ Below w.heap.size w w' := by
  obtain ⟨I0, HI0⟩ : ∃ I : Nat, Hid ((chkP t).1 = I) := ⟨_, rfl⟩
  obtain ⟨E0, HE0⟩ : ∃ E : Int, Hid ((chkP t).2 = E) := ⟨_, rfl⟩
  have HR := hid (rcheck_any v t w h hl hn)
  rw [HI0.out, HE0.out] at HR
  have HET := hid h
  obtain ⟨ao, c, e0⟩ := h.shape
  subst e0
  clear h
  by_cases hz : E0 = 0
  · subst hz
    have HRT := hid (rgt_iff.1 HE0.out)
    obtain ⟨W0, HW0⟩ : ∃ W, Hid (whP t d = W) := ⟨_, rfl⟩
    have HWH := hid (fun W (hW : Below w.heap.size w W) => rwhere_any _ t d W (HET.out.below hW) hn hd)
    rw [HW0.out] at HWH
    by_cases h1 : W0 = 0
    · subst h1
      have HAP := hid (show kdP t d = .ok (kdL t d) from by unfold kdP; rw [if_neg (by simpa using HE0.out), if_neg (by simpa using HW0.out)])
      have HSP := hid (fun (e : Ent) (he : e ∈ t) W => rsplit_any (mk e.1) W (by rw [bl_mk]; exact (hl e he).1))
      clear hl
      have hbd : (mk d).toList = d := bl_mk d
      have HD := hid hbd
      clear hbd
      go_enter Try.func9, Try.ntmps9
      go_wp2_with (first | (go_at_call 16; refine HR.out.mono ?_; rintro r w1 ⟨rfl, hb1⟩; have HB1 := hid hb1; clear hb1) | (go_at_call 25; refine (HWH.out _ HB1.out).mono ?_; rintro r w2 ⟨rfl, hb2⟩; have HB2 := hid (below_then HB1.out hb2); clear hb2))
      have HE4 := hid (HET.out.below HB2.out)
      go_loopw [8, 9] (fun x i wr => ∃ k : Nat, i = .int .i64 k ∧ k ≤ t.length ∧ OwnS wr w2.heap.size x (kdL (t.take k) d) ∧ Below w2.heap.size w2 wr) (fun _ i _ => t.length - (intOf i).toNat)
      case atStart => exact ⟨0, rfl, Nat.zero_le _, OwnS.nil _ _, Below.refl _ _⟩
      case round =>
        obtain ⟨k, rfl, hk, ho, hb⟩ := hrel
        have HO := hid ho
        have HB := hid hb
        obtain ⟨al, xl, e2⟩ := ho.strs.shape
        have hlen : (kdL (t.take k) d).length ≤ 1024 := by
          have h1 := kdL_len (t.take k) d
          rw [List.length_take] at h1
          have := HRT.out.many
          omega
        have HLL := hid hlen
        generalize (kdL (t.take k) d).length = nl at e2
        subst e2
        clear ho hb hlen
        by_cases hlt : k < t.length
        · have hmany := HRT.out.many
          have q1 : (k : Int) < (t.length : Int) := by omega
          have q2 : ¬ (k : Int) < 0 := by omega
          have hw1 : IntKind.i64.wrap ((k : Int) + 1) = ((k + 1 : Nat) : Int) := by rw [IntKind.wrap_i64]; omega
          obtain ⟨g, o, rfl, hgl, hat⟩ := (HE4.out.below HB.out).at k hlt
          obtain ⟨e, HED⟩ : ∃ e, Hid (t.getD k zE = e) := ⟨_, rfl⟩
          rw [HED.out] at hat
          have HSN := hid (kdL_snoc d t hlt)
          rw [HED.out] at HSN
          have HBL := hid (HSP.out e (by rw [← HED.out]; exact getD_mem hlt))
          rw [bl_mk] at HBL
          obtain ⟨d0, d1, d2⟩ := hat
          by_cases hly : spD e.1 = d
          · have HF2 := hid (show kdL (t.take (k + 1)) d = kdL (t.take k) d ++ [spN e.1] from by rw [HSN.out, if_pos hly])
            have q3 : ((mk (spD e.1)).toList == (mk d).toList) = true := by rw [hly]; simp
            have q4 : (spD e.1 == d) = true := by rw [hly]; simp
            clear hly
            go_wp2_with (first | (go_at_call 26; refine (HBL.out _).mono ?_; rintro r w5 ⟨rfl, hb5⟩; have HB5 := hid (below_then HB.out hb5); have HO5 := hid (HO.out.below hb5); clear hb5) | (refine app_text (by rfl) _ _ (by rfl) w2.heap.size _ _ (by rfl) (HO5.out.below (below_walk _ _)) [spN e.1] _ (by rfl) (by have h9 := fun W => strs_one W (mk (spN e.1)); rw [bl_mk] at h9; exact h9 _) (by have := HLL.out; simp; omega) (by have := HB5.out.size; simp; omega) ?_; intro v6 w6 ho6 hg6 _; have HO6 := hid ho6; have HB6 := hid ((HB5.out.alloc HB5.out.size (.cells #[.string (mk (spN e.1))] 9)).grown hg6 (by have := HB5.out.size; simp; omega) (fun k hk => (HO5.out.lt k hk).1)); obtain ⟨a6, c6, e6⟩ := ho6.strs.shape; subst e6; clear ho6 hg6))
            exact ⟨⟨k + 1, by simp, by omega, by rw [HF2.out]; have h9 := HO6.out; rw [List.length_append] at h9; exact h9, HB6.out⟩, by simp [intOf]; omega⟩
          · have HF2 := hid (show kdL (t.take (k + 1)) d = kdL (t.take k) d from by rw [HSN.out, if_neg hly, List.append_nil])
            have q4 : (spD e.1 == d) = false := by simpa using hly
            have q3 : ((mk (spD e.1)).toList == (mk d).toList) = false := by rw [show (mk (spD e.1)).toList = spD e.1 from bl_mk _, HD.out]; exact q4
            clear hly
            go_wp2_with (go_at_call 26; refine (HBL.out _).mono ?_; rintro r w5 ⟨rfl, hb5⟩; have HB5 := hid (below_then HB.out hb5); have HO5 := hid (HO.out.below hb5); clear hb5)
            exact ⟨⟨k + 1, by simp, by omega, by rw [HF2.out]; exact HO5.out, HB5.out⟩, by simp [intOf]; omega⟩
        · have q1 : ¬ (k : Int) < (t.length : Int) := by omega
          have hk2 : k = t.length := by omega
          subst hk2
          go_wp2
          go_ret2
          rw [HAP.out]
          have ho := HO.out
          rw [List.take_length] at ho
          exact ⟨⟨_, rfl, ho.le HB2.out.size⟩, below_then HB2.out HB.out⟩
    · have HAP := hid (show kdP t d = .error W0 from by unfold kdP; rw [if_neg (by simpa using HE0.out), HW0.out, if_pos h1])
      have e1 : (W0 == 0) = false := by simpa using h1
      clear h1 hl
      go_enter Try.func9, Try.ntmps9
      go_wp2_with (first | (go_at_call 16; refine HR.out.mono ?_; rintro r w1 ⟨rfl, hb1⟩; have HB1 := hid hb1; clear hb1) | (go_at_call 25; refine (HWH.out _ HB1.out).mono ?_; rintro r w2 ⟨rfl, hb2⟩; have HB2 := hid (below_then HB1.out hb2); clear hb2))
      go_ret2
      rw [HAP.out]
      exact ⟨rfl, HB2.out⟩
  · have HAP := hid (show kdP t d = .error E0 from by unfold kdP; rw [HE0.out, if_pos hz])
    have e1 : (E0 == 0) = false := by simpa using hz
    clear hz hl
    go_enter Try.func9, Try.ntmps9
    go_wp2_with (go_at_call 16; refine HR.out.mono ?_; rintro r w1 ⟨rfl, hb1⟩; have HB1 := hid hb1; clear hb1)
    go_ret2
    rw [HAP.out]
    exact ⟨rfl, HB1.out⟩

end Go.Proofs.Yteijkbanlpodpaa

/- alive: a file in a directory that lacks. -/
namespace Go.Proofs.Yteijkbanlpodpaa
open Go.RowKit

def al0 : Ent := ([97, 47, 98], 1, [120])
def alT : List Ent := [([97], 2, []), al0]
theorem al_lack : lackL [al0] = [[97]] := by decide +kernel
theorem al_make : mkP [al0] = .ok alT := by
  have h1 : [al0].all mayP = true := by decide +kernel
  have h2 : ([al0].map (·.1)).Nodup := by simp
  have h3 : wrongP [al0] = false := by decide +kernel
  have h5 : szP [al0] = 1 := by decide +kernel
  have h6 : alT.Pairwise ltE := by
    unfold alT
    rw [List.pairwise_cons]
    refine ⟨fun b hb => ?_, List.pairwise_singleton _ _⟩
    rw [List.mem_singleton] at hb
    subst hb
    unfold ltE
    decide +kernel
  have h7 : (([al0] ++ [[97]].map dirE).map (·.1)).Nodup := by decide +kernel
  have h8 : alT = sortE ([al0] ++ [[97]].map dirE) := by
    refine sortE_uniq h6 h7 (fun e => ?_)
    unfold alT dirE
    simp
    exact Or.comm
  unfold mkP
  rw [h1, if_neg (show ¬ (true = false) by simp), if_neg (fun h => h h2), h3, if_neg (show ¬ (false = true) by simp), al_lack, h5, ← h8]
  rfl
theorem al_check : chkP alT = (0, 0) := by decide +kernel
theorem al_size : szP alT = 1 := by decide +kernel
theorem al_tre : Tre [al0] := ⟨by simp, fun e he => by rw [List.mem_singleton] at he; subst he; exact ⟨by decide, by decide⟩, by decide +kernel⟩
theorem al_short : Short alT := fun e he => by
  unfold alT at he
  simp only [List.mem_cons, List.not_mem_nil, or_false] at he
  rcases he with rfl | rfl
  · exact ⟨by simp, by simp⟩
  · exact ⟨by decide, by decide⟩

set_option maxRecDepth 100000 in
set_option maxHeartbeats 2000000 in
theorem alive_any (w : World) : Calls Try.prog 13 #[] w fun r w' => r = .returned (.bool true) ∧ Below w.heap.size w w' := by
  have HMK := hid (make_any _ [al0] _ (ents_one w al0) al_tre)
  rw [al_make] at HMK
  have HBA := hid (below_walk w (.cells #[.string ⟨#[97, 47, 98]⟩, .int .i64 1, .string ⟨#[120]⟩] 25))
  go_enter Try.func13, Try.ntmps13
  go_wp2_with fail
  refine HMK.out.mono ?_
  rintro r w2 ⟨⟨v2, rfl, ho2⟩, hb2⟩
  have HO2 := hid ho2
  have HB2 := hid (below_then HBA.out hb2)
  have HC2 := hid (tcheck_any v2 alT w2 ho2.ents al_short (by decide))
  rw [al_check] at HC2
  obtain ⟨a2, c2, h2⟩ := ho2.ents.shape
  subst h2
  clear ho2 hb2 HMK
  go_wp2_with fail
  refine HC2.out.mono ?_
  rintro r w3 ⟨rfl, hb3⟩
  have HEN := hid (HO2.out.ents.below hb3)
  have HB3 := hid (below_then HB2.out hb3)
  have HS3 := hid (size_any _ alT w3 HEN.out al_short (by decide) (by decide +kernel))
  rw [al_check, al_size] at HS3
  obtain ⟨g, o, rfl, hgl, x0, x1, x2⟩ := HEN.out.at 0 (by decide)
  clear hb3 HC2
  have e0 : w3.cell? ⟨g, o, none⟩ = some (.string ⟨#[97]⟩) := x0
  have e1 : w3.cell? ⟨g, o + 1, none⟩ = some (.int .i64 2) := x1
  have e2 : w3.cell? ⟨g, o + 2, none⟩ = some (.string ⟨#[]⟩) := x2
  have hl : alT.length = 2 := rfl
  rw [hl] at HS3 ⊢
  have hg := entG
  have heq : ∀ W, (binOp .eql 25 (.agg #[.string ⟨#[97]⟩, .int .i64 2, .string ⟨#[]⟩]) (.agg #[.string ⟨#[97]⟩, .int .i64 2, .string ⟨#[]⟩])).run Try.prog W = .ok (.bool true) W := fun W => by
    have := eql_ent ([97], 2, []) ([97], 2, []) W
    rw [decide_eq_true rfl] at this
    exact this
  clear x0 x1 x2 hl
  go_wp2_with (go_at_call 11; refine HS3.out.mono ?_; rintro r w4 ⟨rfl, hb4⟩)
  go_ret
  exact ⟨rfl, below_then HB3.out hb4⟩

end Go.Proofs.Yteijkbanlpodpaa

/- TreeFinds answers true. -/
namespace Go.Proofs.Yteijkbanlpodpaa
open Go.RowKit Go.Shelf Go.BigFrame

attribute [local go_sem] Oper.semAt_some

/-- an answer, wrong or not, as one slice -/
def okS (x : Except Int (List (List UInt8))) : List (List UInt8) := match x with | .ok l => l | .error _ => []
def erS (x : Except Int (List (List UInt8))) : Int := match x with | .ok _ => 0 | .error e => e
theorem okS_len (t : List Ent) (p : List UInt8) : (okS (kdP t p)).length ≤ t.length := by
  unfold kdP
  split
  · exact Nat.zero_le _
  · split
    · exact Nat.zero_le _
    · show (kdL t p).length ≤ _
      unfold kdL
      rw [List.length_map]
      exact List.length_filter_le _ _
theorem ansS_one {w' : World} {base : Nat} {r : Ending} {x : Except Int (List (List UInt8))} (h : AnsS w' base r x) : ∃ v, r = .returned (.tuple #[v, .int .i64 (erS x)]) ∧ Strs w' v (okS x) := by
  cases x with
  | ok l => obtain ⟨v, h1, h2⟩ := h; exact ⟨v, h1, h2.strs⟩
  | error e => exact ⟨_, h, (OwnS.nil w' base).strs⟩

set_option maxRecDepth 100000 in
set_option maxHeartbeats 1000000 in
theorem lawFinds_any (v : Value) (t : List Ent) (p : List UInt8) (w : World) (h : Ents w v t) (hbt : EBk t) (hp : p.length ≤ 1048576) :
    Calls Try.prog 3 #[v, .string (mk p)] w fun r w' => r = .returned (.bool true) ∧ Below w.heap.size w w' := by
  have hs : Short t := fun e he => by have := hbt.bulk e he; omega
  have hz := hbt.sz
  have hln := hbt.len
  have HET := hid h
  have HRT := hid (rright_any v t w h hbt.bulk (by omega))
  have HFD := hid (fun W (hW : Ents W v t) => find_any v t p W hW hs (by omega) (by omega))
  have HFN := hid (fun W (hW : Ents W v t) => rfind_any v t p W hW (by omega))
  have HKD := hid (fun W (hW : Ents W v t) => kids_any v t p W hW hs (by omega) (by omega))
  have HRK := hid (fun W (hW : Ents W v t) => rkids_any v t p W hW hbt.bulk (by omega) (by omega))
  have HSZ := hid (fun W (hW : Ents W v t) => size_any v t W hW hs (by omega) (by omega))
  have HRS := hid (fun W (hW : Ents W v t) => rsize_any v t W hW (by omega) (by omega))
  have HWK := hid (fun W (hW : Ents W v t) => walked_any v t p W hW hbt hp)
  obtain ⟨ao, c, e0⟩ := h.shape
  subst e0
  clear h hs hz
  obtain ⟨X, HX⟩ : ∃ X, Hid (decide ((chkP t).2 = 0) = X) := ⟨_, hid rfl⟩
  rw [HX.out] at HRT
  obtain ⟨F, HF⟩ : ∃ F, Hid (fnP t p = F) := ⟨_, hid rfl⟩
  have HLL := hid (okS_len t p)
  rw [HF.out] at HFD
  unfold entA at HFD
  obtain ⟨K, HK⟩ : ∃ K, Hid (decide (F.2.1 ≠ 0) = K) := ⟨_, hid rfl⟩
  rw [HK.out] at HFD
  go_enter Try.func3, Try.ntmps3
  go_wp2_with fail
  refine HRT.out.mono ?_
  rintro r w1 ⟨rfl, hb1⟩
  have HB1 := hid hb1
  clear hb1 HRT
  go_wp2_with fail
  refine (HFD.out _ (HET.out.below HB1.out)).mono ?_
  rintro r w2 ⟨rfl, hb2⟩
  have HB2 := hid (HB1.out.trans (hb2.mono HB1.out.size))
  clear hb2 HFD HB1
  cases X with
  | true =>
    have h00 : (chkP t).2 = 0 := of_decide_eq_true HX.out
    have HR := hid (rgt_iff.1 h00)
    rw [if_pos h00] at HSZ
    have HB3 := hid (HB2.out.alloc HB2.out.size (.cells #[.string (mk F.1), .int .i64 F.2.1, .string (mk F.2.2)] 25))
    rcases find_both HR.out p with ⟨k, hk, h1, h2, h3⟩ | ⟨h1, h2⟩
    · rw [HF.out] at h2 h3
      rw [h1] at HFN
      have hK : K = true := by rw [← HK.out]; exact decide_eq_true h3
      subst hK
      have HTK := hid h2
      clear h1 h2 h3 h00
      go_wp2_with fail
      refine (HFN.out _ (HET.out.below HB3.out)).mono ?_
      rintro r w4 ⟨rfl, hw4⟩
      have HE4 := hid (show Eb w4 w2.heap.size F from by rw [hw4]; exact Eb.new w2 F)
      have HB4 := hid (show Below w.heap.size w w4 from by rw [hw4]; exact HB3.out)
      clear hw4 HB3
      obtain ⟨g, o, eao, hg, hat⟩ := (HET.out.below HB4.out).at k hk
      rw [← HTK.out] at hat
      obtain ⟨y0, y1, y2⟩ := hat
      obtain ⟨z0, z1, z2⟩ := HE4.out.at
      have hne := fun W => neq_ent F F W
      have heg := entG
      have q5 : (k : Int) < (t.length : Int) := by omega
      subst eao
      clear HTK HF HK HE4
      rw [show decide (F = F) = true from by simp] at hne
      generalize mk F.1 = s1 at *
      generalize mk F.2.2 = s2 at *
      generalize F.2.1 = k1 at *
      go_wp2_with fail
      go_quiet (fail)
      have HB4b := hid (show Below w.heap.size w (w4.drewN nq) from ⟨HB4.out.os, HB4.out.tape, HB4.out.output, HB4.out.size, HB4.out.block⟩)
      clear HB4
      have HB4 := HB4b
      clear HB4b
      generalize w4.drewN nq = w4' at *
      go_wp2_with fail
      clear y0 y1 y2 z0 z1 z2 hne
      refine (HKD.out _ (HET.out.below HB4.out)).mono ?_
      rintro r w5 ⟨hk5, hb5⟩
      obtain ⟨v5, rfl, ho5⟩ := ansS_one hk5
      obtain ⟨a5, c5, e5⟩ := ho5.shape
      subst e5
      have HO5 := hid ho5
      have HB5 := hid (HB4.out.trans (hb5.mono HB4.out.size))
      clear hk5 ho5 hb5 HKD HB4
      go_wp2_with fail
      refine (HRK.out _ (HET.out.below HB5.out)).mono ?_
      rintro r w6 ⟨hk6, hb6⟩
      obtain ⟨v6, rfl, ho6⟩ := ansS_one hk6
      obtain ⟨a6, c6, e6⟩ := ho6.shape
      subst e6
      have HO6 := hid ho6
      have HO56 := hid (HO5.out.below hb6)
      have HB6 := hid (HB5.out.trans (hb6.mono HB5.out.size))
      clear hk6 ho6 hb6 HRK HB5 HO5
      generalize okS (kdP t p) = L at *
      generalize erS (kdP t p) = E at *
      go_wp2_with fail
      go_loopw [75] (fun i wr => ∃ k : Nat, i = .int .i64 k ∧ k ≤ L.length ∧ ∃ q, wr = w6.drewN q) (fun i _ => L.length - (intOf i).toNat)
      case atStart => exact ⟨0, rfl, Nat.zero_le _, 0, rfl⟩
      case round =>
        obtain ⟨k, rfl, hk, q, rfl⟩ := hrel
        by_cases hlt : k < L.length
        · have q2 : (k : Int) < (L.length : Int) := by omega
          obtain ⟨g, o, eo, d0⟩ := HO56.out.at k hlt
          obtain ⟨g', o', eo', d1⟩ := HO6.out.at k hlt
          subst eo
          subst eo'
          have hw1 : IntKind.i64.wrap ((k : Int) + 1) = ((k + 1 : Nat) : Int) := by rw [IntKind.wrap_i64]; have := HLL.out; omega
          generalize mk (L.getD k []) = s1 at *
          go_wp2_with fail
          go_quiet (fail)
          go_wp2
          exact ⟨⟨k + 1, by simp, by omega, q + nq, by simp⟩, by simp [intOf]; omega⟩
        · have q2 : ¬ (k : Int) < (L.length : Int) := by omega
          have HB7 := hid (show Below w.heap.size w (w6.drewN q) from ⟨HB6.out.os, HB6.out.tape, HB6.out.output, HB6.out.size, HB6.out.block⟩)
          generalize w6.drewN q = w7 at *
          go_wp2_with fail
          refine (HRS.out _ (HET.out.below HB7.out)).mono ?_
          rintro r w8 ⟨rfl, hw8⟩
          have hw8 := hw8.symm
          subst hw8
          go_wp2_with fail
          refine (HSZ.out _ (HET.out.below HB7.out)).mono ?_
          rintro r w9 ⟨rfl, hb9⟩
          have HB9 := hid (HB7.out.trans (hb9.mono HB7.out.size))
          clear hb9
          go_wp2_with fail
          refine (HWK.out _ (HET.out.below HB9.out)).mono ?_
          rintro r w10 ⟨rfl, hb10⟩
          have HB10 := hid (HB9.out.trans (hb10.mono HB9.out.size))
          clear hb10
          go_wp2_with fail
          refine (alive_any _).mono ?_
          rintro r w11 ⟨rfl, hb11⟩
          have HB11 := hid (HB10.out.trans (hb11.mono HB10.out.size))
          clear hb11
          go_wp2
          go_ret
          exact ⟨rfl, HB11.out⟩
    · rw [h1] at HFN
      go_wp2_with fail
      refine (HFN.out _ (HET.out.below HB3.out)).mono ?_
      rintro r w4 ⟨rfl, hw4⟩
      clear h1
      have HF0 := HF.out
      rw [h2] at HF0
      subst HF0
      have hK : K = false := by rw [← HK.out]; rfl
      subst hK
      have HE4 := hid (show Eb w4 w2.heap.size zE from by rw [hw4]; exact Eb.new w2 zE)
      have HB4 := hid (show Below w.heap.size w w4 from by rw [hw4]; exact HB3.out)
      clear hw4 HB3 HK HF
      obtain ⟨z0, z1, z2⟩ := HE4.out.at
      have hne := fun W => neq_ent zE zE W
      have heg := entG
      clear HE4
      rw [show decide (zE = zE) = true from by simp] at hne
      change ∀ W, (binOp .neq 25 (.agg #[.string ⟨#[]⟩, .int .i64 0, .string ⟨#[]⟩]) (.agg #[.string ⟨#[]⟩, .int .i64 0, .string ⟨#[]⟩])).run Try.prog W = _ at hne
      change w4.cell? _ = some (.string ⟨#[]⟩) at z0
      change w4.cell? _ = some (.int .i64 0) at z1
      change w4.cell? _ = some (.string ⟨#[]⟩) at z2
      go_wp2_with fail
      go_quiet (fail)
      have HB4b := hid (show Below w.heap.size w (w4.drewN nq) from ⟨HB4.out.os, HB4.out.tape, HB4.out.output, HB4.out.size, HB4.out.block⟩)
      clear HB4
      have HB4 := HB4b
      clear HB4b
      generalize w4.drewN nq = w4' at *
      go_wp2_with fail
      refine (HKD.out _ (HET.out.below HB4.out)).mono ?_
      rintro r w5 ⟨hk5, hb5⟩
      obtain ⟨v5, rfl, ho5⟩ := ansS_one hk5
      obtain ⟨a5, c5, e5⟩ := ho5.shape
      subst e5
      have HO5 := hid ho5
      have HB5 := hid (HB4.out.trans (hb5.mono HB4.out.size))
      clear hk5 ho5 hb5 HKD HB4
      go_wp2_with fail
      refine (HRK.out _ (HET.out.below HB5.out)).mono ?_
      rintro r w6 ⟨hk6, hb6⟩
      obtain ⟨v6, rfl, ho6⟩ := ansS_one hk6
      obtain ⟨a6, c6, e6⟩ := ho6.shape
      subst e6
      have HO6 := hid ho6
      have HO56 := hid (HO5.out.below hb6)
      have HB6 := hid (HB5.out.trans (hb6.mono HB5.out.size))
      clear hk6 ho6 hb6 HRK HB5 HO5
      generalize okS (kdP t p) = L at *
      generalize erS (kdP t p) = E at *
      go_wp2_with fail
      go_loopw [75] (fun i wr => ∃ k : Nat, i = .int .i64 k ∧ k ≤ L.length ∧ ∃ q, wr = w6.drewN q) (fun i _ => L.length - (intOf i).toNat)
      case atStart => exact ⟨0, rfl, Nat.zero_le _, 0, rfl⟩
      case round =>
        obtain ⟨k, rfl, hk, q, rfl⟩ := hrel
        by_cases hlt : k < L.length
        · have q2 : (k : Int) < (L.length : Int) := by omega
          obtain ⟨g, o, eo, d0⟩ := HO56.out.at k hlt
          obtain ⟨g', o', eo', d1⟩ := HO6.out.at k hlt
          subst eo
          subst eo'
          have hw1 : IntKind.i64.wrap ((k : Int) + 1) = ((k + 1 : Nat) : Int) := by rw [IntKind.wrap_i64]; have := HLL.out; omega
          generalize mk (L.getD k []) = s1 at *
          go_wp2_with fail
          go_quiet (fail)
          go_wp2
          exact ⟨⟨k + 1, by simp, by omega, q + nq, by simp⟩, by simp [intOf]; omega⟩
        · have q2 : ¬ (k : Int) < (L.length : Int) := by omega
          have HB7 := hid (show Below w.heap.size w (w6.drewN q) from ⟨HB6.out.os, HB6.out.tape, HB6.out.output, HB6.out.size, HB6.out.block⟩)
          generalize w6.drewN q = w7 at *
          go_wp2_with fail
          refine (HRS.out _ (HET.out.below HB7.out)).mono ?_
          rintro r w8 ⟨rfl, hw8⟩
          have hw8 := hw8.symm
          subst hw8
          go_wp2_with fail
          refine (HSZ.out _ (HET.out.below HB7.out)).mono ?_
          rintro r w9 ⟨rfl, hb9⟩
          have HB9 := hid (HB7.out.trans (hb9.mono HB7.out.size))
          clear hb9
          go_wp2_with fail
          refine (HWK.out _ (HET.out.below HB9.out)).mono ?_
          rintro r w10 ⟨rfl, hb10⟩
          have HB10 := hid (HB9.out.trans (hb10.mono HB9.out.size))
          clear hb10
          go_wp2_with fail
          refine (alive_any _).mono ?_
          rintro r w11 ⟨rfl, hb11⟩
          have HB11 := hid (HB10.out.trans (hb11.mono HB10.out.size))
          clear hb11
          go_wp2
          go_ret
          exact ⟨rfl, HB11.out⟩
  | false =>
    have h00 : ¬ (chkP t).2 = 0 := of_decide_eq_false HX.out
    rw [if_neg h00] at HSZ
    have h2 : fnP t p = zE := by unfold fnP; rw [if_neg (fun h => h00 h.1)]
    have HB3 := hid (HB2.out.alloc HB2.out.size (.cells #[.string (mk F.1), .int .i64 F.2.1, .string (mk F.2.2)] 25))
    clear h00
    go_wp2_with fail
    obtain ⟨w4, hw4⟩ : ∃ w4, w4 = w2.alloc (.cells #[.string (mk F.1), .int .i64 F.2.1, .string (mk F.2.2)] 25) := ⟨_, rfl⟩
    rw [← hw4]
    have HF0 := HF.out
    rw [h2] at HF0
    subst HF0
    have hK : K = false := by rw [← HK.out]; rfl
    subst hK
    have HE4 := hid (show Eb w4 w2.heap.size zE from by rw [hw4]; exact Eb.new w2 zE)
    have HB4 := hid (show Below w.heap.size w w4 from by rw [hw4]; exact HB3.out)
    clear hw4 HB3 HK HF
    obtain ⟨z0, z1, z2⟩ := HE4.out.at
    have hne := fun W => neq_ent zE zE W
    have heg := entG
    clear HE4
    rw [show decide (zE = zE) = true from by simp] at hne
    change ∀ W, (binOp .neq 25 (.agg #[.string ⟨#[]⟩, .int .i64 0, .string ⟨#[]⟩]) (.agg #[.string ⟨#[]⟩, .int .i64 0, .string ⟨#[]⟩])).run Try.prog W = _ at hne
    change w4.cell? _ = some (.string ⟨#[]⟩) at z0
    change w4.cell? _ = some (.int .i64 0) at z1
    change w4.cell? _ = some (.string ⟨#[]⟩) at z2
    go_wp2_with fail
    go_quiet (fail)
    have HB4b := hid (show Below w.heap.size w (w4.drewN nq) from ⟨HB4.out.os, HB4.out.tape, HB4.out.output, HB4.out.size, HB4.out.block⟩)
    clear HB4
    have HB4 := HB4b
    clear HB4b
    generalize w4.drewN nq = w4' at *
    go_wp2_with fail
    refine (HKD.out _ (HET.out.below HB4.out)).mono ?_
    rintro r w5 ⟨hk5, hb5⟩
    obtain ⟨v5, rfl, ho5⟩ := ansS_one hk5
    obtain ⟨a5, c5, e5⟩ := ho5.shape
    subst e5
    have HO5 := hid ho5
    have HB5 := hid (HB4.out.trans (hb5.mono HB4.out.size))
    clear hk5 ho5 hb5 HKD HB4
    go_wp2_with fail
    refine (HRK.out _ (HET.out.below HB5.out)).mono ?_
    rintro r w6 ⟨hk6, hb6⟩
    obtain ⟨v6, rfl, ho6⟩ := ansS_one hk6
    obtain ⟨a6, c6, e6⟩ := ho6.shape
    subst e6
    have HO6 := hid ho6
    have HO56 := hid (HO5.out.below hb6)
    have HB6 := hid (HB5.out.trans (hb6.mono HB5.out.size))
    clear hk6 ho6 hb6 HRK HB5 HO5
    generalize okS (kdP t p) = L at *
    generalize erS (kdP t p) = E at *
    go_wp2_with fail
    go_loopw [75] (fun i wr => ∃ k : Nat, i = .int .i64 k ∧ k ≤ L.length ∧ ∃ q, wr = w6.drewN q) (fun i _ => L.length - (intOf i).toNat)
    case atStart => exact ⟨0, rfl, Nat.zero_le _, 0, rfl⟩
    case round =>
      obtain ⟨k, rfl, hk, q, rfl⟩ := hrel
      by_cases hlt : k < L.length
      · have q2 : (k : Int) < (L.length : Int) := by omega
        obtain ⟨g, o, eo, d0⟩ := HO56.out.at k hlt
        obtain ⟨g', o', eo', d1⟩ := HO6.out.at k hlt
        subst eo
        subst eo'
        have hw1 : IntKind.i64.wrap ((k : Int) + 1) = ((k + 1 : Nat) : Int) := by rw [IntKind.wrap_i64]; have := HLL.out; omega
        generalize mk (L.getD k []) = s1 at *
        go_wp2_with fail
        go_quiet (fail)
        go_wp2
        exact ⟨⟨k + 1, by simp, by omega, q + nq, by simp⟩, by simp [intOf]; omega⟩
      · have q2 : ¬ (k : Int) < (L.length : Int) := by omega
        have HB7 := hid (show Below w.heap.size w (w6.drewN q) from ⟨HB6.out.os, HB6.out.tape, HB6.out.output, HB6.out.size, HB6.out.block⟩)
        generalize w6.drewN q = w7 at *
        go_wp2_with fail
        refine (HSZ.out _ (HET.out.below HB7.out)).mono ?_
        rintro r w9 ⟨rfl, hb9⟩
        have HB9 := hid (HB7.out.trans (hb9.mono HB7.out.size))
        clear hb9
        go_wp2_with fail
        refine (HWK.out _ (HET.out.below HB9.out)).mono ?_
        rintro r w10 ⟨rfl, hb10⟩
        have HB10 := hid (HB9.out.trans (hb10.mono HB9.out.size))
        clear hb10
        go_wp2_with fail
        refine (alive_any _).mono ?_
        rintro r w11 ⟨rfl, hb11⟩
        have HB11 := hid (HB10.out.trans (hb11.mono HB10.out.size))
        clear hb11
        go_wp2
        go_ret
        exact ⟨rfl, HB11.out⟩

end Go.Proofs.Yteijkbanlpodpaa
