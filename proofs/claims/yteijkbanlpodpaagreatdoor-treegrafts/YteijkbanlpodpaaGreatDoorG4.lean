/- Contracts and pure facts that the proof needs, joined. -/
import Derived.Test.YteijkbanlpodpaaGreatDoorG3
import Derived.Test.YteijkbanlpodpaaGreatDoorG2

/- The program's Put. -/
namespace Go.Proofs.YteijkbanlpodpaaGreatDoor
open Go.RowKit Go.BigFrame

/-- a tree with an entry put in -/
def puL (t : List Ent) (e : Ent) : List Ent := t.take (plP t e.1) ++ ([e] ++ t.drop (plP t e.1 + (if thP t e.1 then 1 else 0)))
def putP (t : List Ent) (e : Ent) : Except Int (List Ent) :=
  if (chkP t).2 ≠ 0 then .error (chkP t).2 else if mayP e = false then .error 50 else if dirP t (spD e.1) = false then .error 52
  else if thP t e.1 = true ∧ decide ((stP t e.1).2.1 = 2) ≠ decide (e.2.1 = 2) then .error 9 else fitP (puL t e)
theorem trs_three {w W : World} {v1 v2 v3 : Value} {t1 t2 t3 : List Ent} {T : TypeId} {g : Nat} (h1 : Ents w v1 t1) (h2 : Ents w v2 t2) (h3 : Ents w v3 t3) (hW : W.heap = (w.alloc (.cells #[v1, v2, v3] T)).heap) (hg : g = w.heap.size) : Trs W (.slice (some ⟨g, 0, none⟩) 3 3) [t1, t2, t3] := by
  subst hg
  have hc : ∀ a : Addr, W.cell? a = (w.alloc (.cells #[v1, v2, v3] T)).cell? a := fun a => by simp only [World.cell?, hW]
  have he : ∀ {v : Value} {t : List Ent}, Ents w v t → Ents W v t := by
    intro v t h
    have h' := h.alloc (.cells #[v1, v2, v3] T)
    rcases h' with h' | ⟨g, o, c, hv, hlt, hl, hcc⟩
    · exact Or.inl h'
    · exact Or.inr ⟨g, o, c, hv, by rw [hW]; exact hlt, hl, fun j hj => by have := hcc j hj; unfold EntAt at this ⊢; rw [hc, hc, hc]; exact this⟩
  refine ⟨w.heap.size, 3, rfl, by rw [hW]; simp, fun j hj => ?_⟩
  have hj : j = 0 ∨ j = 1 ∨ j = 2 := by simp at hj; omega
  rcases hj with rfl | rfl | rfl
  · exact ⟨v1, by rw [hc]; simp, he h1⟩
  · exact ⟨v2, by rw [hc]; simp, he h2⟩
  · exact ⟨v3, by rw [hc]; simp, he h3⟩
theorem ansE_shape {w : World} {b : Nat} {r : Ending} {x : Except Int (List Ent)} (h : AnsE w b r x) : ∃ (ao : Option Addr) (n c : Nat) (E : Int), r = .returned (.tuple #[.slice ao n c, .int .i64 E]) := by
  cases x with
  | ok l =>
    obtain ⟨v, e, ho⟩ := h
    obtain ⟨a, c, ev⟩ := ho.ents.shape
    exact ⟨a, _, c, 0, by rw [e, ev]⟩
  | error E => exact ⟨none, 0, 0, E, h⟩
theorem ansE_le {w : World} {b b' : Nat} {r : Ending} {x : Except Int (List Ent)} (h : AnsE w b r x) (hb : b' ≤ b) : AnsE w b' r x := by
  cases x with
  | ok l => obtain ⟨v, e, ho⟩ := h; exact ⟨v, e, ho.le hb⟩
  | error E => exact h
theorem sz_le {t : List Ent} (h : ∀ e ∈ t, mayP e = true) : szP t ≤ t.length * 65536 := by
  induction t with
  | nil => simp [szP]
  | cons x t ih =>
    have h1 := ih (fun e he => h e (by simp [he]))
    have h2 := h x (by simp)
    unfold mayP at h2
    simp only [Bool.and_eq_true, decide_eq_true_iff] at h2
    have h3 : x.2.2.length ≤ 65536 := by
      rcases h2.2 with h3 | h3 | h3
      · exact h3.2
      · rw [h3.2]; simp
      · omega
    have h4 : szP (x :: t) = x.2.2.length + szP t := by simp [szP]
    rw [h4, List.length_cons]
    omega
theorem puL_may {t : List Ent} {e : Ent} (h : ∀ x ∈ t, mayP x = true) (he : mayP e = true) : ∀ x ∈ puL t e, mayP x = true := by
  intro x hx
  unfold puL at hx
  rw [List.mem_append, List.mem_append, List.mem_singleton] at hx
  rcases hx with hx | rfl | hx
  · exact h x (List.mem_of_mem_take hx)
  · exact he
  · exact h x (List.mem_of_mem_drop hx)
theorem puL_len (t : List Ent) (e : Ent) : (puL t e).length ≤ t.length + 1 := by
  unfold puL
  have h2 := plP_le t e.1
  rw [List.length_append, List.length_append, List.length_take, List.length_drop]
  simp only [List.length_cons, List.length_nil]
  omega

set_option maxRecDepth 100000 in
set_option maxHeartbeats 4000000 in
theorem put_any (v : Value) (t : List Ent) (e : Ent) (w : World) (h : Ents w v t) (hs : Short t) (hn : t.length ≤ 4611686018427387904) (hel : e.1.length ≤ 4611686018427387904) :
    Calls Tryz.prog 6 #[v, entA e] w fun r w' => AnsE w' w.heap.size r (putP t e) ∧ Below w.heap.size w w' := by
  obtain ⟨E0, HE0⟩ : ∃ E : Int, Hid ((chkP t).2 = E) := ⟨_, rfl⟩
  have HB0 := hid (below_walk w (.cells #[.string (mk e.1), .int .i64 e.2.1, .string (mk e.2.2)] 25))
  have HN0 := hid (Eb.new w e)
  have HR := hid (right_one v t (w.alloc (.cells #[.string (mk e.1), .int .i64 e.2.1, .string (mk e.2.2)] 25)) (h.below HB0.out) hs hn E0 HE0.out)
  have HSZ := hid (show (w.alloc (.cells #[.string (mk e.1), .int .i64 e.2.1, .string (mk e.2.2)] 25)).heap.size = w.heap.size + 1 by simp)
  rw [HSZ.out] at HR
  have HET := hid h
  have HM := hid (fun W : World => may_any e W (by omega))
  have HPA := hid (fun W : World => parent_any e.1 W (by omega))
  obtain ⟨ao, c, rfl⟩ := h.shape
  unfold entA at HM ⊢
  clear h hs
  by_cases h0 : E0 = 0
  ·
    subst h0
    have HRT := hid (rgt_iff.1 HE0.out)
    cases hmy : mayP e with
    | false =>
      have HAP := hid (show putP t e = .error 50 from by unfold putP; rw [if_neg (by simpa using HE0.out), if_pos hmy])
      rw [hmy] at HM
      clear hmy
      go_enter Tryz.func6, Tryz.ntmps6
      go_wp2_with fail
      refine HR.out.mono ?_
      rintro r w1 ⟨rfl, hb1⟩
      rw [← HSZ.out] at hb1
      have HB1 := hid (below_then HB0.out hb1)
      have HN1 := hid (HN0.out.below hb1)
      clear hb1 HR HB0 HN0
      obtain ⟨e0, e1, e2⟩ := HN1.out.at
      go_wp2_with (first | (go_at_call 19; refine (HM.out _).mono ?_; rintro r w2 ⟨rfl, hb2⟩; have HB2 := hid (below_then HB1.out hb2); have HN2 := hid (HN1.out.below hb2); clear hb2; clear e0 e1 e2; obtain ⟨e0, e1, e2⟩ := HN2.out.at))
      go_ret2
      rw [HAP.out]
      exact ⟨rfl, HB2.out⟩
    | true =>
      rw [hmy] at HM
      have HMY := hid hmy
      have hok := mayP_ok hmy
      have HID := hid (fun W (hW : Below w.heap.size w W) => isDir_any _ t (spD e.1) W (HET.out.below hW) HRT.out.up (fun x hx => mayP_ok (HRT.out.may x hx)) (okP_spD hok) HRT.out.many)
      have HPL := hid (fun W (hW : Below w.heap.size w W) => place_any _ t e.1 W (HET.out.below hW) HRT.out.up (fun x hx => mayP_ok (HRT.out.may x hx)) hok HRT.out.many)
      have HAP0 := hid (show putP t e = if dirP t (spD e.1) = false then .error 52 else if thP t e.1 = true ∧ decide ((stP t e.1).2.1 = 2) ≠ decide (e.2.1 = 2) then .error 9 else fitP (puL t e) from by unfold putP; rw [if_neg (by simpa using HE0.out), if_neg (by rw [hmy]; simp)])
      clear hmy hok
      cases hdr : dirP t (spD e.1) with
      | false =>
        have HAP := hid (HAP0.out.trans (if_pos hdr))
        rw [hdr] at HID
        clear hdr HAP0
        generalize mk (spD e.1) = sd at *
        go_enter Tryz.func6, Tryz.ntmps6
        go_wp2_with fail
        refine HR.out.mono ?_
        rintro r w1 ⟨rfl, hb1⟩
        rw [← HSZ.out] at hb1
        have HB1 := hid (below_then HB0.out hb1)
        have HN1 := hid (HN0.out.below hb1)
        clear hb1 HR HB0 HN0
        obtain ⟨e0, e1, e2⟩ := HN1.out.at
        go_wp2_with (first | (go_at_call 19; refine (HM.out _).mono ?_; rintro r w2 ⟨rfl, hb2⟩; have HB2 := hid (below_then HB1.out hb2); have HN2 := hid (HN1.out.below hb2); clear hb2; clear e0 e1 e2; obtain ⟨e0, e1, e2⟩ := HN2.out.at) | (go_at_call 21; refine (HPA.out _).mono ?_; rintro r w3 ⟨rfl, n3, rfl⟩; have HB3 := hid (below_n HB2.out n3); have HN3 := hid (show Eb (w2.drewN n3) w.heap.size e from HN2.out); generalize w2.drewN n3 = w3 at *; clear e0 e1 e2; obtain ⟨e0, e1, e2⟩ := HN3.out.at) | (go_at_call 20; refine (HID.out _ HB3.out).mono ?_; rintro r w4 ⟨rfl, hb4⟩; have HB4 := hid (below_then HB3.out hb4); have HN4 := hid (HN3.out.below hb4); clear hb4; clear e0 e1 e2; obtain ⟨e0, e1, e2⟩ := HN4.out.at))
        go_ret2
        rw [HAP.out]
        exact ⟨rfl, HB4.out⟩
      | true =>
        rw [if_neg (by rw [hdr]; simp)] at HAP0
        rw [hdr] at HID
        clear hdr
        have HCC := hid (fun (ts : List (List Ent)) (W : World) (u : Value) (hu : Trs W u ts) (hl : ts.length ≤ 3) (hf : ts.flatten.length ≤ 1048576) => concat_any u ts W hu (by omega) (by omega))
        have HFT := hid (fun (W : World) (u : Value) (hu : Ents W u (puL t e)) => fit_any u (puL t e) W hu (by have := puL_len t e; have := HRT.out.many; omega) (fun x hx => may_shr' (puL_may HRT.out.may HMY.out x hx)) (by have h1 := sz_le (puL_may HRT.out.may HMY.out); have := puL_len t e; have := HRT.out.many; omega))
        have HPL0 := hid (plP_le t e.1)
        have HTH := hid (plP_th (t := t) (p := e.1) HRT.out.up)
        obtain ⟨v1, hv1, hs1⟩ := ecut_to HET.out (plP t e.1) (plP_le _ _)
        have HV1 := hid hv1
        obtain ⟨q1, m1, r1, ev1⟩ : ∃ a n c, v1 = .slice a n c := by obtain ⟨a, c, ev⟩ := hv1.shape; exact ⟨a, _, c, ev⟩
        subst ev1
        have HPU := hid (show puL t e = t.take (plP t e.1) ++ ([e] ++ t.drop (plP t e.1 + (if thP t e.1 then 1 else 0))) from rfl)
        obtain ⟨I, HII⟩ : ∃ I : Nat, Hid (plP t e.1 = I) := ⟨_, rfl⟩
        rw [HII.out] at HPL HTH HPL0 hs1 HV1 HPU
        have HS1 := hid hs1
        have HLT := hid HRT.out.many
        clear hv1
        generalize mk (spD e.1) = sd at *
        cases hth : thP t e.1 with
        | false =>
          obtain ⟨v2, hv2, hs2⟩ := ecut_from HET.out I HPL0.out
          have HV2 := hid hv2
          obtain ⟨q2, m2, r2, ev2⟩ : ∃ a n c, v2 = .slice a n c := by obtain ⟨a, c, ev⟩ := hv2.shape; exact ⟨a, _, c, ev⟩
          subst ev2
          rw [hth] at HPL HPU
          have HAP := hid (HAP0.out.trans (if_neg (fun h9 => by rw [hth] at h9; exact absurd h9.1 (by simp))))
          rw [if_neg (by simp), Nat.add_zero] at HPU
          clear hv2 hth HAP0 HTH
          go_enter Tryz.func6, Tryz.ntmps6
          go_wp2_with fail
          refine HR.out.mono ?_
          rintro r w1 ⟨rfl, hb1⟩
          rw [← HSZ.out] at hb1
          have HB1 := hid (below_then HB0.out hb1)
          have HN1 := hid (HN0.out.below hb1)
          clear hb1 HR HB0 HN0
          obtain ⟨e0, e1, e2⟩ := HN1.out.at
          go_wp2_with (first | (go_at_call 19; refine (HM.out _).mono ?_; rintro r w2 ⟨rfl, hb2⟩; have HB2 := hid (below_then HB1.out hb2); have HN2 := hid (HN1.out.below hb2); clear hb2; clear e0 e1 e2; obtain ⟨e0, e1, e2⟩ := HN2.out.at) | (go_at_call 21; refine (HPA.out _).mono ?_; rintro r w3 ⟨rfl, n3, rfl⟩; have HB3 := hid (below_n HB2.out n3); have HN3 := hid (show Eb (w2.drewN n3) w.heap.size e from HN2.out); generalize w2.drewN n3 = w3 at *; clear e0 e1 e2; obtain ⟨e0, e1, e2⟩ := HN3.out.at) | (go_at_call 20; refine (HID.out _ HB3.out).mono ?_; rintro r w4 ⟨rfl, hb4⟩; have HB4 := hid (below_then HB3.out hb4); have HN4 := hid (HN3.out.below hb4); clear hb4; clear e0 e1 e2; obtain ⟨e0, e1, e2⟩ := HN4.out.at) | (go_at_call 22; refine (HPL.out _ HB4.out).mono ?_; rintro r w5 ⟨rfl, hb5⟩; have HB5 := hid (below_then HB4.out hb5); have HN5 := hid (HN4.out.below hb5); clear hb5; clear e0 e1 e2; obtain ⟨e0, e1, e2⟩ := HN5.out.at))
          have HEz := HN5
          have HBz := HB5
          clear HN5 HB5
          have HEy := hid (HEz.out.below (below_walk w5 (.cells #[.string (mk e.1), .int .i64 e.2.1, .string (mk e.2.2)] 25)))
          have HBy := hid (below_then HBz.out (below_walk w5 (.cells #[.string (mk e.1), .int .i64 e.2.1, .string (mk e.2.2)] 25)))
          have HO1 := hid (ents_one w5 e)
          have HVA := hid (HV1.out.below HBy.out)
          have HVB := hid (HV2.out.below HBy.out)
          clear e0 e1 e2
          go_wp2_with fail
          refine wp_noPanic (wp_region_held_drew (S := fun W => Eb W w.heap.size e) (by kernel_rfl) HEz.out ?_)
          intro hHeld
          refine wpAnyH_take (i := 0) (v := .slice ao t.length c) rfl (by kernel_rfl) (by kernel_rfl) (by kernel_rfl) (fun _ _ _ h => h) (Or.inl ⟨by rfl, fun W _ => by go_simp⟩) hHeld ?_
          simp only [Act.put, List.getElem_toArray, List.getElem_cons_zero, List.setIfInBounds_toArray, List.set_cons_succ, List.set_cons_zero]
          refine wpAnyH_take (i := 1) (v := .int .i64 (I : Int)) rfl (by kernel_rfl) (by kernel_rfl) (by kernel_rfl) (fun _ _ _ h => h) (Or.inl ⟨by rfl, fun W _ => by go_simp⟩) hHeld ?_
          simp only [Act.put, List.getElem_toArray, List.getElem_cons_zero, List.getElem_cons_succ, List.setIfInBounds_toArray, List.set_cons_succ, List.set_cons_zero]
          refine wpAnyH_take (i := 2) (v := .slice q1 m1 r1) rfl (by kernel_rfl) (by kernel_rfl) (by kernel_rfl) (fun _ _ _ h => h) (Or.inl ⟨by rfl, fun W _ => by have hfact := HS1.out W; go_simp; first | done | simp [hfact]⟩) hHeld ?_
          simp only [Act.put, List.getElem_toArray, List.getElem_cons_zero, List.getElem_cons_succ, List.setIfInBounds_toArray, List.set_cons_succ, List.set_cons_zero]
          refine wpAnyH_take (i := 3) (v := .agg #[.string (mk e.1), .int .i64 e.2.1, .string (mk e.2.2)]) rfl (by kernel_rfl) (by kernel_rfl) (by kernel_rfl) (fun _ _ _ h => h) (Or.inl ⟨by rfl, fun W hW => by obtain ⟨h0, h1, h2⟩ := hW.at; clear hW; go_simp⟩) hHeld ?_
          simp only [Act.put, List.getElem_toArray, List.getElem_cons_zero, List.getElem_cons_succ, List.setIfInBounds_toArray, List.set_cons_succ, List.set_cons_zero]
          refine wpAnyH_take (i := 5) (v := .slice q2 m2 r2) rfl (by kernel_rfl) (by kernel_rfl) (by kernel_rfl) (fun _ _ _ h => h) (Or.inl ⟨by rfl, fun W _ => by go_simp⟩) hHeld ?_
          simp only [Act.put, List.getElem_toArray, List.getElem_cons_zero, List.getElem_cons_succ, List.setIfInBounds_toArray, List.set_cons_succ, List.set_cons_zero]
          refine wpAnyH_ready (rs := [4]) (by kernel_rfl) (by simp) ?_
          refine AllReadyH.cons rfl (fun K hK => ?_) AllReadyH.nil
          go_simp
          refine hK.out _ _ (show Eb _ w.heap.size e from HEy.out) (fun hHeld => ?_)
          clear hK K
          refine wpAnyH_ready (rs := [6]) (by kernel_rfl) (by simp) ?_
          refine AllReadyH.cons rfl (fun K hK => ?_) AllReadyH.nil
          go_simp
          have HEx := hid (HEy.out.below (below_walk (w5.alloc (.cells #[.string (mk e.1), .int .i64 e.2.1, .string (mk e.2.2)] 25)) (.cells #[.slice q1 m1 r1, .slice (some ⟨w5.heap.size, 0, none⟩) 1 1, .slice q2 m2 r2] 22)))
          have HBx := hid (below_then HBy.out (below_walk (w5.alloc (.cells #[.string (mk e.1), .int .i64 e.2.1, .string (mk e.2.2)] 25)) (.cells #[.slice q1 m1 r1, .slice (some ⟨w5.heap.size, 0, none⟩) 1 1, .slice q2 m2 r2] 22)))
          refine hK.out _ _ (show Eb _ w.heap.size e from HEx.out) (fun hHeld => ?_)
          clear hK K
          refine wpAnyH_ready (rs := [7]) (by kernel_rfl) (by simp) ?_
          refine AllReadyH.cons rfl (fun K hK => ?_) AllReadyH.nil
          go_simp
          refine (HCC.out [t.take I, [e], t.drop (I)] ((w5.alloc (.cells #[.string (mk e.1), .int .i64 e.2.1, .string (mk e.2.2)] 25)).alloc (.cells #[.slice q1 m1 r1, .slice (some ⟨w5.heap.size, 0, none⟩) 1 1, .slice q2 m2 r2] 22)).drew _ (trs_three (g := w5.heap.size + 1) HVA.out HO1.out HVB.out rfl (by simp)) (by simp) (by have := HLT.out; simp [List.length_take, List.length_drop]; omega)).mono ?_
          rintro r w7 ⟨v7, rfl, ho7, hb7⟩
          have hfl : [t.take I, [e], t.drop (I)].flatten = puL t e := by rw [HPU.out]; simp
          rw [hfl] at ho7
          have HO7 := hid ho7.ents
          obtain ⟨a7, n7, c7, ev7⟩ : ∃ a n c, v7 = .slice a n c := by obtain ⟨a, c, ev⟩ := ho7.ents.shape; exact ⟨a, _, c, ev⟩
          subst ev7
          have HB7 := hid (below_then HBx.out ⟨hb7.os, hb7.tape, hb7.output, hb7.size, hb7.block⟩)
          have HE7 := hid (HEx.out.below ⟨hb7.os, hb7.tape, hb7.output, hb7.size, hb7.block⟩)
          clear ho7 hb7 hfl
          go_wp2_with fail
          refine hK.out _ _ HE7.out (fun hHeld => ?_)
          clear hK K
          refine wpAnyH_ready (rs := [8]) (by kernel_rfl) (by simp) ?_
          refine AllReadyH.cons rfl (fun K hK => ?_) AllReadyH.nil
          go_simp
          refine (HFT.out _ _ HO7.out).mono ?_
          rintro r w8 ⟨ha8, hb8⟩
          obtain ⟨a8, n8, c8, E8, er8⟩ := ansE_shape ha8
          subst er8
          have HA8 := hid ha8
          have HB8 := hid (below_then HB7.out hb8)
          have HE8 := hid (HE7.out.below hb8)
          clear ha8 hb8
          go_wp2_with fail
          refine hK.out _ _ HE8.out (fun hHeld => ?_)
          clear hK K
          refine wpAnyH_take (i := 9) (v := .slice a8 n8 c8) rfl (by kernel_rfl) (by kernel_rfl) (by kernel_rfl) (fun _ _ _ h => h) (Or.inl ⟨by rfl, fun W _ => by go_simp⟩) hHeld ?_
          simp only [Act.put, List.getElem_toArray, List.getElem_cons_zero, List.getElem_cons_succ, List.setIfInBounds_toArray, List.set_cons_succ, List.set_cons_zero]
          refine wpAnyH_take (i := 10) (v := .int .i64 E8) rfl (by kernel_rfl) (by kernel_rfl) (by kernel_rfl) (fun _ _ _ h => h) (Or.inl ⟨by rfl, fun W _ => by go_simp⟩) hHeld ?_
          simp only [Act.put, List.getElem_toArray, List.getElem_cons_zero, List.getElem_cons_succ, List.setIfInBounds_toArray, List.set_cons_succ, List.set_cons_zero]
          refine wpAnyH_take (i := 11) (v := .slice a8 n8 c8) rfl (by kernel_rfl) (by kernel_rfl) (by kernel_rfl) (fun _ _ _ h => h) (Or.inl ⟨by rfl, fun W _ => by go_simp⟩) hHeld ?_
          simp only [Act.put, List.getElem_toArray, List.getElem_cons_zero, List.getElem_cons_succ, List.setIfInBounds_toArray, List.set_cons_succ, List.set_cons_zero]
          refine wpAnyH_take (i := 12) (v := .int .i64 E8) rfl (by kernel_rfl) (by kernel_rfl) (by kernel_rfl) (fun _ _ _ h => h) (Or.inl ⟨by rfl, fun W _ => by go_simp⟩) hHeld ?_
          simp only [Act.put, List.getElem_toArray, List.getElem_cons_zero, List.getElem_cons_succ, List.setIfInBounds_toArray, List.set_cons_succ, List.set_cons_zero]
          refine wpAnyH_done (by kernel_rfl) ?_ _
          simp only [noPanic]
          clear hHeld
          go_wp2_with fail
          go_ret2
          rw [HAP.out]
          exact ⟨ansE_le HA8.out HB7.out.size, HB8.out⟩
        | true =>
          obtain ⟨hI, hsI⟩ := HTH.out hth
          rw [hth] at HPL HPU HAP0
          rw [if_pos rfl] at HPU
          obtain ⟨v2, hv2, hs2⟩ := ecut_from HET.out I HPL0.out
          obtain ⟨v3, hv3, hs3⟩ := ecut_from HET.out (I + 1) (by omega)
          have HV2 := hid hv3
          obtain ⟨q3, m3, r3, ev2⟩ : ∃ a n c, v2 = .slice a n c := by obtain ⟨a, c, ev⟩ := hv2.shape; exact ⟨a, _, c, ev⟩
          subst ev2
          obtain ⟨q2, m2, r2, ev3⟩ : ∃ a n c, v3 = .slice a n c := by obtain ⟨a, c, ev⟩ := hv3.shape; exact ⟨a, _, c, ev⟩
          subst ev3
          rw [show ((I + 1 : Nat) : Int) = (I : Int) + 1 from by omega] at hs3
          have hw2 : IntKind.i64.wrap ((I : Int) + 1) = (I : Int) + 1 := by rw [IntKind.wrap_i64]; have := HLT.out; omega
          have q4 : (I : Int) < (t.length : Int) := by omega
          obtain ⟨g, o, rfl, hgl, hat⟩ := HET.out.at I hI
          rw [hsI] at hat
          have HAT := hid hat
          have HGL := hid hgl
          obtain ⟨K1, HK1⟩ : ∃ K : Int, Hid ((stP t e.1).2.1 = K) := ⟨_, rfl⟩
          obtain ⟨K2, HK2⟩ : ∃ K : Int, Hid (e.2.1 = K) := ⟨_, rfl⟩
          rw [HK1.out, HK2.out] at HAP0
          clear hv2 hv3 hth HTH hat hgl hsI
          by_cases hk1 : K1 = 2
          ·
            have z1 : (K1 == 2) = true := by rw [hk1]; rfl
            by_cases hk2 : K2 = 2
            ·
              have z2 : (K2 == 2) = true := by rw [hk2]; rfl
              have HAP := hid (HAP0.out.trans (if_neg (fun h9 => h9.2 (by simp [hk1, hk2]))))
              clear HAP0
              subst hk1
              have hk2b := hk2
              go_enter Tryz.func6, Tryz.ntmps6
              go_wp2_with fail
              refine HR.out.mono ?_
              rintro r w1 ⟨rfl, hb1⟩
              rw [← HSZ.out] at hb1
              have HB1 := hid (below_then HB0.out hb1)
              have HN1 := hid (HN0.out.below hb1)
              clear hb1 HR HB0 HN0
              obtain ⟨e0, e1, e2⟩ := HN1.out.at
              go_wp2_with (first | (go_at_call 19; refine (HM.out _).mono ?_; rintro r w2 ⟨rfl, hb2⟩; have HB2 := hid (below_then HB1.out hb2); have HN2 := hid (HN1.out.below hb2); clear hb2; clear e0 e1 e2; obtain ⟨e0, e1, e2⟩ := HN2.out.at) | (go_at_call 21; refine (HPA.out _).mono ?_; rintro r w3 ⟨rfl, n3, rfl⟩; have HB3 := hid (below_n HB2.out n3); have HN3 := hid (show Eb (w2.drewN n3) w.heap.size e from HN2.out); generalize w2.drewN n3 = w3 at *; clear e0 e1 e2; obtain ⟨e0, e1, e2⟩ := HN3.out.at) | (go_at_call 20; refine (HID.out _ HB3.out).mono ?_; rintro r w4 ⟨rfl, hb4⟩; have HB4 := hid (below_then HB3.out hb4); have HN4 := hid (HN3.out.below hb4); clear hb4; clear e0 e1 e2; obtain ⟨e0, e1, e2⟩ := HN4.out.at) | (go_at_call 22; refine (HPL.out _ HB4.out).mono ?_; rintro r w5 ⟨rfl, hb5⟩; have HB5 := hid (below_then HB4.out hb5); have HN5 := hid (HN4.out.below hb5); clear hb5; clear e0 e1 e2; obtain ⟨e0, e1, e2⟩ := HN5.out.at))
              have HLB := hid (hp_lt HN5.out)
              have k1 := (HAT.out.below HGL.out HB5.out).2.1
              rw [HK1.out] at k1
              rw [HK2.out] at e1
              have x1 := fun p : Bel w5 => p.cell k1 (Nat.lt_of_lt_of_le HGL.out HB5.out.size)
              have x2 := fun p : Bel w5 => p.cell e1 HLB.out
              have ib : Nonempty (Bel w5) := bel_some w5
              clear k1
              refine wp_region_quiet_bel (by kernel_rfl) (by kernel_rfl) ?_
              repeat (go_big_quiet_step (fail))
              refine wpQuiet_nil ?_
              rintro w6 ⟨⟨w6', hb6⟩, hw6⟩
              obtain rfl : w6 = w6' := hw6
              have HB6 := hid (below_then HB5.out hb6)
              have HN6 := hid (HN5.out.below hb6)
              clear hb6 x1 x2 ib e0 e1 e2 HB5 HN5
              obtain ⟨e0, e1, e2⟩ := HN6.out.at
              have HEz := HN6
              have HBz := HB6
              clear HN6 HB6
              have HEy := hid (HEz.out.below (below_walk w6 (.cells #[.string (mk e.1), .int .i64 e.2.1, .string (mk e.2.2)] 25)))
              have HBy := hid (below_then HBz.out (below_walk w6 (.cells #[.string (mk e.1), .int .i64 e.2.1, .string (mk e.2.2)] 25)))
              have HO1 := hid (ents_one w6 e)
              have HVA := hid (HV1.out.below HBy.out)
              have HVB := hid (HV2.out.below HBy.out)
              clear e0 e1 e2
              go_wp2_with fail
              refine wp_noPanic (wp_region_held_drew (S := fun W => Eb W w.heap.size e) (by kernel_rfl) HEz.out ?_)
              intro hHeld
              refine wpAnyH_take (i := 0) (v := .slice (some ⟨g, o, none⟩) t.length c) rfl (by kernel_rfl) (by kernel_rfl) (by kernel_rfl) (fun _ _ _ h => h) (Or.inl ⟨by rfl, fun W _ => by go_simp⟩) hHeld ?_
              simp only [Act.put, List.getElem_toArray, List.getElem_cons_zero, List.setIfInBounds_toArray, List.set_cons_succ, List.set_cons_zero]
              refine wpAnyH_take (i := 1) (v := .int .i64 (I : Int)) rfl (by kernel_rfl) (by kernel_rfl) (by kernel_rfl) (fun _ _ _ h => h) (Or.inl ⟨by rfl, fun W _ => by go_simp⟩) hHeld ?_
              simp only [Act.put, List.getElem_toArray, List.getElem_cons_zero, List.getElem_cons_succ, List.setIfInBounds_toArray, List.set_cons_succ, List.set_cons_zero]
              refine wpAnyH_take (i := 2) (v := .slice q1 m1 r1) rfl (by kernel_rfl) (by kernel_rfl) (by kernel_rfl) (fun _ _ _ h => h) (Or.inl ⟨by rfl, fun W _ => by have hfact := HS1.out W; go_simp; first | done | simp [hfact]⟩) hHeld ?_
              simp only [Act.put, List.getElem_toArray, List.getElem_cons_zero, List.getElem_cons_succ, List.setIfInBounds_toArray, List.set_cons_succ, List.set_cons_zero]
              refine wpAnyH_take (i := 3) (v := .agg #[.string (mk e.1), .int .i64 e.2.1, .string (mk e.2.2)]) rfl (by kernel_rfl) (by kernel_rfl) (by kernel_rfl) (fun _ _ _ h => h) (Or.inl ⟨by rfl, fun W hW => by obtain ⟨h0, h1, h2⟩ := hW.at; clear hW; go_simp⟩) hHeld ?_
              simp only [Act.put, List.getElem_toArray, List.getElem_cons_zero, List.getElem_cons_succ, List.setIfInBounds_toArray, List.set_cons_succ, List.set_cons_zero]
              refine wpAnyH_take (i := 5) (v := .slice q2 m2 r2) rfl (by kernel_rfl) (by kernel_rfl) (by kernel_rfl) (fun _ _ _ h => h) (Or.inl ⟨by rfl, fun W _ => by go_simp⟩) hHeld ?_
              simp only [Act.put, List.getElem_toArray, List.getElem_cons_zero, List.getElem_cons_succ, List.setIfInBounds_toArray, List.set_cons_succ, List.set_cons_zero]
              refine wpAnyH_ready (rs := [4]) (by kernel_rfl) (by simp) ?_
              refine AllReadyH.cons rfl (fun K hK => ?_) AllReadyH.nil
              go_simp
              refine hK.out _ _ (show Eb _ w.heap.size e from HEy.out) (fun hHeld => ?_)
              clear hK K
              refine wpAnyH_ready (rs := [6]) (by kernel_rfl) (by simp) ?_
              refine AllReadyH.cons rfl (fun K hK => ?_) AllReadyH.nil
              go_simp
              have HEx := hid (HEy.out.below (below_walk (w6.alloc (.cells #[.string (mk e.1), .int .i64 e.2.1, .string (mk e.2.2)] 25)) (.cells #[.slice q1 m1 r1, .slice (some ⟨w6.heap.size, 0, none⟩) 1 1, .slice q2 m2 r2] 22)))
              have HBx := hid (below_then HBy.out (below_walk (w6.alloc (.cells #[.string (mk e.1), .int .i64 e.2.1, .string (mk e.2.2)] 25)) (.cells #[.slice q1 m1 r1, .slice (some ⟨w6.heap.size, 0, none⟩) 1 1, .slice q2 m2 r2] 22)))
              refine hK.out _ _ (show Eb _ w.heap.size e from HEx.out) (fun hHeld => ?_)
              clear hK K
              refine wpAnyH_ready (rs := [7]) (by kernel_rfl) (by simp) ?_
              refine AllReadyH.cons rfl (fun K hK => ?_) AllReadyH.nil
              go_simp
              refine (HCC.out [t.take I, [e], t.drop (I + 1)] ((w6.alloc (.cells #[.string (mk e.1), .int .i64 e.2.1, .string (mk e.2.2)] 25)).alloc (.cells #[.slice q1 m1 r1, .slice (some ⟨w6.heap.size, 0, none⟩) 1 1, .slice q2 m2 r2] 22)).drew _ (trs_three (g := w6.heap.size + 1) HVA.out HO1.out HVB.out rfl (by simp)) (by simp) (by have := HLT.out; simp [List.length_take, List.length_drop]; omega)).mono ?_
              rintro r w7 ⟨v7, rfl, ho7, hb7⟩
              have hfl : [t.take I, [e], t.drop (I + 1)].flatten = puL t e := by rw [HPU.out]; simp
              rw [hfl] at ho7
              have HO7 := hid ho7.ents
              obtain ⟨a7, n7, c7, ev7⟩ : ∃ a n c, v7 = .slice a n c := by obtain ⟨a, c, ev⟩ := ho7.ents.shape; exact ⟨a, _, c, ev⟩
              subst ev7
              have HB7 := hid (below_then HBx.out ⟨hb7.os, hb7.tape, hb7.output, hb7.size, hb7.block⟩)
              have HE7 := hid (HEx.out.below ⟨hb7.os, hb7.tape, hb7.output, hb7.size, hb7.block⟩)
              clear ho7 hb7 hfl
              go_wp2_with fail
              refine hK.out _ _ HE7.out (fun hHeld => ?_)
              clear hK K
              refine wpAnyH_ready (rs := [8]) (by kernel_rfl) (by simp) ?_
              refine AllReadyH.cons rfl (fun K hK => ?_) AllReadyH.nil
              go_simp
              refine (HFT.out _ _ HO7.out).mono ?_
              rintro r w8 ⟨ha8, hb8⟩
              obtain ⟨a8, n8, c8, E8, er8⟩ := ansE_shape ha8
              subst er8
              have HA8 := hid ha8
              have HB8 := hid (below_then HB7.out hb8)
              have HE8 := hid (HE7.out.below hb8)
              clear ha8 hb8
              go_wp2_with fail
              refine hK.out _ _ HE8.out (fun hHeld => ?_)
              clear hK K
              refine wpAnyH_take (i := 9) (v := .slice a8 n8 c8) rfl (by kernel_rfl) (by kernel_rfl) (by kernel_rfl) (fun _ _ _ h => h) (Or.inl ⟨by rfl, fun W _ => by go_simp⟩) hHeld ?_
              simp only [Act.put, List.getElem_toArray, List.getElem_cons_zero, List.getElem_cons_succ, List.setIfInBounds_toArray, List.set_cons_succ, List.set_cons_zero]
              refine wpAnyH_take (i := 10) (v := .int .i64 E8) rfl (by kernel_rfl) (by kernel_rfl) (by kernel_rfl) (fun _ _ _ h => h) (Or.inl ⟨by rfl, fun W _ => by go_simp⟩) hHeld ?_
              simp only [Act.put, List.getElem_toArray, List.getElem_cons_zero, List.getElem_cons_succ, List.setIfInBounds_toArray, List.set_cons_succ, List.set_cons_zero]
              refine wpAnyH_take (i := 11) (v := .slice a8 n8 c8) rfl (by kernel_rfl) (by kernel_rfl) (by kernel_rfl) (fun _ _ _ h => h) (Or.inl ⟨by rfl, fun W _ => by go_simp⟩) hHeld ?_
              simp only [Act.put, List.getElem_toArray, List.getElem_cons_zero, List.getElem_cons_succ, List.setIfInBounds_toArray, List.set_cons_succ, List.set_cons_zero]
              refine wpAnyH_take (i := 12) (v := .int .i64 E8) rfl (by kernel_rfl) (by kernel_rfl) (by kernel_rfl) (fun _ _ _ h => h) (Or.inl ⟨by rfl, fun W _ => by go_simp⟩) hHeld ?_
              simp only [Act.put, List.getElem_toArray, List.getElem_cons_zero, List.getElem_cons_succ, List.setIfInBounds_toArray, List.set_cons_succ, List.set_cons_zero]
              refine wpAnyH_done (by kernel_rfl) ?_ _
              simp only [noPanic]
              clear hHeld
              go_wp2_with fail
              go_ret2
              rw [HAP.out]
              exact ⟨ansE_le HA8.out HB7.out.size, HB8.out⟩
            ·
              have z2 : (K2 == 2) = false := by simpa using hk2
              have HAP := hid (HAP0.out.trans (if_pos ⟨rfl, by simp [hk1, hk2]⟩))
              clear HAP0
              subst hk1
              go_enter Tryz.func6, Tryz.ntmps6
              go_wp2_with fail
              refine HR.out.mono ?_
              rintro r w1 ⟨rfl, hb1⟩
              rw [← HSZ.out] at hb1
              have HB1 := hid (below_then HB0.out hb1)
              have HN1 := hid (HN0.out.below hb1)
              clear hb1 HR HB0 HN0
              obtain ⟨e0, e1, e2⟩ := HN1.out.at
              go_wp2_with (first | (go_at_call 19; refine (HM.out _).mono ?_; rintro r w2 ⟨rfl, hb2⟩; have HB2 := hid (below_then HB1.out hb2); have HN2 := hid (HN1.out.below hb2); clear hb2; clear e0 e1 e2; obtain ⟨e0, e1, e2⟩ := HN2.out.at) | (go_at_call 21; refine (HPA.out _).mono ?_; rintro r w3 ⟨rfl, n3, rfl⟩; have HB3 := hid (below_n HB2.out n3); have HN3 := hid (show Eb (w2.drewN n3) w.heap.size e from HN2.out); generalize w2.drewN n3 = w3 at *; clear e0 e1 e2; obtain ⟨e0, e1, e2⟩ := HN3.out.at) | (go_at_call 20; refine (HID.out _ HB3.out).mono ?_; rintro r w4 ⟨rfl, hb4⟩; have HB4 := hid (below_then HB3.out hb4); have HN4 := hid (HN3.out.below hb4); clear hb4; clear e0 e1 e2; obtain ⟨e0, e1, e2⟩ := HN4.out.at) | (go_at_call 22; refine (HPL.out _ HB4.out).mono ?_; rintro r w5 ⟨rfl, hb5⟩; have HB5 := hid (below_then HB4.out hb5); have HN5 := hid (HN4.out.below hb5); clear hb5; clear e0 e1 e2; obtain ⟨e0, e1, e2⟩ := HN5.out.at))
              have HLB := hid (hp_lt HN5.out)
              have k1 := (HAT.out.below HGL.out HB5.out).2.1
              rw [HK1.out] at k1
              rw [HK2.out] at e1
              have x1 := fun p : Bel w5 => p.cell k1 (Nat.lt_of_lt_of_le HGL.out HB5.out.size)
              have x2 := fun p : Bel w5 => p.cell e1 HLB.out
              have ib : Nonempty (Bel w5) := bel_some w5
              clear k1
              refine wp_region_quiet_bel (by kernel_rfl) (by kernel_rfl) ?_
              repeat (go_big_quiet_step (fail))
              refine wpQuiet_nil ?_
              rintro w6 ⟨⟨w6', hb6⟩, hw6⟩
              obtain rfl : w6 = w6' := hw6
              have HB6 := hid (below_then HB5.out hb6)
              have HN6 := hid (HN5.out.below hb6)
              clear hb6 x1 x2 ib e0 e1 e2 HB5 HN5
              obtain ⟨e0, e1, e2⟩ := HN6.out.at
              go_wp2
              go_ret2
              rw [HAP.out]
              exact ⟨rfl, HB6.out⟩
          ·
            have z1 : (K1 == 2) = false := by simpa using hk1
            by_cases hk2 : K2 = 2
            ·
              have z2 : (K2 == 2) = true := by rw [hk2]; rfl
              have HAP := hid (HAP0.out.trans (if_pos ⟨rfl, by simp [hk1, hk2]⟩))
              clear HAP0
              clear hk1
              have hk2b := hk2
              go_enter Tryz.func6, Tryz.ntmps6
              go_wp2_with fail
              refine HR.out.mono ?_
              rintro r w1 ⟨rfl, hb1⟩
              rw [← HSZ.out] at hb1
              have HB1 := hid (below_then HB0.out hb1)
              have HN1 := hid (HN0.out.below hb1)
              clear hb1 HR HB0 HN0
              obtain ⟨e0, e1, e2⟩ := HN1.out.at
              go_wp2_with (first | (go_at_call 19; refine (HM.out _).mono ?_; rintro r w2 ⟨rfl, hb2⟩; have HB2 := hid (below_then HB1.out hb2); have HN2 := hid (HN1.out.below hb2); clear hb2; clear e0 e1 e2; obtain ⟨e0, e1, e2⟩ := HN2.out.at) | (go_at_call 21; refine (HPA.out _).mono ?_; rintro r w3 ⟨rfl, n3, rfl⟩; have HB3 := hid (below_n HB2.out n3); have HN3 := hid (show Eb (w2.drewN n3) w.heap.size e from HN2.out); generalize w2.drewN n3 = w3 at *; clear e0 e1 e2; obtain ⟨e0, e1, e2⟩ := HN3.out.at) | (go_at_call 20; refine (HID.out _ HB3.out).mono ?_; rintro r w4 ⟨rfl, hb4⟩; have HB4 := hid (below_then HB3.out hb4); have HN4 := hid (HN3.out.below hb4); clear hb4; clear e0 e1 e2; obtain ⟨e0, e1, e2⟩ := HN4.out.at) | (go_at_call 22; refine (HPL.out _ HB4.out).mono ?_; rintro r w5 ⟨rfl, hb5⟩; have HB5 := hid (below_then HB4.out hb5); have HN5 := hid (HN4.out.below hb5); clear hb5; clear e0 e1 e2; obtain ⟨e0, e1, e2⟩ := HN5.out.at))
              have HLB := hid (hp_lt HN5.out)
              have k1 := (HAT.out.below HGL.out HB5.out).2.1
              rw [HK1.out] at k1
              rw [HK2.out] at e1
              have x1 := fun p : Bel w5 => p.cell k1 (Nat.lt_of_lt_of_le HGL.out HB5.out.size)
              have x2 := fun p : Bel w5 => p.cell e1 HLB.out
              have ib : Nonempty (Bel w5) := bel_some w5
              clear k1
              refine wp_region_quiet_bel (by kernel_rfl) (by kernel_rfl) ?_
              repeat (go_big_quiet_step (fail))
              refine wpQuiet_nil ?_
              rintro w6 ⟨⟨w6', hb6⟩, hw6⟩
              obtain rfl : w6 = w6' := hw6
              have HB6 := hid (below_then HB5.out hb6)
              have HN6 := hid (HN5.out.below hb6)
              clear hb6 x1 x2 ib e0 e1 e2 HB5 HN5
              obtain ⟨e0, e1, e2⟩ := HN6.out.at
              go_wp2
              go_ret2
              rw [HAP.out]
              exact ⟨rfl, HB6.out⟩
            ·
              have z2 : (K2 == 2) = false := by simpa using hk2
              have HAP := hid (HAP0.out.trans (if_neg (fun h9 => h9.2 (by simp [hk1, hk2]))))
              clear HAP0
              clear hk1
              go_enter Tryz.func6, Tryz.ntmps6
              go_wp2_with fail
              refine HR.out.mono ?_
              rintro r w1 ⟨rfl, hb1⟩
              rw [← HSZ.out] at hb1
              have HB1 := hid (below_then HB0.out hb1)
              have HN1 := hid (HN0.out.below hb1)
              clear hb1 HR HB0 HN0
              obtain ⟨e0, e1, e2⟩ := HN1.out.at
              go_wp2_with (first | (go_at_call 19; refine (HM.out _).mono ?_; rintro r w2 ⟨rfl, hb2⟩; have HB2 := hid (below_then HB1.out hb2); have HN2 := hid (HN1.out.below hb2); clear hb2; clear e0 e1 e2; obtain ⟨e0, e1, e2⟩ := HN2.out.at) | (go_at_call 21; refine (HPA.out _).mono ?_; rintro r w3 ⟨rfl, n3, rfl⟩; have HB3 := hid (below_n HB2.out n3); have HN3 := hid (show Eb (w2.drewN n3) w.heap.size e from HN2.out); generalize w2.drewN n3 = w3 at *; clear e0 e1 e2; obtain ⟨e0, e1, e2⟩ := HN3.out.at) | (go_at_call 20; refine (HID.out _ HB3.out).mono ?_; rintro r w4 ⟨rfl, hb4⟩; have HB4 := hid (below_then HB3.out hb4); have HN4 := hid (HN3.out.below hb4); clear hb4; clear e0 e1 e2; obtain ⟨e0, e1, e2⟩ := HN4.out.at) | (go_at_call 22; refine (HPL.out _ HB4.out).mono ?_; rintro r w5 ⟨rfl, hb5⟩; have HB5 := hid (below_then HB4.out hb5); have HN5 := hid (HN4.out.below hb5); clear hb5; clear e0 e1 e2; obtain ⟨e0, e1, e2⟩ := HN5.out.at))
              have HLB := hid (hp_lt HN5.out)
              have k1 := (HAT.out.below HGL.out HB5.out).2.1
              rw [HK1.out] at k1
              rw [HK2.out] at e1
              have x1 := fun p : Bel w5 => p.cell k1 (Nat.lt_of_lt_of_le HGL.out HB5.out.size)
              have x2 := fun p : Bel w5 => p.cell e1 HLB.out
              have ib : Nonempty (Bel w5) := bel_some w5
              clear k1
              refine wp_region_quiet_bel (by kernel_rfl) (by kernel_rfl) ?_
              repeat (go_big_quiet_step (fail))
              refine wpQuiet_nil ?_
              rintro w6 ⟨⟨w6', hb6⟩, hw6⟩
              obtain rfl : w6 = w6' := hw6
              have HB6 := hid (below_then HB5.out hb6)
              have HN6 := hid (HN5.out.below hb6)
              clear hb6 x1 x2 ib e0 e1 e2 HB5 HN5
              obtain ⟨e0, e1, e2⟩ := HN6.out.at
              have HEz := HN6
              have HBz := HB6
              clear HN6 HB6
              have HEy := hid (HEz.out.below (below_walk w6 (.cells #[.string (mk e.1), .int .i64 e.2.1, .string (mk e.2.2)] 25)))
              have HBy := hid (below_then HBz.out (below_walk w6 (.cells #[.string (mk e.1), .int .i64 e.2.1, .string (mk e.2.2)] 25)))
              have HO1 := hid (ents_one w6 e)
              have HVA := hid (HV1.out.below HBy.out)
              have HVB := hid (HV2.out.below HBy.out)
              clear e0 e1 e2
              go_wp2_with fail
              refine wp_noPanic (wp_region_held_drew (S := fun W => Eb W w.heap.size e) (by kernel_rfl) HEz.out ?_)
              intro hHeld
              refine wpAnyH_take (i := 0) (v := .slice (some ⟨g, o, none⟩) t.length c) rfl (by kernel_rfl) (by kernel_rfl) (by kernel_rfl) (fun _ _ _ h => h) (Or.inl ⟨by rfl, fun W _ => by go_simp⟩) hHeld ?_
              simp only [Act.put, List.getElem_toArray, List.getElem_cons_zero, List.setIfInBounds_toArray, List.set_cons_succ, List.set_cons_zero]
              refine wpAnyH_take (i := 1) (v := .int .i64 (I : Int)) rfl (by kernel_rfl) (by kernel_rfl) (by kernel_rfl) (fun _ _ _ h => h) (Or.inl ⟨by rfl, fun W _ => by go_simp⟩) hHeld ?_
              simp only [Act.put, List.getElem_toArray, List.getElem_cons_zero, List.getElem_cons_succ, List.setIfInBounds_toArray, List.set_cons_succ, List.set_cons_zero]
              refine wpAnyH_take (i := 2) (v := .slice q1 m1 r1) rfl (by kernel_rfl) (by kernel_rfl) (by kernel_rfl) (fun _ _ _ h => h) (Or.inl ⟨by rfl, fun W _ => by have hfact := HS1.out W; go_simp; first | done | simp [hfact]⟩) hHeld ?_
              simp only [Act.put, List.getElem_toArray, List.getElem_cons_zero, List.getElem_cons_succ, List.setIfInBounds_toArray, List.set_cons_succ, List.set_cons_zero]
              refine wpAnyH_take (i := 3) (v := .agg #[.string (mk e.1), .int .i64 e.2.1, .string (mk e.2.2)]) rfl (by kernel_rfl) (by kernel_rfl) (by kernel_rfl) (fun _ _ _ h => h) (Or.inl ⟨by rfl, fun W hW => by obtain ⟨h0, h1, h2⟩ := hW.at; clear hW; go_simp⟩) hHeld ?_
              simp only [Act.put, List.getElem_toArray, List.getElem_cons_zero, List.getElem_cons_succ, List.setIfInBounds_toArray, List.set_cons_succ, List.set_cons_zero]
              refine wpAnyH_take (i := 5) (v := .slice q2 m2 r2) rfl (by kernel_rfl) (by kernel_rfl) (by kernel_rfl) (fun _ _ _ h => h) (Or.inl ⟨by rfl, fun W _ => by go_simp⟩) hHeld ?_
              simp only [Act.put, List.getElem_toArray, List.getElem_cons_zero, List.getElem_cons_succ, List.setIfInBounds_toArray, List.set_cons_succ, List.set_cons_zero]
              refine wpAnyH_ready (rs := [4]) (by kernel_rfl) (by simp) ?_
              refine AllReadyH.cons rfl (fun K hK => ?_) AllReadyH.nil
              go_simp
              refine hK.out _ _ (show Eb _ w.heap.size e from HEy.out) (fun hHeld => ?_)
              clear hK K
              refine wpAnyH_ready (rs := [6]) (by kernel_rfl) (by simp) ?_
              refine AllReadyH.cons rfl (fun K hK => ?_) AllReadyH.nil
              go_simp
              have HEx := hid (HEy.out.below (below_walk (w6.alloc (.cells #[.string (mk e.1), .int .i64 e.2.1, .string (mk e.2.2)] 25)) (.cells #[.slice q1 m1 r1, .slice (some ⟨w6.heap.size, 0, none⟩) 1 1, .slice q2 m2 r2] 22)))
              have HBx := hid (below_then HBy.out (below_walk (w6.alloc (.cells #[.string (mk e.1), .int .i64 e.2.1, .string (mk e.2.2)] 25)) (.cells #[.slice q1 m1 r1, .slice (some ⟨w6.heap.size, 0, none⟩) 1 1, .slice q2 m2 r2] 22)))
              refine hK.out _ _ (show Eb _ w.heap.size e from HEx.out) (fun hHeld => ?_)
              clear hK K
              refine wpAnyH_ready (rs := [7]) (by kernel_rfl) (by simp) ?_
              refine AllReadyH.cons rfl (fun K hK => ?_) AllReadyH.nil
              go_simp
              refine (HCC.out [t.take I, [e], t.drop (I + 1)] ((w6.alloc (.cells #[.string (mk e.1), .int .i64 e.2.1, .string (mk e.2.2)] 25)).alloc (.cells #[.slice q1 m1 r1, .slice (some ⟨w6.heap.size, 0, none⟩) 1 1, .slice q2 m2 r2] 22)).drew _ (trs_three (g := w6.heap.size + 1) HVA.out HO1.out HVB.out rfl (by simp)) (by simp) (by have := HLT.out; simp [List.length_take, List.length_drop]; omega)).mono ?_
              rintro r w7 ⟨v7, rfl, ho7, hb7⟩
              have hfl : [t.take I, [e], t.drop (I + 1)].flatten = puL t e := by rw [HPU.out]; simp
              rw [hfl] at ho7
              have HO7 := hid ho7.ents
              obtain ⟨a7, n7, c7, ev7⟩ : ∃ a n c, v7 = .slice a n c := by obtain ⟨a, c, ev⟩ := ho7.ents.shape; exact ⟨a, _, c, ev⟩
              subst ev7
              have HB7 := hid (below_then HBx.out ⟨hb7.os, hb7.tape, hb7.output, hb7.size, hb7.block⟩)
              have HE7 := hid (HEx.out.below ⟨hb7.os, hb7.tape, hb7.output, hb7.size, hb7.block⟩)
              clear ho7 hb7 hfl
              go_wp2_with fail
              refine hK.out _ _ HE7.out (fun hHeld => ?_)
              clear hK K
              refine wpAnyH_ready (rs := [8]) (by kernel_rfl) (by simp) ?_
              refine AllReadyH.cons rfl (fun K hK => ?_) AllReadyH.nil
              go_simp
              refine (HFT.out _ _ HO7.out).mono ?_
              rintro r w8 ⟨ha8, hb8⟩
              obtain ⟨a8, n8, c8, E8, er8⟩ := ansE_shape ha8
              subst er8
              have HA8 := hid ha8
              have HB8 := hid (below_then HB7.out hb8)
              have HE8 := hid (HE7.out.below hb8)
              clear ha8 hb8
              go_wp2_with fail
              refine hK.out _ _ HE8.out (fun hHeld => ?_)
              clear hK K
              refine wpAnyH_take (i := 9) (v := .slice a8 n8 c8) rfl (by kernel_rfl) (by kernel_rfl) (by kernel_rfl) (fun _ _ _ h => h) (Or.inl ⟨by rfl, fun W _ => by go_simp⟩) hHeld ?_
              simp only [Act.put, List.getElem_toArray, List.getElem_cons_zero, List.getElem_cons_succ, List.setIfInBounds_toArray, List.set_cons_succ, List.set_cons_zero]
              refine wpAnyH_take (i := 10) (v := .int .i64 E8) rfl (by kernel_rfl) (by kernel_rfl) (by kernel_rfl) (fun _ _ _ h => h) (Or.inl ⟨by rfl, fun W _ => by go_simp⟩) hHeld ?_
              simp only [Act.put, List.getElem_toArray, List.getElem_cons_zero, List.getElem_cons_succ, List.setIfInBounds_toArray, List.set_cons_succ, List.set_cons_zero]
              refine wpAnyH_take (i := 11) (v := .slice a8 n8 c8) rfl (by kernel_rfl) (by kernel_rfl) (by kernel_rfl) (fun _ _ _ h => h) (Or.inl ⟨by rfl, fun W _ => by go_simp⟩) hHeld ?_
              simp only [Act.put, List.getElem_toArray, List.getElem_cons_zero, List.getElem_cons_succ, List.setIfInBounds_toArray, List.set_cons_succ, List.set_cons_zero]
              refine wpAnyH_take (i := 12) (v := .int .i64 E8) rfl (by kernel_rfl) (by kernel_rfl) (by kernel_rfl) (fun _ _ _ h => h) (Or.inl ⟨by rfl, fun W _ => by go_simp⟩) hHeld ?_
              simp only [Act.put, List.getElem_toArray, List.getElem_cons_zero, List.getElem_cons_succ, List.setIfInBounds_toArray, List.set_cons_succ, List.set_cons_zero]
              refine wpAnyH_done (by kernel_rfl) ?_ _
              simp only [noPanic]
              clear hHeld
              go_wp2_with fail
              go_ret2
              rw [HAP.out]
              exact ⟨ansE_le HA8.out HB7.out.size, HB8.out⟩
  · have HAP := hid (show putP t e = .error E0 from by unfold putP; rw [HE0.out, if_pos h0])
    have x1 : (E0 == 0) = false := by simpa using h0
    clear h0
    go_enter Tryz.func6, Tryz.ntmps6
    go_wp2_with fail
    refine HR.out.mono ?_
    rintro r w1 ⟨rfl, hb1⟩
    rw [← HSZ.out] at hb1
    have HB1 := hid (below_then HB0.out hb1)
    clear hb1 HR
    go_wp2
    go_ret2
    rw [HAP.out]
    exact ⟨rfl, HB1.out⟩

end Go.Proofs.YteijkbanlpodpaaGreatDoor

/- The program's Graft. -/
namespace Go.Proofs.YteijkbanlpodpaaGreatDoor
open Go.RowKit Go.BigFrame

theorem rpB_many {d : List UInt8} {t M : List Ent} (hn : t.length ≤ 1024) (hl : M.length ≤ 1024) : (rpB d t M).length ≤ 1100000 := by
  unfold rpB
  split
  · omega
  · exact Nat.le_trans (rpF_len d M t) (Nat.le_trans (Nat.mul_le_mul hn (show 1 + M.length ≤ 1025 by omega)) (by decide))
theorem rpB_sz {d : List UInt8} {t M : List Ent} (hn : t.length ≤ 1024) (ht : szP t ≤ 1048576) (hm : szP M ≤ 1048576) : szP (rpB d t M) ≤ 4611686018427387904 := by
  unfold rpB
  split
  · omega
  · exact Nat.le_trans (rpF_sz d M t) (Nat.le_trans (Nat.add_le_add ht (Nat.mul_le_mul hn hm)) (by decide))
theorem rgtP_two (t s : List Ent) : rgtP [t, s] = if (chkP t).2 = 0 then (chkP s).2 else (chkP t).2 := by
  unfold rgtP rgtP rgtP
  by_cases h1 : (chkP t).2 = 0
  · rw [if_pos h1, if_pos h1]
    by_cases h2 : (chkP s).2 = 0
    · rw [if_pos h2, h2]
    · rw [if_neg h2]
  · rw [if_neg h1, if_neg h1]

set_option maxRecDepth 100000 in
set_option maxHeartbeats 2000000 in
theorem graft_any (vt vs : Value) (t s : List Ent) (d : List UInt8) (w : World) (ht : Ents w vt t) (hs : Ents w vs s) (hst : Short t) (hss : Short s) (hnt : t.length ≤ 4611686018427387904) (hns : s.length ≤ 4611686018427387904) (hd : d.length ≤ 4611686018427387904) :
    Calls Tryz.prog 12 #[vt, .string (mk d), vs] w fun r w' => AnsE w' w.heap.size r (grP t d s) ∧ Below w.heap.size w w' := by
  obtain ⟨E0, HE0⟩ : ∃ E : Int, Hid (rgtP [t, s] = E) := ⟨_, rfl⟩
  have HR := hid (right_any _ [t, s] _ (trs_two w vt vs t s 22 ht hs) (by simp) (fun x hx => by
    rcases List.mem_cons.1 hx with rfl | hx
    · exact ⟨hst, hnt⟩
    · rw [List.mem_singleton] at hx
      subst hx
      exact ⟨hss, hns⟩))
  rw [HE0.out] at HR
  have HB0 := hid (below_walk w (.cells #[vt, vs] 22))
  have HET := hid ht
  have HES := hid hs
  obtain ⟨ao, c, e0⟩ := ht.shape
  obtain ⟨az, cz, ez⟩ := hs.shape
  subst e0 ez
  clear ht hs hst hss
  have HEQ := hid (rgtP_two t s)
  by_cases h0 : E0 = 0
  · subst h0
    have hct : (chkP t).2 = 0 := by
      have h1 := HE0.out
      rw [HEQ.out] at h1
      split at h1
      · assumption
      · assumption
    have hcs : (chkP s).2 = 0 := by
      have h1 := HE0.out
      rw [HEQ.out, if_pos hct] at h1
      exact h1
    have HCT := hid hct
    have HCS := hid hcs
    have HRT := hid (rgt_iff.1 hct)
    have HRS := hid (rgt_iff.1 hcs)
    clear hct hcs
    obtain ⟨W0, HW0⟩ : ∃ W, Hid (whP t d = W) := ⟨_, rfl⟩
    have HDI := hid (fun W (hW : Below w.heap.size w W) => directory_any _ t d W (HET.out.below hW) HRT.out hd)
    rw [HW0.out] at HDI
    by_cases h1 : W0 = 0
    · subst h1
      obtain ⟨hok, hdir⟩ := wh_zero.1 HW0.out
      have HMV := hid (fun W (hW : Below w.heap.size w W) => moveInto_any _ s d W (HES.out.below hW) HRS.out hok)
      cases hmv : mvOk d s with
      | false =>
        have HAP := hid (show grP t d s = .error 44 from by unfold grP; rw [if_neg (by rw [HCT.out]; simp), if_neg (by rw [HCS.out]; simp), if_neg (by rw [HW0.out]; simp), if_pos hmv])
        have HMV2 : Hid (∀ W, Below w.heap.size w W → Calls Tryz.prog 41 #[.string (mk d), .slice az s.length cz] W fun r w' => r = .returned (.tuple #[.slice none 0 0, .int .i64 44]) ∧ Below W.heap.size W w') := hid (fun W hW => (HMV.out W hW).mono (fun r w' ⟨h1, h2⟩ => by
          unfold MvA at h1
          rw [hmv, if_neg (by simp)] at h1
          exact ⟨h1, h2⟩))
        clear hok hdir hmv HMV
        go_enter Tryz.func12, Tryz.ntmps12
        go_wp2_with fail
        refine HR.out.mono ?_
        rintro r w1 ⟨rfl, hb1⟩
        have HB1 := hid (below_then HB0.out hb1)
        clear hb1 HR
        go_wp2_with (first | (go_at_call 37; refine (HDI.out _ HB1.out).mono ?_; rintro r w2 ⟨rfl, hb2⟩; have HB2 := hid (below_then HB1.out hb2); clear hb2) | (go_at_call 41; refine (HMV2.out _ HB2.out).mono ?_; rintro r w3 ⟨rfl, hb3⟩; have HB3 := hid (below_then HB2.out hb3); clear hb3))
        go_ret2
        rw [HAP.out]
        exact ⟨rfl, HB3.out⟩
      | true =>
        have HAP := hid (show grP t d s = fitP (rpB d t (s.map (mvE d))) from by unfold grP; rw [if_neg (by rw [HCT.out]; simp), if_neg (by rw [HCS.out]; simp), if_neg (by rw [HW0.out]; simp), if_neg (by rw [hmv]; simp)])
        have HMV2 : Hid (∀ W, Below w.heap.size w W → Calls Tryz.prog 41 #[.string (mk d), .slice az s.length cz] W fun r w' => (∃ v, r = .returned (.tuple #[v, .int .i64 0]) ∧ OwnE w' W.heap.size v (s.map (mvE d))) ∧ Below W.heap.size W w') := hid (fun W hW => (HMV.out W hW).mono (fun r w' ⟨h1, h2⟩ => by
          unfold MvA at h1
          rw [hmv, if_pos rfl] at h1
          exact ⟨h1, h2⟩))
        have hw' : d = [] ∨ ∃ f ∈ t, f.1 = d := ((dirP_of HRT.out.up).1 hdir).imp id (fun ⟨f, h1, h2, _⟩ => ⟨f, h1, h2⟩)
        have hokm : ∀ e ∈ s, okP (mvT d e.1) = true := List.all_eq_true.1 hmv
        have HSH := hid (show ∀ e ∈ rpB d t (s.map (mvE d)), Shr e from fun e he => by
          rcases (mem_rpB hw').1 he with h1 | h1
          · exact may_shr' (HRT.out.may e h1.1)
          · obtain ⟨f, hf, rfl⟩ := List.mem_map.1 h1
            exact ⟨Nat.le_trans (okP_short (hokm f hf)) (by omega), (may_shr' (HRS.out.may f hf)).2⟩)
        have HML := hid (show (s.map (mvE d)).length ≤ 1024 by rw [List.length_map]; exact HRS.out.many)
        have HMS := hid (show szP (s.map (mvE d)) ≤ 1048576 by rw [sz_map (mvE d) (fun _ => rfl)]; exact HRS.out.big)
        have HRP := hid (fun W vm (hW : Below w.heap.size w W) (hm : Ents W vm (s.map (mvE d))) => replaceBelow_any _ vm t _ d W (HET.out.below hW) hm HRT.out.many HML.out hd)
        have HFT := hid (fun W v (hv : Ents W v (rpB d t (s.map (mvE d)))) => fit_any v _ W hv (Nat.le_trans (rpB_many HRT.out.many HML.out) (by omega)) HSH.out (rpB_sz HRT.out.many HRT.out.big HMS.out))
        clear hok hdir hmv HMV hw' hokm
        generalize s.map (mvE d) = M at *
        generalize rpB d t M = R at *
        go_enter Tryz.func12, Tryz.ntmps12
        go_wp2_with fail
        refine HR.out.mono ?_
        rintro r w1 ⟨rfl, hb1⟩
        have HB1 := hid (below_then HB0.out hb1)
        clear hb1 HR
        go_wp2_with (first | (go_at_call 37; refine (HDI.out _ HB1.out).mono ?_; rintro r w2 ⟨rfl, hb2⟩; have HB2 := hid (below_then HB1.out hb2); clear hb2) | (go_at_call 41; refine (HMV2.out _ HB2.out).mono ?_; rintro r w3 ⟨⟨v3, rfl, ho3⟩, hb3⟩; have HB3 := hid (below_then HB2.out hb3); have HM3 := hid ho3.ents; obtain ⟨a3, c3, e3⟩ := ho3.ents.shape; generalize M.length = nM at e3; subst e3; clear hb3 ho3) | (go_at_call 42; refine (HRP.out _ _ HB3.out HM3.out).mono ?_; rintro r w4 ⟨v4, rfl, he4, hb4⟩; have HB4 := hid (below_then HB3.out hb4); have HE4 := hid he4; clear hb4 he4) | (go_at_call 23; refine (HFT.out _ _ HE4.out).mono ?_; rintro r w5 ⟨ha, hb5⟩; have HB5 := hid (below_then HB4.out hb5); have HA := hid (ansE_le ha HB4.out.size); obtain ⟨a5, n5, c5, E5, e5⟩ := ansE_shape ha; subst e5; clear ha hb5))
        go_ret2
        rw [HAP.out]
        exact ⟨HA.out, HB5.out⟩
    · have HAP := hid (show grP t d s = .error W0 from by unfold grP; rw [if_neg (by rw [HCT.out]; simp), if_neg (by rw [HCS.out]; simp), HW0.out, if_pos h1])
      have e1 : (W0 == 0) = false := by simpa using h1
      clear h1
      go_enter Tryz.func12, Tryz.ntmps12
      go_wp2_with fail
      refine HR.out.mono ?_
      rintro r w1 ⟨rfl, hb1⟩
      have HB1 := hid (below_then HB0.out hb1)
      clear hb1 HR
      go_wp2_with (go_at_call 37; refine (HDI.out _ HB1.out).mono ?_; rintro r w2 ⟨rfl, hb2⟩; have HB2 := hid (below_then HB1.out hb2); clear hb2)
      go_ret2
      rw [HAP.out]
      exact ⟨rfl, HB2.out⟩
  · have HAP := hid (show grP t d s = .error E0 from by
      have h1 := HE0.out
      rw [HEQ.out] at h1
      unfold grP
      split at h1
      · rename_i h2
        rw [if_neg (by rw [h2]; simp), h1, if_pos h0]
      · rename_i h2
        rw [if_pos h2, h1])
    have e1 : (E0 == 0) = false := by simpa using h0
    clear h0
    go_enter Tryz.func12, Tryz.ntmps12
    go_wp2_with fail
    refine HR.out.mono ?_
    rintro r w1 ⟨rfl, hb1⟩
    have HB1 := hid (below_then HB0.out hb1)
    clear hb1 HR
    go_wp2
    go_ret2
    rw [HAP.out]
    exact ⟨rfl, HB1.out⟩

end Go.Proofs.YteijkbanlpodpaaGreatDoor

/- alive: a file in a directory that lacks. -/
namespace Go.Proofs.YteijkbanlpodpaaGreatDoor
open Go.RowKit

def al0 : Ent := ([97, 47, 98], 1, [120])
def alT : List Ent := [([97], 2, []), al0]
theorem al_lack : lackL [al0] = [[97]] := by decide +kernel
theorem al_make : mkP [al0] = .ok alT := by
  have h1 : [al0].all mayP = true := by decide +kernel
  have h2 : ([al0].map (·.1)).Nodup := by simp
  have h3 : wrongP [al0] = false := by decide +kernel
  have h5 : szP [al0] = 1 := by decide +kernel
  have h6 : alT.Pairwise ltE := by
    unfold alT
    rw [List.pairwise_cons]
    refine ⟨fun b hb => ?_, List.pairwise_singleton _ _⟩
    rw [List.mem_singleton] at hb
    subst hb
    unfold ltE
    decide +kernel
  have h7 : (([al0] ++ [[97]].map dirE).map (·.1)).Nodup := by decide +kernel
  have h8 : alT = sortE ([al0] ++ [[97]].map dirE) := by
    refine sortE_uniq h6 h7 (fun e => ?_)
    unfold alT dirE
    simp
    exact Or.comm
  unfold mkP
  rw [h1, if_neg (show ¬ (true = false) by simp), if_neg (fun h => h h2), h3, if_neg (show ¬ (false = true) by simp), al_lack, h5, ← h8]
  rfl
theorem al_check : chkP alT = (0, 0) := by decide +kernel
theorem al_size : szP alT = 1 := by decide +kernel
theorem al_tre : Tre [al0] := ⟨by simp, fun e he => by rw [List.mem_singleton] at he; subst he; exact ⟨by decide, by decide⟩, by decide +kernel⟩
theorem al_short : Short alT := fun e he => by
  unfold alT at he
  simp only [List.mem_cons, List.not_mem_nil, or_false] at he
  rcases he with rfl | rfl
  · exact ⟨by simp, by simp⟩
  · exact ⟨by decide, by decide⟩

set_option maxRecDepth 100000 in
set_option maxHeartbeats 2000000 in
theorem alive_any (w : World) : Calls Tryz.prog 15 #[] w fun r w' => r = .returned (.bool true) ∧ Below w.heap.size w w' := by
  have HMK := hid (make_any _ [al0] _ (ents_one w al0) al_tre)
  rw [al_make] at HMK
  have HBA := hid (below_walk w (.cells #[.string ⟨#[97, 47, 98]⟩, .int .i64 1, .string ⟨#[120]⟩] 25))
  go_enter Tryz.func15, Tryz.ntmps15
  go_wp2_with fail
  refine HMK.out.mono ?_
  rintro r w2 ⟨⟨v2, rfl, ho2⟩, hb2⟩
  have HO2 := hid ho2
  have HB2 := hid (below_then HBA.out hb2)
  have HC2 := hid (tcheck_any v2 alT w2 ho2.ents al_short (by decide))
  rw [al_check] at HC2
  obtain ⟨a2, c2, h2⟩ := ho2.ents.shape
  subst h2
  clear ho2 hb2 HMK
  go_wp2_with fail
  refine HC2.out.mono ?_
  rintro r w3 ⟨rfl, hb3⟩
  have HEN := hid (HO2.out.ents.below hb3)
  have HB3 := hid (below_then HB2.out hb3)
  have HS3 := hid (size_any _ alT w3 HEN.out al_short (by decide) (by decide +kernel))
  rw [al_check, al_size] at HS3
  obtain ⟨g, o, rfl, hgl, x0, x1, x2⟩ := HEN.out.at 0 (by decide)
  clear hb3 HC2
  have e0 : w3.cell? ⟨g, o, none⟩ = some (.string ⟨#[97]⟩) := x0
  have e1 : w3.cell? ⟨g, o + 1, none⟩ = some (.int .i64 2) := x1
  have e2 : w3.cell? ⟨g, o + 2, none⟩ = some (.string ⟨#[]⟩) := x2
  have hl : alT.length = 2 := rfl
  rw [hl] at HS3 ⊢
  have hg := entG
  have heq : ∀ W, (binOp .eql 25 (.agg #[.string ⟨#[97]⟩, .int .i64 2, .string ⟨#[]⟩]) (.agg #[.string ⟨#[97]⟩, .int .i64 2, .string ⟨#[]⟩])).run Tryz.prog W = .ok (.bool true) W := fun W => by
    have := eql_ent ([97], 2, []) ([97], 2, []) W
    rw [decide_eq_true rfl] at this
    exact this
  clear x0 x1 x2 hl
  go_wp2_with (go_at_call 45; refine HS3.out.mono ?_; rintro r w4 ⟨rfl, hb4⟩)
  go_ret
  exact ⟨rfl, below_then HB3.out hb4⟩

end Go.Proofs.YteijkbanlpodpaaGreatDoor

/- TreeGrafts answers true. -/
namespace Go.Proofs.YteijkbanlpodpaaGreatDoor
open Go.RowKit Go.BigFrame

/-- an answer that is an error -/
theorem ansE_err {w : World} {b : Nat} {r : Ending} {E : Int} (h : AnsE w b r (.error E)) : r = .returned (.tuple #[.slice none 0 0, .int .i64 E]) := h
theorem ansE_ok {w : World} {b : Nat} {r : Ending} {l : List Ent} (h : AnsE w b r (.ok l)) : ∃ a c, r = .returned (.tuple #[.slice a l.length c, .int .i64 0]) ∧ OwnE w b (.slice a l.length c) l := by
  obtain ⟨v, e, ho⟩ := h
  obtain ⟨a, c, ev⟩ := ho.ents.shape
  subst ev
  exact ⟨a, c, e, ho⟩
theorem sbP_err {t : List Ent} {d : List UInt8} {E : Int} (h : sbP t d = .error E) : E ≠ 0 := by
  unfold sbP at h
  split at h
  · injection h with h; rw [← h]; assumption
  · split at h
    · injection h with h; rw [← h]; assumption
    · cases h
theorem grP_err {t s : List Ent} {d : List UInt8} {E : Int} (h : grP t d s = .error E) : E ≠ 0 := by
  unfold grP at h
  split at h
  · injection h with h; rw [← h]; assumption
  · split at h
    · injection h with h; rw [← h]; assumption
    · split at h
      · injection h with h; rw [← h]; assumption
      · split at h
        · injection h with h; rw [← h]; decide
        · unfold fitP at h
          split at h
          · injection h with h; rw [← h]; decide
          · split at h
            · injection h with h; rw [← h]; decide
            · cases h

set_option maxRecDepth 100000 in
set_option maxHeartbeats 4000000 in
theorem lawGrafts_any (vt vs : Value) (t s : List Ent) (d : List UInt8) (w : World) (ht : Ents w vt t) (hs : Ents w vs s) (hst : Short t) (hss : Short s) (hnt : t.length ≤ 140737488355327) (hns : s.length ≤ 140737488355327) (hd : d.length ≤ 140737488355328) :
    Calls Tryz.prog 4 #[vt, .string (mk d), vs] w fun e w' => e = .returned (.bool true) ∧ Below w.heap.size w w' := by
  have HAW := hid alive_any
  have HT := hid ht
  have HS := hid hs
  have HST := hid hst
  have HSS := hid hss
  obtain ⟨ao, c, e0⟩ := ht.shape
  obtain ⟨az, cz, e1⟩ := hs.shape
  subst e0 e1
  have HSB := hid (fun W (hW : Below w.heap.size w W) => sub_any _ t d W (HT.out.below hW) hst (by omega) (by omega))
  have HG2 := hid (fun W (hW : Below w.heap.size w W) => graft_any _ _ t s d W (HT.out.below hW) (HS.out.below hW) hst hss (by omega) (by omega) (by omega))
  clear ht hs hst hss
  cases hsb : sbP t d with
  | error E =>
    have hE := sbP_err hsb
    have e1 : (E == 0) = false := by simpa using hE
    have HSB2 : Hid (∀ W, Below w.heap.size w W → Calls Tryz.prog 10 #[.slice ao t.length c, .string (mk d)] W fun r w' => r = .returned (.tuple #[.slice none 0 0, .int .i64 E]) ∧ Below W.heap.size W w') := hid (fun W hW => (HSB.out W hW).mono (fun r w' ⟨h1, h2⟩ => by rw [hsb] at h1; exact ⟨ansE_err h1, h2⟩))
    clear hsb HSB HG2
    generalize mk d = S at *
    go_enter Tryz.func4, Tryz.ntmps4
    go_wp2_with (first | (go_at_call 15; refine (HAW.out _).mono ?_; rintro r w1 ⟨rfl, hb1⟩; have HB1 := hid hb1; clear hb1) | (go_at_call 10; refine (HSB2.out _ HB1.out).mono ?_; rintro r w2 ⟨rfl, hb2⟩; have HB2 := hid (below_then HB1.out hb2); clear hb2))
    go_ret
    exact ⟨rfl, HB2.out⟩
  | ok u =>
    have hsok := sb_ok hsb
    have hru : Rgt u := by rw [hsok.2.2.2]; exact sub_rgt d hsok.1
    have HRU := hid hru
    have HRT := hid hsok.1
    have hgb := graft_back hsb
    have HSB2 : Hid (∀ W, Below w.heap.size w W → Calls Tryz.prog 10 #[.slice ao t.length c, .string (mk d)] W fun r w' => (∃ a c, r = .returned (.tuple #[.slice a u.length c, .int .i64 0]) ∧ OwnE w' W.heap.size (.slice a u.length c) u) ∧ Below W.heap.size W w') := hid (fun W hW => (HSB.out W hW).mono (fun r w' ⟨h1, h2⟩ => by rw [hsb] at h1; exact ⟨ansE_ok h1, h2⟩))
    have HG1 : Hid (∀ W vu, Below w.heap.size w W → Ents W vu u → Calls Tryz.prog 12 #[.slice ao t.length c, .string (mk d), vu] W fun r w' => (∃ a c, r = .returned (.tuple #[.slice a t.length c, .int .i64 0]) ∧ OwnE w' W.heap.size (.slice a t.length c) t) ∧ Below W.heap.size W w') := hid (fun W vu hW hu => (graft_any _ vu t u d W (HT.out.below hW) hu HST.out (may_short hru.may) (by omega) (by have := hru.many; omega) (by omega)).mono (fun r w' ⟨h1, h2⟩ => by rw [hgb] at h1; exact ⟨ansE_ok h1, h2⟩))
    have HM1 : Hid (∀ W va, Below w.heap.size w W → Ents W va t → Calls Tryz.prog 14 #[va, .slice ao t.length c] W fun r w' => r = .returned (.bool true) ∧ ∃ q, w' = W.drewN q) := hid (fun W va hW ha => (rsame_any va _ t t W ha (HT.out.below hW) (by omega)).mono (fun r w' ⟨h1, h2⟩ => ⟨by rw [h1]; simp, h2⟩))
    cases hgr : grP t d s with
    | error E =>
      have hE := grP_err hgr
      have e1 : (E == 0) = false := by simpa using hE
      have HG3 : Hid (∀ W, Below w.heap.size w W → Calls Tryz.prog 12 #[.slice ao t.length c, .string (mk d), .slice az s.length cz] W fun r w' => r = .returned (.tuple #[.slice none 0 0, .int .i64 E]) ∧ Below W.heap.size W w') := hid (fun W hW => (HG2.out W hW).mono (fun r w' ⟨h1, h2⟩ => by rw [hgr] at h1; exact ⟨ansE_err h1, h2⟩))
      clear hsb HSB HG2 hsok hru hgb hgr
      generalize mk d = S at *
      go_enter Tryz.func4, Tryz.ntmps4
      go_wp2_with (first | (go_at_call 15; refine (HAW.out _).mono ?_; rintro r w1 ⟨rfl, hb1⟩; have HB1 := hid hb1; clear hb1) | (go_at_call 10; refine (HSB2.out _ HB1.out).mono ?_; rintro r w2 ⟨⟨a2, c2, rfl, ho2⟩, hb2⟩; have HB2 := hid (below_then HB1.out hb2); have HU2 := hid ho2.ents; clear hb2 ho2 HSB2) | (go_at_call 12; with_reducible refine Calls.mono (HG1.out _ _ HB2.out HU2.out) ?_; rintro r w3 ⟨⟨a3, c3, rfl, ho3⟩, hb3⟩; have HB3 := hid (below_then HB2.out hb3); have HV3 := hid ho3.ents; clear hb3 ho3 HG1) | (go_at_call 14; refine (HM1.out _ _ HB3.out HV3.out).mono ?_; rintro r w4 ⟨rfl, q4, rfl⟩; have HB4 := hid (below_n HB3.out q4)) | (go_at_call 12; refine (HG3.out _ HB4.out).mono ?_; rintro r w5 ⟨rfl, hb5⟩; have HB5 := hid (below_then HB4.out hb5); clear hb5))
      go_ret
      exact ⟨rfl, HB5.out⟩
    | ok x =>
      have hsb2 := sub_back hgr
      have hrx := (sb_ok hsb2).1
      have HRX := hid hrx
      have HSL := hid (show s.length ≤ 1024 from by
        have h1 := (sb_ok hsb2).2.2.2
        rw [h1]
        exact (sub_rgt d hrx).many)
      have HG3 : Hid (∀ W, Below w.heap.size w W → Calls Tryz.prog 12 #[.slice ao t.length c, .string (mk d), .slice az s.length cz] W fun r w' => (∃ a c, r = .returned (.tuple #[.slice a x.length c, .int .i64 0]) ∧ OwnE w' W.heap.size (.slice a x.length c) x) ∧ Below W.heap.size W w') := hid (fun W hW => (HG2.out W hW).mono (fun r w' ⟨h1, h2⟩ => by rw [hgr] at h1; exact ⟨ansE_ok h1, h2⟩))
      have HSB3 : Hid (∀ W vx, Ents W vx x → Calls Tryz.prog 10 #[vx, .string (mk d)] W fun r w' => (∃ a c, r = .returned (.tuple #[.slice a s.length c, .int .i64 0]) ∧ OwnE w' W.heap.size (.slice a s.length c) s) ∧ Below W.heap.size W w') := hid (fun W vx hx => (sub_any vx x d W hx (may_short hrx.may) (by have := hrx.many; omega) (by omega)).mono (fun r w' ⟨h1, h2⟩ => by rw [hsb2] at h1; exact ⟨ansE_ok h1, h2⟩))
      have HM2 : Hid (∀ W va, Below w.heap.size w W → Ents W va s → Calls Tryz.prog 14 #[va, .slice az s.length cz] W fun r w' => r = .returned (.bool true) ∧ ∃ q, w' = W.drewN q) := hid (fun W va hW ha => (rsame_any va _ s s W ha (HS.out.below hW) (by omega)).mono (fun r w' ⟨h1, h2⟩ => ⟨by rw [h1]; simp, h2⟩))
      clear hsb HSB HG2 hsok hru hgb hgr hsb2 hrx
      generalize mk d = S at *
      go_enter Tryz.func4, Tryz.ntmps4
      go_wp2_with (first | (go_at_call 15; refine (HAW.out _).mono ?_; rintro r w1 ⟨rfl, hb1⟩; have HB1 := hid hb1; clear hb1) | (go_at_call 10; with_reducible refine Calls.mono (HSB2.out _ HB1.out) ?_; rintro r w2 ⟨⟨a2, c2, rfl, ho2⟩, hb2⟩; have HB2 := hid (below_then HB1.out hb2); have HU2 := hid ho2.ents; clear hb2 ho2 HSB2) | (go_at_call 12; with_reducible refine Calls.mono (HG1.out _ _ HB2.out HU2.out) ?_; rintro r w3 ⟨⟨a3, c3, rfl, ho3⟩, hb3⟩; have HB3 := hid (below_then HB2.out hb3); have HV3 := hid ho3.ents; clear hb3 ho3 HG1) | (go_at_call 14; with_reducible refine Calls.mono (HM1.out _ _ HB3.out HV3.out) ?_; rintro r w4 ⟨rfl, q4, rfl⟩; have HB4 := hid (below_n HB3.out q4); clear HM1) | (go_at_call 12; refine (HG3.out _ HB4.out).mono ?_; rintro r w5 ⟨⟨a5, c5, rfl, ho5⟩, hb5⟩; have HB5 := hid (below_then HB4.out hb5); have HX5 := hid ho5.ents; clear hb5 ho5 HG3) | (go_at_call 10; refine (HSB3.out _ _ HX5.out).mono ?_; rintro r w6 ⟨⟨a6, c6, rfl, ho6⟩, hb6⟩; have HB6 := hid (below_then HB5.out hb6); have HY6 := hid ho6.ents; clear hb6 ho6 HSB3) | (go_at_call 14; refine (HM2.out _ _ HB6.out HY6.out).mono ?_; rintro r w7 ⟨rfl, q7, rfl⟩; have HB7 := hid (below_n HB6.out q7)))
      go_ret
      exact ⟨rfl, HB7.out⟩

end Go.Proofs.YteijkbanlpodpaaGreatDoor
