/- Contracts and pure facts that the proof needs, joined. -/
import Derived.Test.YteijkbanlpodpaaGreatDoorG3
import Derived.Test.YteijkbanlpodpaaGreatDoorG2
import Derived.Test.YteijkbanlpodpaaGreatDoorG1
import Derived.Deep.MidRow
import Derived.Deep.RegionHeld3
import Derived.RangeFuncNested
import Derived.OwnWalkIn
import Derived.TacticsInMore
import Derived.Deep.OwnRows
import Derived.Deep.Cut
import Derived.Laws.CopyOwn
import Derived.Deep.RegionLaw

/- The program's moveInto, replaceBelow and Graft. -/
namespace Go.Proofs.YteijkbanlpodpaaGreatDoor
open Go.RowKit Go.BigFrame

theorem steps_nms : ∀ {r l : List (List UInt8)}, (∀ p ∈ r, nmP p = true) → stepsP l r = .ok (l ++ r)
  | [], l, _ => by simp [stepsP]
  | p :: r, l, h => by
    obtain ⟨h1, h2, h3⟩ := nmP_ne (h p (by simp))
    have e : stepP l p = .ok (l ++ [p]) := by unfold stepP; rw [if_neg (by simp [h1, h2]), if_neg h3, if_pos (h p (by simp))]
    rw [stepsP, e]
    show stepsP (l ++ [p]) r = _
    rw [steps_nms (fun q hq => h q (List.mem_cons_of_mem _ hq)), List.append_assoc]
    rfl
/-- a path laid below a directory -/
theorem join_mv {d p : List UInt8} (hd : okP d = true) (hp : okP p = true) (h0 : p ≠ []) : joinP d [p] = if okP (mvT d p) = true then .ok (mvT d p) else .error 44 := by
  have hs := okP_short hp
  have hn := ((okP_iff p).1 hp).1
  have hnp : nms p = pcs p := by unfold nms; rw [if_neg h0]
  rw [hnp] at hn
  have hh : p.head? ≠ some 47 := by
    intro e
    cases p with
    | nil => cases e
    | cons c r =>
      injection e with e
      subst e
      have := hn [] (by rw [pcs_slash]; simp)
      simp [nmP] at this
  have hw : walkP (nms d) p = .ok (nms d ++ nms p) := by
    unfold walkP
    rw [if_neg (by omega), if_neg hh, steps_nms hn, hnp]
  unfold joinP walksP
  rw [if_pos hd, hw]
  show (if 32 < (nms d ++ nms p).length then Except.error 44 else Except.ok (txt (nms d ++ nms p))) = _
  rw [mv_ok hd hp h0, ← nms_mv h0, txt_nms, nms_mv h0, List.length_append]
  by_cases hl : 32 < (nms d).length + (nms p).length
  · rw [if_pos hl, if_neg (by simp; omega)]
  · rw [if_neg hl, if_pos (by simp; omega)]

theorem entsV_setP (es : List Ent) (k : Nat) (p : List UInt8) (hk : k < es.length) : (entsV es).set (k * 3) (.string (mk p)) = entsV (es.set k (p, (es.getD k zE).2)) := by
  induction es generalizing k with
  | nil => simp at hk
  | cons x es ih =>
    cases k with
    | zero => simp [entsV_cons, entV]
    | succ k =>
      have hl : (entV x).length = 3 := rfl
      rw [List.set_cons_succ, entsV_cons, entsV_cons, show (x :: es).getD (k + 1) zE = es.getD k zE from by simp, ← ih k (by simpa using hk), show (k + 1) * 3 = k * 3 + 3 by omega, List.set_append_right _ _ (by omega), hl, Nat.add_sub_cancel]
/-- a path of one's own entries is written over -/
theorem OwnE.setP {w : World} {base g n cap : Nat} {es : List Ent} (h : OwnE w base (.slice (some ⟨g, 0, none⟩) n cap) es) {i : Nat} (hi : i < es.length) (p : List UInt8) :
    OwnE (w.setCell ⟨g, i * 3, none⟩ (.string (mk p))) base (.slice (some ⟨g, 0, none⟩) n cap) (es.set i (p, (es.getD i zE).2)) := by
  rcases h.2 with ⟨h0, _⟩ | ⟨g', cap', cur, hv, hb, hh, h1, h2, h3, h4⟩
  · cases h0
  · injection hv with hv1 hv2 hv3
    have hg : g = g' := by injection hv1 with hv1; injection hv1
    subst hg hv2 hv3
    have hl := h.1
    refine ⟨?_, Or.inr ⟨g, cap, cur.setIfInBounds (i * 3) (.string (mk p)), ?_, hb, ?_, ?_, h2, by simpa using h3, ?_⟩⟩
    · rw [← entsV_setP es i p hi, List.length_set, List.length_set, hl]
    · rw [List.length_set]
    · rw [blk_set hh _]
    · rw [List.length_set]; exact h1
    · rw [List.length_set, ← entsV_setP es i p hi]
      simp only [Array.toList_setIfInBounds]
      rw [List.take_set, h4]

theorem eqn_nil (c : Nat) (W : World) : (binOp .eql 22 (.slice none 0 c) (.slice none 0 0)).run Tryz.prog W = .ok (.bool true) W := by kernel_rfl
theorem eqn_ad (a : Addr) (n c : Nat) (W : World) : (binOp .eql 22 (.slice (some a) n c) (.slice none 0 0)).run Tryz.prog W = .ok (.bool false) W := by kernel_rfl

set_option maxRecDepth 100000 in
set_option maxHeartbeats 1000000 in
theorem clone_ents (v : Value) (s : List Ent) (w : World) (h : Ents w v s) (hn : s.length ≤ 1099511627776) :
    Calls Tryz.prog 69 #[v] w fun r w' => ∃ v', r = .returned v' ∧ OwnE w' w.heap.size v' s ∧ Below w.heap.size w w' := by
  obtain ⟨ao, c, e0⟩ := h.shape
  have H := hid h
  subst e0
  clear h
  cases ao with
  | none =>
    have hs : s = [] := by
      rcases H.out with ⟨_, _, _, h0, _⟩ | ⟨g, o, c, hv, _⟩
      · exact h0
      · cases hv
    subst hs
    have he := eqn_nil c
    go_enter Tryz.func69, Tryz.ntmps69
    go_wp2
    go_ret
    exact ⟨_, rfl, OwnE.nil _ _, Below.refl _ _⟩
  | some ad =>
    have HB := hid (below_walk w (.cells #[] 25))
    have HO := hid (show OwnE (w.alloc (.cells #[] 25)) w.heap.size (.slice (some ⟨w.heap.size, 0, none⟩) 0 0) [] from OwnE.made (hp_new w _) (by simp) (Nat.le_refl _) 0 rfl)
    have HE := hid (H.out.alloc (.cells #[] 25))
    have he := eqn_ad ad s.length c
    have HL := hid (show ([] : List Ent).length + s.length ≤ 3298534883328 by simp; omega)
    go_enter Tryz.func69, Tryz.ntmps69
    go_wp2_with (at_builtin; refine app_ent rfl _ _ rfl w.heap.size _ _ rfl HO.out s _ rfl HE.out HL.out HB.out.size ?_; intro vA wA hoA hgA _; have HOB := hid hoA; have HBB := hid (HB.out.grown hgA HB.out.size (fun j hj => (HO.out.lt j hj).1)); clear hoA hgA)
    go_ret
    exact ⟨_, rfl, HOB.out, HBB.out⟩

/-- the first k moved -/
def mvK (d : List UInt8) (s : List Ent) (k : Nat) : List Ent := (s.take k).map (mvE d) ++ s.drop k
theorem mvK_len (d : List UInt8) (s : List Ent) (k : Nat) : (mvK d s k).length = s.length := by
  unfold mvK
  rw [List.length_append, List.length_map, ← List.length_append, List.take_append_drop]
theorem mvK_get (d : List UInt8) {s : List Ent} {k : Nat} (hk : k < s.length) : (mvK d s k).getD k zE = s.getD k zE := by
  unfold mvK
  have h1 : ((s.take k).map (mvE d)).length = k := by rw [List.length_map, List.length_take]; omega
  rw [List.getD_eq_getElem?_getD, List.getElem?_append_right (by omega), h1, Nat.sub_self, List.getElem?_drop, Nat.add_zero, List.getD_eq_getElem?_getD]
theorem mvK_step (d : List UInt8) {s : List Ent} {k : Nat} (hk : k < s.length) : (mvK d s k).set k (mvT d (s.getD k zE).1, ((mvK d s k).getD k zE).2) = mvK d s (k + 1) := by
  rw [mvK_get d hk]
  unfold mvK
  have h1 : ((s.take k).map (mvE d)).length = k := by rw [List.length_map, List.length_take]; omega
  have h2 : s.drop k = s.getD k zE :: s.drop (k + 1) := by
    rw [List.drop_eq_getElem_cons hk]
    simp [List.getD_eq_getElem?_getD, hk]
  rw [List.set_append_right _ _ (by omega), h1, Nat.sub_self, h2, List.set_cons_zero, take_snoc s k hk, List.map_append, List.append_assoc]
  rfl
theorem mvK_all (d : List UInt8) (s : List Ent) : mvK d s s.length = s.map (mvE d) := by
  unfold mvK
  rw [List.take_length, List.drop_length, List.append_nil]
theorem mvOk_all {d : List UInt8} {s : List Ent} (h : ∀ j, j < s.length → okP (mvT d (s.getD j zE).1) = true) : mvOk d s = true := by
  unfold mvOk
  rw [List.all_eq_true]
  intro e he
  obtain ⟨j, hj, rfl⟩ := List.mem_iff_getElem.1 he
  have := h j hj
  rw [List.getD_eq_getElem?_getD, List.getElem?_eq_getElem hj] at this
  exact this
theorem mvOk_bad {d : List UInt8} {s : List Ent} {k : Nat} (hk : k < s.length) (h : okP (mvT d (s.getD k zE).1) = false) : mvOk d s = false := by
  cases e : mvOk d s with
  | false => rfl
  | true =>
    have := List.all_eq_true.1 e _ (getD_mem hk)
    rw [h] at this
    cases this

/-- what moveInto answers -/
def MvA (w' : World) (base : Nat) (r : Ending) (d : List UInt8) (s : List Ent) : Prop :=
  if mvOk d s = true then ∃ v, r = .returned (.tuple #[v, .int .i64 0]) ∧ OwnE w' base v (s.map (mvE d)) else r = .returned (.tuple #[.slice none 0 0, .int .i64 44])

set_option maxRecDepth 100000 in
set_option maxHeartbeats 2000000 in
theorem moveInto_any (v : Value) (s : List Ent) (d : List UInt8) (w : World) (h : Ents w v s) (hs : Rgt s) (hd : okP d = true) :
    Calls Tryz.prog 41 #[.string (mk d), v] w fun r w' => MvA w' w.heap.size r d s ∧ Below w.heap.size w w' := by
  have HC := hid (clone_ents v s w h (by have := hs.many; omega))
  have HS := hid hs
  have HD := hid hd
  have HDS := hid (okP_short hd)
  obtain ⟨ao, c, e0⟩ := h.shape
  subst e0
  clear h hs hd
  go_enter Tryz.func41, Tryz.ntmps41
  go_wp2_with fail
  refine HC.out.mono ?_
  rintro r w1 ⟨v1, rfl, ho1, hb1⟩
  have HB1 := hid hb1
  have HO1 := hid ho1
  obtain ⟨a1, c1, e1⟩ := ho1.ents.shape
  subst e1
  clear ho1 hb1 HC
  go_wp2
  go_loopw [13] (fun i wr => ∃ k : Nat, i = .int .i64 k ∧ k ≤ s.length ∧ OwnE wr w.heap.size (.slice a1 s.length c1) (mvK d s k) ∧ Below w.heap.size w wr ∧ Hid (∀ j, j < k → okP (mvT d (s.getD j zE).1) = true)) (fun i _ => s.length - (intOf i).toNat)
  case atStart => exact ⟨0, rfl, Nat.zero_le _, by unfold mvK; rw [List.take_zero, List.map_nil, List.nil_append, List.drop_zero]; exact HO1.out, HB1.out, hid (fun j hj => by omega)⟩
  case round =>
    obtain ⟨k, rfl, hk, ho, hb, HOK⟩ := hrel
    have HO := hid ho
    have HB := hid hb
    clear hb
    by_cases hlt : k < s.length
    · have hmany := HS.out.many
      have q1 : (k : Int) < (s.length : Int) := by omega
      have q2 : ¬ (k : Int) < 0 := by omega
      have hw1 : IntKind.i64.wrap ((k : Int) + 1) = ((k + 1 : Nat) : Int) := by rw [IntKind.wrap_i64]; omega
      have hlm : k < (mvK d s k).length := by rw [mvK_len]; exact hlt
      rcases ho.forms with ⟨_, h0⟩ | ⟨g, cap, hv, hg1, hg2, hg3, _, hgf, hgc⟩
      · have h1 : (mvK d s k).length = 0 := by rw [h0]; rfl
        rw [mvK_len] at h1
        omega
      · injection hv with hv1 hv2 hv3
        clear hv2 hv3
        subst hv1
        have hat := hgc k hlm
        rw [mvK_get d hlt] at hat
        obtain ⟨c0, _, _⟩ := hat
        have hme := HS.out.may _ (getD_mem hlt)
        have HPK := hid (mayP_ok hme)
        have HPN := hid (mayP_ne hme)
        have HST := hid (mvK_step d hlt)
        have HLM := hid hlm
        have HG1 := hid hg1
        obtain ⟨p, HP⟩ : ∃ p, Hid ((s.getD k zE).1 = p) := ⟨_, rfl⟩
        rw [HP.out] at c0 HPK HPN HST
        have HJ := hid (fun W => join_any (mk d) (.slice (some ⟨wr.heap.size, 0, none⟩) 1 1) [p] W (by rw [bl_mk]; have := HDS.out; omega))
        rw [bl_mk, join_mv HD.out HPK.out HPN.out] at HJ
        have hs1 := strs_one wr (mk p)
        rw [bl_mk] at hs1
        have HS1 := hid hs1
        have HBS := hid (below_walk wr (.cells #[.string (mk p)] 9))
        clear ho hlm hg1 hg3 hgc hme hs1
        cases hok : okP (mvT d p) with
        | true =>
          rw [hok] at HJ
          have HJ2 : Hid (∀ W, Strs W (.slice (some ⟨wr.heap.size, 0, none⟩) 1 1) [p] → Calls Tryz.prog 70 #[.string (mk d), .slice (some ⟨wr.heap.size, 0, none⟩) 1 1] W fun e w' => e = .returned (.tuple #[.string (mk (mvT d p)), .int .i64 0]) ∧ Below W.heap.size W w') := hid (fun W hW => HJ.out W hW (by simp))
          have HOK2 := hid (show ∀ j, j < k + 1 → okP (mvT d (s.getD j zE).1) = true from fun j hj => by
            rcases Nat.lt_succ_iff_lt_or_eq.1 hj with h1 | h1
            · exact HOK.out j h1
            · rw [h1, HP.out]; exact hok)
          clear HJ hok HOK
          go_wp2_with fail
          refine (HJ2.out _ HS1.out).mono ?_
          rintro r w5 ⟨rfl, hb5⟩
          have HB5 := hid (below_then HBS.out hb5)
          have HO5 := hid (HO.out.below HB5.out)
          have HBW := hid (HB.out.trans (HB5.out.mono HB.out.size))
          have c5 : w5.cell? ⟨g, k * 3, none⟩ = some (.string (mk p)) := (HB5.out.cell (p := ⟨g, k * 3, none⟩) hg2).trans c0
          have f5 : w5.frozen? ⟨g, k * 3, none⟩ = false := (World.frozen?_of_block (HB5.out.block g hg2)).trans (hgf (k * 3))
          have HO6 := hid (HO5.out.setP HLM.out (mvT d p))
          rw [HST.out] at HO6
          have HB6 := hid (HBW.out.setCell (p := ⟨g, k * 3, none⟩) HG1.out (.string (mk (mvT d p))))
          clear hb5 HJ2 c0
          go_wp2
          exact ⟨⟨k + 1, by simp, by omega, HO6.out, HB6.out, HOK2⟩, by simp [intOf]; omega⟩
        | false =>
          rw [hok] at HJ
          have HJ2 : Hid (∀ W, Strs W (.slice (some ⟨wr.heap.size, 0, none⟩) 1 1) [p] → Calls Tryz.prog 70 #[.string (mk d), .slice (some ⟨wr.heap.size, 0, none⟩) 1 1] W fun e w' => e = .returned (.tuple #[.string (mk []), .int .i64 44]) ∧ Below W.heap.size W w') := hid (fun W hW => HJ.out W hW (by simp))
          have HBD := hid (mvOk_bad hlt (by rw [HP.out]; exact hok))
          clear HJ hok HOK
          go_wp2_with fail
          refine (HJ2.out _ HS1.out).mono ?_
          rintro r w5 ⟨rfl, hb5⟩
          have HB5 := hid (below_then HBS.out hb5)
          have HBW := hid (HB.out.trans (HB5.out.mono HB.out.size))
          have c5 : w5.cell? ⟨g, k * 3, none⟩ = some (.string (mk p)) := (HB5.out.cell (p := ⟨g, k * 3, none⟩) hg2).trans c0
          have f5 : w5.frozen? ⟨g, k * 3, none⟩ = false := (World.frozen?_of_block (HB5.out.block g hg2)).trans (hgf (k * 3))
          have HB6 := hid (HBW.out.setCell (p := ⟨g, k * 3, none⟩) HG1.out (.string (mk [])))
          clear hb5 HJ2 c0
          go_wp2
          go_ret2
          unfold MvA
          rw [if_neg (by rw [HBD.out]; simp)]
          exact ⟨rfl, HB6.out⟩
    · have q1 : ¬ (k : Int) < (s.length : Int) := by omega
      obtain rfl : k = s.length := by omega
      rw [mvK_all] at HO
      have HAL := hid (mvOk_all HOK.out)
      clear ho
      go_wp2
      go_ret2
      unfold MvA
      rw [if_pos HAL.out]
      exact ⟨⟨_, rfl, HO.out⟩, HB.out⟩

/-- what replaceBelow lays down for an entry -/
def rpF (d : List UInt8) (M : List Ent) (e : Ent) : List Ent := (if lyP d e.1 = true then [] else [e]) ++ (if e.1 = d then M else [])
theorem rpF_len (d : List UInt8) (M : List Ent) (t : List Ent) : (t.flatMap (rpF d M)).length ≤ t.length * (1 + M.length) := by
  induction t with
  | nil => simp
  | cons e t ih =>
    have h1 : (rpF d M e).length ≤ 1 + M.length := by
      unfold rpF
      rw [List.length_append]
      split <;> split <;> simp <;> omega
    rw [List.flatMap_cons, List.length_append, List.length_cons, Nat.add_mul]
    omega
theorem rpF_sz (d : List UInt8) (M : List Ent) (t : List Ent) : szP (t.flatMap (rpF d M)) ≤ szP t + t.length * szP M := by
  induction t with
  | nil => simp [szP]
  | cons e t ih =>
    have h1 : szP (rpF d M e) ≤ e.2.2.length + szP M := by
      unfold rpF
      rw [szP_app]
      have h2 : szP [e] = e.2.2.length := by simp [szP]
      have h3 : szP ([] : List Ent) = 0 := rfl
      split <;> split <;> omega
    have h4 : szP (e :: t) = e.2.2.length + szP t := by simp [szP]
    rw [List.flatMap_cons, szP_app, List.length_cons, Nat.add_mul]
    omega
theorem rpF_snoc (d : List UInt8) (M : List Ent) (t : List Ent) {k : Nat} (hk : k < t.length) : (t.take (k + 1)).flatMap (rpF d M) = (t.take k).flatMap (rpF d M) ++ rpF d M (t.getD k zE) := by
  rw [take_snoc t k hk, List.flatMap_append]
  simp

set_option maxRecDepth 100000 in
set_option maxHeartbeats 2000000 in
theorem replaceBelow_any (vt vm : Value) (t M : List Ent) (d : List UInt8) (w : World) (ht : Ents w vt t) (hm : Ents w vm M) (hn : t.length ≤ 1024) (hl : M.length ≤ 1024) (hd : d.length ≤ 4611686018427387904) :
    Calls Tryz.prog 42 #[vt, .string (mk d), vm] w fun r w' => ∃ v', r = .returned v' ∧ Ents w' v' (rpB d t M) ∧ Below w.heap.size w w' := by
  obtain ⟨ao, c, e0⟩ := ht.shape
  obtain ⟨am, cm, em⟩ := hm.shape
  have HET := hid ht
  have HEM := hid hm
  subst e0 em
  clear ht hm
  by_cases h0 : d = []
  · have HR := hid (show rpB d t M = M from by unfold rpB; rw [if_pos h0])
    have e1 : (mk d).toList = [] := by rw [h0]; exact bl_mk []
    have e2 : ((mk d).toList == []) = true := by rw [e1]; rfl
    clear h0
    generalize mk d = s at *
    go_enter Tryz.func42, Tryz.ntmps42
    go_wp2
    go_ret
    exact ⟨_, rfl, by rw [HR.out]; exact HEM.out, Below.refl _ _⟩
  · have HR := hid (show rpB d t M = t.flatMap (rpF d M) from by unfold rpB; rw [if_neg h0]; rfl)
    have HBF := hid (below_fn d w hd)
    have H0 := hid h0
    have e1 : ¬ (mk d).toList = [] := fun h => h0 ((bl_mk d).symm.trans h)
    have e2 : ((mk d).toList == []) = false := by simpa using e1
    have e3 : (mk d).toList.isEmpty = false := by simpa using e1
    have HDL := hid (bl_mk d)
    clear h0
    obtain ⟨S, HSD⟩ : ∃ S, Hid (mk d = S) := ⟨_, rfl⟩
    rw [HSD.out] at HBF e1 e2 e3 ⊢
    go_enter Tryz.func42, Tryz.ntmps42
    go_wp2_with (go_at_call 33; refine HBF.out.mono ?_; rintro r w4 ⟨f, rfl, hf, hb4⟩; have HB4 := hid hb4; obtain ⟨B, hfe, hBl, hBc⟩ := hf.two H0.out; subst hfe; have HBL := hid hBl; have HBC := hid hBc; clear hf hb4 hBl hBc HBF)
    have HE4 := hid (HET.out.below HB4.out)
    have HM4 := hid (HEM.out.below HB4.out)
    go_loopw [8, 18] (fun x i wr => ∃ k : Nat, i = .int .i64 k ∧ k ≤ t.length ∧ OwnE wr w4.heap.size x ((t.take k).flatMap (rpF d M)) ∧ Below w4.heap.size w4 wr) (fun _ i _ => t.length - (intOf i).toNat)
    case atStart => exact ⟨0, rfl, Nat.zero_le _, OwnE.nil _ _, Below.refl _ _⟩
    case round =>
      obtain ⟨k, rfl, hk, ho, hb⟩ := hrel
      have HO := hid ho
      have HB := hid hb
      obtain ⟨al, xl, e2⟩ := ho.ents.shape
      have hlen := rpF_len d M (t.take k)
      rw [List.length_take, Nat.min_eq_left hk] at hlen
      have hlen2 : ((t.take k).flatMap (rpF d M)).length ≤ 1100000 := by
        refine Nat.le_trans hlen (Nat.le_trans (Nat.mul_le_mul (show k ≤ 1024 by omega) (show 1 + M.length ≤ 1025 by omega)) (by decide))
      have HLL := hid hlen2
      generalize ((t.take k).flatMap (rpF d M)).length = nl at e2
      subst e2
      clear ho hb hlen hlen2
      by_cases hlt : k < t.length
      · have q1 : (k : Int) < (t.length : Int) := by omega
        have hw1 : IntKind.i64.wrap ((k : Int) + 1) = ((k + 1 : Nat) : Int) := by rw [IntKind.wrap_i64]; omega
        obtain ⟨g, o, rfl, hgl, hat⟩ := (HE4.out.below HB.out).at k hlt
        obtain ⟨e, HED⟩ : ∃ e, Hid (t.getD k zE = e) := ⟨_, rfl⟩
        rw [HED.out] at hat
        have HTK := hid (rpF_snoc d M t hlt)
        rw [HED.out] at HTK
        have HCW := hid ((HB.out.cell (p := ⟨B, 0, none⟩) HBL.out).trans HBC.out)
        have HBE := hid (HB.out.alloc HB.out.size (.cells #[.string (mk e.1), .int .i64 e.2.1, .string (mk e.2.2)] 25))
        have HOE := hid (HO.out.below (below_walk wr (.cells #[.string (mk e.1), .int .i64 e.2.1, .string (mk e.2.2)] 25)))
        have HCE := hid (((below_walk wr (.cells #[.string (mk e.1), .int .i64 e.2.1, .string (mk e.2.2)] 25)).cell (p := ⟨B, 0, none⟩) (Nat.lt_of_lt_of_le HBL.out HB.out.size)).trans HCW.out)
        obtain ⟨d0, d1, d2⟩ := hat
        have HLT := hid (fun W (hW : W.cell? ⟨B, 0, none⟩ = some (.string (mk (d ++ [47])))) => lies_two B d e.1 W hW)
        have HLY := hid (show lyP d e.1 = (d ++ [47]).isPrefixOf e.1 from by unfold lyP; rw [decide_eq_false H0.out]; rfl)
        have HEN := hid (ents_one (wr.alloc (.cells #[.string (mk e.1), .int .i64 e.2.1, .string (mk e.2.2)] 25)) e)
        rw [show (wr.alloc (.cells #[.string (mk e.1), .int .i64 e.2.1, .string (mk e.2.2)] 25)).heap.size = wr.heap.size + 1 by simp] at HEN
        have HOA := hid (HOE.out.below (below_walk (wr.alloc (.cells #[.string (mk e.1), .int .i64 e.2.1, .string (mk e.2.2)] 25)) (.cells #[.string (mk e.1), .int .i64 e.2.1, .string (mk e.2.2)] 25)))
        have HBA := hid (HBE.out.alloc HBE.out.size (.cells #[.string (mk e.1), .int .i64 e.2.1, .string (mk e.2.2)] 25))
        have HLA := hid (show ((t.take k).flatMap (rpF d M)).length + [e].length ≤ 3298534883328 by have := HLL.out; simp only [List.length_cons, List.length_nil]; omega)
        have HMA := hid (show ((t.take k).flatMap (rpF d M) ++ [e]).length + M.length ≤ 3298534883328 by have := HLL.out; rw [List.length_append]; simp only [List.length_cons, List.length_nil]; omega)
        have HEBA := hid ((Eb.new wr e).below (below_walk (wr.alloc (.cells #[.string (mk e.1), .int .i64 e.2.1, .string (mk e.2.2)] 25)) (.cells #[.string (mk e.1), .int .i64 e.2.1, .string (mk e.2.2)] 25)))
        by_cases hx : e.1 = d
        · have HF := hid (show (t.take (k + 1)).flatMap (rpF d M) = ((t.take k).flatMap (rpF d M) ++ [e]) ++ M from by
            rw [HTK.out]
            unfold rpF
            rw [hx, ly_self H0.out, if_neg (by simp), if_pos rfl, List.append_assoc])
          have HX := hid (show (d ++ [47]).isPrefixOf e.1 = false from by rw [← HLY.out, hx]; exact ly_self H0.out)
          rw [HX.out] at HLT
          have hxs : mk e.1 = S := by rw [hx]; exact HSD.out
          have e5 : (mk e.1).toList = S.toList := by rw [hxs]
          clear hx hxs
          go_wp2_with (first | (go_at_call 59; refine (HLT.out _ HCE.out).mono ?_; rintro r w5 ⟨rfl, rfl⟩) | (at_builtin; refine app_ent rfl _ _ rfl w4.heap.size _ _ rfl HOA.out [e] _ rfl HEN.out HLA.out HBA.out.size ?_; intro vA wA hoA hgA _; have HOB := hid hoA; have HBB := hid (HBA.out.grown hgA HBA.out.size (fun j hj => (HOA.out.lt j hj).1)); have HEA := hid (HEBA.out.kept hgA (fun e => by have := (HO.out.lt _ e.symm).2; omega)); have ca0 := HEA.out.at.1; obtain ⟨aA, nA, cA, eA⟩ : ∃ a n c, vA = .slice a n c := by {obtain ⟨a, c, e⟩ := hoA.ents.shape; exact ⟨a, _, c, e⟩}; subst eA; clear hoA hgA HOA) | (at_builtin; refine app_ent rfl _ _ rfl w4.heap.size _ _ rfl HOB.out M _ rfl (HM4.out.below HBB.out) HMA.out HBB.out.size ?_; intro vC wC hoC hgC _; have HOC := hid hoC; have HBC2 := hid (HBB.out.grown hgC HBB.out.size (fun j hj => (HOB.out.lt j hj).1)); obtain ⟨aC, nC, cC, eC⟩ : ∃ a n c, vC = .slice a n c := by {obtain ⟨a, c, e⟩ := hoC.ents.shape; exact ⟨a, _, c, e⟩}; subst eC; clear hoC hgC))
          exact ⟨⟨k + 1, by simp, by omega, by rw [HF.out]; exact HOC.out, HBC2.out⟩, by simp [intOf]; omega⟩
        · have e5 : ¬ (mk e.1).toList = S.toList := fun h => hx (by have h2 : bl (mk e.1) = bl S := h; rw [bl_mk, ← HSD.out, bl_mk] at h2; exact h2)
          have e6 : ((mk e.1).toList == S.toList) = false := by simpa using e5
          have e7 : ¬ mk e.1 = S := fun h => e5 (by rw [h])
          have HF := hid (show (t.take (k + 1)).flatMap (rpF d M) = (t.take k).flatMap (rpF d M) ++ (if (d ++ [47]).isPrefixOf e.1 = true then [] else [e]) from by
            rw [HTK.out]
            unfold rpF
            rw [HLY.out, if_neg hx, List.append_nil])
          have ca := (Eb.new wr e).at.1
          clear hx
          generalize (d ++ [47]).isPrefixOf e.1 = X at *
          cases X with
          | true =>
            rw [if_pos rfl, List.append_nil] at HF
            go_wp2_with (go_at_call 59; refine (HLT.out _ HCE.out).mono ?_; rintro r w5 ⟨rfl, rfl⟩)
            exact ⟨⟨k + 1, by simp, by omega, by rw [HF.out]; exact HOE.out, HBE.out⟩, by simp [intOf]; omega⟩
          | false =>
            rw [if_neg (by simp)] at HF
            go_wp2_with (first | (go_at_call 59; refine (HLT.out _ HCE.out).mono ?_; rintro r w5 ⟨rfl, rfl⟩) | (at_builtin; refine app_ent rfl _ _ rfl w4.heap.size _ _ rfl HOA.out [e] _ rfl HEN.out HLA.out HBA.out.size ?_; intro vA wA hoA hgA _; have HOB := hid hoA; have HBB := hid (HBA.out.grown hgA HBA.out.size (fun j hj => (HOA.out.lt j hj).1)); have HEA := hid (HEBA.out.kept hgA (fun e => by have := (HO.out.lt _ e.symm).2; omega)); have ca0 := HEA.out.at.1; obtain ⟨aA, nA, cA, eA⟩ : ∃ a n c, vA = .slice a n c := by {obtain ⟨a, c, e⟩ := hoA.ents.shape; exact ⟨a, _, c, e⟩}; subst eA; clear hoA hgA HOA))
            exact ⟨⟨k + 1, by simp, by omega, by rw [HF.out]; exact HOB.out, HBB.out⟩, by simp [intOf]; omega⟩
      · have q1 : ¬ (k : Int) < (t.length : Int) := by omega
        obtain rfl : k = t.length := by omega
        rw [List.take_length] at HO
        go_wp2
        go_ret
        exact ⟨_, rfl, by rw [HR.out]; exact HO.out.ents, HB4.out.trans (HB.out.mono HB4.out.size)⟩

end Go.Proofs.YteijkbanlpodpaaGreatDoor

/- An answer of a whole struct that lies in a variable, and a value beside it. -/
namespace Go.Proofs.YteijkbanlpodpaaGreatDoor
open Go.RowKit

theorem results_cell2 {fn : Func} {p q : Tmp} {ty : TypeId} (h : fn.results = #[.cell p ty, .tmp q]) (tmps : Array Value) (P : Program) (w : World) :
    (results fn tmps).run P w = ((asAddr (tmps.getD p undef)).run P w).andThen fun a w₁ => ((loadVar ty a).run P w₁).andThen fun v w₂ => .ok (.tuple #[v, tmps.getD q undef]) w₂ := by
  simp only [results, h]
  simp [Sem.run_bind, Result.andThen]
/-- the answer is a whole row that lies in a variable, and a number -/
theorem ret_row2 {P : Program} {fn : Func} {R : Ending → World → Prop} {a : Act} {w : World} (p q : Tmp) (ty : TypeId) (h : fn.results = #[.cell p ty, .tmp q]) (g : Nat) (hp : a.tmps.getD p undef = .pointer (some ⟨g, 0, none⟩))
    (cs : List Value) (t : TypeId) (hb : w.heap[g]? = some (.cells cs.toArray t (0, 0))) (d : TypeDesc) (hu : P.underlying ty = some d) (hd : d.isRow = true) (hi : (P.info? ty).map (·.size) = some cs.length)
    (v : Value) (hq : a.tmps.getD q undef = v) (hdf : a.defers = []) (hR : R (.returned (.tuple #[.agg cs.toArray, v])) w) : bodyPost P fn R .ret a w := by
  refine bodyPost_ret (v := .tuple #[.agg cs.toArray, v]) ?_ hdf hR
  rw [results_cell2 h, hp, hq]
  have := run_loadVar_mid (P := P) w g 0 ty cs d (fun j v hv => by rw [Nat.zero_add, cell_of_row w g j cs.toArray t (0, 0) hb]; simpa using hv) hu hd hi
  simp [asAddr, this]

end Go.Proofs.YteijkbanlpodpaaGreatDoor

/- The program's Find. -/
namespace Go.Proofs.YteijkbanlpodpaaGreatDoor
open Go.RowKit Go.BigFrame

/-- what stands at a path, of whatever entries -/
def fnP (t : List Ent) (p : List UInt8) : Ent := if (chkP t).2 = 0 ∧ okP p = true then stP t p else zE
theorem st_shr {t : List Ent} {p : List UInt8} (h : ∀ e ∈ t, mayP e = true) : Shr (stP t p) := by
  unfold stP
  cases hf : fdP t p with
  | none => exact ⟨by simp [zE], by simp [zE]⟩
  | some e => exact may_shr' (h e (fdP_some hf).1)
theorem ebz (w : World) : Eb (w.alloc (.cells #[.string ⟨#[]⟩, .int .i64 0, .string ⟨#[]⟩] 25)) w.heap.size zE := hp_new _ _

theorem eb_other {w : World} {g d i : Nat} {e : Ent} (h : Eb w g e) (hd : g ≠ d) (v : Value) : Eb (w.setCell ⟨d, i, none⟩ v) g e := (Below.heap_setCell w _ v g (by simpa using hd)).trans h

end Go.Proofs.YteijkbanlpodpaaGreatDoor

/- The program's Put. -/
namespace Go.Proofs.YteijkbanlpodpaaGreatDoor
open Go.RowKit Go.BigFrame

/-- a tree with an entry put in -/
def puL (t : List Ent) (e : Ent) : List Ent := t.take (plP t e.1) ++ ([e] ++ t.drop (plP t e.1 + (if thP t e.1 then 1 else 0)))
def putP (t : List Ent) (e : Ent) : Except Int (List Ent) :=
  if (chkP t).2 ≠ 0 then .error (chkP t).2 else if mayP e = false then .error 50 else if dirP t (spD e.1) = false then .error 52
  else if thP t e.1 = true ∧ decide ((stP t e.1).2.1 = 2) ≠ decide (e.2.1 = 2) then .error 9 else fitP (puL t e)
theorem trs_three {w W : World} {v1 v2 v3 : Value} {t1 t2 t3 : List Ent} {T : TypeId} {g : Nat} (h1 : Ents w v1 t1) (h2 : Ents w v2 t2) (h3 : Ents w v3 t3) (hW : W.heap = (w.alloc (.cells #[v1, v2, v3] T)).heap) (hg : g = w.heap.size) : Trs W (.slice (some ⟨g, 0, none⟩) 3 3) [t1, t2, t3] := by
  subst hg
  have hc : ∀ a : Addr, W.cell? a = (w.alloc (.cells #[v1, v2, v3] T)).cell? a := fun a => by simp only [World.cell?, hW]
  have he : ∀ {v : Value} {t : List Ent}, Ents w v t → Ents W v t := by
    intro v t h
    have h' := h.alloc (.cells #[v1, v2, v3] T)
    rcases h' with h' | ⟨g, o, c, hv, hlt, hl, hcc⟩
    · exact Or.inl h'
    · exact Or.inr ⟨g, o, c, hv, by rw [hW]; exact hlt, hl, fun j hj => by have := hcc j hj; unfold EntAt at this ⊢; rw [hc, hc, hc]; exact this⟩
  refine ⟨w.heap.size, 3, rfl, by rw [hW]; simp, fun j hj => ?_⟩
  have hj : j = 0 ∨ j = 1 ∨ j = 2 := by simp at hj; omega
  rcases hj with rfl | rfl | rfl
  · exact ⟨v1, by rw [hc]; simp, he h1⟩
  · exact ⟨v2, by rw [hc]; simp, he h2⟩
  · exact ⟨v3, by rw [hc]; simp, he h3⟩
theorem ansE_shape {w : World} {b : Nat} {r : Ending} {x : Except Int (List Ent)} (h : AnsE w b r x) : ∃ (ao : Option Addr) (n c : Nat) (E : Int), r = .returned (.tuple #[.slice ao n c, .int .i64 E]) := by
  cases x with
  | ok l =>
    obtain ⟨v, e, ho⟩ := h
    obtain ⟨a, c, ev⟩ := ho.ents.shape
    exact ⟨a, _, c, 0, by rw [e, ev]⟩
  | error E => exact ⟨none, 0, 0, E, h⟩
theorem ansE_le {w : World} {b b' : Nat} {r : Ending} {x : Except Int (List Ent)} (h : AnsE w b r x) (hb : b' ≤ b) : AnsE w b' r x := by
  cases x with
  | ok l => obtain ⟨v, e, ho⟩ := h; exact ⟨v, e, ho.le hb⟩
  | error E => exact h
theorem sz_le {t : List Ent} (h : ∀ e ∈ t, mayP e = true) : szP t ≤ t.length * 65536 := by
  induction t with
  | nil => simp [szP]
  | cons x t ih =>
    have h1 := ih (fun e he => h e (by simp [he]))
    have h2 := h x (by simp)
    unfold mayP at h2
    simp only [Bool.and_eq_true, decide_eq_true_iff] at h2
    have h3 : x.2.2.length ≤ 65536 := by
      rcases h2.2 with h3 | h3 | h3
      · exact h3.2
      · rw [h3.2]; simp
      · omega
    have h4 : szP (x :: t) = x.2.2.length + szP t := by simp [szP]
    rw [h4, List.length_cons]
    omega
theorem puL_may {t : List Ent} {e : Ent} (h : ∀ x ∈ t, mayP x = true) (he : mayP e = true) : ∀ x ∈ puL t e, mayP x = true := by
  intro x hx
  unfold puL at hx
  rw [List.mem_append, List.mem_append, List.mem_singleton] at hx
  rcases hx with hx | rfl | hx
  · exact h x (List.mem_of_mem_take hx)
  · exact he
  · exact h x (List.mem_of_mem_drop hx)
theorem puL_len (t : List Ent) (e : Ent) : (puL t e).length ≤ t.length + 1 := by
  unfold puL
  have h2 := plP_le t e.1
  rw [List.length_append, List.length_append, List.length_take, List.length_drop]
  simp only [List.length_cons, List.length_nil]
  omega

set_option maxRecDepth 100000 in
set_option maxHeartbeats 4000000 in
theorem put_any (v : Value) (t : List Ent) (e : Ent) (w : World) (h : Ents w v t) (hs : Short t) (hn : t.length ≤ 4611686018427387904) (hel : e.1.length ≤ 4611686018427387904) :
    Calls Tryz.prog 6 #[v, entA e] w fun r w' => AnsE w' w.heap.size r (putP t e) ∧ Below w.heap.size w w' := by
  obtain ⟨E0, HE0⟩ : ∃ E : Int, Hid ((chkP t).2 = E) := ⟨_, rfl⟩
  have HB0 := hid (below_walk w (.cells #[.string (mk e.1), .int .i64 e.2.1, .string (mk e.2.2)] 25))
  have HN0 := hid (Eb.new w e)
  have HR := hid (right_one v t (w.alloc (.cells #[.string (mk e.1), .int .i64 e.2.1, .string (mk e.2.2)] 25)) (h.below HB0.out) hs hn E0 HE0.out)
  have HSZ := hid (show (w.alloc (.cells #[.string (mk e.1), .int .i64 e.2.1, .string (mk e.2.2)] 25)).heap.size = w.heap.size + 1 by simp)
  rw [HSZ.out] at HR
  have HET := hid h
  have HM := hid (fun W : World => may_any e W (by omega))
  have HPA := hid (fun W : World => parent_any e.1 W (by omega))
  obtain ⟨ao, c, rfl⟩ := h.shape
  unfold entA at HM ⊢
  clear h hs
  by_cases h0 : E0 = 0
  ·
    subst h0
    have HRT := hid (rgt_iff.1 HE0.out)
    cases hmy : mayP e with
    | false =>
      have HAP := hid (show putP t e = .error 50 from by unfold putP; rw [if_neg (by simpa using HE0.out), if_pos hmy])
      rw [hmy] at HM
      clear hmy
      go_enter Tryz.func6, Tryz.ntmps6
      go_wp2_with fail
      refine HR.out.mono ?_
      rintro r w1 ⟨rfl, hb1⟩
      rw [← HSZ.out] at hb1
      have HB1 := hid (below_then HB0.out hb1)
      have HN1 := hid (HN0.out.below hb1)
      clear hb1 HR HB0 HN0
      obtain ⟨e0, e1, e2⟩ := HN1.out.at
      go_wp2_with (first | (go_at_call 19; refine (HM.out _).mono ?_; rintro r w2 ⟨rfl, hb2⟩; have HB2 := hid (below_then HB1.out hb2); have HN2 := hid (HN1.out.below hb2); clear hb2; clear e0 e1 e2; obtain ⟨e0, e1, e2⟩ := HN2.out.at))
      go_ret2
      rw [HAP.out]
      exact ⟨rfl, HB2.out⟩
    | true =>
      rw [hmy] at HM
      have HMY := hid hmy
      have hok := mayP_ok hmy
      have HID := hid (fun W (hW : Below w.heap.size w W) => isDir_any _ t (spD e.1) W (HET.out.below hW) HRT.out.up (fun x hx => mayP_ok (HRT.out.may x hx)) (okP_spD hok) HRT.out.many)
      have HPL := hid (fun W (hW : Below w.heap.size w W) => place_any _ t e.1 W (HET.out.below hW) HRT.out.up (fun x hx => mayP_ok (HRT.out.may x hx)) hok HRT.out.many)
      have HAP0 := hid (show putP t e = if dirP t (spD e.1) = false then .error 52 else if thP t e.1 = true ∧ decide ((stP t e.1).2.1 = 2) ≠ decide (e.2.1 = 2) then .error 9 else fitP (puL t e) from by unfold putP; rw [if_neg (by simpa using HE0.out), if_neg (by rw [hmy]; simp)])
      clear hmy hok
      cases hdr : dirP t (spD e.1) with
      | false =>
        have HAP := hid (HAP0.out.trans (if_pos hdr))
        rw [hdr] at HID
        clear hdr HAP0
        generalize mk (spD e.1) = sd at *
        go_enter Tryz.func6, Tryz.ntmps6
        go_wp2_with fail
        refine HR.out.mono ?_
        rintro r w1 ⟨rfl, hb1⟩
        rw [← HSZ.out] at hb1
        have HB1 := hid (below_then HB0.out hb1)
        have HN1 := hid (HN0.out.below hb1)
        clear hb1 HR HB0 HN0
        obtain ⟨e0, e1, e2⟩ := HN1.out.at
        go_wp2_with (first | (go_at_call 19; refine (HM.out _).mono ?_; rintro r w2 ⟨rfl, hb2⟩; have HB2 := hid (below_then HB1.out hb2); have HN2 := hid (HN1.out.below hb2); clear hb2; clear e0 e1 e2; obtain ⟨e0, e1, e2⟩ := HN2.out.at) | (go_at_call 21; refine (HPA.out _).mono ?_; rintro r w3 ⟨rfl, n3, rfl⟩; have HB3 := hid (below_n HB2.out n3); have HN3 := hid (show Eb (w2.drewN n3) w.heap.size e from HN2.out); generalize w2.drewN n3 = w3 at *; clear e0 e1 e2; obtain ⟨e0, e1, e2⟩ := HN3.out.at) | (go_at_call 20; refine (HID.out _ HB3.out).mono ?_; rintro r w4 ⟨rfl, hb4⟩; have HB4 := hid (below_then HB3.out hb4); have HN4 := hid (HN3.out.below hb4); clear hb4; clear e0 e1 e2; obtain ⟨e0, e1, e2⟩ := HN4.out.at))
        go_ret2
        rw [HAP.out]
        exact ⟨rfl, HB4.out⟩
      | true =>
        rw [if_neg (by rw [hdr]; simp)] at HAP0
        rw [hdr] at HID
        clear hdr
        have HCC := hid (fun (ts : List (List Ent)) (W : World) (u : Value) (hu : Trs W u ts) (hl : ts.length ≤ 3) (hf : ts.flatten.length ≤ 1048576) => concat_any u ts W hu (by omega) (by omega))
        have HFT := hid (fun (W : World) (u : Value) (hu : Ents W u (puL t e)) => fit_any u (puL t e) W hu (by have := puL_len t e; have := HRT.out.many; omega) (fun x hx => may_shr' (puL_may HRT.out.may HMY.out x hx)) (by have h1 := sz_le (puL_may HRT.out.may HMY.out); have := puL_len t e; have := HRT.out.many; omega))
        have HPL0 := hid (plP_le t e.1)
        have HTH := hid (plP_th (t := t) (p := e.1) HRT.out.up)
        obtain ⟨v1, hv1, hs1⟩ := ecut_to HET.out (plP t e.1) (plP_le _ _)
        have HV1 := hid hv1
        obtain ⟨q1, m1, r1, ev1⟩ : ∃ a n c, v1 = .slice a n c := by obtain ⟨a, c, ev⟩ := hv1.shape; exact ⟨a, _, c, ev⟩
        subst ev1
        have HPU := hid (show puL t e = t.take (plP t e.1) ++ ([e] ++ t.drop (plP t e.1 + (if thP t e.1 then 1 else 0))) from rfl)
        obtain ⟨I, HII⟩ : ∃ I : Nat, Hid (plP t e.1 = I) := ⟨_, rfl⟩
        rw [HII.out] at HPL HTH HPL0 hs1 HV1 HPU
        have HS1 := hid hs1
        have HLT := hid HRT.out.many
        clear hv1
        generalize mk (spD e.1) = sd at *
        cases hth : thP t e.1 with
        | false =>
          obtain ⟨v2, hv2, hs2⟩ := ecut_from HET.out I HPL0.out
          have HV2 := hid hv2
          obtain ⟨q2, m2, r2, ev2⟩ : ∃ a n c, v2 = .slice a n c := by obtain ⟨a, c, ev⟩ := hv2.shape; exact ⟨a, _, c, ev⟩
          subst ev2
          rw [hth] at HPL HPU
          have HAP := hid (HAP0.out.trans (if_neg (fun h9 => by rw [hth] at h9; exact absurd h9.1 (by simp))))
          rw [if_neg (by simp), Nat.add_zero] at HPU
          clear hv2 hth HAP0 HTH
          go_enter Tryz.func6, Tryz.ntmps6
          go_wp2_with fail
          refine HR.out.mono ?_
          rintro r w1 ⟨rfl, hb1⟩
          rw [← HSZ.out] at hb1
          have HB1 := hid (below_then HB0.out hb1)
          have HN1 := hid (HN0.out.below hb1)
          clear hb1 HR HB0 HN0
          obtain ⟨e0, e1, e2⟩ := HN1.out.at
          go_wp2_with (first | (go_at_call 19; refine (HM.out _).mono ?_; rintro r w2 ⟨rfl, hb2⟩; have HB2 := hid (below_then HB1.out hb2); have HN2 := hid (HN1.out.below hb2); clear hb2; clear e0 e1 e2; obtain ⟨e0, e1, e2⟩ := HN2.out.at) | (go_at_call 21; refine (HPA.out _).mono ?_; rintro r w3 ⟨rfl, n3, rfl⟩; have HB3 := hid (below_n HB2.out n3); have HN3 := hid (show Eb (w2.drewN n3) w.heap.size e from HN2.out); generalize w2.drewN n3 = w3 at *; clear e0 e1 e2; obtain ⟨e0, e1, e2⟩ := HN3.out.at) | (go_at_call 20; refine (HID.out _ HB3.out).mono ?_; rintro r w4 ⟨rfl, hb4⟩; have HB4 := hid (below_then HB3.out hb4); have HN4 := hid (HN3.out.below hb4); clear hb4; clear e0 e1 e2; obtain ⟨e0, e1, e2⟩ := HN4.out.at) | (go_at_call 22; refine (HPL.out _ HB4.out).mono ?_; rintro r w5 ⟨rfl, hb5⟩; have HB5 := hid (below_then HB4.out hb5); have HN5 := hid (HN4.out.below hb5); clear hb5; clear e0 e1 e2; obtain ⟨e0, e1, e2⟩ := HN5.out.at))
          have HEz := HN5
          have HBz := HB5
          clear HN5 HB5
          have HEy := hid (HEz.out.below (below_walk w5 (.cells #[.string (mk e.1), .int .i64 e.2.1, .string (mk e.2.2)] 25)))
          have HBy := hid (below_then HBz.out (below_walk w5 (.cells #[.string (mk e.1), .int .i64 e.2.1, .string (mk e.2.2)] 25)))
          have HO1 := hid (ents_one w5 e)
          have HVA := hid (HV1.out.below HBy.out)
          have HVB := hid (HV2.out.below HBy.out)
          clear e0 e1 e2
          go_wp2_with fail
          refine wp_noPanic (wp_region_held_drew (S := fun W => Eb W w.heap.size e) (by kernel_rfl) HEz.out ?_)
          intro hHeld
          refine wpAnyH_take (i := 0) (v := .slice ao t.length c) rfl (by kernel_rfl) (by kernel_rfl) (by kernel_rfl) (fun _ _ _ h => h) (Or.inl ⟨by rfl, fun W _ => by go_simp⟩) hHeld ?_
          simp only [Act.put, List.getElem_toArray, List.getElem_cons_zero, List.setIfInBounds_toArray, List.set_cons_succ, List.set_cons_zero]
          refine wpAnyH_take (i := 1) (v := .int .i64 (I : Int)) rfl (by kernel_rfl) (by kernel_rfl) (by kernel_rfl) (fun _ _ _ h => h) (Or.inl ⟨by rfl, fun W _ => by go_simp⟩) hHeld ?_
          simp only [Act.put, List.getElem_toArray, List.getElem_cons_zero, List.getElem_cons_succ, List.setIfInBounds_toArray, List.set_cons_succ, List.set_cons_zero]
          refine wpAnyH_take (i := 2) (v := .slice q1 m1 r1) rfl (by kernel_rfl) (by kernel_rfl) (by kernel_rfl) (fun _ _ _ h => h) (Or.inl ⟨by rfl, fun W _ => by have hfact := HS1.out W; go_simp; first | done | simp [hfact]⟩) hHeld ?_
          simp only [Act.put, List.getElem_toArray, List.getElem_cons_zero, List.getElem_cons_succ, List.setIfInBounds_toArray, List.set_cons_succ, List.set_cons_zero]
          refine wpAnyH_take (i := 3) (v := .agg #[.string (mk e.1), .int .i64 e.2.1, .string (mk e.2.2)]) rfl (by kernel_rfl) (by kernel_rfl) (by kernel_rfl) (fun _ _ _ h => h) (Or.inl ⟨by rfl, fun W hW => by obtain ⟨h0, h1, h2⟩ := hW.at; clear hW; go_simp⟩) hHeld ?_
          simp only [Act.put, List.getElem_toArray, List.getElem_cons_zero, List.getElem_cons_succ, List.setIfInBounds_toArray, List.set_cons_succ, List.set_cons_zero]
          refine wpAnyH_take (i := 5) (v := .slice q2 m2 r2) rfl (by kernel_rfl) (by kernel_rfl) (by kernel_rfl) (fun _ _ _ h => h) (Or.inl ⟨by rfl, fun W _ => by go_simp⟩) hHeld ?_
          simp only [Act.put, List.getElem_toArray, List.getElem_cons_zero, List.getElem_cons_succ, List.setIfInBounds_toArray, List.set_cons_succ, List.set_cons_zero]
          refine wpAnyH_ready (rs := [4]) (by kernel_rfl) (by simp) ?_
          refine AllReadyH.cons rfl (fun K hK => ?_) AllReadyH.nil
          go_simp
          refine hK.out _ _ (show Eb _ w.heap.size e from HEy.out) (fun hHeld => ?_)
          clear hK K
          refine wpAnyH_ready (rs := [6]) (by kernel_rfl) (by simp) ?_
          refine AllReadyH.cons rfl (fun K hK => ?_) AllReadyH.nil
          go_simp
          have HEx := hid (HEy.out.below (below_walk (w5.alloc (.cells #[.string (mk e.1), .int .i64 e.2.1, .string (mk e.2.2)] 25)) (.cells #[.slice q1 m1 r1, .slice (some ⟨w5.heap.size, 0, none⟩) 1 1, .slice q2 m2 r2] 22)))
          have HBx := hid (below_then HBy.out (below_walk (w5.alloc (.cells #[.string (mk e.1), .int .i64 e.2.1, .string (mk e.2.2)] 25)) (.cells #[.slice q1 m1 r1, .slice (some ⟨w5.heap.size, 0, none⟩) 1 1, .slice q2 m2 r2] 22)))
          refine hK.out _ _ (show Eb _ w.heap.size e from HEx.out) (fun hHeld => ?_)
          clear hK K
          refine wpAnyH_ready (rs := [7]) (by kernel_rfl) (by simp) ?_
          refine AllReadyH.cons rfl (fun K hK => ?_) AllReadyH.nil
          go_simp
          refine (HCC.out [t.take I, [e], t.drop (I)] ((w5.alloc (.cells #[.string (mk e.1), .int .i64 e.2.1, .string (mk e.2.2)] 25)).alloc (.cells #[.slice q1 m1 r1, .slice (some ⟨w5.heap.size, 0, none⟩) 1 1, .slice q2 m2 r2] 22)).drew _ (trs_three (g := w5.heap.size + 1) HVA.out HO1.out HVB.out rfl (by simp)) (by simp) (by have := HLT.out; simp [List.length_take, List.length_drop]; omega)).mono ?_
          rintro r w7 ⟨v7, rfl, ho7, hb7⟩
          have hfl : [t.take I, [e], t.drop (I)].flatten = puL t e := by rw [HPU.out]; simp
          rw [hfl] at ho7
          have HO7 := hid ho7.ents
          obtain ⟨a7, n7, c7, ev7⟩ : ∃ a n c, v7 = .slice a n c := by obtain ⟨a, c, ev⟩ := ho7.ents.shape; exact ⟨a, _, c, ev⟩
          subst ev7
          have HB7 := hid (below_then HBx.out ⟨hb7.os, hb7.tape, hb7.output, hb7.size, hb7.block⟩)
          have HE7 := hid (HEx.out.below ⟨hb7.os, hb7.tape, hb7.output, hb7.size, hb7.block⟩)
          clear ho7 hb7 hfl
          go_wp2_with fail
          refine hK.out _ _ HE7.out (fun hHeld => ?_)
          clear hK K
          refine wpAnyH_ready (rs := [8]) (by kernel_rfl) (by simp) ?_
          refine AllReadyH.cons rfl (fun K hK => ?_) AllReadyH.nil
          go_simp
          refine (HFT.out _ _ HO7.out).mono ?_
          rintro r w8 ⟨ha8, hb8⟩
          obtain ⟨a8, n8, c8, E8, er8⟩ := ansE_shape ha8
          subst er8
          have HA8 := hid ha8
          have HB8 := hid (below_then HB7.out hb8)
          have HE8 := hid (HE7.out.below hb8)
          clear ha8 hb8
          go_wp2_with fail
          refine hK.out _ _ HE8.out (fun hHeld => ?_)
          clear hK K
          refine wpAnyH_take (i := 9) (v := .slice a8 n8 c8) rfl (by kernel_rfl) (by kernel_rfl) (by kernel_rfl) (fun _ _ _ h => h) (Or.inl ⟨by rfl, fun W _ => by go_simp⟩) hHeld ?_
          simp only [Act.put, List.getElem_toArray, List.getElem_cons_zero, List.getElem_cons_succ, List.setIfInBounds_toArray, List.set_cons_succ, List.set_cons_zero]
          refine wpAnyH_take (i := 10) (v := .int .i64 E8) rfl (by kernel_rfl) (by kernel_rfl) (by kernel_rfl) (fun _ _ _ h => h) (Or.inl ⟨by rfl, fun W _ => by go_simp⟩) hHeld ?_
          simp only [Act.put, List.getElem_toArray, List.getElem_cons_zero, List.getElem_cons_succ, List.setIfInBounds_toArray, List.set_cons_succ, List.set_cons_zero]
          refine wpAnyH_take (i := 11) (v := .slice a8 n8 c8) rfl (by kernel_rfl) (by kernel_rfl) (by kernel_rfl) (fun _ _ _ h => h) (Or.inl ⟨by rfl, fun W _ => by go_simp⟩) hHeld ?_
          simp only [Act.put, List.getElem_toArray, List.getElem_cons_zero, List.getElem_cons_succ, List.setIfInBounds_toArray, List.set_cons_succ, List.set_cons_zero]
          refine wpAnyH_take (i := 12) (v := .int .i64 E8) rfl (by kernel_rfl) (by kernel_rfl) (by kernel_rfl) (fun _ _ _ h => h) (Or.inl ⟨by rfl, fun W _ => by go_simp⟩) hHeld ?_
          simp only [Act.put, List.getElem_toArray, List.getElem_cons_zero, List.getElem_cons_succ, List.setIfInBounds_toArray, List.set_cons_succ, List.set_cons_zero]
          refine wpAnyH_done (by kernel_rfl) ?_ _
          simp only [noPanic]
          clear hHeld
          go_wp2_with fail
          go_ret2
          rw [HAP.out]
          exact ⟨ansE_le HA8.out HB7.out.size, HB8.out⟩
        | true =>
          obtain ⟨hI, hsI⟩ := HTH.out hth
          rw [hth] at HPL HPU HAP0
          rw [if_pos rfl] at HPU
          obtain ⟨v2, hv2, hs2⟩ := ecut_from HET.out I HPL0.out
          obtain ⟨v3, hv3, hs3⟩ := ecut_from HET.out (I + 1) (by omega)
          have HV2 := hid hv3
          obtain ⟨q3, m3, r3, ev2⟩ : ∃ a n c, v2 = .slice a n c := by obtain ⟨a, c, ev⟩ := hv2.shape; exact ⟨a, _, c, ev⟩
          subst ev2
          obtain ⟨q2, m2, r2, ev3⟩ : ∃ a n c, v3 = .slice a n c := by obtain ⟨a, c, ev⟩ := hv3.shape; exact ⟨a, _, c, ev⟩
          subst ev3
          rw [show ((I + 1 : Nat) : Int) = (I : Int) + 1 from by omega] at hs3
          have hw2 : IntKind.i64.wrap ((I : Int) + 1) = (I : Int) + 1 := by rw [IntKind.wrap_i64]; have := HLT.out; omega
          have q4 : (I : Int) < (t.length : Int) := by omega
          obtain ⟨g, o, rfl, hgl, hat⟩ := HET.out.at I hI
          rw [hsI] at hat
          have HAT := hid hat
          have HGL := hid hgl
          obtain ⟨K1, HK1⟩ : ∃ K : Int, Hid ((stP t e.1).2.1 = K) := ⟨_, rfl⟩
          obtain ⟨K2, HK2⟩ : ∃ K : Int, Hid (e.2.1 = K) := ⟨_, rfl⟩
          rw [HK1.out, HK2.out] at HAP0
          clear hv2 hv3 hth HTH hat hgl hsI
          by_cases hk1 : K1 = 2
          ·
            have z1 : (K1 == 2) = true := by rw [hk1]; rfl
            by_cases hk2 : K2 = 2
            ·
              have z2 : (K2 == 2) = true := by rw [hk2]; rfl
              have HAP := hid (HAP0.out.trans (if_neg (fun h9 => h9.2 (by simp [hk1, hk2]))))
              clear HAP0
              subst hk1
              have hk2b := hk2
              go_enter Tryz.func6, Tryz.ntmps6
              go_wp2_with fail
              refine HR.out.mono ?_
              rintro r w1 ⟨rfl, hb1⟩
              rw [← HSZ.out] at hb1
              have HB1 := hid (below_then HB0.out hb1)
              have HN1 := hid (HN0.out.below hb1)
              clear hb1 HR HB0 HN0
              obtain ⟨e0, e1, e2⟩ := HN1.out.at
              go_wp2_with (first | (go_at_call 19; refine (HM.out _).mono ?_; rintro r w2 ⟨rfl, hb2⟩; have HB2 := hid (below_then HB1.out hb2); have HN2 := hid (HN1.out.below hb2); clear hb2; clear e0 e1 e2; obtain ⟨e0, e1, e2⟩ := HN2.out.at) | (go_at_call 21; refine (HPA.out _).mono ?_; rintro r w3 ⟨rfl, n3, rfl⟩; have HB3 := hid (below_n HB2.out n3); have HN3 := hid (show Eb (w2.drewN n3) w.heap.size e from HN2.out); generalize w2.drewN n3 = w3 at *; clear e0 e1 e2; obtain ⟨e0, e1, e2⟩ := HN3.out.at) | (go_at_call 20; refine (HID.out _ HB3.out).mono ?_; rintro r w4 ⟨rfl, hb4⟩; have HB4 := hid (below_then HB3.out hb4); have HN4 := hid (HN3.out.below hb4); clear hb4; clear e0 e1 e2; obtain ⟨e0, e1, e2⟩ := HN4.out.at) | (go_at_call 22; refine (HPL.out _ HB4.out).mono ?_; rintro r w5 ⟨rfl, hb5⟩; have HB5 := hid (below_then HB4.out hb5); have HN5 := hid (HN4.out.below hb5); clear hb5; clear e0 e1 e2; obtain ⟨e0, e1, e2⟩ := HN5.out.at))
              have HLB := hid (hp_lt HN5.out)
              have k1 := (HAT.out.below HGL.out HB5.out).2.1
              rw [HK1.out] at k1
              rw [HK2.out] at e1
              have x1 := fun p : Bel w5 => p.cell k1 (Nat.lt_of_lt_of_le HGL.out HB5.out.size)
              have x2 := fun p : Bel w5 => p.cell e1 HLB.out
              have ib : Nonempty (Bel w5) := bel_some w5
              clear k1
              refine wp_region_quiet_bel (by kernel_rfl) (by kernel_rfl) ?_
              repeat (go_big_quiet_step (fail))
              refine wpQuiet_nil ?_
              rintro w6 ⟨⟨w6', hb6⟩, hw6⟩
              obtain rfl : w6 = w6' := hw6
              have HB6 := hid (below_then HB5.out hb6)
              have HN6 := hid (HN5.out.below hb6)
              clear hb6 x1 x2 ib e0 e1 e2 HB5 HN5
              obtain ⟨e0, e1, e2⟩ := HN6.out.at
              have HEz := HN6
              have HBz := HB6
              clear HN6 HB6
              have HEy := hid (HEz.out.below (below_walk w6 (.cells #[.string (mk e.1), .int .i64 e.2.1, .string (mk e.2.2)] 25)))
              have HBy := hid (below_then HBz.out (below_walk w6 (.cells #[.string (mk e.1), .int .i64 e.2.1, .string (mk e.2.2)] 25)))
              have HO1 := hid (ents_one w6 e)
              have HVA := hid (HV1.out.below HBy.out)
              have HVB := hid (HV2.out.below HBy.out)
              clear e0 e1 e2
              go_wp2_with fail
              refine wp_noPanic (wp_region_held_drew (S := fun W => Eb W w.heap.size e) (by kernel_rfl) HEz.out ?_)
              intro hHeld
              refine wpAnyH_take (i := 0) (v := .slice (some ⟨g, o, none⟩) t.length c) rfl (by kernel_rfl) (by kernel_rfl) (by kernel_rfl) (fun _ _ _ h => h) (Or.inl ⟨by rfl, fun W _ => by go_simp⟩) hHeld ?_
              simp only [Act.put, List.getElem_toArray, List.getElem_cons_zero, List.setIfInBounds_toArray, List.set_cons_succ, List.set_cons_zero]
              refine wpAnyH_take (i := 1) (v := .int .i64 (I : Int)) rfl (by kernel_rfl) (by kernel_rfl) (by kernel_rfl) (fun _ _ _ h => h) (Or.inl ⟨by rfl, fun W _ => by go_simp⟩) hHeld ?_
              simp only [Act.put, List.getElem_toArray, List.getElem_cons_zero, List.getElem_cons_succ, List.setIfInBounds_toArray, List.set_cons_succ, List.set_cons_zero]
              refine wpAnyH_take (i := 2) (v := .slice q1 m1 r1) rfl (by kernel_rfl) (by kernel_rfl) (by kernel_rfl) (fun _ _ _ h => h) (Or.inl ⟨by rfl, fun W _ => by have hfact := HS1.out W; go_simp; first | done | simp [hfact]⟩) hHeld ?_
              simp only [Act.put, List.getElem_toArray, List.getElem_cons_zero, List.getElem_cons_succ, List.setIfInBounds_toArray, List.set_cons_succ, List.set_cons_zero]
              refine wpAnyH_take (i := 3) (v := .agg #[.string (mk e.1), .int .i64 e.2.1, .string (mk e.2.2)]) rfl (by kernel_rfl) (by kernel_rfl) (by kernel_rfl) (fun _ _ _ h => h) (Or.inl ⟨by rfl, fun W hW => by obtain ⟨h0, h1, h2⟩ := hW.at; clear hW; go_simp⟩) hHeld ?_
              simp only [Act.put, List.getElem_toArray, List.getElem_cons_zero, List.getElem_cons_succ, List.setIfInBounds_toArray, List.set_cons_succ, List.set_cons_zero]
              refine wpAnyH_take (i := 5) (v := .slice q2 m2 r2) rfl (by kernel_rfl) (by kernel_rfl) (by kernel_rfl) (fun _ _ _ h => h) (Or.inl ⟨by rfl, fun W _ => by go_simp⟩) hHeld ?_
              simp only [Act.put, List.getElem_toArray, List.getElem_cons_zero, List.getElem_cons_succ, List.setIfInBounds_toArray, List.set_cons_succ, List.set_cons_zero]
              refine wpAnyH_ready (rs := [4]) (by kernel_rfl) (by simp) ?_
              refine AllReadyH.cons rfl (fun K hK => ?_) AllReadyH.nil
              go_simp
              refine hK.out _ _ (show Eb _ w.heap.size e from HEy.out) (fun hHeld => ?_)
              clear hK K
              refine wpAnyH_ready (rs := [6]) (by kernel_rfl) (by simp) ?_
              refine AllReadyH.cons rfl (fun K hK => ?_) AllReadyH.nil
              go_simp
              have HEx := hid (HEy.out.below (below_walk (w6.alloc (.cells #[.string (mk e.1), .int .i64 e.2.1, .string (mk e.2.2)] 25)) (.cells #[.slice q1 m1 r1, .slice (some ⟨w6.heap.size, 0, none⟩) 1 1, .slice q2 m2 r2] 22)))
              have HBx := hid (below_then HBy.out (below_walk (w6.alloc (.cells #[.string (mk e.1), .int .i64 e.2.1, .string (mk e.2.2)] 25)) (.cells #[.slice q1 m1 r1, .slice (some ⟨w6.heap.size, 0, none⟩) 1 1, .slice q2 m2 r2] 22)))
              refine hK.out _ _ (show Eb _ w.heap.size e from HEx.out) (fun hHeld => ?_)
              clear hK K
              refine wpAnyH_ready (rs := [7]) (by kernel_rfl) (by simp) ?_
              refine AllReadyH.cons rfl (fun K hK => ?_) AllReadyH.nil
              go_simp
              refine (HCC.out [t.take I, [e], t.drop (I + 1)] ((w6.alloc (.cells #[.string (mk e.1), .int .i64 e.2.1, .string (mk e.2.2)] 25)).alloc (.cells #[.slice q1 m1 r1, .slice (some ⟨w6.heap.size, 0, none⟩) 1 1, .slice q2 m2 r2] 22)).drew _ (trs_three (g := w6.heap.size + 1) HVA.out HO1.out HVB.out rfl (by simp)) (by simp) (by have := HLT.out; simp [List.length_take, List.length_drop]; omega)).mono ?_
              rintro r w7 ⟨v7, rfl, ho7, hb7⟩
              have hfl : [t.take I, [e], t.drop (I + 1)].flatten = puL t e := by rw [HPU.out]; simp
              rw [hfl] at ho7
              have HO7 := hid ho7.ents
              obtain ⟨a7, n7, c7, ev7⟩ : ∃ a n c, v7 = .slice a n c := by obtain ⟨a, c, ev⟩ := ho7.ents.shape; exact ⟨a, _, c, ev⟩
              subst ev7
              have HB7 := hid (below_then HBx.out ⟨hb7.os, hb7.tape, hb7.output, hb7.size, hb7.block⟩)
              have HE7 := hid (HEx.out.below ⟨hb7.os, hb7.tape, hb7.output, hb7.size, hb7.block⟩)
              clear ho7 hb7 hfl
              go_wp2_with fail
              refine hK.out _ _ HE7.out (fun hHeld => ?_)
              clear hK K
              refine wpAnyH_ready (rs := [8]) (by kernel_rfl) (by simp) ?_
              refine AllReadyH.cons rfl (fun K hK => ?_) AllReadyH.nil
              go_simp
              refine (HFT.out _ _ HO7.out).mono ?_
              rintro r w8 ⟨ha8, hb8⟩
              obtain ⟨a8, n8, c8, E8, er8⟩ := ansE_shape ha8
              subst er8
              have HA8 := hid ha8
              have HB8 := hid (below_then HB7.out hb8)
              have HE8 := hid (HE7.out.below hb8)
              clear ha8 hb8
              go_wp2_with fail
              refine hK.out _ _ HE8.out (fun hHeld => ?_)
              clear hK K
              refine wpAnyH_take (i := 9) (v := .slice a8 n8 c8) rfl (by kernel_rfl) (by kernel_rfl) (by kernel_rfl) (fun _ _ _ h => h) (Or.inl ⟨by rfl, fun W _ => by go_simp⟩) hHeld ?_
              simp only [Act.put, List.getElem_toArray, List.getElem_cons_zero, List.getElem_cons_succ, List.setIfInBounds_toArray, List.set_cons_succ, List.set_cons_zero]
              refine wpAnyH_take (i := 10) (v := .int .i64 E8) rfl (by kernel_rfl) (by kernel_rfl) (by kernel_rfl) (fun _ _ _ h => h) (Or.inl ⟨by rfl, fun W _ => by go_simp⟩) hHeld ?_
              simp only [Act.put, List.getElem_toArray, List.getElem_cons_zero, List.getElem_cons_succ, List.setIfInBounds_toArray, List.set_cons_succ, List.set_cons_zero]
              refine wpAnyH_take (i := 11) (v := .slice a8 n8 c8) rfl (by kernel_rfl) (by kernel_rfl) (by kernel_rfl) (fun _ _ _ h => h) (Or.inl ⟨by rfl, fun W _ => by go_simp⟩) hHeld ?_
              simp only [Act.put, List.getElem_toArray, List.getElem_cons_zero, List.getElem_cons_succ, List.setIfInBounds_toArray, List.set_cons_succ, List.set_cons_zero]
              refine wpAnyH_take (i := 12) (v := .int .i64 E8) rfl (by kernel_rfl) (by kernel_rfl) (by kernel_rfl) (fun _ _ _ h => h) (Or.inl ⟨by rfl, fun W _ => by go_simp⟩) hHeld ?_
              simp only [Act.put, List.getElem_toArray, List.getElem_cons_zero, List.getElem_cons_succ, List.setIfInBounds_toArray, List.set_cons_succ, List.set_cons_zero]
              refine wpAnyH_done (by kernel_rfl) ?_ _
              simp only [noPanic]
              clear hHeld
              go_wp2_with fail
              go_ret2
              rw [HAP.out]
              exact ⟨ansE_le HA8.out HB7.out.size, HB8.out⟩
            ·
              have z2 : (K2 == 2) = false := by simpa using hk2
              have HAP := hid (HAP0.out.trans (if_pos ⟨rfl, by simp [hk1, hk2]⟩))
              clear HAP0
              subst hk1
              go_enter Tryz.func6, Tryz.ntmps6
              go_wp2_with fail
              refine HR.out.mono ?_
              rintro r w1 ⟨rfl, hb1⟩
              rw [← HSZ.out] at hb1
              have HB1 := hid (below_then HB0.out hb1)
              have HN1 := hid (HN0.out.below hb1)
              clear hb1 HR HB0 HN0
              obtain ⟨e0, e1, e2⟩ := HN1.out.at
              go_wp2_with (first | (go_at_call 19; refine (HM.out _).mono ?_; rintro r w2 ⟨rfl, hb2⟩; have HB2 := hid (below_then HB1.out hb2); have HN2 := hid (HN1.out.below hb2); clear hb2; clear e0 e1 e2; obtain ⟨e0, e1, e2⟩ := HN2.out.at) | (go_at_call 21; refine (HPA.out _).mono ?_; rintro r w3 ⟨rfl, n3, rfl⟩; have HB3 := hid (below_n HB2.out n3); have HN3 := hid (show Eb (w2.drewN n3) w.heap.size e from HN2.out); generalize w2.drewN n3 = w3 at *; clear e0 e1 e2; obtain ⟨e0, e1, e2⟩ := HN3.out.at) | (go_at_call 20; refine (HID.out _ HB3.out).mono ?_; rintro r w4 ⟨rfl, hb4⟩; have HB4 := hid (below_then HB3.out hb4); have HN4 := hid (HN3.out.below hb4); clear hb4; clear e0 e1 e2; obtain ⟨e0, e1, e2⟩ := HN4.out.at) | (go_at_call 22; refine (HPL.out _ HB4.out).mono ?_; rintro r w5 ⟨rfl, hb5⟩; have HB5 := hid (below_then HB4.out hb5); have HN5 := hid (HN4.out.below hb5); clear hb5; clear e0 e1 e2; obtain ⟨e0, e1, e2⟩ := HN5.out.at))
              have HLB := hid (hp_lt HN5.out)
              have k1 := (HAT.out.below HGL.out HB5.out).2.1
              rw [HK1.out] at k1
              rw [HK2.out] at e1
              have x1 := fun p : Bel w5 => p.cell k1 (Nat.lt_of_lt_of_le HGL.out HB5.out.size)
              have x2 := fun p : Bel w5 => p.cell e1 HLB.out
              have ib : Nonempty (Bel w5) := bel_some w5
              clear k1
              refine wp_region_quiet_bel (by kernel_rfl) (by kernel_rfl) ?_
              repeat (go_big_quiet_step (fail))
              refine wpQuiet_nil ?_
              rintro w6 ⟨⟨w6', hb6⟩, hw6⟩
              obtain rfl : w6 = w6' := hw6
              have HB6 := hid (below_then HB5.out hb6)
              have HN6 := hid (HN5.out.below hb6)
              clear hb6 x1 x2 ib e0 e1 e2 HB5 HN5
              obtain ⟨e0, e1, e2⟩ := HN6.out.at
              go_wp2
              go_ret2
              rw [HAP.out]
              exact ⟨rfl, HB6.out⟩
          ·
            have z1 : (K1 == 2) = false := by simpa using hk1
            by_cases hk2 : K2 = 2
            ·
              have z2 : (K2 == 2) = true := by rw [hk2]; rfl
              have HAP := hid (HAP0.out.trans (if_pos ⟨rfl, by simp [hk1, hk2]⟩))
              clear HAP0
              clear hk1
              have hk2b := hk2
              go_enter Tryz.func6, Tryz.ntmps6
              go_wp2_with fail
              refine HR.out.mono ?_
              rintro r w1 ⟨rfl, hb1⟩
              rw [← HSZ.out] at hb1
              have HB1 := hid (below_then HB0.out hb1)
              have HN1 := hid (HN0.out.below hb1)
              clear hb1 HR HB0 HN0
              obtain ⟨e0, e1, e2⟩ := HN1.out.at
              go_wp2_with (first | (go_at_call 19; refine (HM.out _).mono ?_; rintro r w2 ⟨rfl, hb2⟩; have HB2 := hid (below_then HB1.out hb2); have HN2 := hid (HN1.out.below hb2); clear hb2; clear e0 e1 e2; obtain ⟨e0, e1, e2⟩ := HN2.out.at) | (go_at_call 21; refine (HPA.out _).mono ?_; rintro r w3 ⟨rfl, n3, rfl⟩; have HB3 := hid (below_n HB2.out n3); have HN3 := hid (show Eb (w2.drewN n3) w.heap.size e from HN2.out); generalize w2.drewN n3 = w3 at *; clear e0 e1 e2; obtain ⟨e0, e1, e2⟩ := HN3.out.at) | (go_at_call 20; refine (HID.out _ HB3.out).mono ?_; rintro r w4 ⟨rfl, hb4⟩; have HB4 := hid (below_then HB3.out hb4); have HN4 := hid (HN3.out.below hb4); clear hb4; clear e0 e1 e2; obtain ⟨e0, e1, e2⟩ := HN4.out.at) | (go_at_call 22; refine (HPL.out _ HB4.out).mono ?_; rintro r w5 ⟨rfl, hb5⟩; have HB5 := hid (below_then HB4.out hb5); have HN5 := hid (HN4.out.below hb5); clear hb5; clear e0 e1 e2; obtain ⟨e0, e1, e2⟩ := HN5.out.at))
              have HLB := hid (hp_lt HN5.out)
              have k1 := (HAT.out.below HGL.out HB5.out).2.1
              rw [HK1.out] at k1
              rw [HK2.out] at e1
              have x1 := fun p : Bel w5 => p.cell k1 (Nat.lt_of_lt_of_le HGL.out HB5.out.size)
              have x2 := fun p : Bel w5 => p.cell e1 HLB.out
              have ib : Nonempty (Bel w5) := bel_some w5
              clear k1
              refine wp_region_quiet_bel (by kernel_rfl) (by kernel_rfl) ?_
              repeat (go_big_quiet_step (fail))
              refine wpQuiet_nil ?_
              rintro w6 ⟨⟨w6', hb6⟩, hw6⟩
              obtain rfl : w6 = w6' := hw6
              have HB6 := hid (below_then HB5.out hb6)
              have HN6 := hid (HN5.out.below hb6)
              clear hb6 x1 x2 ib e0 e1 e2 HB5 HN5
              obtain ⟨e0, e1, e2⟩ := HN6.out.at
              go_wp2
              go_ret2
              rw [HAP.out]
              exact ⟨rfl, HB6.out⟩
            ·
              have z2 : (K2 == 2) = false := by simpa using hk2
              have HAP := hid (HAP0.out.trans (if_neg (fun h9 => h9.2 (by simp [hk1, hk2]))))
              clear HAP0
              clear hk1
              go_enter Tryz.func6, Tryz.ntmps6
              go_wp2_with fail
              refine HR.out.mono ?_
              rintro r w1 ⟨rfl, hb1⟩
              rw [← HSZ.out] at hb1
              have HB1 := hid (below_then HB0.out hb1)
              have HN1 := hid (HN0.out.below hb1)
              clear hb1 HR HB0 HN0
              obtain ⟨e0, e1, e2⟩ := HN1.out.at
              go_wp2_with (first | (go_at_call 19; refine (HM.out _).mono ?_; rintro r w2 ⟨rfl, hb2⟩; have HB2 := hid (below_then HB1.out hb2); have HN2 := hid (HN1.out.below hb2); clear hb2; clear e0 e1 e2; obtain ⟨e0, e1, e2⟩ := HN2.out.at) | (go_at_call 21; refine (HPA.out _).mono ?_; rintro r w3 ⟨rfl, n3, rfl⟩; have HB3 := hid (below_n HB2.out n3); have HN3 := hid (show Eb (w2.drewN n3) w.heap.size e from HN2.out); generalize w2.drewN n3 = w3 at *; clear e0 e1 e2; obtain ⟨e0, e1, e2⟩ := HN3.out.at) | (go_at_call 20; refine (HID.out _ HB3.out).mono ?_; rintro r w4 ⟨rfl, hb4⟩; have HB4 := hid (below_then HB3.out hb4); have HN4 := hid (HN3.out.below hb4); clear hb4; clear e0 e1 e2; obtain ⟨e0, e1, e2⟩ := HN4.out.at) | (go_at_call 22; refine (HPL.out _ HB4.out).mono ?_; rintro r w5 ⟨rfl, hb5⟩; have HB5 := hid (below_then HB4.out hb5); have HN5 := hid (HN4.out.below hb5); clear hb5; clear e0 e1 e2; obtain ⟨e0, e1, e2⟩ := HN5.out.at))
              have HLB := hid (hp_lt HN5.out)
              have k1 := (HAT.out.below HGL.out HB5.out).2.1
              rw [HK1.out] at k1
              rw [HK2.out] at e1
              have x1 := fun p : Bel w5 => p.cell k1 (Nat.lt_of_lt_of_le HGL.out HB5.out.size)
              have x2 := fun p : Bel w5 => p.cell e1 HLB.out
              have ib : Nonempty (Bel w5) := bel_some w5
              clear k1
              refine wp_region_quiet_bel (by kernel_rfl) (by kernel_rfl) ?_
              repeat (go_big_quiet_step (fail))
              refine wpQuiet_nil ?_
              rintro w6 ⟨⟨w6', hb6⟩, hw6⟩
              obtain rfl : w6 = w6' := hw6
              have HB6 := hid (below_then HB5.out hb6)
              have HN6 := hid (HN5.out.below hb6)
              clear hb6 x1 x2 ib e0 e1 e2 HB5 HN5
              obtain ⟨e0, e1, e2⟩ := HN6.out.at
              have HEz := HN6
              have HBz := HB6
              clear HN6 HB6
              have HEy := hid (HEz.out.below (below_walk w6 (.cells #[.string (mk e.1), .int .i64 e.2.1, .string (mk e.2.2)] 25)))
              have HBy := hid (below_then HBz.out (below_walk w6 (.cells #[.string (mk e.1), .int .i64 e.2.1, .string (mk e.2.2)] 25)))
              have HO1 := hid (ents_one w6 e)
              have HVA := hid (HV1.out.below HBy.out)
              have HVB := hid (HV2.out.below HBy.out)
              clear e0 e1 e2
              go_wp2_with fail
              refine wp_noPanic (wp_region_held_drew (S := fun W => Eb W w.heap.size e) (by kernel_rfl) HEz.out ?_)
              intro hHeld
              refine wpAnyH_take (i := 0) (v := .slice (some ⟨g, o, none⟩) t.length c) rfl (by kernel_rfl) (by kernel_rfl) (by kernel_rfl) (fun _ _ _ h => h) (Or.inl ⟨by rfl, fun W _ => by go_simp⟩) hHeld ?_
              simp only [Act.put, List.getElem_toArray, List.getElem_cons_zero, List.setIfInBounds_toArray, List.set_cons_succ, List.set_cons_zero]
              refine wpAnyH_take (i := 1) (v := .int .i64 (I : Int)) rfl (by kernel_rfl) (by kernel_rfl) (by kernel_rfl) (fun _ _ _ h => h) (Or.inl ⟨by rfl, fun W _ => by go_simp⟩) hHeld ?_
              simp only [Act.put, List.getElem_toArray, List.getElem_cons_zero, List.getElem_cons_succ, List.setIfInBounds_toArray, List.set_cons_succ, List.set_cons_zero]
              refine wpAnyH_take (i := 2) (v := .slice q1 m1 r1) rfl (by kernel_rfl) (by kernel_rfl) (by kernel_rfl) (fun _ _ _ h => h) (Or.inl ⟨by rfl, fun W _ => by have hfact := HS1.out W; go_simp; first | done | simp [hfact]⟩) hHeld ?_
              simp only [Act.put, List.getElem_toArray, List.getElem_cons_zero, List.getElem_cons_succ, List.setIfInBounds_toArray, List.set_cons_succ, List.set_cons_zero]
              refine wpAnyH_take (i := 3) (v := .agg #[.string (mk e.1), .int .i64 e.2.1, .string (mk e.2.2)]) rfl (by kernel_rfl) (by kernel_rfl) (by kernel_rfl) (fun _ _ _ h => h) (Or.inl ⟨by rfl, fun W hW => by obtain ⟨h0, h1, h2⟩ := hW.at; clear hW; go_simp⟩) hHeld ?_
              simp only [Act.put, List.getElem_toArray, List.getElem_cons_zero, List.getElem_cons_succ, List.setIfInBounds_toArray, List.set_cons_succ, List.set_cons_zero]
              refine wpAnyH_take (i := 5) (v := .slice q2 m2 r2) rfl (by kernel_rfl) (by kernel_rfl) (by kernel_rfl) (fun _ _ _ h => h) (Or.inl ⟨by rfl, fun W _ => by go_simp⟩) hHeld ?_
              simp only [Act.put, List.getElem_toArray, List.getElem_cons_zero, List.getElem_cons_succ, List.setIfInBounds_toArray, List.set_cons_succ, List.set_cons_zero]
              refine wpAnyH_ready (rs := [4]) (by kernel_rfl) (by simp) ?_
              refine AllReadyH.cons rfl (fun K hK => ?_) AllReadyH.nil
              go_simp
              refine hK.out _ _ (show Eb _ w.heap.size e from HEy.out) (fun hHeld => ?_)
              clear hK K
              refine wpAnyH_ready (rs := [6]) (by kernel_rfl) (by simp) ?_
              refine AllReadyH.cons rfl (fun K hK => ?_) AllReadyH.nil
              go_simp
              have HEx := hid (HEy.out.below (below_walk (w6.alloc (.cells #[.string (mk e.1), .int .i64 e.2.1, .string (mk e.2.2)] 25)) (.cells #[.slice q1 m1 r1, .slice (some ⟨w6.heap.size, 0, none⟩) 1 1, .slice q2 m2 r2] 22)))
              have HBx := hid (below_then HBy.out (below_walk (w6.alloc (.cells #[.string (mk e.1), .int .i64 e.2.1, .string (mk e.2.2)] 25)) (.cells #[.slice q1 m1 r1, .slice (some ⟨w6.heap.size, 0, none⟩) 1 1, .slice q2 m2 r2] 22)))
              refine hK.out _ _ (show Eb _ w.heap.size e from HEx.out) (fun hHeld => ?_)
              clear hK K
              refine wpAnyH_ready (rs := [7]) (by kernel_rfl) (by simp) ?_
              refine AllReadyH.cons rfl (fun K hK => ?_) AllReadyH.nil
              go_simp
              refine (HCC.out [t.take I, [e], t.drop (I + 1)] ((w6.alloc (.cells #[.string (mk e.1), .int .i64 e.2.1, .string (mk e.2.2)] 25)).alloc (.cells #[.slice q1 m1 r1, .slice (some ⟨w6.heap.size, 0, none⟩) 1 1, .slice q2 m2 r2] 22)).drew _ (trs_three (g := w6.heap.size + 1) HVA.out HO1.out HVB.out rfl (by simp)) (by simp) (by have := HLT.out; simp [List.length_take, List.length_drop]; omega)).mono ?_
              rintro r w7 ⟨v7, rfl, ho7, hb7⟩
              have hfl : [t.take I, [e], t.drop (I + 1)].flatten = puL t e := by rw [HPU.out]; simp
              rw [hfl] at ho7
              have HO7 := hid ho7.ents
              obtain ⟨a7, n7, c7, ev7⟩ : ∃ a n c, v7 = .slice a n c := by obtain ⟨a, c, ev⟩ := ho7.ents.shape; exact ⟨a, _, c, ev⟩
              subst ev7
              have HB7 := hid (below_then HBx.out ⟨hb7.os, hb7.tape, hb7.output, hb7.size, hb7.block⟩)
              have HE7 := hid (HEx.out.below ⟨hb7.os, hb7.tape, hb7.output, hb7.size, hb7.block⟩)
              clear ho7 hb7 hfl
              go_wp2_with fail
              refine hK.out _ _ HE7.out (fun hHeld => ?_)
              clear hK K
              refine wpAnyH_ready (rs := [8]) (by kernel_rfl) (by simp) ?_
              refine AllReadyH.cons rfl (fun K hK => ?_) AllReadyH.nil
              go_simp
              refine (HFT.out _ _ HO7.out).mono ?_
              rintro r w8 ⟨ha8, hb8⟩
              obtain ⟨a8, n8, c8, E8, er8⟩ := ansE_shape ha8
              subst er8
              have HA8 := hid ha8
              have HB8 := hid (below_then HB7.out hb8)
              have HE8 := hid (HE7.out.below hb8)
              clear ha8 hb8
              go_wp2_with fail
              refine hK.out _ _ HE8.out (fun hHeld => ?_)
              clear hK K
              refine wpAnyH_take (i := 9) (v := .slice a8 n8 c8) rfl (by kernel_rfl) (by kernel_rfl) (by kernel_rfl) (fun _ _ _ h => h) (Or.inl ⟨by rfl, fun W _ => by go_simp⟩) hHeld ?_
              simp only [Act.put, List.getElem_toArray, List.getElem_cons_zero, List.getElem_cons_succ, List.setIfInBounds_toArray, List.set_cons_succ, List.set_cons_zero]
              refine wpAnyH_take (i := 10) (v := .int .i64 E8) rfl (by kernel_rfl) (by kernel_rfl) (by kernel_rfl) (fun _ _ _ h => h) (Or.inl ⟨by rfl, fun W _ => by go_simp⟩) hHeld ?_
              simp only [Act.put, List.getElem_toArray, List.getElem_cons_zero, List.getElem_cons_succ, List.setIfInBounds_toArray, List.set_cons_succ, List.set_cons_zero]
              refine wpAnyH_take (i := 11) (v := .slice a8 n8 c8) rfl (by kernel_rfl) (by kernel_rfl) (by kernel_rfl) (fun _ _ _ h => h) (Or.inl ⟨by rfl, fun W _ => by go_simp⟩) hHeld ?_
              simp only [Act.put, List.getElem_toArray, List.getElem_cons_zero, List.getElem_cons_succ, List.setIfInBounds_toArray, List.set_cons_succ, List.set_cons_zero]
              refine wpAnyH_take (i := 12) (v := .int .i64 E8) rfl (by kernel_rfl) (by kernel_rfl) (by kernel_rfl) (fun _ _ _ h => h) (Or.inl ⟨by rfl, fun W _ => by go_simp⟩) hHeld ?_
              simp only [Act.put, List.getElem_toArray, List.getElem_cons_zero, List.getElem_cons_succ, List.setIfInBounds_toArray, List.set_cons_succ, List.set_cons_zero]
              refine wpAnyH_done (by kernel_rfl) ?_ _
              simp only [noPanic]
              clear hHeld
              go_wp2_with fail
              go_ret2
              rw [HAP.out]
              exact ⟨ansE_le HA8.out HB7.out.size, HB8.out⟩
  · have HAP := hid (show putP t e = .error E0 from by unfold putP; rw [HE0.out, if_pos h0])
    have x1 : (E0 == 0) = false := by simpa using h0
    clear h0
    go_enter Tryz.func6, Tryz.ntmps6
    go_wp2_with fail
    refine HR.out.mono ?_
    rintro r w1 ⟨rfl, hb1⟩
    rw [← HSZ.out] at hb1
    have HB1 := hid (below_then HB0.out hb1)
    clear hb1 HR
    go_wp2
    go_ret2
    rw [HAP.out]
    exact ⟨rfl, HB1.out⟩

end Go.Proofs.YteijkbanlpodpaaGreatDoor

/- The program's Graft. -/
namespace Go.Proofs.YteijkbanlpodpaaGreatDoor
open Go.RowKit Go.BigFrame

theorem rpB_many {d : List UInt8} {t M : List Ent} (hn : t.length ≤ 1024) (hl : M.length ≤ 1024) : (rpB d t M).length ≤ 1100000 := by
  unfold rpB
  split
  · omega
  · exact Nat.le_trans (rpF_len d M t) (Nat.le_trans (Nat.mul_le_mul hn (show 1 + M.length ≤ 1025 by omega)) (by decide))
theorem rpB_sz {d : List UInt8} {t M : List Ent} (hn : t.length ≤ 1024) (ht : szP t ≤ 1048576) (hm : szP M ≤ 1048576) : szP (rpB d t M) ≤ 4611686018427387904 := by
  unfold rpB
  split
  · omega
  · exact Nat.le_trans (rpF_sz d M t) (Nat.le_trans (Nat.add_le_add ht (Nat.mul_le_mul hn hm)) (by decide))
theorem rgtP_two (t s : List Ent) : rgtP [t, s] = if (chkP t).2 = 0 then (chkP s).2 else (chkP t).2 := by
  unfold rgtP rgtP rgtP
  by_cases h1 : (chkP t).2 = 0
  · rw [if_pos h1, if_pos h1]
    by_cases h2 : (chkP s).2 = 0
    · rw [if_pos h2, h2]
    · rw [if_neg h2]
  · rw [if_neg h1, if_neg h1]

set_option maxRecDepth 100000 in
set_option maxHeartbeats 2000000 in
theorem graft_any (vt vs : Value) (t s : List Ent) (d : List UInt8) (w : World) (ht : Ents w vt t) (hs : Ents w vs s) (hst : Short t) (hss : Short s) (hnt : t.length ≤ 4611686018427387904) (hns : s.length ≤ 4611686018427387904) (hd : d.length ≤ 4611686018427387904) :
    Calls Tryz.prog 12 #[vt, .string (mk d), vs] w fun r w' => AnsE w' w.heap.size r (grP t d s) ∧ Below w.heap.size w w' := by
  obtain ⟨E0, HE0⟩ : ∃ E : Int, Hid (rgtP [t, s] = E) := ⟨_, rfl⟩
  have HR := hid (right_any _ [t, s] _ (trs_two w vt vs t s 22 ht hs) (by simp) (fun x hx => by
    rcases List.mem_cons.1 hx with rfl | hx
    · exact ⟨hst, hnt⟩
    · rw [List.mem_singleton] at hx
      subst hx
      exact ⟨hss, hns⟩))
  rw [HE0.out] at HR
  have HB0 := hid (below_walk w (.cells #[vt, vs] 22))
  have HET := hid ht
  have HES := hid hs
  obtain ⟨ao, c, e0⟩ := ht.shape
  obtain ⟨az, cz, ez⟩ := hs.shape
  subst e0 ez
  clear ht hs hst hss
  have HEQ := hid (rgtP_two t s)
  by_cases h0 : E0 = 0
  · subst h0
    have hct : (chkP t).2 = 0 := by
      have h1 := HE0.out
      rw [HEQ.out] at h1
      split at h1
      · assumption
      · assumption
    have hcs : (chkP s).2 = 0 := by
      have h1 := HE0.out
      rw [HEQ.out, if_pos hct] at h1
      exact h1
    have HCT := hid hct
    have HCS := hid hcs
    have HRT := hid (rgt_iff.1 hct)
    have HRS := hid (rgt_iff.1 hcs)
    clear hct hcs
    obtain ⟨W0, HW0⟩ : ∃ W, Hid (whP t d = W) := ⟨_, rfl⟩
    have HDI := hid (fun W (hW : Below w.heap.size w W) => directory_any _ t d W (HET.out.below hW) HRT.out hd)
    rw [HW0.out] at HDI
    by_cases h1 : W0 = 0
    · subst h1
      obtain ⟨hok, hdir⟩ := wh_zero.1 HW0.out
      have HMV := hid (fun W (hW : Below w.heap.size w W) => moveInto_any _ s d W (HES.out.below hW) HRS.out hok)
      cases hmv : mvOk d s with
      | false =>
        have HAP := hid (show grP t d s = .error 44 from by unfold grP; rw [if_neg (by rw [HCT.out]; simp), if_neg (by rw [HCS.out]; simp), if_neg (by rw [HW0.out]; simp), if_pos hmv])
        have HMV2 : Hid (∀ W, Below w.heap.size w W → Calls Tryz.prog 41 #[.string (mk d), .slice az s.length cz] W fun r w' => r = .returned (.tuple #[.slice none 0 0, .int .i64 44]) ∧ Below W.heap.size W w') := hid (fun W hW => (HMV.out W hW).mono (fun r w' ⟨h1, h2⟩ => by
          unfold MvA at h1
          rw [hmv, if_neg (by simp)] at h1
          exact ⟨h1, h2⟩))
        clear hok hdir hmv HMV
        go_enter Tryz.func12, Tryz.ntmps12
        go_wp2_with fail
        refine HR.out.mono ?_
        rintro r w1 ⟨rfl, hb1⟩
        have HB1 := hid (below_then HB0.out hb1)
        clear hb1 HR
        go_wp2_with (first | (go_at_call 37; refine (HDI.out _ HB1.out).mono ?_; rintro r w2 ⟨rfl, hb2⟩; have HB2 := hid (below_then HB1.out hb2); clear hb2) | (go_at_call 41; refine (HMV2.out _ HB2.out).mono ?_; rintro r w3 ⟨rfl, hb3⟩; have HB3 := hid (below_then HB2.out hb3); clear hb3))
        go_ret2
        rw [HAP.out]
        exact ⟨rfl, HB3.out⟩
      | true =>
        have HAP := hid (show grP t d s = fitP (rpB d t (s.map (mvE d))) from by unfold grP; rw [if_neg (by rw [HCT.out]; simp), if_neg (by rw [HCS.out]; simp), if_neg (by rw [HW0.out]; simp), if_neg (by rw [hmv]; simp)])
        have HMV2 : Hid (∀ W, Below w.heap.size w W → Calls Tryz.prog 41 #[.string (mk d), .slice az s.length cz] W fun r w' => (∃ v, r = .returned (.tuple #[v, .int .i64 0]) ∧ OwnE w' W.heap.size v (s.map (mvE d))) ∧ Below W.heap.size W w') := hid (fun W hW => (HMV.out W hW).mono (fun r w' ⟨h1, h2⟩ => by
          unfold MvA at h1
          rw [hmv, if_pos rfl] at h1
          exact ⟨h1, h2⟩))
        have hw' : d = [] ∨ ∃ f ∈ t, f.1 = d := ((dirP_of HRT.out.up).1 hdir).imp id (fun ⟨f, h1, h2, _⟩ => ⟨f, h1, h2⟩)
        have hokm : ∀ e ∈ s, okP (mvT d e.1) = true := List.all_eq_true.1 hmv
        have HSH := hid (show ∀ e ∈ rpB d t (s.map (mvE d)), Shr e from fun e he => by
          rcases (mem_rpB hw').1 he with h1 | h1
          · exact may_shr' (HRT.out.may e h1.1)
          · obtain ⟨f, hf, rfl⟩ := List.mem_map.1 h1
            exact ⟨Nat.le_trans (okP_short (hokm f hf)) (by omega), (may_shr' (HRS.out.may f hf)).2⟩)
        have HML := hid (show (s.map (mvE d)).length ≤ 1024 by rw [List.length_map]; exact HRS.out.many)
        have HMS := hid (show szP (s.map (mvE d)) ≤ 1048576 by rw [sz_map (mvE d) (fun _ => rfl)]; exact HRS.out.big)
        have HRP := hid (fun W vm (hW : Below w.heap.size w W) (hm : Ents W vm (s.map (mvE d))) => replaceBelow_any _ vm t _ d W (HET.out.below hW) hm HRT.out.many HML.out hd)
        have HFT := hid (fun W v (hv : Ents W v (rpB d t (s.map (mvE d)))) => fit_any v _ W hv (Nat.le_trans (rpB_many HRT.out.many HML.out) (by omega)) HSH.out (rpB_sz HRT.out.many HRT.out.big HMS.out))
        clear hok hdir hmv HMV hw' hokm
        generalize s.map (mvE d) = M at *
        generalize rpB d t M = R at *
        go_enter Tryz.func12, Tryz.ntmps12
        go_wp2_with fail
        refine HR.out.mono ?_
        rintro r w1 ⟨rfl, hb1⟩
        have HB1 := hid (below_then HB0.out hb1)
        clear hb1 HR
        go_wp2_with (first | (go_at_call 37; refine (HDI.out _ HB1.out).mono ?_; rintro r w2 ⟨rfl, hb2⟩; have HB2 := hid (below_then HB1.out hb2); clear hb2) | (go_at_call 41; refine (HMV2.out _ HB2.out).mono ?_; rintro r w3 ⟨⟨v3, rfl, ho3⟩, hb3⟩; have HB3 := hid (below_then HB2.out hb3); have HM3 := hid ho3.ents; obtain ⟨a3, c3, e3⟩ := ho3.ents.shape; generalize M.length = nM at e3; subst e3; clear hb3 ho3) | (go_at_call 42; refine (HRP.out _ _ HB3.out HM3.out).mono ?_; rintro r w4 ⟨v4, rfl, he4, hb4⟩; have HB4 := hid (below_then HB3.out hb4); have HE4 := hid he4; clear hb4 he4) | (go_at_call 23; refine (HFT.out _ _ HE4.out).mono ?_; rintro r w5 ⟨ha, hb5⟩; have HB5 := hid (below_then HB4.out hb5); have HA := hid (ansE_le ha HB4.out.size); obtain ⟨a5, n5, c5, E5, e5⟩ := ansE_shape ha; subst e5; clear ha hb5))
        go_ret2
        rw [HAP.out]
        exact ⟨HA.out, HB5.out⟩
    · have HAP := hid (show grP t d s = .error W0 from by unfold grP; rw [if_neg (by rw [HCT.out]; simp), if_neg (by rw [HCS.out]; simp), HW0.out, if_pos h1])
      have e1 : (W0 == 0) = false := by simpa using h1
      clear h1
      go_enter Tryz.func12, Tryz.ntmps12
      go_wp2_with fail
      refine HR.out.mono ?_
      rintro r w1 ⟨rfl, hb1⟩
      have HB1 := hid (below_then HB0.out hb1)
      clear hb1 HR
      go_wp2_with (go_at_call 37; refine (HDI.out _ HB1.out).mono ?_; rintro r w2 ⟨rfl, hb2⟩; have HB2 := hid (below_then HB1.out hb2); clear hb2)
      go_ret2
      rw [HAP.out]
      exact ⟨rfl, HB2.out⟩
  · have HAP := hid (show grP t d s = .error E0 from by
      have h1 := HE0.out
      rw [HEQ.out] at h1
      unfold grP
      split at h1
      · rename_i h2
        rw [if_neg (by rw [h2]; simp), h1, if_pos h0]
      · rename_i h2
        rw [if_pos h2, h1])
    have e1 : (E0 == 0) = false := by simpa using h0
    clear h0
    go_enter Tryz.func12, Tryz.ntmps12
    go_wp2_with fail
    refine HR.out.mono ?_
    rintro r w1 ⟨rfl, hb1⟩
    have HB1 := hid (below_then HB0.out hb1)
    clear hb1 HR
    go_wp2
    go_ret2
    rw [HAP.out]
    exact ⟨rfl, HB1.out⟩

end Go.Proofs.YteijkbanlpodpaaGreatDoor

/- The document's Graft. -/
namespace Go.Proofs.YteijkbanlpodpaaGreatDoor
open Go.RowKit Go.BigFrame

theorem sorted_is {l X R : List Ent} (hp : l.Perm X) (hu : UpE l) (hR : R.Pairwise ltE) (hm : ∀ e, e ∈ R ↔ e ∈ X) (hnd : (X.map (·.1)).Nodup) : l = R := by
  have hnd2 : (l.map (·.1)).Nodup := (hp.map (·.1)).nodup_iff.2 hnd
  have hlt : l.Pairwise ltE := by
    have h1 : l.Pairwise (fun a b => a.1 ≠ b.1) := List.pairwise_map.1 hnd2
    refine (hu.and h1).imp ?_
    rintro a b ⟨h2, h3⟩
    have h4 := cmpL_anti (nms a.1) (nms b.1)
    have h5 := cmpL_range (nms a.1) (nms b.1)
    have h6 : cmpL (nms a.1) (nms b.1) ≠ 0 := fun h7 => h3 (nms_inj (cmpL_zero h7))
    unfold ltE
    omega
  exact pair_ext hlt hR (fun e => by rw [hp.mem_iff, hm])
/-- what stands, but for what lies below a directory -/
def outB (t : List Ent) (d : List UInt8) : List Ent := t.filter (fun e => !lyP d e.1)
theorem graft_sorted {t M l : List Ent} {d : List UInt8} (ht : Rgt t) (hM : LyM d M) (hd : d = [] ∨ ∃ f ∈ t, f.1 = d) (hp : l.Perm (outB t d ++ M)) (hu : UpE l) : l = rpB d t M := by
  refine sorted_is hp hu (rpB_up ht hM) (fun e => ?_) ?_
  · rw [mem_rpB hd, List.mem_append]
    unfold outB
    rw [List.mem_filter]
    constructor
    · rintro (h | h)
      · exact Or.inl ⟨h.1, by rw [h.2]; rfl⟩
      · exact Or.inr h
    · rintro (h | h)
      · exact Or.inl ⟨h.1, by simpa using h.2⟩
      · exact Or.inr h
  · rw [List.map_append, List.nodup_append]
    refine ⟨pair_nodup (ht.up.sublist List.filter_sublist), pair_nodup hM.up, fun a ha b hb e => ?_⟩
    obtain ⟨x, hx, rfl⟩ := List.mem_map.1 ha
    obtain ⟨y, hy, rfl⟩ := List.mem_map.1 hb
    have h1 := (List.mem_filter.1 hx).2
    have h2 := (hM.ly y hy).1
    rw [← e] at h2
    rw [h2] at h1
    cases h1
theorem outB_snoc (d : List UInt8) (t : List Ent) {k : Nat} (hk : k < t.length) : outB (t.take (k + 1)) d = outB (t.take k) d ++ (if lyP d (t.getD k zE).1 = true then [] else [t.getD k zE]) := by
  unfold outB
  rw [take_snoc t k hk, List.filter_append]
  congr 1
  generalize t.getD k zE = e
  cases h : lyP d e.1 <;> simp [h]
theorem outB_len (d : List UInt8) (t : List Ent) : (outB t d).length ≤ t.length := List.length_filter_le _ _

theorem ansR_shape {w : World} {r : Ending} {x : Except Int (List Ent)} (h : AnsR w r x) : ∃ (ao : Option Addr) (n c : Nat) (E : Int), r = .returned (.tuple #[.slice ao n c, .int .i64 E]) := by
  cases x with
  | ok l =>
    obtain ⟨v, e, ho⟩ := h
    obtain ⟨a, c, ev⟩ := ho.shape
    exact ⟨a, _, c, 0, by rw [e, ev]⟩
  | error E => exact ⟨none, 0, 0, E, h⟩

set_option maxRecDepth 100000 in
set_option maxHeartbeats 8000000 in
theorem rgraft_any (vt vs : Value) (t s : List Ent) (d : List UInt8) (w : World) (ht : Ents w vt t) (hs : Ents w vs s) (hbt : Bulk t) (hbs : Bulk s) (hnt : t.length ≤ 4611686018427387904) (hns : s.length ≤ 4611686018427387904) (hd : d.length ≤ 1099511627776) :
    Calls Tryz.prog 13 #[vt, .string (mk d), vs] w fun r w' => AnsR w' r (grP t d s) ∧ Below w.heap.size w w' := by
  obtain ⟨I0, HI0⟩ : ∃ I : Nat, Hid ((chkP t).1 = I) := ⟨_, rfl⟩
  obtain ⟨E0, HE0⟩ : ∃ E : Int, Hid ((chkP t).2 = E) := ⟨_, rfl⟩
  obtain ⟨I1, HI1⟩ : ∃ I : Nat, Hid ((chkP s).1 = I) := ⟨_, rfl⟩
  obtain ⟨E1, HE1⟩ : ∃ E : Int, Hid ((chkP s).2 = E) := ⟨_, rfl⟩
  have HR := hid (rcheck_any vt t w ht hbt hnt)
  rw [HI0.out, HE0.out] at HR
  have HRS := hid (fun W (hW : Below w.heap.size w W) => rcheck_any vs s W (hs.below hW) hbs hns)
  rw [HI1.out, HE1.out] at HRS
  have HET := hid ht
  have HES := hid hs
  obtain ⟨ao, c, e0⟩ := ht.shape
  obtain ⟨az, cz, e1⟩ := hs.shape
  subst e0 e1
  clear ht hs hbt hbs
  by_cases hz : E0 = 0
  · subst hz
    have HRT := hid (rgt_iff.1 HE0.out)
    by_cases hz1 : E1 = 0
    · subst hz1
      have HRU := hid (rgt_iff.1 HE1.out)
      obtain ⟨W0, HW0⟩ : ∃ W, Hid (whP t d = W) := ⟨_, rfl⟩
      have HWH := hid (fun W (hW : Below w.heap.size w W) => rwhere_any _ t d W (HET.out.below hW) hnt hd)
      rw [HW0.out] at HWH
      by_cases h1 : W0 = 0
      · subst h1
        obtain ⟨hok, hdir⟩ := wh_zero.1 HW0.out
        have HOK := hid hok
        have HDL := hid (okP_short hok)
        have HDW := hid (show d = [] ∨ ∃ f ∈ t, f.1 = d from ((dirP_of HRT.out.up).1 hdir).imp id (fun ⟨f, h1, h2, _⟩ => ⟨f, h1, h2⟩))
        have HBW := hid (fun (e : Ent) (he : e ∈ t) W => rbelow_any d e.1 W (mayP_ne (HRT.out.may e he)))
        have HPA := hid (fun (e : Ent) (he : e ∈ s) W => rpath_any (mk (mvT d e.1)) W (by
          rw [bl_mk]
          have h2 := okP_short (mayP_ok (HRU.out.may e he))
          have h3 := HDL.out
          unfold mvT
          split
          · omega
          · rw [List.length_append, List.length_cons]; omega))
        have HSR := hid (fun W v X (hv : Ents W v X) (hn : X.length ≤ 1099511627776) (ho : ∀ e ∈ X, okP e.1 = true) => rsort_any X.length X (Nat.le_refl _) hn ho v W hv)
        have HSZ := hid (fun W v X (hv : Ents W v X) (hn : X.length ≤ 4611686018427387904) (hz : szP X ≤ 4611686018427387904) => rsized_any v X W hv hn hz)
        clear hok hdir
        obtain ⟨S, HS⟩ : ∃ S, Hid (mk d = S) := ⟨_, rfl⟩
        have hS0 : d ≠ [] → ¬ S.toList = [] := fun h e => h (by have h2 : bl S = [] := e; rw [← HS.out, bl_mk] at h2; exact h2)
        have hS1 : d = [] → S.toList = [] := fun h => by show bl S = []; rw [← HS.out, bl_mk]; exact h
        have HSS0 := hid hS0
        have HSS1 := hid hS1
        have hadd := fun W => str_add d [47] (by have := HDL.out; simp; omega) W
        change ∀ W, (Op.stringOp .add (mk d) ⟨#[47]⟩).run Tryz.prog W = .ok (.string (mk (d ++ [47]))) W at hadd
        have HAD := hid (fun (e : Ent) (he : e ∈ s) W => str_add (d ++ [47]) e.1 (by have := HDL.out; have h2 := okP_short (mayP_ok (HRU.out.may e he)); simp; omega) W)
        rw [HS.out] at HWH HBW hadd ⊢
        clear hS0 hS1
        go_enter Tryz.func13, Tryz.ntmps13
        go_wp2_with (first | (go_at_call 25; with_reducible refine Calls.mono HR.out ?_; rintro r w1 ⟨rfl, hb1⟩; have HB1 := hid hb1; clear hb1 HR) | (go_at_call 25; with_reducible refine Calls.mono (HRS.out _ HB1.out) ?_; rintro r w2 ⟨rfl, hb2⟩; have HB2 := hid (below_then HB1.out hb2); clear hb2 HRS) | (go_at_call 40; refine (HWH.out _ HB2.out).mono ?_; rintro r w3 ⟨rfl, hb3⟩; have HB3 := hid (below_then HB2.out hb3); clear hb3))
        have HT4 := hid (HET.out.below HB3.out)
        have HS4 := hid (HES.out.below HB3.out)
        clear HWH HB1 HB2
        go_loopw [10, 11] (fun x i wr => ∃ k : Nat, i = .int .i64 k ∧ k ≤ t.length ∧ OwnE wr w3.heap.size x (outB (t.take k) d) ∧ Below w3.heap.size w3 wr) (fun _ i _ => t.length - (intOf i).toNat)
        case atStart => exact ⟨0, rfl, Nat.zero_le _, OwnE.nil _ _, Below.refl _ _⟩
        case round =>
          obtain ⟨k, rfl, hk, ho, hb⟩ := hrel
          have HO := hid ho
          have HB := hid hb
          obtain ⟨al, xl, e2⟩ := ho.ents.shape
          have hlen : (outB (t.take k) d).length ≤ 1024 := by have h1 := outB_len d (t.take k); rw [List.length_take] at h1; have := HRT.out.many; omega
          have HLL := hid hlen
          by_cases hlt : k < t.length
          · generalize (outB (t.take k) d).length = nl at e2
            subst e2
            clear ho hb hlen
            have hmany := HRT.out.many
            have q1 : (k : Int) < (t.length : Int) := by omega
            have q2 : ¬ (k : Int) < 0 := by omega
            have hw1 : IntKind.i64.wrap ((k : Int) + 1) = ((k + 1 : Nat) : Int) := by rw [IntKind.wrap_i64]; omega
            obtain ⟨g, o, rfl, hgl, hat⟩ := (HT4.out.below HB.out).at k hlt
            obtain ⟨e, HED⟩ : ∃ e, Hid (t.getD k zE = e) := ⟨_, rfl⟩
            rw [HED.out] at hat
            have HTK := hid (outB_snoc d t hlt)
            rw [HED.out] at HTK
            have HBL := hid (HBW.out e (by rw [← HED.out]; exact getD_mem hlt))
            obtain ⟨d0, d1, d2⟩ := hat
            generalize lyP d e.1 = X at *
            cases X with
            | true =>
              rw [if_pos rfl, List.append_nil] at HTK
              go_wp2_with (go_at_call 36; refine (HBL.out _).mono ?_; rintro r w5 ⟨rfl, hw5⟩; have hw5 := hw5.symm; subst hw5)
              exact ⟨⟨k + 1, by simp, by omega, by rw [HTK.out]; exact HO.out, HB.out⟩, by simp [intOf]; omega⟩
            | false =>
              rw [if_neg (by simp)] at HTK
              have HLA := hid (show (outB (t.take k) d).length + [e].length ≤ 3298534883328 by have := HLL.out; simp only [List.length_cons, List.length_nil]; omega)
              have HEN := hid (ents_one wr e)
              have HOA := hid (HO.out.below (below_walk wr (.cells #[.string (mk e.1), .int .i64 e.2.1, .string (mk e.2.2)] 25)))
              have HBA := hid (HB.out.alloc HB.out.size (.cells #[.string (mk e.1), .int .i64 e.2.1, .string (mk e.2.2)] 25))
              go_wp2_with (first | (go_at_call 36; refine (HBL.out _).mono ?_; rintro r w5 ⟨rfl, hw5⟩; have hw5 := hw5.symm; subst hw5) | (at_builtin; refine app_ent rfl _ _ rfl w3.heap.size _ _ rfl HOA.out [e] _ rfl HEN.out HLA.out HBA.out.size ?_; intro vA wA hoA hgA _; have HOB := hid hoA; have HBB := hid (HBA.out.grown hgA HBA.out.size (fun j hj => (HOA.out.lt j hj).1)); obtain ⟨aA, nA, cA, eA⟩ : ∃ a n c, vA = .slice a n c := by {obtain ⟨a, c, e⟩ := hoA.ents.shape; exact ⟨a, _, c, e⟩}; subst eA; clear hoA hgA))
              exact ⟨⟨k + 1, by simp, by omega, by rw [HTK.out]; exact HOB.out, HBB.out⟩, by simp [intOf]; omega⟩
          · have q1 : ¬ (k : Int) < (t.length : Int) := by omega
            obtain rfl : k = t.length := by omega
            rw [List.take_length] at HO HLL e2
            clear ho hb hlen
            generalize (outB t d).length = nl at e2
            subst e2
            go_wp2
            clear HT4 HLL q1 HBW
            go_loopw [10, 12] (fun x i wr => ∃ k : Nat, i = .int .i64 k ∧ k ≤ s.length ∧ OwnE wr w3.heap.size x (outB t d ++ (s.take k).map (mvE d)) ∧ Below w3.heap.size w3 wr ∧ Hid (∀ j, j < k → okP (mvT d (s.getD j zE).1) = true)) (fun _ i _ => s.length - (intOf i).toNat)
            case atStart => exact ⟨0, rfl, Nat.zero_le _, by rw [List.take_zero, List.map_nil, List.append_nil]; exact HO.out, HB.out, hid (fun j hj => by omega)⟩
            case round =>
              clear HO HB
              obtain ⟨k, rfl, hk, ho, hb, HOKS⟩ := hrel
              have HO := hid ho
              have HB := hid hb
              obtain ⟨al, xl, e2⟩ := ho.ents.shape
              have hlen : (outB t d ++ (s.take k).map (mvE d)).length ≤ 2048 := by have h1 := outB_len d t; rw [List.length_append, List.length_map, List.length_take]; have := HRT.out.many; have := HRU.out.many; omega
              have HLL := hid hlen
              by_cases hlt : k < s.length
              · generalize (outB t d ++ (s.take k).map (mvE d)).length = nl at e2
                subst e2
                clear ho hb hlen
                have hmany := HRU.out.many
                have q1 : (k : Int) < (s.length : Int) := by omega
                have q2 : ¬ (k : Int) < 0 := by omega
                have hw1 : IntKind.i64.wrap ((k : Int) + 1) = ((k + 1 : Nat) : Int) := by rw [IntKind.wrap_i64]; omega
                obtain ⟨g, o, rfl, hgl, hat⟩ := (HS4.out.below HB.out).at k hlt
                obtain ⟨e, HED⟩ : ∃ e, Hid (s.getD k zE = e) := ⟨_, rfl⟩
                rw [HED.out] at hat
                have HTK := hid (show outB t d ++ (s.take (k + 1)).map (mvE d) = (outB t d ++ (s.take k).map (mvE d)) ++ [mvE d e] from by rw [take_snoc s k hlt, HED.out, List.map_append, List.append_assoc]; rfl)
                have hme : e ∈ s := by rw [← HED.out]; exact getD_mem hlt
                have HPE := hid (HPA.out e hme)
                rw [bl_mk] at HPE
                have HLA := hid (show (outB t d ++ (s.take k).map (mvE d)).length + [mvE d e].length ≤ 3298534883328 by have := HLL.out; simp only [List.length_cons, List.length_nil]; omega)
                obtain ⟨d0, d1, d2⟩ := hat
                by_cases hd0 : d = []
                · have hs1 := HSS1.out hd0
                  have hs2 : (S.toList == []) = true := by rw [hs1]; rfl
                  have HMV := hid (show mvT d e.1 = e.1 from by unfold mvT; rw [if_pos hd0])
                  clear hd0 hme hadd
                  have HME := hid (show mvE d e = e from by unfold mvE; rw [HMV.out])
                  rw [HMV.out] at HPE
                  rw [HME.out] at HTK HLA
                  cases hok : okP e.1 with
                  | true =>
                    have HOK2 := hid (show ∀ j, j < k + 1 → okP (mvT d (s.getD j zE).1) = true from fun j hj => by
                      rcases Nat.lt_succ_iff_lt_or_eq.1 hj with h1 | h1
                      · exact HOKS.out j h1
                      · rw [h1, HED.out, HMV.out]; exact hok)
                    rw [hok] at HPE
                    clear hok
                    go_wp2_with (first | (go_at_call 35; refine (HPE.out _).mono ?_; rintro r w5 ⟨rfl, hb5⟩; have HB5 := hid (below_then (below_walk wr (.cells #[.string (mk e.1), .int .i64 e.2.1, .string (mk e.2.2)] 25)) hb5); have HE5 := hid ((Eb.new wr e).below hb5); obtain ⟨x0, x1, x2⟩ := HE5.out.at; clear hb5) | (at_builtin; refine app_ent rfl _ _ rfl w3.heap.size _ _ rfl (HO.out.below (below_then HB5.out (below_walk w5 (.cells #[.string (mk e.1), .int .i64 e.2.1, .string (mk e.2.2)] 25)))) [e] _ rfl (ents_one w5 e) HLA.out (Nat.le_trans HB.out.size (below_then HB5.out (below_walk w5 (.cells #[.string (mk e.1), .int .i64 e.2.1, .string (mk e.2.2)] 25))).size) ?_; intro vA wA hoA hgA _; have HOB := hid hoA; have HBB := hid ((HB.out.trans ((below_then HB5.out (below_walk w5 (.cells #[.string (mk e.1), .int .i64 e.2.1, .string (mk e.2.2)] 25))).mono HB.out.size)).grown hgA (Nat.le_trans HB.out.size (below_then HB5.out (below_walk w5 (.cells #[.string (mk e.1), .int .i64 e.2.1, .string (mk e.2.2)] 25))).size) (fun j hj => ((HO.out.below (below_then HB5.out (below_walk w5 (.cells #[.string (mk e.1), .int .i64 e.2.1, .string (mk e.2.2)] 25)))).lt j hj).1)); obtain ⟨aA, nA, cA, eA⟩ : ∃ a n c, vA = .slice a n c := by {obtain ⟨a, c, e⟩ := hoA.ents.shape; exact ⟨a, _, c, e⟩}; subst eA; clear hoA hgA))
                    exact ⟨⟨k + 1, by simp, by omega, by rw [HTK.out]; exact HOB.out, HBB.out, HOK2⟩, by simp [intOf]; omega⟩
                  | false =>
                    have HBD := hid (mvOk_bad hlt (by rw [HED.out, HMV.out]; exact hok))
                    rw [hok] at HPE
                    clear hok
                    go_wp2_with (go_at_call 35; refine (HPE.out _).mono ?_; rintro r w5 ⟨rfl, hb5⟩; have HB5 := hid (below_then (below_walk wr (.cells #[.string (mk e.1), .int .i64 e.2.1, .string (mk e.2.2)] 25)) hb5); have HE5 := hid ((Eb.new wr e).below hb5); obtain ⟨x0, x1, x2⟩ := HE5.out.at; clear hb5)
                    go_ret2
                    have hAP : grP t d s = .error 44 := by unfold grP; rw [if_neg (by rw [HE0.out]; simp), if_neg (by rw [HE1.out]; simp), if_neg (by rw [HW0.out]; simp), if_pos HBD.out]
                    rw [hAP]
                    exact ⟨rfl, HB3.out.trans ((HB.out.trans (HB5.out.mono HB.out.size)).mono HB3.out.size)⟩
                · have hs1 := HSS0.out hd0
                  have hs2 : (S.toList == []) = false := by simpa using hs1
                  have hs3 : S.toList.isEmpty = false := by simpa using hs1
                  have HMV := hid (show mvT d e.1 = d ++ [47] ++ e.1 from by unfold mvT; rw [if_neg hd0, List.append_assoc]; rfl)
                  have had := HAD.out e hme
                  rw [← HMV.out] at had
                  clear hd0 hme
                  cases hok : okP (mvT d e.1) with
                  | true =>
                    have HOK2 := hid (show ∀ j, j < k + 1 → okP (mvT d (s.getD j zE).1) = true from fun j hj => by
                      rcases Nat.lt_succ_iff_lt_or_eq.1 hj with h1 | h1
                      · exact HOKS.out j h1
                      · rw [h1, HED.out]; exact hok)
                    rw [hok] at HPE
                    clear hok
                    go_wp2_with (first | (go_at_call 35; refine (HPE.out _).mono ?_; rintro r w5 ⟨rfl, hb5⟩; have HB5 := hid (below_then (below_walk wr (.cells #[.string (mk (mvT d e.1)), .int .i64 e.2.1, .string (mk e.2.2)] 25)) hb5); have HE5 := hid ((Eb.new wr (mvE d e)).below hb5); obtain ⟨x0, x1, x2⟩ := HE5.out.at; clear hb5) | (at_builtin; refine app_ent rfl _ _ rfl w3.heap.size _ _ rfl (HO.out.below (below_then HB5.out (below_walk w5 (.cells #[.string (mk (mvT d e.1)), .int .i64 e.2.1, .string (mk e.2.2)] 25)))) [mvE d e] _ rfl (ents_one w5 (mvE d e)) HLA.out (Nat.le_trans HB.out.size (below_then HB5.out (below_walk w5 (.cells #[.string (mk (mvT d e.1)), .int .i64 e.2.1, .string (mk e.2.2)] 25))).size) ?_; intro vA wA hoA hgA _; have HOB := hid hoA; have HBB := hid ((HB.out.trans ((below_then HB5.out (below_walk w5 (.cells #[.string (mk (mvT d e.1)), .int .i64 e.2.1, .string (mk e.2.2)] 25))).mono HB.out.size)).grown hgA (Nat.le_trans HB.out.size (below_then HB5.out (below_walk w5 (.cells #[.string (mk (mvT d e.1)), .int .i64 e.2.1, .string (mk e.2.2)] 25))).size) (fun j hj => ((HO.out.below (below_then HB5.out (below_walk w5 (.cells #[.string (mk (mvT d e.1)), .int .i64 e.2.1, .string (mk e.2.2)] 25)))).lt j hj).1)); obtain ⟨aA, nA, cA, eA⟩ : ∃ a n c, vA = .slice a n c := by {obtain ⟨a, c, e⟩ := hoA.ents.shape; exact ⟨a, _, c, e⟩}; subst eA; clear hoA hgA))
                    exact ⟨⟨k + 1, by simp, by omega, by rw [HTK.out]; exact HOB.out, HBB.out, HOK2⟩, by simp [intOf]; omega⟩
                  | false =>
                    have HBD := hid (mvOk_bad hlt (by rw [HED.out]; exact hok))
                    rw [hok] at HPE
                    clear hok
                    go_wp2_with (go_at_call 35; refine (HPE.out _).mono ?_; rintro r w5 ⟨rfl, hb5⟩; have HB5 := hid (below_then (below_walk wr (.cells #[.string (mk (mvT d e.1)), .int .i64 e.2.1, .string (mk e.2.2)] 25)) hb5); have HE5 := hid ((Eb.new wr (mvE d e)).below hb5); obtain ⟨x0, x1, x2⟩ := HE5.out.at; clear hb5)
                    go_ret2
                    have hAP : grP t d s = .error 44 := by unfold grP; rw [if_neg (by rw [HE0.out]; simp), if_neg (by rw [HE1.out]; simp), if_neg (by rw [HW0.out]; simp), if_pos HBD.out]
                    rw [hAP]
                    exact ⟨rfl, HB3.out.trans ((HB.out.trans (HB5.out.mono HB.out.size)).mono HB3.out.size)⟩
              · have q1 : ¬ (k : Int) < (s.length : Int) := by omega
                obtain rfl : k = s.length := by omega
                rw [List.take_length] at HO HLL e2
                have HAL := hid (mvOk_all HOKS.out)
                have HLM := hid (mv_ly HRU.out (List.all_eq_true.1 HAL.out))
                have HAP := hid (show grP t d s = fitP (rpB d t (s.map (mvE d))) from by unfold grP; rw [if_neg (by rw [HE0.out]; simp), if_neg (by rw [HE1.out]; simp), if_neg (by rw [HW0.out]; simp), if_neg (by rw [HAL.out]; simp)])
                have hXO : ∀ e ∈ outB t d ++ s.map (mvE d), okP e.1 = true := fun e he => by
                  rcases List.mem_append.1 he with h1 | h1
                  · exact mayP_ok (HRT.out.may e (List.mem_filter.1 h1).1)
                  · exact (HLM.out.ly e h1).2.1
                rw [List.take_length] at ho
                have HSO := hid (HSR.out wr _ _ ho.ents (by have := HLL.out; omega) hXO)
                have HML := hid (show (s.map (mvE d)).length ≤ 1024 by rw [List.length_map]; exact HRU.out.many)
                have HMS := hid (show szP (s.map (mvE d)) ≤ 1048576 by rw [sz_map (mvE d) (fun _ => rfl)]; exact HRU.out.big)
                have HSI := hid (fun l (hp : l.Perm (outB t d ++ s.map (mvE d))) (hu : UpE l) => graft_sorted HRT.out HLM.out HDW.out hp hu)
                have HBN := hid (show (rpB d t (s.map (mvE d))).length ≤ 4611686018427387904 from Nat.le_trans (rpB_many HRT.out.many HML.out) (by omega))
                have HBS := hid (rpB_sz (d := d) HRT.out.many HRT.out.big HMS.out)
                clear ho hb hlen hXO
                generalize rpB d t (s.map (mvE d)) = R at *
                generalize (outB t d ++ s.map (mvE d)).length = nl at e2
                subst e2
                go_wp2_with (first | (go_at_call 31; refine HSO.out.mono ?_; rintro r w6 ⟨v6, l6, rfl, ho6, hp6, hu6, hb6⟩; have hl6 := HSI.out _ hp6 hu6; subst hl6; have HB6 := hid (HB3.out.trans ((HB.out.trans (hb6.mono HB.out.size)).mono HB3.out.size)); have HZ6 := hid (HSZ.out w6 v6 _ ho6.ents HBN.out HBS.out); obtain ⟨a6, n6, c6, e6⟩ := slice_shape ho6.ents; subst e6; clear ho6 hp6 hu6 hb6 HSO) | (go_at_call 30; refine HZ6.out.mono ?_; rintro r w7 ⟨ha7, hw7⟩; have hw7 := hw7.symm; subst hw7; have HA7 := hid ha7; obtain ⟨a7, n7, c7, E7, e7⟩ := ansR_shape ha7; subst e7; clear ha7))
                go_ret2
                rw [HAP.out]
                exact ⟨HA7.out, HB6.out⟩
      · have HAP := hid (show grP t d s = .error W0 from by unfold grP; rw [if_neg (by rw [HE0.out]; simp), if_neg (by rw [HE1.out]; simp), HW0.out, if_pos h1])
        have e1 : (W0 == 0) = false := by simpa using h1
        clear h1
        generalize mk d = S at *
        go_enter Tryz.func13, Tryz.ntmps13
        go_wp2_with (first | (go_at_call 25; with_reducible refine Calls.mono HR.out ?_; rintro r w1 ⟨rfl, hb1⟩; have HB1 := hid hb1; clear hb1 HR) | (go_at_call 25; with_reducible refine Calls.mono (HRS.out _ HB1.out) ?_; rintro r w2 ⟨rfl, hb2⟩; have HB2 := hid (below_then HB1.out hb2); clear hb2 HRS) | (go_at_call 40; refine (HWH.out _ HB2.out).mono ?_; rintro r w3 ⟨rfl, hb3⟩; have HB3 := hid (below_then HB2.out hb3); clear hb3))
        go_ret2
        rw [HAP.out]
        exact ⟨rfl, HB3.out⟩
    · have HAP := hid (show grP t d s = .error E1 from by unfold grP; rw [if_neg (by rw [HE0.out]; simp), HE1.out, if_pos hz1])
      have e1 : (E1 == 0) = false := by simpa using hz1
      clear hz1
      generalize mk d = S at *
      go_enter Tryz.func13, Tryz.ntmps13
      go_wp2_with (first | (go_at_call 25; with_reducible refine Calls.mono HR.out ?_; rintro r w1 ⟨rfl, hb1⟩; have HB1 := hid hb1; clear hb1 HR) | (go_at_call 25; with_reducible refine Calls.mono (HRS.out _ HB1.out) ?_; rintro r w2 ⟨rfl, hb2⟩; have HB2 := hid (below_then HB1.out hb2); clear hb2 HRS))
      go_ret2
      rw [HAP.out]
      exact ⟨rfl, HB2.out⟩
  · have HAP := hid (show grP t d s = .error E0 from by unfold grP; rw [HE0.out, if_pos hz])
    have e1 : (E0 == 0) = false := by simpa using hz
    clear hz HRS
    generalize mk d = S at *
    go_enter Tryz.func13, Tryz.ntmps13
    go_wp2_with (go_at_call 25; refine HR.out.mono ?_; rintro r w1 ⟨rfl, hb1⟩; have HB1 := hid hb1; clear hb1)
    go_ret2
    rw [HAP.out]
    exact ⟨rfl, HB1.out⟩

end Go.Proofs.YteijkbanlpodpaaGreatDoor

/- Changes applied as the document does it, plainly: in place or at the end, then sorted. -/
namespace Go.Proofs.YteijkbanlpodpaaGreatDoor

/-- what becomes of an entry -/
def sbE (cs : List Chg) (e : Ent) : Ent := match cs.find? (fun c => decide (c.1 = e.1)) with
  | some c => c.2.2
  | none => e
/-- entries behind changes, in place or at the end -/
def outL (t : List Ent) (cs : List Chg) : List Ent := t.map (sbE cs) ++ (cs.filter (fun c => !thP t c.1)).map (·.2.2)
def leftL (t : List Ent) (cs : List Chg) : List Ent := (outL t cs).filter (fun e => decide (e ≠ zE))
theorem outL_nil (t : List Ent) : outL t [] = t := by
  unfold outL
  rw [show sbE [] = id from rfl]
  simp
theorem sbE_snoc (cs : List Chg) (c : Chg) (e : Ent) : sbE (cs ++ [c]) e = match cs.find? (fun c => decide (c.1 = e.1)) with
    | some d => d.2.2
    | none => if c.1 = e.1 then c.2.2 else e := by
  unfold sbE
  rw [List.find?_append]
  cases cs.find? (fun c => decide (c.1 = e.1)) with
  | some d => rfl
  | none =>
    rw [Option.none_or, List.find?_cons]
    by_cases h : c.1 = e.1
    · rw [decide_eq_true h, if_pos h]
    · rw [decide_eq_false h, if_neg h]
      rfl
theorem outL_new {t : List Ent} {cs : List Chg} {c : Chg} (h : fiP t c.1 = none) : outL t (cs ++ [c]) = outL t cs ++ [c.2.2] := by
  have h0 := fiP_none.1 h
  have hth : thP t c.1 = false := by unfold thP; rw [fdP_none.2 h0]; rfl
  unfold outL
  rw [List.filter_append, List.map_append, ← List.append_assoc]
  congr 1
  · congr 1
    refine List.map_congr_left (fun e he => ?_)
    rw [sbE_snoc]
    unfold sbE
    rw [if_neg (fun h1 => h0 e he h1.symm)]
  · simp [hth]
theorem outL_set {t : List Ent} {cs : List Chg} {c : Chg} {i : Nat} (hup : t.Pairwise ltE) (h : fiP t c.1 = some i) (hc : ∀ d ∈ cs, d.1 ≠ c.1) : outL t (cs ++ [c]) = (outL t cs).set i c.2.2 := by
  obtain ⟨hi, hp, _⟩ := fiP_some.1 h
  have hth : thP t c.1 = true := by unfold thP; rw [fdP_fiP, h]; rfl
  unfold outL
  rw [List.filter_append, List.map_append, List.set_append_left _ _ (by simpa using hi)]
  congr 1
  · apply List.ext_getElem (by simp)
    intro j h1 h2
    have hj : j < t.length := by simpa using h1
    rw [List.getElem_set, List.getElem_map, List.getElem_map, sbE_snoc]
    by_cases hij : i = j
    · subst hij
      have hpi : t[i].1 = c.1 := by rw [← hp]; simp [List.getD_eq_getElem?_getD, hj]
      have hf : cs.find? (fun d => decide (d.1 = t[i].1)) = none := by
        rw [List.find?_eq_none]
        intro d hd
        simpa [hpi] using hc d hd
      rw [hf, if_pos rfl]
      show (if c.1 = t[i].1 then c.2.2 else t[i]) = c.2.2
      rw [if_pos hpi.symm]
    · rw [if_neg hij]
      have hne : ¬ c.1 = t[j].1 := by
        intro e
        have hpi : t[i].1 = c.1 := by rw [← hp]; simp [List.getD_eq_getElem?_getD, hi]
        rcases Nat.lt_or_ge i j with h3 | h3
        · exact ltE_ne (List.pairwise_iff_getElem.1 hup i j hi hj h3) (by rw [hpi, e])
        · exact ltE_ne (List.pairwise_iff_getElem.1 hup j i hj hi (by omega)) (by rw [hpi, e])
      unfold sbE
      rw [if_neg hne]
  · simp [hth]
theorem mayC_pair : ∀ {cs : List Chg} {L : List UInt8}, mayC L cs = true → (∀ c ∈ cs, okC c = true ∧ cmpL (nms L) (nms c.1) < 0) ∧ cs.Pairwise (fun c d => cmpL (nms c.1) (nms d.1) < 0)
  | [], _, _ => ⟨fun c hc => (by cases hc), List.Pairwise.nil⟩
  | c :: cs, L, h => by
    rw [mayC, Bool.and_eq_true, Bool.and_eq_true, decide_eq_true_eq] at h
    obtain ⟨h1, h2⟩ := mayC_pair h.2
    refine ⟨fun d hd => ?_, List.pairwise_cons.2 ⟨fun d hd => (h1 d hd).2, h2⟩⟩
    rw [List.mem_cons] at hd
    rcases hd with rfl | hd
    · exact ⟨h.1.1, h.1.2⟩
    · exact ⟨(h1 d hd).1, cmpL_lt_trans h.1.2 (h1 d hd).2⟩
theorem take_lt : ∀ {t : List Ent} {p : List UInt8}, ∀ e ∈ t.take (plP t p), cmpL (nms e.1) (nms p) < 0
  | [], _, e, he => by simp at he
  | x :: t, p, e, he => by
    by_cases hx : cmpL (nms x.1) (nms p) < 0
    · rw [plP_lt hx, List.take_succ_cons, List.mem_cons] at he
      rcases he with rfl | he
      · exact hx
      · exact take_lt e he
    · rw [plP_ge hx] at he
      simp at he
theorem drop_ge : ∀ {t : List Ent} {p : List UInt8}, t.Pairwise ltE → ∀ e ∈ t.drop (plP t p), ¬ cmpL (nms e.1) (nms p) < 0
  | [], _, _, e, he => by simp at he
  | x :: t, p, hup, e, he => by
    by_cases hx : cmpL (nms x.1) (nms p) < 0
    · rw [plP_lt hx, List.drop_succ_cons] at he
      exact drop_ge (pairL hup).2 e he
    · rw [plP_ge hx, List.drop_zero, List.mem_cons] at he
      rcases he with rfl | he
      · exact hx
      · intro h
        exact hx (cmpL_lt_trans ((pairL hup).1 e he) h)
theorem rest_gt {t : List Ent} {p : List UInt8} (hup : t.Pairwise ltE) : ∀ e ∈ t.drop (plP t p + (if thP t p then 1 else 0)), cmpL (nms p) (nms e.1) < 0 := by
  intro e he
  have he0 : e ∈ t.drop (plP t p) := by
    rw [← List.drop_drop] at he
    exact List.mem_of_mem_drop he
  have h1 := drop_ge hup e he0
  have h2 := cmpL_anti (nms e.1) (nms p)
  have h3 := cmpL_range (nms e.1) (nms p)
  by_cases h0 : cmpL (nms e.1) (nms p) = 0
  · exfalso
    have hp : e.1 = p := nms_inj (cmpL_zero h0)
    have hem := List.mem_of_mem_drop he
    have hth : thP t p = true := by unfold thP; rw [← hp, fdP_mem hup hem]; rfl
    rw [hth, if_pos rfl, ← List.drop_drop] at he
    have hpw : (t.drop (plP t p)).Pairwise ltE := hup.sublist (List.drop_sublist _ _)
    cases hd : t.drop (plP t p) with
    | nil => rw [hd] at he; simp at he
    | cons x r =>
      rw [hd] at he hpw
      have hx : ¬ cmpL (nms x.1) (nms p) < 0 := drop_ge hup x (by rw [hd]; simp)
      have hlt := (pairL hpw).1 e (by simpa using he)
      rw [hp] at hlt
      exact hx hlt
  · omega
theorem mem_split {t : List Ent} {p : List UInt8} {e : Ent} (hup : t.Pairwise ltE) (he : e ∈ t) (hp : e.1 ≠ p) : e ∈ t.take (plP t p) ∨ e ∈ t.drop (plP t p + (if thP t p then 1 else 0)) := by
  rw [← List.take_append_drop (plP t p) t, List.mem_append] at he
  rcases he with he | he
  · exact Or.inl he
  · refine Or.inr ?_
    by_cases hth : thP t p = true
    · rw [if_pos hth, ← List.drop_drop]
      cases hd : t.drop (plP t p) with
      | nil => rw [hd] at he; cases he
      | cons x r =>
        rw [hd] at he
        rw [List.mem_cons] at he
        rcases he with rfl | he
        · exfalso
          unfold thP at hth
          obtain ⟨y, hy⟩ := Option.isSome_iff_exists.1 hth
          obtain ⟨hy1, hy2⟩ := fdP_some hy
          have hpw : (e :: r).Pairwise ltE := by rw [← hd]; exact hup.sublist (List.drop_sublist _ _)
          have hge : ¬ cmpL (nms e.1) (nms p) < 0 := drop_ge hup e (by rw [hd]; simp)
          rw [← List.take_append_drop (plP t p) t, List.mem_append, hd, List.mem_cons] at hy1
          rcases hy1 with hy1 | rfl | hy1
          · have := take_lt y hy1
            rw [hy2, cmpL_self] at this
            omega
          · exact hp hy2
          · have := (pairL hpw).1 y hy1
            rw [hy2] at this
            exact hge this
        · simpa using he
    · rw [if_neg hth, Nat.add_zero]
      exact he
theorem mem_chgd : ∀ {cs : List Chg} {t : List Ent} {L : List UInt8} {e : Ent}, mayC L cs = true → t.Pairwise ltE → (e ∈ chgd t cs ↔ (e ∈ t ∧ ∀ c ∈ cs, c.1 ≠ e.1) ∨ ∃ c ∈ cs, e = c.2.2 ∧ c.2.2.2.1 ≠ 0)
  | [], t, L, e, _, _ => by simp [chgd]
  | c :: cs, t, L, e, h, hup => by
    obtain ⟨h1, h2⟩ := mayC_pair h
    rw [List.pairwise_cons] at h2
    rw [mayC, Bool.and_eq_true, Bool.and_eq_true] at h
    have ih := mem_chgd (e := e) h.2 (hup.sublist (List.drop_sublist (plP t c.1 + (if thP t c.1 then 1 else 0)) t))
    rw [chgd, List.mem_append, List.mem_append, ih]
    constructor
    · rintro (h3 | h3 | ⟨h3, h4⟩ | ⟨d, hd, h3⟩)
      · refine Or.inl ⟨List.mem_of_mem_take h3, fun d hd => ?_⟩
        have h4 := take_lt e h3
        rw [List.mem_cons] at hd
        rcases hd with rfl | hd
        · exact fun h5 => cmp_ne h4 h5.symm
        · exact fun h5 => cmp_ne (cmpL_lt_trans h4 (h2.1 d hd)) h5.symm
      · split at h3
        · cases h3
        · rename_i hk
          rw [List.mem_singleton] at h3
          exact Or.inr ⟨c, by simp, h3, hk⟩
      · refine Or.inl ⟨List.mem_of_mem_drop h3, fun d hd => ?_⟩
        rw [List.mem_cons] at hd
        rcases hd with rfl | hd
        · exact cmp_ne (rest_gt hup e h3)
        · exact h4 d hd
      · exact Or.inr ⟨d, by simp [hd], h3⟩
    · rintro (⟨h3, h4⟩ | ⟨d, hd, h3, h4⟩)
      · rcases mem_split hup h3 (fun h5 => h4 c (by simp) h5.symm) with h5 | h5
        · exact Or.inl h5
        · exact Or.inr (Or.inr (Or.inl ⟨h5, fun d hd => h4 d (by simp [hd])⟩))
      · rw [List.mem_cons] at hd
        rcases hd with rfl | hd
        · exact Or.inr (Or.inl (by rw [if_neg h4]; simp [h3]))
        · exact Or.inr (Or.inr (Or.inr ⟨d, hd, h3, h4⟩))
theorem okC_side {c : Chg} (h : okC c = true) : c.2.2 = zE ∨ (c.2.2.1 = c.1 ∧ mayP c.2.2 = true) := by
  unfold okC sidP at h
  simp only [Bool.and_eq_true, Bool.or_eq_true, decide_eq_true_eq] at h
  exact h.2
theorem chgd_up : ∀ {cs : List Chg} {t : List Ent} {L : List UInt8}, mayC L cs = true → t.Pairwise ltE → (chgd t cs).Pairwise ltE
  | [], t, L, _, hup => hup
  | c :: cs, t, L, h, hup => by
    obtain ⟨h1, h2⟩ := mayC_pair h
    rw [List.pairwise_cons] at h2
    have hc := (h1 c (by simp)).1
    rw [mayC, Bool.and_eq_true, Bool.and_eq_true] at h
    have hup2 := hup.sublist (List.drop_sublist (plP t c.1 + (if thP t c.1 then 1 else 0)) t)
    have ih := chgd_up h.2 hup2
    have hgt : ∀ e ∈ chgd (t.drop (plP t c.1 + (if thP t c.1 then 1 else 0))) cs, cmpL (nms c.1) (nms e.1) < 0 := by
      intro e he
      rcases (mem_chgd h.2 hup2).1 he with ⟨h3, _⟩ | ⟨d, hd, rfl, hk⟩
      · exact rest_gt hup e h3
      · rcases okC_side (h1 d (by simp [hd])).1 with h4 | h4
        · rw [h4] at hk; exact absurd rfl hk
        · rw [h4.1]; exact h2.1 d hd
    rw [chgd, List.pairwise_append]
    refine ⟨hup.sublist (List.take_sublist _ _), ?_, ?_⟩
    · split
      · exact ih
      · rename_i hk
        rw [List.singleton_append, List.pairwise_cons]
        refine ⟨fun e he => ?_, ih⟩
        rcases okC_side hc with h4 | h4
        · rw [h4] at hk; exact absurd rfl hk
        · show cmpL (nms c.2.2.1) (nms e.1) < 0
          rw [h4.1]
          exact hgt e he
    · intro x hx y hy
      have h3 := take_lt x hx
      rw [List.mem_append] at hy
      rcases hy with hy | hy
      · split at hy
        · cases hy
        · rename_i hk
          rw [List.mem_singleton] at hy
          subst hy
          rcases okC_side hc with h4 | h4
          · rw [h4] at hk; exact absurd rfl hk
          · show cmpL (nms x.1) (nms c.2.2.1) < 0
            rw [h4.1]
            exact h3
      · exact cmpL_lt_trans h3 (hgt y hy)
theorem chg_uniq : ∀ {cs : List Chg}, cs.Pairwise (fun c d => cmpL (nms c.1) (nms d.1) < 0) → ∀ {a b : Chg}, a ∈ cs → b ∈ cs → a.1 = b.1 → a = b
  | [], _, _, _, h, _, _ => by cases h
  | c :: cs, h, a, b, ha, hb, hab => by
    rw [List.pairwise_cons] at h
    rw [List.mem_cons] at ha hb
    rcases ha with rfl | ha <;> rcases hb with rfl | hb
    · rfl
    · exact absurd hab (cmp_ne (h.1 b hb))
    · exact absurd hab.symm (cmp_ne (h.1 a ha))
    · exact chg_uniq h.2 ha hb hab
theorem mem_left {t : List Ent} {cs : List Chg} {e : Ent} (h : mayC [] cs = true) (hup : t.Pairwise ltE) (hm : ∀ e ∈ t, mayP e = true) : e ∈ leftL t cs ↔ e ∈ chgd t cs := by
  obtain ⟨h1, h2⟩ := mayC_pair h
  rw [mem_chgd h hup]
  unfold leftL outL
  rw [List.mem_filter, List.mem_append, List.mem_map, List.mem_map, decide_eq_true_eq]
  constructor
  · rintro ⟨⟨x, hx, rfl⟩ | ⟨c, hc, rfl⟩, hz⟩
    · unfold sbE at hz ⊢
      cases hf : cs.find? (fun c => decide (c.1 = x.1)) with
      | none =>
        rw [List.find?_eq_none] at hf
        exact Or.inl ⟨hx, fun c hc => by simpa using hf c hc⟩
      | some c =>
        rw [hf] at hz
        have hc := List.mem_of_find?_eq_some hf
        rcases okC_side (h1 c hc).1 with h3 | h3
        · exact absurd h3 hz
        · exact Or.inr ⟨c, hc, rfl, may_kind h3.2⟩
    · rw [List.mem_filter] at hc
      rcases okC_side (h1 c hc.1).1 with h3 | h3
      · exact absurd h3 hz
      · exact Or.inr ⟨c, hc.1, rfl, may_kind h3.2⟩
  · rintro (⟨he, hn⟩ | ⟨c, hc, rfl, hk⟩)
    · refine ⟨Or.inl ⟨e, he, ?_⟩, may_zero (hm e he)⟩
      unfold sbE
      rw [List.find?_eq_none.2 (fun c hc => by simpa using hn c hc)]
    · refine ⟨?_, fun h3 => hk (by rw [h3]; rfl)⟩
      by_cases hth : thP t c.1 = true
      · unfold thP at hth
        obtain ⟨y, hy⟩ := Option.isSome_iff_exists.1 hth
        obtain ⟨hy1, hy2⟩ := fdP_some hy
        refine Or.inl ⟨y, hy1, ?_⟩
        unfold sbE
        cases hf : cs.find? (fun d => decide (d.1 = y.1)) with
        | none =>
          rw [List.find?_eq_none] at hf
          exact absurd (by simpa using hy2.symm) (hf c hc)
        | some d =>
          have hd := List.mem_of_find?_eq_some hf
          have hd2 : d.1 = y.1 := by simpa using List.find?_some hf
          rw [chg_uniq h2 hd hc (hd2.trans hy2)]
      · exact Or.inr ⟨c, by rw [List.mem_filter]; exact ⟨hc, by simpa using hth⟩, rfl⟩
theorem sub_paths (f : Ent → Ent) : ∀ (t : List Ent), (∀ e ∈ t, f e = zE ∨ (f e).1 = e.1) → (((t.map f).filter (fun e => decide (e ≠ zE))).map (·.1)).Sublist (t.map (·.1))
  | [], _ => List.Sublist.slnil
  | x :: t, h => by
    have ih := sub_paths f t (fun e he => h e (by simp [he]))
    rw [List.map_cons, List.filter_cons]
    by_cases hz : f x = zE
    · rw [if_neg (by simpa using hz), List.map_cons]
      exact ih.cons _
    · rw [if_pos (by simpa using hz), List.map_cons, List.map_cons, (h x (by simp)).resolve_left hz]
      exact ih.cons_cons _
theorem sub_news : ∀ (cs : List Chg), (∀ c ∈ cs, c.2.2 = zE ∨ c.2.2.1 = c.1) → (((cs.map (·.2.2)).filter (fun e => decide (e ≠ zE))).map (·.1)).Sublist (cs.map (·.1))
  | [], _ => List.Sublist.slnil
  | c :: cs, h => by
    have ih := sub_news cs (fun e he => h e (by simp [he]))
    rw [List.map_cons, List.filter_cons]
    by_cases hz : c.2.2 = zE
    · rw [if_neg (by simpa using hz), List.map_cons]
      exact ih.cons _
    · rw [if_pos (by simpa using hz), List.map_cons, List.map_cons, (h c (by simp)).resolve_left hz]
      exact ih.cons_cons _
theorem left_nodup {t : List Ent} {cs : List Chg} (h : mayC [] cs = true) (hup : t.Pairwise ltE) : ((leftL t cs).map (·.1)).Nodup := by
  obtain ⟨h1, h2⟩ := mayC_pair h
  have hs : ((leftL t cs).map (·.1)).Sublist (t.map (·.1) ++ (cs.filter (fun c => !thP t c.1)).map (·.1)) := by
    unfold leftL outL
    rw [List.filter_append, List.map_append]
    refine List.Sublist.append (sub_paths _ t (fun e _ => ?_)) (sub_news _ (fun c hc => ?_))
    · unfold sbE
      cases hf : cs.find? (fun c => decide (c.1 = e.1)) with
      | none => exact Or.inr rfl
      | some c =>
        have hc2 : c.1 = e.1 := by simpa using List.find?_some hf
        exact (okC_side (h1 c (List.mem_of_find?_eq_some hf)).1).imp id (fun h3 => h3.1.trans hc2)
    · exact (okC_side (h1 c (List.mem_filter.1 hc).1).1).imp id (·.1)
  refine List.Nodup.sublist hs ?_
  rw [List.nodup_append]
  refine ⟨pair_nodup hup, ?_, ?_⟩
  · have h3 : ((cs.filter (fun c => !thP t c.1)).map (·.1)).Pairwise (fun a b => cmpL (nms a) (nms b) < 0) := by
      rw [List.pairwise_map]
      exact h2.sublist List.filter_sublist
    exact h3.imp (fun h4 => cmp_ne h4)
  · intro a ha b hb hab
    subst hab
    rw [List.mem_map] at ha hb
    obtain ⟨e, he, rfl⟩ := ha
    obtain ⟨c, hc, hce⟩ := hb
    rw [List.mem_filter] at hc
    have : thP t c.1 = true := by unfold thP; rw [hce, fdP_mem hup he]; rfl
    rw [this] at hc
    simp at hc
/-- what the document sorts is what the program makes -/
theorem left_sorted {t l : List Ent} {cs : List Chg} (h : mayC [] cs = true) (hup : t.Pairwise ltE) (hm : ∀ e ∈ t, mayP e = true) (hp : l.Perm (leftL t cs)) (hu : l.Pairwise (fun a b => ¬ cmpL (nms b.1) (nms a.1) < 0)) : l = chgd t cs := by
  have hnd : (l.map (·.1)).Nodup := (hp.map (·.1)).nodup_iff.2 (left_nodup h hup)
  have hlt : l.Pairwise ltE := by
    have h1 : l.Pairwise (fun a b => a.1 ≠ b.1) := List.pairwise_map.1 hnd
    refine (hu.and h1).imp ?_
    rintro a b ⟨h2, h3⟩
    have h4 := cmpL_anti (nms a.1) (nms b.1)
    have h5 := cmpL_range (nms a.1) (nms b.1)
    have h6 : cmpL (nms a.1) (nms b.1) ≠ 0 := fun h7 => h3 (nms_inj (cmpL_zero h7))
    unfold ltE
    omega
  exact pair_ext hlt (chgd_up h hup) (fun e => by rw [hp.mem_iff]; exact mem_left h hup hm)

end Go.Proofs.YteijkbanlpodpaaGreatDoor

/- What was put is found, what was removed is not, and all else is as it was: plainly. -/
namespace Go.Proofs.YteijkbanlpodpaaGreatDoor

theorem fd_iff {t : List Ent} (h : t.Pairwise ltE) {q : List UInt8} {e : Ent} : fdP t q = some e ↔ e ∈ t ∧ e.1 = q := by
  constructor
  · exact fun h1 => fdP_some h1
  · rintro ⟨h1, rfl⟩
    exact fdP_mem h h1
theorem fd_same {a b : List Ent} (_ : a.Pairwise ltE) (hb : b.Pairwise ltE) {q : List UInt8} (h : ∀ e, e.1 = q → (e ∈ a ↔ e ∈ b)) : fdP a q = fdP b q := by
  cases hx : fdP a q with
  | some e =>
    obtain ⟨h1, h2⟩ := fdP_some hx
    rw [(fd_iff hb).2 ⟨(h e h2).1 h1, h2⟩]
  | none =>
    symm
    rw [fdP_none] at hx ⊢
    exact fun e he hq => hx e ((h e hq).2 he) hq
theorem mem_puL {t : List Ent} {x e : Ent} (hup : t.Pairwise ltE) : e ∈ puL t x ↔ e = x ∨ (e ∈ t ∧ e.1 ≠ x.1) := by
  unfold puL
  rw [List.mem_append, List.mem_append, List.mem_singleton]
  constructor
  · rintro (h | h | h)
    · exact Or.inr ⟨List.mem_of_mem_take h, cmp_ne (take_lt e h)⟩
    · exact Or.inl h
    · exact Or.inr ⟨List.mem_of_mem_drop h, fun h1 => cmp_ne (rest_gt hup e h) h1.symm⟩
  · rintro (h | ⟨h1, h2⟩)
    · exact Or.inr (Or.inl h)
    · rcases mem_split hup h1 h2 with h3 | h3
      · exact Or.inl h3
      · exact Or.inr (Or.inr h3)
theorem puL_up {t : List Ent} {x : Ent} (hup : t.Pairwise ltE) : (puL t x).Pairwise ltE := by
  unfold puL
  rw [List.pairwise_append]
  refine ⟨hup.sublist (List.take_sublist _ _), ?_, ?_⟩
  · rw [List.singleton_append, List.pairwise_cons]
    exact ⟨fun e he => rest_gt hup e he, hup.sublist (List.drop_sublist _ _)⟩
  · intro a ha b hb
    have h1 := take_lt a ha
    rw [List.mem_append, List.mem_singleton] at hb
    rcases hb with rfl | hb
    · exact h1
    · exact cmpL_lt_trans h1 (rest_gt hup b hb)
theorem spD_ne {x : Ent} (h : mayP x = true) : spD x.1 ≠ x.1 := by
  intro h1
  have h2 := spD_lt (mayP_ok h) (mayP_ne h)
  rw [h1, cmpL_self] at h2
  omega
/-- what Put answers is a right tree that has the entry, and all else as it was -/
theorem putP_ok {t a : List Ent} {x : Ent} (h : putP t x = .ok a) : Rgt t ∧ Rgt a ∧ fnP a x.1 = x ∧ ∀ q, q ≠ x.1 → fnP a q = fnP t q := by
  unfold putP at h
  split at h
  · cases h
  · rename_i h0
    have hc : (chkP t).2 = 0 := by simpa using h0
    have hr := rgt_iff.1 hc
    split at h
    · cases h
    · rename_i h1
      have hm : mayP x = true := by simpa using h1
      split at h
      · cases h
      · rename_i h2
        have hd : dirP t (spD x.1) = true := by simpa using h2
        split at h
        · cases h
        · rename_i h3
          unfold fitP at h
          split at h
          · cases h
          · rename_i h4
            split at h
            · cases h
            · rename_i h5
              cases h
              have hup := puL_up (x := x) hr.up
              have hra : Rgt (puL t x) := by
                refine ⟨⟨puL_may hr.may hm, hup, fun e he => ?_⟩, by omega, by omega⟩
                have key : ∀ d ∈ t, d.2.1 = 2 → ∃ d' ∈ puL t x, d'.1 = d.1 ∧ d'.2.1 = 2 := by
                  intro d hdt hk
                  by_cases hdx : d.1 = x.1
                  · refine ⟨x, (mem_puL hr.up).2 (Or.inl rfl), hdx.symm, ?_⟩
                    have hf : fdP t x.1 = some d := (fd_iff hr.up).2 ⟨hdt, hdx⟩
                    have hth : thP t x.1 = true := by unfold thP; rw [hf]; rfl
                    have hst : stP t x.1 = d := by unfold stP; rw [hf]; rfl
                    have h6 : decide (d.2.1 = 2) = decide (x.2.1 = 2) := by
                      by_cases h7 : decide (d.2.1 = 2) = decide (x.2.1 = 2)
                      · exact h7
                      · exact absurd ⟨hth, by rw [hst]; exact h7⟩ h3
                    rw [decide_eq_true hk] at h6
                    simpa using h6.symm
                  · exact ⟨d, (mem_puL hr.up).2 (Or.inr ⟨hdt, hdx⟩), rfl, hk⟩
                rcases (mem_puL hr.up).1 he with rfl | ⟨het, _⟩
                · rcases (dirP_of hr.up).1 hd with h6 | ⟨d, h6, h7, h8⟩
                  · exact Or.inl h6
                  · obtain ⟨d', h9, h10, h11⟩ := key d h6 h8
                    exact Or.inr ⟨d', h9, h10.trans h7, h11⟩
                · rcases hr.dir e het with h6 | ⟨d, h6, h7, h8⟩
                  · exact Or.inl h6
                  · obtain ⟨d', h9, h10, h11⟩ := key d h6 h8
                    exact Or.inr ⟨d', h9, h10.trans h7, h11⟩
              refine ⟨hr, hra, ?_, fun q hq => ?_⟩
              · unfold fnP stP
                rw [if_pos ⟨rgt_iff.2 hra, mayP_ok hm⟩, (fd_iff hup).2 ⟨(mem_puL hr.up).2 (Or.inl rfl), rfl⟩]
                rfl
              · unfold fnP
                rw [rgt_iff.2 hra, hc]
                unfold stP
                rw [fd_same hup hr.up (fun e he => by
                  rw [mem_puL hr.up]
                  constructor
                  · rintro (h6 | h6)
                    · exact absurd (by rw [← he, h6]) hq
                    · exact h6.1
                  · exact fun h6 => Or.inr ⟨h6, by rw [he]; exact hq⟩)]
theorem sz_filter (f : Ent → Bool) : ∀ t : List Ent, szP (t.filter f) ≤ szP t
  | [] => Nat.le_refl _
  | x :: t => by
    have ih := sz_filter f t
    have h4 : szP (x :: t) = x.2.2.length + szP t := by simp [szP]
    rw [List.filter_cons]
    split
    · have h5 : szP (x :: t.filter f) = x.2.2.length + szP (t.filter f) := by simp [szP]
      omega
    · omega
/-- what Remove answers is a right tree without the path and what lies below it, and all else as it was -/
theorem rmP_ok {t b : List Ent} {p : List UInt8} (h : rmP t p = .ok b) : Rgt t ∧ Rgt b ∧ p ≠ [] ∧ ∀ q, fnP b q = if q = p ∨ lyP p q = true then zE else fnP t q := by
  unfold rmP at h
  split at h
  · cases h
  · rename_i h0
    have hc : (chkP t).2 = 0 := by simpa using h0
    have hr := rgt_iff.1 hc
    split at h
    · cases h
    · split at h
      · cases h
      · rename_i h2
        have hth : thP t p = true := by simpa using h2
        have hp := th_ne hr.may hth
        cases h
        have hup : (t.filter (keepP p)).Pairwise ltE := hr.up.sublist List.filter_sublist
        have hk : ∀ e : Ent, keepP p e = true ↔ e.1 ≠ p ∧ lyP p e.1 = false := by
          intro e
          unfold keepP
          rw [Bool.and_eq_true, decide_eq_true_eq, Bool.not_eq_true']
        have hrb : Rgt (t.filter (keepP p)) := by
          refine ⟨⟨fun e he => hr.may e (List.mem_filter.1 he).1, hup, fun e he => ?_⟩, Nat.le_trans (List.length_filter_le _ _) hr.many, Nat.le_trans (sz_filter _ t) hr.big⟩
          obtain ⟨he1, he2⟩ := List.mem_filter.1 he
          rw [hk] at he2
          by_cases h3 : spD e.1 = []
          · exact Or.inl h3
          · rcases hr.dir e he1 with h4 | ⟨d, h4, h5, h6⟩
            · exact absurd h4 h3
            · refine Or.inr ⟨d, List.mem_filter.2 ⟨h4, ?_⟩, h5, h6⟩
              rw [hk, h5]
              refine ⟨fun h7 => ?_, ?_⟩
              · have := ly_up (hr.may e he1) hp h3 (Or.inl h7)
                rw [this] at he2
                exact absurd he2.2 (by simp)
              · cases h7 : lyP p (spD e.1) with
                | false => rfl
                | true =>
                  have := ly_up (hr.may e he1) hp h3 (Or.inr h7)
                  rw [this] at he2
                  exact absurd he2.2 (by simp)
        refine ⟨hr, hrb, hp, fun q => ?_⟩
        unfold fnP
        rw [rgt_iff.2 hrb, hc]
        by_cases hq : q = p ∨ lyP p q = true
        · rw [if_pos hq]
          split
          · unfold stP
            rw [fdP_none.2 (fun e he h3 => ?_)]
            · rfl
            · have h4 := (hk e).1 (List.mem_filter.1 he).2
              rw [h3] at h4
              rcases hq with h5 | h5
              · exact h4.1 h5
              · rw [h5] at h4; exact absurd h4.2 (by simp)
          · rfl
        · rw [if_neg hq]
          unfold stP
          rw [fd_same hup hr.up (fun e he => by
            rw [List.mem_filter, hk, he]
            constructor
            · exact fun h3 => h3.1
            · exact fun h3 => ⟨h3, fun h4 => hq (Or.inl h4), by cases h5 : lyP p q with
                | false => rfl
                | true => exact absurd (Or.inr h5) hq⟩)]

end Go.Proofs.YteijkbanlpodpaaGreatDoor

/- The document's Put. -/
namespace Go.Proofs.YteijkbanlpodpaaGreatDoor
open Go.RowKit Go.BigFrame

theorem put_there {t : List Ent} {e : Ent} {i : Nat} (ht : t.Pairwise ltE) (hi : fiP t e.1 = some i) : i < t.length ∧ thP t e.1 = true ∧ stP t e.1 = t.getD i zE ∧ puL t e = t.set i e := by
  obtain ⟨h1, h2, h3⟩ := fiP_some.1 hi
  have h4 := fdP_fiP t e.1
  rw [hi] at h4
  have hth : thP t e.1 = true := by unfold thP; rw [h4]; rfl
  have hst : stP t e.1 = t.getD i zE := by unfold stP; rw [h4]; rfl
  obtain ⟨h5, h6⟩ := plP_th ht hth
  have hpi : plP t e.1 = i := by
    rcases Nat.lt_trichotomy (plP t e.1) i with h | h | h
    · have h7 := ltE_ne (pair_at ht h h1)
      rw [h6, hst] at h7
      exact absurd rfl h7
    · exact h
    · have h7 := ltE_ne (pair_at ht h h5)
      rw [h6, hst] at h7
      exact absurd rfl h7
  refine ⟨h1, hth, hst, ?_⟩
  unfold puL
  rw [hth, if_pos rfl, hpi, List.set_eq_take_append_cons_drop, if_pos h1]
  rfl
theorem put_new {t l : List Ent} {e : Ent} (ht : t.Pairwise ltE) (hi : fiP t e.1 = none) (hp : l.Perm (t ++ [e])) (hu : UpE l) : l = puL t e := by
  have hn := fiP_none.1 hi
  refine sorted_is hp hu (puL_up ht) (fun x => ?_) ?_
  · rw [mem_puL ht, List.mem_append, List.mem_singleton]
    constructor
    · rintro (h | h)
      · exact Or.inr h
      · exact Or.inl h.1
    · rintro (h | h)
      · exact Or.inr ⟨h, hn x h⟩
      · exact Or.inl h
  · rw [List.map_append, List.nodup_append]
    refine ⟨pair_nodup ht, by simp, fun a ha b hb => ?_⟩
    obtain ⟨x, hx, rfl⟩ := List.mem_map.1 ha
    simp at hb
    rw [hb]
    exact hn x hx

/-- one of one's own entries is written over -/
theorem OwnE.setE {w : World} {base g n cap : Nat} {es : List Ent} (h : OwnE w base (.slice (some ⟨g, 0, none⟩) n cap) es) {i : Nat} (hi : i < es.length) (e : Ent) :
    OwnE (w.setCells g (i * 3) [.string (mk e.1), .int .i64 e.2.1, .string (mk e.2.2)]) base (.slice (some ⟨g, 0, none⟩) n cap) (es.set i e) := by
  rcases h.2 with ⟨h0, _⟩ | ⟨g', cap', cur, hv, hb, hh, h1, h2, h3, h4⟩
  · cases h0
  · injection hv with hv1 hv2 hv3
    have hg : g = g' := by injection hv1 with hv1; injection hv1
    subst hg hv2 hv3
    have hl := h.1
    refine ⟨?_, Or.inr ⟨g, cap, ((cur.setIfInBounds (i * 3) (.string (mk e.1))).setIfInBounds (i * 3 + 1) (.int .i64 e.2.1)).setIfInBounds (i * 3 + 2) (.string (mk e.2.2)), ?_, hb, ?_, ?_, h2, by simpa using h3, ?_⟩⟩
    · rw [← entsV_set es i e hi, List.length_set, List.length_set, List.length_set, List.length_set, hl]
    · rw [List.length_set]
    · unfold World.setCells World.setCells World.setCells World.setCells
      rw [blk_set (blk_set (blk_set hh _) _) _]
    · rw [List.length_set]; exact h1
    · rw [List.length_set, ← entsV_set es i e hi]
      simp only [Array.toList_setIfInBounds]
      rw [List.take_set, List.take_set, List.take_set, h4]

set_option maxRecDepth 100000 in
set_option maxHeartbeats 8000000 in
theorem rput_any (v : Value) (t : List Ent) (e : Ent) (w : World) (h : Ents w v t) (hl : Bulk t) (hn : t.length ≤ 4611686018427387904) (he : e.1.length ≤ 1048576) :
    Calls Tryz.prog 7 #[v, entA e] w fun r w' => AnsR w' r (putP t e) ∧ Below w.heap.size w w' := by
  obtain ⟨I0, HI0⟩ : ∃ I : Nat, Hid ((chkP t).1 = I) := ⟨_, rfl⟩
  obtain ⟨E0, HE0⟩ : ∃ E : Int, Hid ((chkP t).2 = E) := ⟨_, rfl⟩
  have HB0 := hid (below_walk w (.cells #[.string (mk e.1), .int .i64 e.2.1, .string (mk e.2.2)] 25))
  have HEB := hid (Eb.new w e)
  have HR := hid (rcheck_any v t _ (h.below HB0.out) hl hn)
  rw [HI0.out, HE0.out] at HR
  have HET := hid h
  have HMY := hid (fun W => rmay_any e W he)
  have HUP := hid (fun W => rup_any e.1 W he)
  have HID := hid (fun W (hW : Below w.heap.size w W) => risdir_any v t (spD e.1) W (h.below hW) hn)
  have HFD := hid (fun W (hW : Below w.heap.size w W) => rfind_any v t e.1 W (h.below hW) hn)
  have HZ0 := hid (show (w.alloc (.cells #[.string (mk e.1), .int .i64 e.2.1, .string (mk e.2.2)] 25)).heap.size = w.heap.size + 1 by simp)
  obtain ⟨ao, c, e0⟩ := h.shape
  subst e0
  clear h hl
  unfold entA at HMY ⊢
  have HX := hid (show ∀ W, Below (w.heap.size + 1) (w.alloc (.cells #[.string (mk e.1), .int .i64 e.2.1, .string (mk e.2.2)] 25)) W → Eb W w.heap.size e ∧ Below w.heap.size w W from fun W hW => ⟨HEB.out.below (by rw [HZ0.out]; exact hW), below_then HB0.out (by rw [HZ0.out]; exact hW)⟩)
  rw [HZ0.out] at HR
  by_cases hz : E0 = 0
  · subst hz
    have HRT := hid (rgt_iff.1 HE0.out)
    go_enter Tryz.func7, Tryz.ntmps7
    go_wp2_with fail
    refine HR.out.mono ?_
    rintro r w1 ⟨rfl, hb1⟩
    obtain ⟨he1, hb1'⟩ := HX.out w1 hb1
    have HE1 := hid he1
    have HB1 := hid hb1'
    obtain ⟨x0, x1, x2⟩ := he1.at
    clear hb1 he1 hb1' HR
    cases hmay : mayP e with
    | false =>
      have HAP := hid (show putP t e = .error 50 from by unfold putP; rw [if_neg (by rw [HE0.out]; simp), if_pos hmay])
      rw [hmay] at HMY
      clear hmay
      go_wp2_with (go_at_call 26; refine (HMY.out _).mono ?_; rintro r w2 ⟨rfl, hb2⟩; have HB2 := hid (below_then HB1.out hb2))
      go_ret2
      rw [HAP.out]
      exact ⟨rfl, HB2.out⟩
    | true =>
      rw [hmay] at HMY
      have HMT := hid hmay
      clear hmay
      go_wp2_with fail
      refine (HMY.out _).mono ?_
      rintro r w2 ⟨rfl, hb2⟩
      have HB2 := hid (below_then HB1.out hb2)
      have HE2 := hid (HE1.out.below hb2)
      obtain ⟨x0, x1, x2⟩ := HE2.out.at
      clear hb2 HMY HE1 HB1
      cases hdir : dirP t (spD e.1) with
      | false =>
        have HAP := hid (show putP t e = .error 52 from by unfold putP; rw [if_neg (by rw [HE0.out]; simp), if_neg (by rw [HMT.out]; simp), if_pos hdir])
        rw [hdir] at HID
        clear hdir
        go_wp2_with (first | (go_at_call 28; refine (HUP.out _).mono ?_; rintro r w3 ⟨rfl, hb3⟩; have HB3 := hid (below_then HB2.out hb3); clear hb3) | (go_at_call 27; refine (HID.out _ HB3.out).mono ?_; rintro r w4 ⟨rfl, hw4⟩; have hw4 := hw4.symm; subst hw4))
        go_ret2
        rw [HAP.out]
        exact ⟨rfl, HB3.out⟩
      | true =>
        rw [hdir] at HID
        have HPU := hid (show putP t e = if thP t e.1 = true ∧ decide ((stP t e.1).2.1 = 2) ≠ decide (e.2.1 = 2) then .error 9 else fitP (puL t e) from by unfold putP; rw [if_neg (by rw [HE0.out]; simp), if_neg (by rw [HMT.out]; simp), if_neg (by rw [hdir]; simp)])
        clear hdir
        have HNL := hid (show ([] : List Ent).length + t.length ≤ 3298534883328 by have := HRT.out.many; simp; omega)
        have HZB := hid (sz_le HRT.out.may)
        cases hfi : fiP t e.1 with
        | none =>
          have hz : fiN t e.1 = -1 := by unfold fiN; rw [hfi]
          have HAP := hid (show putP t e = fitP (puL t e) from by
            rw [HPU.out, if_neg]
            rintro ⟨h1, _⟩
            unfold thP at h1
            rw [fdP_fiP, hfi] at h1
            cases h1)
          have HNW := hid (fun l (hp : l.Perm (t ++ [e])) (hu : UpE l) => put_new HRT.out.up hfi hp hu)
          have HLA := hid (show t.length + [e].length ≤ 3298534883328 by have := HRT.out.many; simp only [List.length_cons, List.length_nil]; omega)
          have HSR := hid (fun W v (hv : Ents W v (t ++ [e])) => rsort_any _ (t ++ [e]) (Nat.le_refl _) (by have := HRT.out.many; simp; omega) (fun x hx => by
            rcases List.mem_append.1 hx with h1 | h1
            · exact mayP_ok (HRT.out.may x h1)
            · rw [List.mem_singleton] at h1; rw [h1]; exact mayP_ok HMT.out) v W hv)
          have HPL := hid (show (puL t e).length ≤ t.length + 1 from by
            unfold puL
            rw [List.length_append, List.length_append, List.length_take, List.length_drop]
            simp
            omega)
          have HPS := hid (show szP (puL t e) ≤ 4611686018427387904 from by
            have h1 : ∀ x ∈ puL t e, mayP x = true := fun x hx => by
              rcases (mem_puL HRT.out.up).1 hx with h | h
              · rw [h]; exact HMT.out
              · exact HRT.out.may x h.1
            have h2 := sz_le h1
            have h3 := HPL.out
            have h4 := HRT.out.many
            omega)
          have HSZ := hid (fun W v (hv : Ents W v (puL t e)) => rsized_any v _ W hv (by have := HPL.out; have := HRT.out.many; omega) HPS.out)
          rw [hz] at HFD
          clear hfi hz
          go_wp2_with (first | (go_at_call 28; refine (HUP.out _).mono ?_; rintro r w3 ⟨rfl, hb3⟩; have HB3 := hid (below_then HB2.out hb3); have HE3 := hid (HE2.out.below hb3); obtain ⟨x0, x1, x2⟩ := HE3.out.at; clear hb3) | (go_at_call 27; refine (HID.out _ HB3.out).mono ?_; rintro r w4 ⟨rfl, hw4⟩; have hw4 := hw4.symm; subst hw4) | (go_at_call 29; refine (HFD.out _ HB3.out).mono ?_; rintro r w5 ⟨rfl, hw5⟩; have hw5 := hw5.symm; subst hw5) | (at_builtin; refine app_ent rfl _ _ rfl w3.heap.size _ [] rfl (OwnE.nil _ _) t _ rfl (HET.out.below HB3.out) HNL.out (Nat.le_refl _) ?_; intro vA wA hoA hgA _; have HOB := hid hoA; have HBA := hid (gb_below hgA); obtain ⟨x0, x1, x2⟩ := (HE3.out.below HBA.out).at; have HBB := hid (below_then HB3.out HBA.out); obtain ⟨aA, cA, eA⟩ := hoA.ents.shape; rw [List.nil_append] at eA HOB; generalize t.length = nA at eA; subst eA; clear hoA hgA HNL) | (at_builtin; refine app_ent rfl _ _ rfl w3.heap.size _ _ rfl (HOB.out.below (below_walk wA (.cells #[.string (mk e.1), .int .i64 e.2.1, .string (mk e.2.2)] 25))) [e] _ rfl (ents_one wA e) HLA.out (Nat.le_trans HBA.out.size (below_walk wA (.cells #[.string (mk e.1), .int .i64 e.2.1, .string (mk e.2.2)] 25)).size) ?_; intro vC wC hoC hgC _; have HSO := hid (HSR.out wC vC hoC.ents); have HBC := hid (HB3.out.trans (((HBA.out.trans ((below_walk wA (.cells #[.string (mk e.1), .int .i64 e.2.1, .string (mk e.2.2)] 25)).mono HBA.out.size)).grown hgC (Nat.le_trans HBA.out.size (below_walk wA (.cells #[.string (mk e.1), .int .i64 e.2.1, .string (mk e.2.2)] 25)).size) (fun j hj => ((HOB.out.below (below_walk wA (.cells #[.string (mk e.1), .int .i64 e.2.1, .string (mk e.2.2)] 25))).lt j hj).1)).mono HB3.out.size)); obtain ⟨aC, cC, eC⟩ := hoC.ents.shape; generalize (t ++ [e]).length = nC at eC; subst eC; clear hoC hgC) | (go_at_call 31; refine HSO.out.mono ?_; rintro r w6 ⟨v6, l6, rfl, ho6, hp6, hu6, hb6⟩; have hl6 := HNW.out _ hp6 hu6; subst hl6; have HB6 := hid (below_then HBC.out hb6); have HZ6 := hid (HSZ.out w6 v6 ho6.ents); obtain ⟨a6, n6, c6, e6⟩ := slice_shape ho6.ents; subst e6; clear ho6 hp6 hu6 hb6 HSO) | (go_at_call 30; refine HZ6.out.mono ?_; rintro r w7 ⟨ha7, hw7⟩; have hw7 := hw7.symm; subst hw7; have HA7 := hid ha7; obtain ⟨a7, n7, c7, E7, e7⟩ := ansR_shape ha7; subst e7; clear ha7))
          go_ret2
          rw [HAP.out]
          exact ⟨HA7.out, HB6.out⟩
        | some i =>
          have hz : fiN t e.1 = (i : Int) := by unfold fiN; rw [hfi]
          obtain ⟨hilt, hth, hst, hpu⟩ := put_there HRT.out.up hfi
          rw [hth, hst, hpu] at HPU
          have hmany := HRT.out.many
          have i1 : ¬ (i : Int) < 0 := by omega
          have i2 : (i : Int) < (t.length : Int) := by omega
          have HIL := hid hilt
          have HLN := hid (show (t.set i e).length = t.length from List.length_set)
          have HPS := hid (show szP (t.set i e) ≤ 4611686018427387904 from by
            rw [← hpu]
            have h1 : ∀ x ∈ puL t e, mayP x = true := fun x hx => by
              rcases (mem_puL HRT.out.up).1 hx with h | h
              · rw [h]; exact HMT.out
              · exact HRT.out.may x h.1
            have h2 := sz_le h1
            have h3 : (puL t e).length = t.length := by rw [hpu]; exact HLN.out
            omega)
          have HSZ := hid (fun W v (hv : Ents W v (t.set i e)) => rsized_any v _ W hv (by rw [HLN.out]; omega) HPS.out)
          obtain ⟨xi, HXI⟩ : ∃ x, Hid (t.getD i zE = x) := ⟨_, rfl⟩
          rw [HXI.out] at HPU
          rw [hz] at HFD
          clear hfi hz hth hst hpu
          obtain ⟨g, o, hao, hgl, hat⟩ := HET.out.at i hilt
          subst hao
          rw [HXI.out] at hat
          obtain ⟨KI, HKI⟩ : ∃ K : Int, Hid (xi.2.1 = K) := ⟨_, rfl⟩
          obtain ⟨KE, HKE⟩ : ∃ K : Int, Hid (e.2.1 = K) := ⟨_, rfl⟩
          go_wp2_with (first | (go_at_call 28; refine (HUP.out _).mono ?_; rintro r w3 ⟨rfl, hb3⟩; have HB3 := hid (below_then HB2.out hb3); have HE3 := hid (HE2.out.below hb3); obtain ⟨x0, x1, x2⟩ := HE3.out.at; clear hb3) | (go_at_call 27; refine (HID.out _ HB3.out).mono ?_; rintro r w4 ⟨rfl, hw4⟩; have hw4 := hw4.symm; subst hw4) | (go_at_call 29; refine (HFD.out _ HB3.out).mono ?_; rintro r w5 ⟨rfl, hw5⟩; have hw5 := hw5.symm; subst hw5) | (at_builtin; refine app_ent rfl _ _ rfl w3.heap.size _ [] rfl (OwnE.nil _ _) t _ rfl (HET.out.below HB3.out) HNL.out (Nat.le_refl _) ?_; intro vA wA hoA hgA _; have HOB := hid hoA; have HBA := hid (gb_below hgA); obtain ⟨x0, x1, x2⟩ := (HE3.out.below HBA.out).at; have HBB := hid (below_then HB3.out HBA.out); obtain ⟨aA, cA, eA⟩ := hoA.ents.shape; rw [List.nil_append] at eA HOB; subst eA; clear hoA hgA HNL))
          obtain ⟨y0, y1, y2⟩ := hat.below hgl HBB.out
          rw [HKI.out] at y1
          rw [HKE.out] at x1
          by_cases hI : KI = 2
          · have bI : (KI == 2) = true := by simpa using hI
            by_cases hE : KE = 2
            · have bE : (KE == 2) = true := by simpa using hE
              subst hI hE
              go_wp2_with fail
              go_quiet (fail)
              obtain ⟨W5, HW5⟩ : ∃ W, Hid (wA.drewN nq = W) := ⟨_, rfl⟩
              have HB5 := hid (show Below w.heap.size w W5 from by rw [← HW5.out]; exact below_n HBB.out nq)
              have hb5 : Below wA.heap.size wA W5 := by rw [← HW5.out]; exact below_n (Below.refl _ _) nq
              have HO5 := hid (HOB.out.below hb5)
              obtain ⟨x0, x1, x2⟩ := ((HE3.out.below HBA.out).below hb5).at
              rw [HW5.out]
              clear hb5
              rcases HO5.out.forms with ⟨_, h0⟩ | ⟨gA, capA, hvA, hg1, hg2, hg3, _, hgf, hgc⟩
              · rw [h0] at i2; simp at i2; omega
              · injection hvA with hv1 hv2 hv3
                clear hv2 hv3
                subst hv1
                obtain ⟨z0, z1, z2⟩ := hgc i HIL.out
                have f0 := hgf (i * 3)
                have f1 := hgf (i * 3 + 1)
                have f2 := hgf (i * 3 + 2)
                have HO6 := hid (HO5.out.setE HIL.out e)
                have HZ6 := hid (HSZ.out _ _ HO6.out.ents)
                have HB6 := hid (((HB5.out.setCell (p := ⟨gA, i * 3, none⟩) (Nat.le_trans HB3.out.size hg1) (.string (mk e.1))).setCell (p := ⟨gA, i * 3 + 1, none⟩) (Nat.le_trans HB3.out.size hg1) (.int .i64 e.2.1)).setCell (p := ⟨gA, i * 3 + 2, none⟩) (Nat.le_trans HB3.out.size hg1) (.string (mk e.2.2)))
                have hAP : putP t e = fitP (t.set i e) := by rw [HPU.out, if_neg]; rw [HKI.out, HKE.out]; rintro ⟨_, h⟩; exact h (by rfl)
                have HAP := hid hAP
                unfold World.setCells World.setCells World.setCells World.setCells at HZ6
                clear hg1 hg2 hg3 hgf hgc hAP HO6
                go_wp2_with (go_at_call 30; refine HZ6.out.mono ?_; rintro r w7 ⟨ha7, hw7⟩; have hw7 := hw7.symm; subst hw7; have HA7 := hid ha7; obtain ⟨a7, n7, c7, E7, e7⟩ := ansR_shape ha7; subst e7; clear ha7)
                go_ret2
                rw [HAP.out]
                exact ⟨HA7.out, HB6.out⟩
            · have bE : (KE == 2) = false := by simpa using hE
              subst hI
              go_wp2_with fail
              go_quiet (fail)
              go_wp2
              go_ret2
              have hAP : putP t e = .error 9 := by rw [HPU.out, if_pos]; rw [HKI.out, HKE.out]; exact ⟨by trivial, by rw [decide_eq_true rfl, decide_eq_false hE]; decide⟩
              rw [hAP]
              exact ⟨rfl, below_n HBB.out _⟩
          · have bI : (KI == 2) = false := by simpa using hI
            by_cases hE : KE = 2
            · have bE : (KE == 2) = true := by simpa using hE
              subst hE
              go_wp2_with fail
              go_quiet (fail)
              go_wp2
              go_ret2
              have hAP : putP t e = .error 9 := by rw [HPU.out, if_pos]; rw [HKI.out, HKE.out]; exact ⟨by trivial, by rw [decide_eq_false hI, decide_eq_true rfl]; decide⟩
              rw [hAP]
              exact ⟨rfl, below_n HBB.out _⟩
            · have bE : (KE == 2) = false := by simpa using hE
              go_wp2_with fail
              go_quiet (fail)
              obtain ⟨W5, HW5⟩ : ∃ W, Hid (wA.drewN nq = W) := ⟨_, rfl⟩
              have HB5 := hid (show Below w.heap.size w W5 from by rw [← HW5.out]; exact below_n HBB.out nq)
              have hb5 : Below wA.heap.size wA W5 := by rw [← HW5.out]; exact below_n (Below.refl _ _) nq
              have HO5 := hid (HOB.out.below hb5)
              obtain ⟨x0, x1, x2⟩ := ((HE3.out.below HBA.out).below hb5).at
              rw [HW5.out]
              clear hb5
              rcases HO5.out.forms with ⟨_, h0⟩ | ⟨gA, capA, hvA, hg1, hg2, hg3, _, hgf, hgc⟩
              · rw [h0] at i2; simp at i2; omega
              · injection hvA with hv1 hv2 hv3
                clear hv2 hv3
                subst hv1
                obtain ⟨z0, z1, z2⟩ := hgc i HIL.out
                have f0 := hgf (i * 3)
                have f1 := hgf (i * 3 + 1)
                have f2 := hgf (i * 3 + 2)
                have HO6 := hid (HO5.out.setE HIL.out e)
                have HZ6 := hid (HSZ.out _ _ HO6.out.ents)
                have HB6 := hid (((HB5.out.setCell (p := ⟨gA, i * 3, none⟩) (Nat.le_trans HB3.out.size hg1) (.string (mk e.1))).setCell (p := ⟨gA, i * 3 + 1, none⟩) (Nat.le_trans HB3.out.size hg1) (.int .i64 e.2.1)).setCell (p := ⟨gA, i * 3 + 2, none⟩) (Nat.le_trans HB3.out.size hg1) (.string (mk e.2.2)))
                have hAP : putP t e = fitP (t.set i e) := by rw [HPU.out, if_neg]; rw [HKI.out, HKE.out]; rintro ⟨_, h⟩; exact h (by rw [decide_eq_false hI, decide_eq_false hE])
                have HAP := hid hAP
                unfold World.setCells World.setCells World.setCells World.setCells at HZ6
                clear hg1 hg2 hg3 hgf hgc hAP HO6
                go_wp2_with (go_at_call 30; refine HZ6.out.mono ?_; rintro r w7 ⟨ha7, hw7⟩; have hw7 := hw7.symm; subst hw7; have HA7 := hid ha7; obtain ⟨a7, n7, c7, E7, e7⟩ := ansR_shape ha7; subst e7; clear ha7)
                go_ret2
                rw [HAP.out]
                exact ⟨HA7.out, HB6.out⟩
  · have HAP := hid (show putP t e = .error E0 from by unfold putP; rw [HE0.out, if_pos hz])
    have e1 : (E0 == 0) = false := by simpa using hz
    clear hz
    go_enter Tryz.func7, Tryz.ntmps7
    go_wp2_with (go_at_call 25; refine HR.out.mono ?_; rintro r w1 ⟨rfl, hb1⟩; have HB1 := hid (HX.out _ hb1).2; clear hb1)
    go_ret2
    rw [HAP.out]
    exact ⟨rfl, HB1.out⟩

end Go.Proofs.YteijkbanlpodpaaGreatDoor

/- A region within a round of a range over a function, by what is proved of it outside. -/
namespace Go.Proofs.YteijkbanlpodpaaGreatDoor
open Go.RowKit
variable {P : Program}

/-- no operation of the region is a defer statement -/
def noDefer (l : List Oper) : Bool := l.all fun o => match o.op with | .defer _ => false | _ => true
theorem noDefer_mem {l : List Oper} (h : noDefer l = true) {o : Oper} (hm : o ∈ l) (c) : o.op ≠ .defer c := by
  intro e
  have := (List.all_eq_true.mp h) o hm
  rw [e] at this
  exact absurd this Bool.false_ne_true
theorem rowsIn_of {n : Nat} {row : String} {args : Array Value} {w : World} {R : Value → World → Prop} (l : Nat) (h : Rows P row args w R) : RowsIn (Fence.wide.inRound l) n P row args w R :=
  fun c cs _ => let ⟨v, w', r, s⟩ := h c cs; ⟨v, w', r, stepsIn_wide.2 s⟩
theorem uponIn_of {o : Oper} {a : Act} {next next' : Act → World → Prop} {Q Q' : Exit → Act → World → Prop} {r : Result Next} (l n : Nat) (hk : ∀ a w, next a w → next' a w) (hp : ∀ ch a w, Q (.panic ch) a w → Q' (.panic ch) a w) (ho : LetsOut Q → LetsOut Q') (h : o.upon P a next Q r) :
    o.uponIn (Fence.wide.inRound l) n P a next' Q' r := by
  have hdp : ∀ (p : Prop), (Fence.wide.inRound l).depth.isSome = true → p := fun p e => by simp [Fence.wide, Fence.inRound] at e
  cases r with
  | ok x w =>
    cases x with
    | value v => exact hk _ _ h
    | skip => exact hk _ _ h
    | defer d => exact hk _ _ h
    | enter f args =>
      refine ⟨hdp _, CallsIn.inRound l (callsIn_wide.2 (Calls.mono h ?_))⟩
      intro e w' he
      cases e with
      | returned v => exact hk _ _ he
      | panicked ch => exact hp _ _ _ he
      | outgrown => exact ho he
    | row row args => exact ⟨hdp _, rowsIn_of l (Rows.mono h (fun v w' he => hk _ _ he))⟩
    | _ => exact h.elim
  | halt x w =>
    cases x with
    | panic v => exact hp _ _ _ h
    | _ => exact h.elim
theorem wpIn_of {o : Oper} {a : Act} {w : World} {next next' : Act → World → Prop} {Q : Exit → Act → World → Prop} (l n : Nat) (hd : ∀ c, o.op ≠ .defer c) (hk : ∀ a w, next a w → next' a w) (h : o.wp P a w next Q) :
    o.wpIn (Fence.wide.inRound l) n P a w next' Q := by
  refine ⟨fun _ _ => trivial, ?_⟩
  rw [Fence.inRound_round, Oper.semAt_some l _ _ hd]
  exact uponIn_of l n hk (fun _ _ _ h => h) id h
theorem list_in {ops : Array Oper} {Q : Exit → Act → World → Prop} (l n : Nat) (hno : ¬ LetsOut Q) : ∀ (L : List Oper) (a : Act) (w : World), (∀ o ∈ L, ∀ c, o.op ≠ .defer c) → wpList P ops Q L a w → wpListIn (Fence.wide.inRound l) n P ops Q L a w
  | [], _, _, _, h => h
  | o :: L, a, w, hd, h => by
    unfold wpList at h
    unfold wpListIn
    have ih : ∀ a w, wpList P ops Q L a w → wpListIn (Fence.wide.inRound l) n P ops Q L a w := fun a w h => list_in l n hno L a w (fun o ho => hd o (List.mem_cons_of_mem _ ho)) h
    split at h
    · rename_i hw
      rw [if_pos hw]
      rcases h with h | h
      · exact wpIn_of l n (hd o (by simp)) ih h
      · exact absurd h.2 hno
    · rename_i hw
      rw [if_neg hw]
      exact ⟨fun _ _ => trivial, ih _ _ h⟩
theorem any_in {ops : Array Oper} {Q : Exit → Act → World → Prop} (l n : Nat) (hno : ¬ LetsOut Q) (hd : ∀ o ∈ ops, ∀ c, o.op ≠ .defer c) : ∀ (f : Nat) (s : Array Bool) (a : Act) (w : World), wpAny P .any ops Q f s a w → wpAnyIn (Fence.wide.inRound l) n P .any ops Q f s a w
  | 0, _, _, _, h => h
  | f + 1, s, a, w, h => by
    refine ⟨h.1, fun i hi => ?_⟩
    have hq := h.2 i hi
    unfold wpOp at hq
    unfold wpOpIn
    cases ho : ops[i]? with
    | none => simp only [ho] at hq ⊢; exact any_in l n hno hd f _ _ _ hq
    | some o =>
      simp only [ho] at hq ⊢
      split at hq
      · rename_i hw
        rw [if_pos hw]
        rcases hq with hq | hq
        · exact wpIn_of l n (hd o (Array.mem_of_getElem? ho)) (fun a w h => any_in l n hno hd f _ a w h) hq
        · exact absurd hq.2 hno
      · rename_i hw
        rw [if_neg hw]
        exact ⟨fun _ _ => trivial, any_in l n hno hd f _ _ _ hq⟩
theorem region_in_list {id l n : Nat} {Q : Exit → Act → World → Prop} {a : Act} {w : World} {L : List Oper} (hd : noDefer L = true) (hno : ¬ LetsOut Q) (h : wpList P L.toArray Q L a w) : (Code.region id L.toArray false).wpIn (Fence.wide.inRound l) n P Q a w :=
  wpIn_region_lit (list_in l n hno L a w (fun _ ho => noDefer_mem hd ho) h)
theorem region_in_any {id l n : Nat} {Q : Exit → Act → World → Prop} {a : Act} {w : World} {L : List Oper} (hm : P.follows .mixedOrders = true) (hd : noDefer L = true) (hno : ¬ LetsOut Q)
    (h : wpAny P .any L.toArray Q L.toArray.size (Array.replicate L.toArray.size false) a { w with drawn := w.drawn + 1 }) : (Code.region id L.toArray true).wpIn (Fence.wide.inRound l) n P Q a w :=
  wpIn_region_any hm (any_in l n hno (fun _ ho => noDefer_mem hd (by simpa using ho)) _ _ _ _ h)

/-- one operation within a round, by a law of it outside -/
theorem list_step_in {ops : Array Oper} {rest : List Oper} {o : Oper} {a : Act} {w : World} {Q : Exit → Act → World → Prop} (l n : Nat) (hg : o.guard = none) (hnd : ∀ c, o.op ≠ .defer c) (hno : ¬ LetsOut Q)
    (h : wpList P ops (Exit.then (wpListIn (Fence.wide.inRound l) n P ops Q rest) Q) [o] a w) : wpListIn (Fence.wide.inRound l) n P ops Q (o :: rest) a w := by
  unfold wpList at h
  rw [if_pos (by simp only [Region.wanted, hg])] at h
  rcases h with h | h
  · refine wpListIn_plain hg fun K hK => ⟨fun _ _ => trivial, ?_⟩
    rw [Fence.inRound_round, Oper.semAt_some l _ _ hnd]
    exact uponIn_of l n (fun a w h => hK a w h) (fun _ _ _ h => h) (fun h => h) h
  · exact absurd h.2 hno

/-- as wp_region_bel_tail, within a round -/
theorem wpIn_region_bel_tail {id r m : Nat} {Q : Exit → Act → World → Prop} {a : Act} {w : World} {l : List Oper} (n : Nat) (hm : P.follows .mixedOrders = true) (hB : Region.lexTailB .any l.toArray n = true) (hd : noDefer l = true) (hno : ¬ LetsOut Q)
    (h : wpQuiet P l.toArray (fun w' => ∃ p : Bel w, w' = p.out) (fun a' => ∀ w', (∃ p : Bel w, w' = p.out) → wpList P l.toArray Q (l.drop n) a' w') (l.take n) a) : (Code.region id l.toArray true).wpIn (Fence.wide.inRound r) m P Q a w := by
  simp only [Region.lexTailB, Bool.and_eq_true, decide_eq_true_eq] at hB
  obtain ⟨⟨⟨⟨hns, hn⟩, hs⟩, hc⟩, hlex⟩ := hB
  have hn' : n < l.length := by simpa using hn
  have e1 : (l.take n).length = n := by rw [List.length_take]; omega
  have e2 : (l.drop n).length = l.toArray.size - n := by simp
  have inv : HeadInv .any l.toArray n (Array.replicate l.toArray.size false) :=
    ⟨by simp, fun j oj _ hl => (by rw [getD_replicate_false] at hl; cases hl), fun t _ ht => getD_in (by simpa using ht) (getD_replicate_false _ _)⟩
  have H := headQ_lex (md := .any) (g := l.toArray.size - n) hns hs hc hn (l.take n) 0 _ a (fun j hj => by
    rw [e1] at hj
    simp [hj]) (by simpa using e1) inv (by rw [e1]; exact hlex) h
  refine region_in_any hm hd hno ?_
  have := headQ_any (Q := Q) (g := l.toArray.size - n) (fun s a' w' hw' hL => by
    have := wpAny_of_seq (md := .any) (Q' := Q) (l.drop n) n s a' w' (fun j => by simp [List.getElem?_drop]) (by rw [e2]; exact hL.1) (hL.2 w' hw')
    rwa [e2] at this) _ _ _ _ (show ∃ p : Bel w, { w with drawn := w.drawn + 1 } = p.out from ⟨⟨{ w with drawn := w.drawn + 1 }, ⟨rfl, rfl, rfl, Nat.le_refl _, fun _ _ => rfl⟩⟩, rfl⟩) H
  rw [e1, show n + (l.toArray.size - n) = l.toArray.size by omega] at this
  exact this

end Go.Proofs.YteijkbanlpodpaaGreatDoor

/- slices.Repeat of one text. -/
namespace Go.Proofs.YteijkbanlpodpaaGreatDoor
open Go.RowKit

theorem mv_row {P : Program} {w : World} {ops : Array Oper} {rest : List Oper} {o : Oper} {a : Act} {Q : Exit → Act → World → Prop} (hgd : o.guard = none) (x : Operand) (ho : o.op = .move x) (v : Value) (hx : a.eval x = v)
    (h : wpList P ops Q rest (a.put o.dst v) w) : wpList P ops Q (o :: rest) a w := by
  subst hx
  refine wpList_plain hgd fun K hK => ?_
  unfold Oper.wp execOp
  simp only [ho, Sem.run_pure]
  exact hK _ _ h

/-- what a copy wants -/
def CpOk (W : World) (d s : Option Addr) (g m : Nat) (DS : List Value) : Prop := 0 < DS.length → d = some ⟨g, m, none⟩ ∧ ∃ ad, s = some ad ∧ ∀ j v, DS[j]? = some v → W.cell? (ad.add j) = some v

/-- m times p, and what is not yet laid -/
def rep (m n : Nat) (p : List UInt8) : List (List UInt8) := List.replicate m p ++ List.replicate (n - m) []
theorem rep_length {m n : Nat} {p : List UInt8} (h : m ≤ n) : (rep m n p).length = n := by simp [rep]; omega
theorem rep_zero (n : Nat) (p : List UInt8) : madeCells #[.string ByteArray.empty] n = (strV (rep 0 n p)).toArray := by
  apply Array.ext
  · simp [madeCells, strV, rep]
  · intro i h1 h2
    simp [madeCells, strV, rep, Nat.mod_one]
    rfl
theorem rep_full (n : Nat) (p : List UInt8) : rep n n p = List.replicate n p := by simp [rep]
theorem rep_splice {m n k : Nat} {p : List UInt8} (h : m + k ≤ n) : splice (strV (rep m n p)) m (strV (List.replicate k p)) = strV (rep (m + k) n p) := by
  have e1 : (strV (rep m n p)).take m = strV (List.replicate m p) := by
    simp [strV, rep]
  have e2 : (strV (rep m n p)).drop (m + k) = strV (List.replicate (n - (m + k)) []) := by
    simp only [strV, rep, ← List.map_drop]
    congr 1
    rw [List.drop_append, List.length_replicate, List.drop_eq_nil_of_le (by simp), List.nil_append, List.drop_replicate]
    congr 1
    omega
  have e3 : (strV (List.replicate k p)).length = k := by simp [strV]
  unfold splice
  rw [e3, e1, e2]
  simp only [strV, rep, ← List.map_append]
  congr 1
  rw [← List.append_assoc, List.replicate_append_replicate]
theorem rep_cell {w : World} {g m n : Nat} {p : List UInt8} (h : w.heap[g]? = some (.cells (strV (rep m n p)).toArray 9 (0, 0))) (j : Nat) (hj : j < m) (hm : m ≤ n) : w.cell? ⟨g, j, none⟩ = some (.string (mk p)) := by
  have hl : j < (strV (rep m n p)).length := by rw [strV_length, rep_length hm]; omega
  simp only [World.cell?, h]
  simp [strV, rep, List.getElem?_append, hj]

theorem sl_from (g n k : Nat) (hk : k < n) (W : World) : (Instr.slice 85 (.slice (some ⟨g, 0, none⟩) n n) (some (.int .i64 (k : Int))) none none).run Tryz.prog W = .ok (.slice (some ⟨g, k, none⟩) (n - k) (n - k)) W := by
  have hk2 : (k : Int) ≤ (n : Int) := by omega
  have hne : ¬ n = k := by omega
  have e : (⟨g, 0, none⟩ : Addr).add k = ⟨g, k, none⟩ := addr_add g k
  have : (Instr.slice 85 (.slice (some ⟨g, 0, none⟩) n n) (some (.int .i64 (k : Int))) none none).run Tryz.prog W = .ok (.slice (if n = k then some ⟨g, 0, none⟩ else some ((⟨g, 0, none⟩ : Addr).add k)) (n - k) (n - k)) W := by go_simp
  rw [this, if_neg hne, e]

set_option maxRecDepth 100000 in
set_option maxHeartbeats 1000000 in
theorem repeat_any (gx : Nat) (p : List UInt8) (n : Nat) (w : World) (hx : w.cell? ⟨gx, 0, none⟩ = some (.string (mk p))) (hn : n ≤ 1000) :
    Calls Tryz.prog 67 #[.slice (some ⟨gx, 0, none⟩) 1 1, .int .i64 n] w fun e w' => ∃ v, e = .returned v ∧ OwnS w' w.heap.size v (List.replicate n p) ∧ Below w.heap.size w w' := by
  have HX := hid hx
  have HM := hid (Tryz.bits_Mul 1 n (by decide) (by omega))
  rw [show 1 * n / 18446744073709551616 = 0 by omega, show 1 * n % 18446744073709551616 = n by omega] at HM
  have hmk := run_make_row' (P := Tryz.prog) 85 9 (.string ByteArray.empty) 16 Tryz.underlying85 (by kernel_rfl) rfl .i64 .i64 n (by omega) (by omega)
  have h0 : ¬ (n : Int) < 0 := by omega
  have h1 : ¬ (9223372036854775807 : Int) < (n : Int) := by omega
  have w1 : IntKind.u64.wrap (n : Int) = (n : Int) := by rw [IntKind.wrap_u64]; omega
  have w2 : IntKind.i64.wrap (n : Int) = (n : Int) := by rw [IntKind.wrap_i64]; omega
  clear hx
  go_enter Tryz.func67, Tryz.ntmps67
  have HU := hid (show (Tryz.prog.info? 9).map (·.size) = some 1 by kernel_rfl)
  go_upto_region 7 with (go_at_call 86; refine (HM.out _).mono ?_; rintro e w' ⟨rfl, hw⟩; subst w')
  rw [rep_zero n p]
  have HG0 := hid (hp_new w (.cells (strV (rep 0 n p)).toArray 9))
  have HB0 := hid (below_walk w (.cells (strV (rep 0 n p)).toArray 9))
  have HX1 := hid (show (w.alloc (.cells (strV (rep 0 n p)).toArray 9)).cell? ⟨gx, 0, none⟩ = some (.string (mk p)) by
    rw [World.cell?_alloc_old _ _ _ (Nat.ne_of_lt (World.block_lt_of_cell? _ _ HX.out))]; exact HX.out)
  generalize w.alloc (.cells (strV (rep 0 n p)).toArray 9) = w5 at HG0 HB0 HX1 ⊢
  obtain ⟨k1, HK1⟩ : ∃ k1 : Nat, Hid (k1 = Nat.min 1 n) := ⟨_, rfl⟩
  have hk1 : k1 ≤ n ∧ k1 ≤ 1 ∧ (0 < n → 0 < k1) := by
    have := HK1.out
    simp only [Nat.min_def] at this
    split at this <;> omega
  obtain ⟨CS, HCS⟩ : ∃ CS, Hid (CS = strV (List.replicate k1 p)) := ⟨_, rfl⟩
  have hcl : CS.length = k1 := by rw [HCS.out, strV_length, List.length_replicate]
  have HN1 := hid (show CS.length = Nat.min 1 n by rw [hcl, HK1.out])
  have HP1 := hid (show 0 < CS.length → (some ⟨w.heap.size, 0, none⟩ : Option Addr) = some ⟨w.heap.size, 0, none⟩ ∧ ∃ ad, (some ⟨gx, 0, none⟩ : Option Addr) = some ad ∧ ∀ j v, CS[j]? = some v → w5.cell? (ad.add j) = some v from fun hpos => by
    refine ⟨rfl, _, rfl, fun j v hj => ?_⟩
    obtain rfl : k1 = 1 := by omega
    rw [HCS.out] at hj
    match j, hj with
    | 0, hj =>
      have := Option.some.inj hj
      rw [← this]
      exact HX1.out
    | j + 1, hj => simp [strV] at hj)
  have HF1 := hid (show 0 + CS.length ≤ (strV (rep 0 n p)).length by rw [strV_length, rep_length (Nat.zero_le _), hcl]; omega)
  have HO1 := hid (show ∀ v ∈ CS, v.oneCell' = true by rw [HCS.out]; exact strV_one _)
  have HSP := hid (show splice (strV (rep 0 n p)) 0 CS = strV (rep k1 n p) by rw [HCS.out, rep_splice (by omega), Nat.zero_add])
  refine wp_region_list ?_
  show wpList _ _ _ (_ :: _) _ _
  refine mv_row (by rfl) (.tmp 7) (by rfl) (.slice (some ⟨w.heap.size, 0, none⟩) n n) (by rfl) ?_
  refine mv_row (by rfl) (.tmp 0) (by rfl) (.slice (some ⟨gx, 0, none⟩) 1 1) (by rfl) ?_
  refine wpList_copy_splice (by rfl) (.tmp 31) (.tmp 32) 85 85 (by rfl) 9 Tryz.underlying85 HU.out _ _ _ _ _ _ (by rfl) (by rfl) w.heap.size 0 (strV (rep 0 n p)) 9 HG0.out CS HN1.out HP1.out HF1.out HO1.out w.heap.size w HB0.out (Nat.le_refl _) ?_
  intro w6 HG6 hb6
  have HB6 := hid hb6
  rw [HSP.out] at HG6
  clear hb6 HG0 HB0 HX1 HP1 HN1 HF1 HO1 HSP HM hmk
  clear w1 w2
  go_wp2
  go_loopw [8] (fun i wr => ∃ m : Nat, m ≤ n ∧ (0 < n → 0 < m) ∧ i = .int .i64 m ∧ Hid (wr.heap[w.heap.size]? = some (.cells (strV (rep m n p)).toArray 9 (0, 0))) ∧ Below w.heap.size w wr) (fun i _ => n - (intOf i).toNat)
  case atStart => exact ⟨k1, hk1.1, hk1.2.2, by simp, HG6, HB6.out⟩
  case round =>
    obtain ⟨m, hm, hmp, rfl, HGR, hbr⟩ := hrel
    have HBR := hid hbr
    clear hbr HG6 HB6 hcl HCS
    by_cases hlt : m < n
    · have q1 : (m : Int) < (n : Int) := by omega
      have s1 := sl_from w.heap.size n m hlt
      have s2 := sl_to ⟨w.heap.size, 0, none⟩ n n m (by omega)
      obtain ⟨k2, HK2⟩ : ∃ k2 : Nat, Hid (k2 = Nat.min m (n - m)) := ⟨_, rfl⟩
      have hk2 : k2 ≤ m ∧ m + k2 ≤ n ∧ 0 < k2 := by
        have h2 := hmp (by omega)
        rw [HK2.out]
        simp only [Nat.min_def]
        split <;> omega
      obtain ⟨DS, HDS⟩ : ∃ DS, Hid (DS = strV (List.replicate k2 p)) := ⟨_, rfl⟩
      have hdl : DS.length = k2 := by rw [HDS.out, strV_length, List.length_replicate]
      have HN1 := hid (show DS.length = Nat.min m (n - m) by rw [hdl, HK2.out])
      have HP1 : Hid (∀ W : World, W.heap[w.heap.size]? = some (.cells (strV (rep m n p)).toArray 9 (0, 0)) → CpOk W (some ⟨w.heap.size, m, none⟩) (some ⟨w.heap.size, 0, none⟩) w.heap.size m DS) := (fun W hW hpos => by
        refine ⟨rfl, _, rfl, fun j v hj => ?_⟩
        have hjl : j < k2 := by
          rcases Nat.lt_or_ge j k2 with h | h
          · exact h
          · rw [List.getElem?_eq_none (by omega)] at hj; cases hj
        rw [HDS.out] at hj
        simp [strV, hjl] at hj
        rw [addr_add, ← hj]
        exact rep_cell hW j (by omega) hm)
      have HF1 := hid (show m + DS.length ≤ (strV (rep m n p)).length by rw [strV_length, rep_length hm, hdl]; omega)
      have HO1 := hid (show ∀ v ∈ DS, v.oneCell' = true by rw [HDS.out]; exact strV_one _)
      have HSP := hid (show splice (strV (rep m n p)) m DS = strV (rep (m + k2) n p) by rw [HDS.out, rep_splice (by omega)])
      obtain ⟨J, HJ⟩ : ∃ J : Nat, Hid (J = m + k2) := ⟨_, rfl⟩
      have hwj : IntKind.i64.wrap ((m : Int) + (k2 : Int)) = (J : Int) := by rw [IntKind.wrap_i64, HJ.out]; omega
      go_wp2_with fail
      go_region_law ((refine step_copy_splice (by rfl) (.tmp 41) (.tmp 44) 85 85 (by rfl) 9 Tryz.underlying85 HU.out (some ⟨w.heap.size, m, none⟩) (some ⟨w.heap.size, 0, none⟩) (n - m) (n - m) m n (by kernel_rfl) (by kernel_rfl) w.heap.size m (strV (rep m n p)) 9 (by exact HGR.out) DS HN1.out (HP1.out _ (by exact HGR.out)) HF1.out HO1.out w.heap.size w (by exact ⟨HBR.out.os, HBR.out.tape, HBR.out.output, HBR.out.size, HBR.out.block⟩) (Nat.le_refl _) ?_; intro w7 HC7 hb7; have HB7 := hid hb7; clear hb7; rw [show goInt DS.length = Value.int .i64 (k2 : Int) from by rw [hdl]; rfl]))
      rw [HSP.out] at HC7
      go_wp2
      go_roundw
      case rel =>
        first
          | exact ⟨.int .i64 (J : Int), (.int .i64 (m : Int)), (.slice (some ⟨w.heap.size, 0, none⟩) n n), (.int .i64 (n : Int)), (.bool true), (.int .i64 (m : Int)), (.slice (some ⟨w.heap.size, 0, none⟩) n n), (.int .i64 (m : Int)), (.slice (some ⟨w.heap.size, m, none⟩) (n - m) (n - m)), (.slice (some ⟨w.heap.size, 0, none⟩) n n), (.int .i64 (m : Int)), (.slice (some ⟨w.heap.size, 0, none⟩) m n), (.int .i64 (k2 : Int)), .int .i64 (J : Int), ⟨J, by rw [HJ.out]; omega, fun _ => by rw [HJ.out]; omega, by first | rfl | rw [hwj], by rw [HJ.out]; exact HC7, HB7.out⟩, by kernel_rfl⟩
          | exact ⟨.int .i64 (IntKind.i64.wrap ((m : Int) + (k2 : Int))), (.int .i64 (m : Int)), (.slice (some ⟨w.heap.size, 0, none⟩) n n), (.int .i64 (n : Int)), (.bool true), (.int .i64 (m : Int)), (.slice (some ⟨w.heap.size, 0, none⟩) n n), (.int .i64 (m : Int)), (.slice (some ⟨w.heap.size, m, none⟩) (n - m) (n - m)), (.slice (some ⟨w.heap.size, 0, none⟩) n n), (.int .i64 (m : Int)), (.slice (some ⟨w.heap.size, 0, none⟩) m n), (.int .i64 (k2 : Int)), .int .i64 (IntKind.i64.wrap ((m : Int) + (k2 : Int))), ⟨J, by rw [HJ.out]; omega, fun _ => by rw [HJ.out]; omega, by first | rfl | rw [hwj], by rw [HJ.out]; exact HC7, HB7.out⟩, by kernel_rfl⟩
      case measure =>
        have hJ := HJ.out
        first
          | (show n - (intOf (.int .i64 (J : Int))).toNat < n - (intOf (.int .i64 (m : Int))).toNat; simp [intOf]; omega)
          | (show n - (intOf (.int .i64 (IntKind.i64.wrap ((m : Int) + (k2 : Int))))).toNat < n - (intOf (.int .i64 (m : Int))).toNat; rw [hwj]; simp [intOf]; omega)
    · have q1 : ¬ (m : Int) < (n : Int) := by omega
      obtain rfl : m = n := by omega
      go_wp2
      go_ret
      refine ⟨_, rfl, OwnS.made (ts := List.replicate m p) (by have := HGR.out; rw [rep_full] at this; exact this) (by simp; omega) (Nat.le_refl _) m (by simp), HBR.out⟩

end Go.Proofs.YteijkbanlpodpaaGreatDoor

/- Rel: the shortest written path from a path to another one. -/
namespace Go.Proofs.YteijkbanlpodpaaGreatDoor
open Go.RowKit

def relL (x y : List (List UInt8)) : List (List UInt8) := List.replicate (x.length - comL x y) [46, 46] ++ y.drop (comL x y)
def relP (a b : List UInt8) : List UInt8 := if okP a = true ∧ okP b = true then (if a = b then [46] else txt (relL (nms a) (nms b))) else []
theorem txt_bound : ∀ (l : List (List UInt8)), (∀ p ∈ l, p.length ≤ 64) → (txt l).length ≤ 65 * l.length
  | [], _ => by simp [txt]
  | [x], h => by
    have := h x (by simp)
    rw [txt_one]; simp only [List.length_singleton]; omega
  | x :: y :: r, h => by
    have h1 := h x (by simp)
    have h2 := txt_bound (y :: r) (fun p hp => h p (List.mem_cons_of_mem _ hp))
    rw [txt_two]; simp only [List.length_append, List.length_cons] at *; omega
theorem relL_len {x y : List (List UInt8)} (hx : x.length ≤ 32) (hy : y.length ≤ 32) : (relL x y).length ≤ 64 := by
  simp [relL]; omega
theorem relL_short {x y : List (List UInt8)} (hx : pathL x) (hy : pathL y) : (txt (relL x y)).length ≤ 4160 := by
  have h1 := relL_len hx.2 hy.2
  have := txt_bound (relL x y) (fun p hp => by
    unfold relL at hp
    rcases List.mem_append.1 hp with h | h
    · rw [(List.mem_replicate.1 h).2]; decide
    · exact nmP_len (hy.1 p (List.mem_of_mem_drop h)))
  omega

theorem one_cell (W : World) (v : Value) : (W.alloc (.cells #[v] 9)).cell? ⟨W.heap.size, 0, none⟩ = some v := by simp

set_option maxRecDepth 100000 in
set_option maxHeartbeats 2000000 in
theorem rel_any (a b : ByteArray) (w : World) (ha : (bl a).length ≤ 9223372036854775807) (hb : (bl b).length ≤ 9223372036854775807) :
    Calls Tryz.prog 39 #[.string a, .string b] w fun e w' => e = .returned (.tuple #[.string (mk (relP (bl a) (bl b))), .int .i64 (pN (bl a) (bl b))]) ∧ Below w.heap.size w w' := by
  have HB := hid (below_walk w (.cells #[.string a, .string b] 9))
  by_cases hok : okP (bl a) = true ∧ okP (bl b) = true
  · have HP := hid (show pN (bl a) (bl b) = 0 by unfold pN; rw [if_pos hok])
    have HC := hid (checkTwo a b w ha hb 0 HP.out)
    by_cases he : bl a = bl b
    · obtain rfl := bl_inj he
      have HR := hid (show relP (bl a) (bl a) = [46] by unfold relP; rw [if_pos hok, if_pos rfl])
      clear he hok ha hb
      go_enter Tryz.func39, Tryz.ntmps39
      go_wp2_with (go_at_call 64; refine HC.out.mono ?_; rintro e w' ⟨rfl, n, rfl⟩)
      go_ret2
      exact ⟨ret_si HR.out.symm HP.out.symm, ⟨HB.out.os, HB.out.tape, HB.out.output, HB.out.size, HB.out.block⟩⟩
    · have hne : (a.toList == b.toList) = false := by simp; exact he
      have hne' : ¬ a.toList = b.toList := he
      have HR := hid (show relP (bl a) (bl b) = txt (relL (nms (bl a)) (nms (bl b))) by unfold relP; rw [if_pos hok, if_neg he])
      have hpa := (okP_iff _).1 hok.1
      have hpb := (okP_iff _).1 hok.2
      have sa := okP_short hok.1
      have sb := okP_short hok.2
      have HNA := hid (namesOf_any a · (by rw [bl_size]; omega))
      have HNB := hid (namesOf_any b · (by rw [bl_size]; omega))
      have HSB := hid (relL_short hpa hpb)
      have hxl := hpa.2
      have hyl := hpb.2
      obtain ⟨hc1, hc2, _⟩ := comL_le (nms (bl a)) (nms (bl b))
      unfold relL at HSB HR
      generalize nms (bl a) = x at *
      generalize nms (bl b) = y at *
      obtain ⟨I, HI⟩ : ∃ I : Nat, Hid (x.length - comL x y = I) := ⟨_, rfl⟩
      rw [HI.out] at HSB HR
      clear he hok ha hb sa sb hpa hpb
      have HW0 := hid (show w.heap.size ≤ (w.alloc (.cells #[.string a, .string b] 9)).heap.size by simp)
      go_enter Tryz.func39, Tryz.ntmps39
      go_wp2_with fail
      refine HC.out.mono ?_
      rintro e w1 ⟨rfl, n, hw⟩
      have HB1 : Hid (Below w.heap.size w w1) := by rw [hw]; exact ⟨HB.out.os, HB.out.tape, HB.out.output, HB.out.size, HB.out.block⟩
      clear hw HC HB HW0
      go_wp2_with fail
      refine (HNA.out w1).mono ?_
      rintro e w2 ⟨va, rfl, hoa, hba⟩
      obtain ⟨aa, ca, rfl⟩ := hoa.strs.shape
      have HOA := hid hoa
      have HB2 := hid (below_tr HB1.out (below_le hba HB1.out.size))
      clear hoa hba HNA HB1
      go_wp2_with fail
      refine (HNB.out w2).mono ?_
      rintro e w3 ⟨vb, rfl, hob, hbb⟩
      have HOB := hid hob.strs
      have HOA3 := hid (HOA.out.below hbb).strs
      have HB3 := hid (below_tr HB2.out (below_le hbb HB2.out.size))
      obtain ⟨ab, cb', rfl⟩ := hob.strs.shape
      have HSH := hid (shared_any _ _ x y w3 HOA3.out HOB.out (by omega) (by omega))
      obtain ⟨vc, hvc, hsl⟩ := cut_from HOB.out (comL x y) hc2
      have HVC := hid hvc
      obtain ⟨ac, cc', rfl⟩ := hvc.shape
      clear hob hbb HNB HOA HB2 hvc
      generalize comL x y = K at *
      have hDl : (y.drop K).length ≤ 32 := by simp; omega
      generalize y.drop K = D at *
      obtain ⟨RR, HRR⟩ : ∃ RR : List (List UInt8), Hid (List.replicate I [46, 46] = RR) := ⟨_, rfl⟩
      have hRl : RR.length ≤ 32 := by rw [← HRR.out, List.length_replicate, ← HI.out]; omega
      rw [HRR.out] at HR HSB
      have hwr : IntKind.i64.wrap ((x.length : Int) - (K : Int)) = (I : Int) := by rw [IntKind.wrap_i64, ← HI.out]; omega
      go_wp2_with (first | (go_at_call 66; refine HSH.out.mono ?_; rintro e w' ⟨rfl, n2, rfl⟩) | fail)
      refine (repeat_any w3.heap.size [46, 46] I _ (one_cell (w3.drewN n2) _) (by rw [← HI.out]; omega)).mono ?_
      rintro e w4 ⟨vr, rfl, hor, hbr⟩
      rw [HRR.out] at hor
      have HOR := hid hor
      have HB4 := hid (below_tr HB3.out (below_le (below_d (below_tr (below_walk (w3.drewN n2) _) (below_le hbr (by simp)))) HB3.out.size))
      have HVC4 := hid (show Strs w4 (.slice ac D.length cc') D from HVC.out.below (below_d (below_tr (below_walk (w3.drewN n2) _) (below_le hbr (by simp)))))
      have hsz4 := hbr.size
      obtain ⟨ar, cr, rfl⟩ := hor.strs.shape
      clear hor hbr HSH HVC
      go_wp2_with (at_builtin; refine app_text rfl _ _ rfl _ _ _ rfl HOR.out _ _ rfl HVC4.out ?c1 hsz4 ?_)
      case c1 => omega
      intro v5 w5 ho5 hg5 hp5
      have hTl : (RR ++ D).length ≤ 64 := by rw [List.length_append]; omega
      generalize RR ++ D = T at ho5 HR HSB hTl
      have HB5 := hid (below_tr HB4.out (below_le (own_below HOR.out hsz4 hg5) (Nat.le_trans HB3.out.size (by simp))))
      have HJ := hid (joins_any v5 _ w5 ho5.strs (by omega) (by have := HSB.out; omega))
      obtain ⟨a5, c5, rfl⟩ := ho5.strs.shape
      clear ho5 hg5 hp5
      go_wp2_with (go_at_call 68; refine HJ.out.mono ?_; rintro e w6 ⟨rfl, hb6⟩)
      go_ret2
      exact ⟨ret_si HR.out.symm HP.out.symm, below_tr HB5.out (below_le hb6 HB5.out.size)⟩
  · have HP := hid (show pN (bl a) (bl b) = 45 by unfold pN; rw [if_neg hok])
    have HC := hid (checkTwo a b w ha hb 45 HP.out)
    have HR := hid (show relP (bl a) (bl b) = [] by unfold relP; rw [if_neg hok])
    clear hok ha hb
    go_enter Tryz.func39, Tryz.ntmps39
    go_wp2_with (go_at_call 64; refine HC.out.mono ?_; rintro e w' ⟨rfl, n, rfl⟩)
    go_ret2
    exact ⟨ret_si HR.out.symm HP.out.symm, ⟨HB.out.os, HB.out.tape, HB.out.output, HB.out.size, HB.out.block⟩⟩

end Go.Proofs.YteijkbanlpodpaaGreatDoor

/- The program's Sub. -/
namespace Go.Proofs.YteijkbanlpodpaaGreatDoor
open Go.RowKit Go.Shelf Go.BigFrame

attribute [local go_sem] Oper.semAt_some

/-- what is told of an entry below a directory is its path behind the directory's -/
theorem rel_cut {d p : List UInt8} (hd : okP d = true) (hp : okP p = true) (h0 : p ≠ []) (h : lyP d p = true) : relP d p = cutP d p := by
  obtain ⟨h1, h2, h3⟩ := cut_ok hp h0 h
  have hne : d ≠ p := by
    intro e
    subst e
    have h4 := congrArg List.length h3
    rw [List.length_append] at h4
    exact h2 (nms_nil.1 (List.length_eq_zero_iff.1 (by omega)))
  have hc : comL (nms d) (nms p) = (nms d).length := by
    refine comL_is (Nat.le_refl _) (by rw [h3, List.length_append]; omega) ?_ (Or.inl rfl)
    rw [h3, List.take_length, List.take_left]
  unfold relP
  rw [if_pos ⟨hd, hp⟩, if_neg hne]
  unfold relL
  rw [hc, Nat.sub_self, List.replicate_zero, List.nil_append, h3, List.drop_left, txt_nms]
/-- what Sub lays down of an entry -/
def relE (d : List UInt8) (y : MEnt) : Ent := (relP d y.1.1, y.1.2)
theorem relE_und {d : List UInt8} (hd : okP d = true) (T : List MEnt) : (undL d T).map (relE d) = subL (vals T) d := by
  unfold subL
  rw [← vals_und]
  unfold vals
  rw [List.map_map]
  refine List.map_congr_left (fun y hy => ?_)
  have hl := (List.mem_filter.1 (show y ∈ T.filter (fun y => lyP d y.1.1) from hy)).2
  unfold relE
  rw [rel_cut hd (mayP_ok y.2) (mayP_ne y.2) hl]
  rfl
theorem rel_short {d p : List UInt8} : (relP d p).length ≤ 4160 := by
  unfold relP
  split
  · rename_i h
    split
    · simp
    · exact relL_short ((okP_iff _).1 h.1) ((okP_iff _).1 h.2)
  · simp
theorem relE_shr (d : List UInt8) (y : MEnt) : Shr (relE d y) := by
  have h1 := may_shr' y.2
  exact ⟨Nat.le_trans rel_short (by omega), h1.2⟩

/-- the answer under way, the directory -/
structure Sbx (w W : World) (base bD bS : Nat) (d : List UInt8) (l : List Ent) : Prop where
  s : ∃ v, Boxed W bS 22 v ∧ OwnE W base v l
  d : Boxed W bD 9 (.string (mk d))
  b : Below w.heap.size w W
  z : base ≤ W.heap.size
theorem OwnE.alloc' {w : World} {base : Nat} {v : Value} {es : List Ent} (h : OwnE w base v es) (o : Obj) : OwnE (w.alloc o) base v es := h.below (below_walk w o)
theorem OwnE.cells' {w : World} {base : Nat} {v : Value} {es : List Ent} (h : OwnE w base v es) {k : Nat} (hk : v.ownBlock = some k) : ∃ cur, w.heap[k]? = some (.cells cur 25 (0, 0)) := by
  rcases h.2 with ⟨rfl, _⟩ | ⟨g, cap, cur, rfl, _, hh, _⟩
  · cases hk
  · cases hk
    exact ⟨cur, hh⟩
theorem Sbx.step {w W W' : World} {base bD bS : Nat} {d : List UInt8} {l : List Ent} (h : Sbx w W base bD bS d l) (hb : Below W.heap.size W W') : Sbx w W' base bD bS d l := by
  obtain ⟨v, h1, h2⟩ := h.s
  exact ⟨⟨v, (hb.block _ h1.lt).trans h1, h2.below hb⟩, (hb.block _ h.d.lt).trans h.d, below_then h.b hb, Nat.le_trans h.z hb.size⟩
theorem sbx_own {w : World} {B base bD bS : Nat} {d : List UInt8} (hB : w.heap.size ≤ B) (f : List MEnt → List Ent) : OwnFrom B (fun pre W => Sbx w W base bD bS d (f pre)) := by
  intro s X Y row hs hg hr
  obtain ⟨v, h1, h2⟩ := hs.s
  obtain ⟨v', h1', h2', _⟩ := holdsRow_own base bS 22 25 3 (fun s => (f s).length) (fun s => entsV (f s)) (fun _ _ => True) s X Y row ⟨v, h1, h2, trivial⟩ hg (fun r e => (hr r e).2)
  refine ⟨⟨v', h1', h2'⟩, ?_, ownFrom_below (β := Unit) (Nat.le_refl _) hB () X Y row hs.b hg hr, Nat.le_trans hs.z hg.size⟩
  refine hs.d.kept hg (fun e => ?_)
  obtain ⟨_, o, ho, hc⟩ := hr bD e.symm
  rw [show X.heap[bD]? = _ from hs.d] at ho
  cases ho
  cases hc
/-- where a round begins: the entry in a block of its own, which is not the answer's -/
def SbA (base bS : Nat) (fr : Nat → MEnt → Array Value) (y : MEnt) (a : Act) (W : World) : Prop :=
  ∃ Be, base ≤ Be ∧ Eb W Be y.1 ∧ (∀ v, Boxed W bS 22 v → v.ownBlock ≠ some Be) ∧ a = { tmps := fr Be y, defers := [] }
theorem sbA_own {B base bS : Nat} {fr : Nat → MEnt → Array Value} (hS : bS < B) (hS2 : bS < base) (y : MEnt) (a : Act) : OwnFrom B (fun (_ : Unit) W => SbA base bS fr y a W) := by
  intro s X Y row hs hg hr
  obtain ⟨Be, h1, h2, h3, h4⟩ := hs
  have hlt := hp_lt (show X.heap[Be]? = _ from h2)
  refine ⟨Be, h1, h2.kept hg (fun e => ?_), fun v hv => h3 v ?_, h4⟩
  · obtain ⟨_, o, ho, hc⟩ := hr Be e.symm
    rw [show X.heap[Be]? = _ from h2] at ho
    cases ho
    cases hc
  · refine (hg.block bS (by omega) (fun e => ?_)).symm.trans hv
    have := (hr bS e.symm).1
    omega
theorem Sbx.put {w W : World} {base bD bS : Nat} {d : List UInt8} {l : List Ent} (h : Sbx w W base bD bS d l) {Be : Nat} (hB : base ≤ Be) (hw : w.heap.size ≤ base) (hD : bD < base) (hS : bS < base) (hne : ∀ v, Boxed W bS 22 v → v.ownBlock ≠ some Be) (i : Nat) (u : Value) :
    Sbx w (W.setCell ⟨Be, i, none⟩ u) base bD bS d l := by
  obtain ⟨v, h1, h2⟩ := h.s
  have hg : W.grownBy (W.setCell ⟨Be, i, none⟩ u) (some Be) := ⟨rfl, rfl, rfl, (KeepsWalks.setCell W _ u).size, fun k _ hk => Below.heap_setCell _ _ _ k (fun e => hk (by rw [e]))⟩
  refine ⟨⟨v, h1.kept hg (fun e => by cases e; omega), h2.kept hg (Or.inr (hne v h1))⟩, h.d.kept hg (fun e => by cases e; omega), h.b.setCell (p := ⟨Be, i, none⟩) (by show w.heap.size ≤ Be; omega) u, Nat.le_trans h.z hg.size⟩
theorem KeepsFrom.below {B : Nat} {W W' : World} (h : Below W.heap.size W W') : KeepsFrom B W W' := ⟨h.size, fun k _ _ hk _ => (h.block k (hp_lt hk)).trans hk⟩
theorem kpS_set {n0 x : Nat} (W : World) {Be : Nat} (hB : n0 ≤ Be) (i : Nat) (u : Value) : KpS n0 x W (W.setCell ⟨Be, i, none⟩ u) :=
  ⟨(KeepsWalks.setCell W _ u).size, fun k hk _ => Below.heap_setCell _ _ _ k (by show k ≠ Be; omega)⟩
theorem sb_new {w W : World} {base bD bS : Nat} {d : List UInt8} {l : List Ent} {o : Obj} (h : Sbx w W base bD bS d l) : ∀ v, Boxed (W.alloc o) bS 22 v → v.ownBlock ≠ some W.heap.size := by
  intro v hv e
  obtain ⟨v', h1, h2⟩ := h.s
  have h3 := (h1.alloc o).symm.trans hv
  injection h3 with h3
  injection h3 with h3 _ _
  injection h3 with h3
  injection h3 with h3 _
  subst h3
  have := (h2.lt _ e).2
  omega
/-- behind an append to the answer and its store -/
theorem Sbx.app {w W wA : World} {base bD bS : Nat} {d : List UInt8} {l l' : List Ent} {vs vA : Value} {tmp : Obj} (h : Sbx w W base bD bS d l) (hv : Boxed W bS 22 vs) (ho : OwnE W base vs l) (hwS : w.heap.size ≤ bS) (hS : bS < base) (hD : bD < bS)
    (hoA : OwnE wA base vA l') (hgA : (W.alloc tmp).grownBy wA vs.ownBlock) :
    Boxed wA bS 22 vs ∧ KeepsFrom base W (wA.setCell ⟨bS, 0, none⟩ vA) ∧ KpS base bS W (wA.setCell ⟨bS, 0, none⟩ vA) ∧ Sbx w (wA.setCell ⟨bS, 0, none⟩ vA) base bD bS d l' := by
  have hlow := (ho.alloc' tmp).lt
  have hvS : some bS ≠ vs.ownBlock := hv.not_row (by decide) ho
  have hv1 : Boxed wA bS 22 vs := (hv.alloc tmp).kept hgA hvS
  have hg2 := grownBy_setCell' wA bS vA
  have hblk : ∀ b, b < base → wA.heap[b]? = W.heap[b]? := fun b hb => by
    have h1 : b < W.heap.size := Nat.lt_of_lt_of_le hb h.z
    rw [hgA.block b (by simp; omega) (fun e => by have := hlow b e.symm; omega)]
    exact Below.heap_alloc W tmp b h1
  have hnA : some bS ≠ vA.ownBlock := hv1.not_row (by decide) hoA
  refine ⟨hv1, ⟨by have h5 := hgA.size; have h6 := hg2.size; rw [World.size_alloc] at h5; omega, fun k o hk hko hoc => ?_⟩, ⟨by have h5 := hgA.size; have h6 := hg2.size; rw [World.size_alloc] at h5; omega, fun b hb hne => ?_⟩, ⟨⟨vA, hv1.set vA, hoA.kept hg2 (Or.inr hnA.symm)⟩, ?_, ?_, ?_⟩⟩
  · have h1 := hp_lt hko
    rw [hg2.block k (by have h5 := hgA.size; rw [World.size_alloc] at h5; omega) (fun e => by cases e; omega)]
    rw [hgA.block k (by simp; omega) (fun e => ?_)]
    · exact (Below.heap_alloc W tmp k h1).trans hko
    · obtain ⟨cur, hc⟩ := ho.cells' e.symm
      rw [hc] at hko
      cases hko
      cases hoc
  · rw [hg2.block b (by have h5 := hgA.size; have h6 := h.z; rw [World.size_alloc] at h5; omega) (fun e => by cases e; exact hne rfl)]
    exact hblk b hb
  · refine Boxed.kept ?_ hg2 (fun e => by cases e; omega)
    exact (hblk bD (by omega)).trans h.d
  · refine Below.setCell (p := ⟨bS, 0, none⟩) ?_ hwS vA
    refine (h.b.alloc h.b.size tmp).grown hgA (by have := h.b.size; simp; omega) (fun k e => by have := hlow k e; omega)
  · have h5 := hgA.size
    have h6 := hg2.size
    have h7 := h.z
    rw [World.size_alloc] at h5
    omega

set_option maxRecDepth 100000 in
set_option maxHeartbeats 2000000 in
theorem sub_any (v : Value) (t : List Ent) (d : List UInt8) (w : World) (h : Ents w v t) (hs : Short t) (hn : t.length ≤ 4611686018427387904) (hd : d.length ≤ 4611686018427387904) :
    Calls Tryz.prog 10 #[v, .string (mk d)] w fun r w' => AnsE w' w.heap.size r (sbP t d) ∧ Below w.heap.size w w' := by
  obtain ⟨E0, HE0⟩ : ∃ E : Int, Hid ((chkP t).2 = E) := ⟨_, rfl⟩
  have hb0 := below_walk w (.cells #[.string (mk d)] 9)
  have HB0 := hid hb0
  have HBD := hid (Boxed.new w 9 (.string (mk d)))
  have HR := hid (right_one v t _ (h.below hb0) hs hn E0 HE0.out)
  have HET := hid h
  have HZ0 := hid (show (w.alloc (.cells #[.string (mk d)] 9)).heap.size = w.heap.size + 1 by simp)
  rw [HZ0.out] at HR
  clear h hs hb0
  by_cases h0 : E0 = 0
  · subst h0
    have HRT := hid (rgt_iff.1 HE0.out)
    obtain ⟨W0, HW0⟩ : ∃ W, Hid (whP t d = W) := ⟨_, rfl⟩
    have HDI := hid (fun W (hW : Below w.heap.size w W) => directory_any v t d W (HET.out.below hW) HRT.out hd)
    rw [HW0.out] at HDI
    by_cases h1 : W0 = 0
    · subst h1
      obtain ⟨hok, hdir⟩ := wh_zero.1 HW0.out
      have HAP := hid (show sbP t d = .ok (subL t d) from by unfold sbP; rw [if_neg (by simpa using HE0.out), if_neg (by simpa using HW0.out)])
      have HOK := hid hok
      obtain ⟨T, hT⟩ := vals_of HRT.out.may
      have HT := hid hT
      obtain ⟨ao, c, e0⟩ := HET.out.shape
      subst e0
      clear hok hdir hT
      refine (callsIn_wide (n := 9)).1 ?_
      refine callsIn_of_wp_marks Tryz.func10 rfl trivial ?_ rfl
      simp only [Tryz.ntmps10, List.size_toArray, List.length_cons, List.length_nil, Nat.reduceAdd, Nat.reduceSub, Array.replicate_succ, Array.replicate_zero, List.push_toArray, List.append_toArray, List.nil_append, List.cons_append]
      gi_wp2_with fail
      refine ⟨trivial, (callsIn_wide.2 HR.out).mono ?_⟩
      rintro r w1 ⟨rfl, hb1⟩
      have HB1 := hid (below_then HB0.out (show Below (w.alloc (.cells #[.string (mk d)] 9)).heap.size _ w1 from by rw [HZ0.out]; exact hb1))
      have HD1 := hid (show Boxed w1 w.heap.size 9 (.string (mk d)) from (hb1.block _ (by omega)).trans HBD.out)
      clear hb1 HR HBD
      have cd := HD1.out.cell
      gi_wp2_with fail
      refine ⟨trivial, (callsIn_wide.2 (HDI.out w1 HB1.out)).mono ?_⟩
      rintro r w2 ⟨rfl, hb2⟩
      have HB2 := hid (below_then HB1.out hb2)
      have HD2 := hid (show Boxed w2 w.heap.size 9 (.string (mk d)) from (hb2.block _ HD1.out.lt).trans HD1.out)
      clear hb2 HDI HB1 HD1 cd
      have HB3 := hid (HB2.out.alloc HB2.out.size (.cells #[.slice none 0 0] 22))
      have HD3 := hid (HD2.out.alloc (.cells #[.slice none 0 0] 22))
      have HS3 := hid (Boxed.new w2 22 (.slice none 0 0))
      have HUN := hid (under_any (.slice ao t.length c) t d (w2.alloc (.cells #[.slice none 0 0] 22)) (HET.out.below HB3.out) hd w2.heap.size HS3.out.lt (fun g o n c h0 e => by have := HET.out.low h0 e; have := HB2.out.size; omega))
      have HZ2 := hid HD2.out.lt
      have cd := HD3.out.cell
      clear HD2 HB2
      gi_wp2_with fail
      refine ⟨trivial, (callsIn_wide.2 HUN.out).mono ?_⟩
      rintro r w4 ⟨Bt, Bl, f, rfl, hU, hBt, hBl, hb4⟩
      have HB4 := hid (below_then HB3.out hb4)
      have HD4 := hid (show Boxed w4 w.heap.size 9 (.string (mk d)) from (hb4.block _ HD3.out.lt).trans HD3.out)
      have HS4 := hid (show Boxed w4 w2.heap.size 22 (.slice none 0 0) from (hb4.block _ HS3.out.lt).trans HS3.out)
      have HU := hid hU
      clear hU hb4 hBt hBl HUN HB3 HD3 HS3 cd
      gi_wp2_with fail
      have HSL := hid (show w2.heap.size < w4.heap.size from HS4.out.lt)
      have hTl : T.length ≤ 1024 := by have := HRT.out.many; rw [HT.out, vals_len] at this; exact this
      have HU2 := hid (show Und w4 w4.heap.size w2.heap.size (.slice ao t.length c) (vals T) f d Bt Bl from by rw [← HT.out]; exact HU.out)
      refine wpIn_rangeFunc_ownH rfl (by omega) (gf := 63) (lb := #[.pointer (some ⟨Bt, 0, none⟩), .pointer (some ⟨Bl, 0, none⟩)]) rfl trivial (enters_of Tryz.func63 (by kernel_rfl) rfl)
        (und_stops _ (by omega) Bt Bl w4.heap.size w2.heap.size T hTl (.slice ao t.length c) f d w4 HU2.out (Nat.le_refl _))
        (fun h k => kpS_t h k) (kpS_b (Nat.le_refl _)) (Below.refl _ _) (fun _ => rfl)
        (fun pre W => Sbx w W w4.heap.size w.heap.size w2.heap.size d (pre.map (relE d)))
        (fun _ _ _ => False)
        (sbx_own HB4.out.size _) (fun _ _ _ _ _ hs _ _ => hs)
        ⟨⟨_, HS4.out, OwnE.nil _ _⟩, HD4.out, HB4.out, Nat.le_refl _⟩
        (SbA w4.heap.size w2.heap.size (fun Be y => #[.slice ao t.length c, .string (mk d), undef, .pointer (some ⟨w.heap.size, 0, none⟩), .slice none 0 0, .int .i64 0, .int .i64 0, .int .i64 0, .pointer (some ⟨w2.heap.size, 0, none⟩), undef, .pointer (some ⟨Be, 0, none⟩), .slice ao t.length c, .slice (some ⟨w.heap.size + 1, 0, none⟩) 1 1, .int .i64 0, .int .i64 0, .bool false, undef, .slice ao t.length c, .string (mk d), .int .i64 0, .int .i64 0, .bool false, undef, .slice ao t.length c, .string (mk d), .func (.func 63) #[] #[.pointer (some ⟨Bt, 0, none⟩), .pointer (some ⟨Bl, 0, none⟩)], .string (mk (spN y.1.1)), entA y.1, undef, undef, undef, undef, undef, undef, undef, undef, undef, undef, undef, undef, undef, undef]))
        (fun y a' => sbA_own HSL.out HSL.out y a') ?assign ?body ?done ?stop
      case assign =>
        intro l pre y W K hi hK
        unfold undE entA
        gi_wp2
        exact hK _ _ ((KeepsOthers.alloc _ _).from _) (kpS_below (below_walk W _) hi.z) (hi.step (below_walk W _)) ⟨W.heap.size, hi.z, Eb.new W y.1, sb_new hi, rfl⟩
      case body =>
        rintro l pre y a' W hl _ hi ⟨Be, hBe, heb, hnb, rfl⟩ hlt
        obtain ⟨vs, hv, ho⟩ := hi.s
        obtain ⟨av, cv, hvs⟩ := ho.ents.shape
        subst hvs
        have HRL := hid (rel_any (mk d) (mk y.1.1) W (by rw [bl_mk]; omega) (by rw [bl_mk]; have := okP_short (mayP_ok y.2); omega))
        rw [bl_mk, bl_mk] at HRL
        have cd := hi.d.cell
        have ce := heb.at.1
        have HI := hid hi
        have HEB := hid heb
        have HNB := hid (hnb _ hv)
        have HV := hid hv
        have HO := hid ho
        have HBE := hid hBe
        have HDS := hid (show w.heap.size < w2.heap.size from HZ2.out)
        have HPL := hid (show (pre.map (relE d)).length + [relE d y].length ≤ 3298534883328 by rw [List.length_map]; simp; omega)
        have HMP := hid (show (pre ++ [y]).map (relE d) = pre.map (relE d) ++ [relE d y] by rw [List.map_append]; rfl)
        generalize pre.map (relE d) = L at *
        clear hi heb hnb hv ho hBe
        have HFIN : Hid (∀ w6, Below W.heap.size W w6 → ∃ W7, W7 = (w6.setCell ⟨Be, 0, none⟩ (.string (mk (relP d y.1.1)))) ∧ Eb W7 Be (relE d y) ∧ Sbx w W7 w4.heap.size w.heap.size w2.heap.size d L ∧ Boxed W7 w2.heap.size 22 (.slice av L.length cv) ∧ OwnE W7 w4.heap.size (.slice av L.length cv) L ∧ KeepsFrom w4.heap.size W W7 ∧ KpS w4.heap.size w2.heap.size W W7) := hid (fun w6 hb6 => by
          have he6 := HEB.out.below hb6
          have hg := grownBy_setCell' w6 Be (.string (mk (relP d y.1.1)))
          have hv6 : Boxed w6 w2.heap.size 22 (.slice av L.length cv) := (hb6.block _ HV.out.lt).trans HV.out
          refine ⟨_, rfl, by unfold Eb; rw [blk_set he6]; rfl, (HI.out.step hb6).put HBE.out HB4.out.size (by have := HDS.out; have := HSL.out; omega) HSL.out (fun v hv => ?_) 0 _, hv6.other (by have := HSL.out; have := HBE.out; omega) _, (HO.out.below hb6).kept hg (Or.inr HNB.out), (KeepsFrom.below hb6).trans ((KeepsOthers.setCell w6 _ _).from _), kpS_t (kpS_below hb6 HI.out.z) (kpS_set w6 HBE.out 0 _)⟩
          have h3 := hv6.symm.trans hv
          injection h3 with h3
          injection h3 with h3 _ _
          injection h3 with h3
          injection h3 with h3 _
          rw [← h3]
          exact HNB.out)
        gi_wp2_with (first | (refine ⟨trivial, ?_⟩; gi_at_call 39; refine (CallsIn.inRound l (callsIn_wide.2 HRL.out)).mono ?_; rintro r w6 ⟨rfl, hb6⟩; have HE6 := hid (HEB.out.below hb6); have f0 := HE6.out.fz 0; have g0 := HE6.out.at.1; obtain ⟨W7, hW7, he7, hi7, hv7, ho7, hk7, hp7⟩ := HFIN.out w6 hb6; have HW7 := hid hW7; have HI7 := hid hi7; have HV7 := hid hv7; have HO7 := hid ho7; have HK7 := hid hk7; have HP7 := hid hp7; have HZ7 := hid (show W7.heap.size = w6.heap.size by rw [hW7]; exact World.size_setCell _ _ _); obtain ⟨h70, h71, h72⟩ := he7.at; have c7 := hv7.cell; rw [hW7] at h70 h71 h72 c7; clear hb6 cd ce HRL HFIN hW7 he7 hi7 hv7 ho7 hk7 hp7) | (gi_at_builtin; go_loud (rw [← HW7.out]; have HOX := hid (HO7.out.alloc' (.cells #[.string (mk (relE d y).1), .int .i64 (relE d y).2.1, .string (mk (relE d y).2.2)] 25)); have HEN := hid (ents_one W7 (relE d y)); rw [HZ7.out] at HEN; have HBX := hid (show w4.heap.size ≤ (W7.alloc (.cells #[.string (mk (relE d y).1), .int .i64 (relE d y).2.1, .string (mk (relE d y).2.2)] 25)).heap.size by have := HI7.out.z; rw [World.size_alloc]; omega); refine list_step_in _ _ rfl (by intro c e; cases e) (by rintro ⟨_, _, h⟩; exact h) ?_; refine app_ent rfl _ _ rfl w4.heap.size _ _ rfl HOX.out [relE d y] _ rfl HEN.out HPL.out HBX.out ?_; intro vA wA hoA hgA _; obtain ⟨hvA, hK1, hK2, hI⟩ := HI7.out.app HV7.out HO7.out (Nat.le_of_lt HDS.out) HSL.out HDS.out hoA hgA; obtain ⟨aA, cA, eA⟩ := hoA.ents.shape; have HKA := hid (HK7.out.trans hK1); have HPA := hid (kpS_t HP7.out hK2); have HIA := hid hI; have cA1 := hvA.cell; have fA1 := hvA.frozen; generalize (L ++ [relE d y]).length = nL at eA; subst eA; clear hoA hgA hvA hK1 hK2 hI; refine wpList_nil ?_; show wpListIn _ _ _ _ _ _ _ _)))
        exact ⟨HKA.out, HPA.out, by show Sbx _ _ _ _ _ _ ((pre ++ [y]).map (relE d)); rw [HMP.out]; exact HIA.out⟩
      case done =>
        rintro D ys W hD rfl hi hK
        have hi : Sbx w W w4.heap.size w.heap.size w2.heap.size d ((undL d T).map (relE d)) := hi
        rw [relE_und HOK.out, ← HT.out] at hi
        obtain ⟨vs, hv, ho⟩ := hi.s
        obtain ⟨av, cv, hvs⟩ := ho.ents.shape
        subst hvs
        have HSR := hid (sub_rgt d HRT.out)
        have HOW := hid (own_any _ (subL t d) W ho.ents (by have := HSR.out.many; omega) (fun e he => may_shr' (HSR.out.may e he)))
        have HBW := hid hi.b
        have HKD := hid hK
        have HDL := hid hD
        have cv1 := hv.cell
        clear hi hv ho hK hD
        gi_wp2_with (refine ⟨trivial, ?_⟩; gi_at_call 34; refine (callsIn_wide.2 HOW.out).mono ?_; rintro r w8 ⟨v8, rfl, ho8, hb8⟩; have HB8 := hid (below_then HBW.out hb8); have HO8 := hid (ho8.le HBW.out.size); have HK8 := hid ((hb8.block D (hp_lt HKD.out)).trans HKD.out); obtain ⟨a8, c8, e8⟩ := ho8.ents.shape; subst e8; clear ho8 hb8 cv1)
        refine ⟨by simp, .inl ⟨_, _, rfl, run_takeDeferred HK8.out, ?_⟩⟩
        refine ⟨_, results_tmp2 rfl _ _ _, ?_⟩
        rw [HAP.out]
        exact ⟨⟨_, rfl, ownsRow_putObj HO8.out _ HK8.out rfl⟩, HB8.out.grown (grownBy_putObj' _ D (.deferred none)) HB8.out.size (fun k e => by cases e; exact Nat.le_trans HB4.out.size HDL.out)⟩
      case stop =>
        rintro D c' pre W _ _ h _
        exact h.elim
    · have HAP := hid (show sbP t d = .error W0 from by unfold sbP; rw [if_neg (by simpa using HE0.out), HW0.out, if_pos h1])
      have e1 : (W0 == 0) = false := by simpa using h1
      obtain ⟨ao, c, e0⟩ := HET.out.shape
      subst e0
      clear h1
      go_enter Tryz.func10, Tryz.ntmps10
      go_wp2_with fail
      refine HR.out.mono ?_
      rintro r w1 ⟨rfl, hb1⟩
      have HB1 := hid (below_then HB0.out (show Below (w.alloc (.cells #[.string (mk d)] 9)).heap.size _ w1 from by rw [HZ0.out]; exact hb1))
      have cd := (show Boxed w1 w.heap.size 9 (.string (mk d)) from (hb1.block _ (by omega)).trans HBD.out).cell
      clear hb1 HR HBD
      go_wp2_with (go_at_call 37; refine (HDI.out _ HB1.out).mono ?_; rintro r w2 ⟨rfl, hb2⟩; have HB2 := hid (below_then HB1.out hb2); clear hb2)
      go_ret2
      rw [HAP.out]
      exact ⟨rfl, HB2.out⟩
  · have HAP := hid (show sbP t d = .error E0 from by unfold sbP; rw [HE0.out, if_pos h0])
    have e1 : (E0 == 0) = false := by simpa using h0
    obtain ⟨ao, c, e0⟩ := HET.out.shape
    subst e0
    clear h0
    go_enter Tryz.func10, Tryz.ntmps10
    go_wp2_with fail
    refine HR.out.mono ?_
    rintro r w1 ⟨rfl, hb1⟩
    have HB1 := hid (below_then HB0.out (show Below (w.alloc (.cells #[.string (mk d)] 9)).heap.size _ w1 from by rw [HZ0.out]; exact hb1))
    clear hb1 HR
    go_wp2
    go_ret2
    rw [HAP.out]
    exact ⟨rfl, HB1.out⟩

end Go.Proofs.YteijkbanlpodpaaGreatDoor

/- alive: a file in a directory that lacks. -/
namespace Go.Proofs.YteijkbanlpodpaaGreatDoor
open Go.RowKit

def al0 : Ent := ([97, 47, 98], 1, [120])
def alT : List Ent := [([97], 2, []), al0]
theorem al_lack : lackL [al0] = [[97]] := by decide +kernel
theorem al_make : mkP [al0] = .ok alT := by
  have h1 : [al0].all mayP = true := by decide +kernel
  have h2 : ([al0].map (·.1)).Nodup := by simp
  have h3 : wrongP [al0] = false := by decide +kernel
  have h5 : szP [al0] = 1 := by decide +kernel
  have h6 : alT.Pairwise ltE := by
    unfold alT
    rw [List.pairwise_cons]
    refine ⟨fun b hb => ?_, List.pairwise_singleton _ _⟩
    rw [List.mem_singleton] at hb
    subst hb
    unfold ltE
    decide +kernel
  have h7 : (([al0] ++ [[97]].map dirE).map (·.1)).Nodup := by decide +kernel
  have h8 : alT = sortE ([al0] ++ [[97]].map dirE) := by
    refine sortE_uniq h6 h7 (fun e => ?_)
    unfold alT dirE
    simp
    exact Or.comm
  unfold mkP
  rw [h1, if_neg (show ¬ (true = false) by simp), if_neg (fun h => h h2), h3, if_neg (show ¬ (false = true) by simp), al_lack, h5, ← h8]
  rfl
theorem al_check : chkP alT = (0, 0) := by decide +kernel
theorem al_size : szP alT = 1 := by decide +kernel
theorem al_tre : Tre [al0] := ⟨by simp, fun e he => by rw [List.mem_singleton] at he; subst he; exact ⟨by decide, by decide⟩, by decide +kernel⟩
theorem al_short : Short alT := fun e he => by
  unfold alT at he
  simp only [List.mem_cons, List.not_mem_nil, or_false] at he
  rcases he with rfl | rfl
  · exact ⟨by simp, by simp⟩
  · exact ⟨by decide, by decide⟩

set_option maxRecDepth 100000 in
set_option maxHeartbeats 2000000 in
theorem alive_any (w : World) : Calls Tryz.prog 15 #[] w fun r w' => r = .returned (.bool true) ∧ Below w.heap.size w w' := by
  have HMK := hid (make_any _ [al0] _ (ents_one w al0) al_tre)
  rw [al_make] at HMK
  have HBA := hid (below_walk w (.cells #[.string ⟨#[97, 47, 98]⟩, .int .i64 1, .string ⟨#[120]⟩] 25))
  go_enter Tryz.func15, Tryz.ntmps15
  go_wp2_with fail
  refine HMK.out.mono ?_
  rintro r w2 ⟨⟨v2, rfl, ho2⟩, hb2⟩
  have HO2 := hid ho2
  have HB2 := hid (below_then HBA.out hb2)
  have HC2 := hid (tcheck_any v2 alT w2 ho2.ents al_short (by decide))
  rw [al_check] at HC2
  obtain ⟨a2, c2, h2⟩ := ho2.ents.shape
  subst h2
  clear ho2 hb2 HMK
  go_wp2_with fail
  refine HC2.out.mono ?_
  rintro r w3 ⟨rfl, hb3⟩
  have HEN := hid (HO2.out.ents.below hb3)
  have HB3 := hid (below_then HB2.out hb3)
  have HS3 := hid (size_any _ alT w3 HEN.out al_short (by decide) (by decide +kernel))
  rw [al_check, al_size] at HS3
  obtain ⟨g, o, rfl, hgl, x0, x1, x2⟩ := HEN.out.at 0 (by decide)
  clear hb3 HC2
  have e0 : w3.cell? ⟨g, o, none⟩ = some (.string ⟨#[97]⟩) := x0
  have e1 : w3.cell? ⟨g, o + 1, none⟩ = some (.int .i64 2) := x1
  have e2 : w3.cell? ⟨g, o + 2, none⟩ = some (.string ⟨#[]⟩) := x2
  have hl : alT.length = 2 := rfl
  rw [hl] at HS3 ⊢
  have hg := entG
  have heq : ∀ W, (binOp .eql 25 (.agg #[.string ⟨#[97]⟩, .int .i64 2, .string ⟨#[]⟩]) (.agg #[.string ⟨#[97]⟩, .int .i64 2, .string ⟨#[]⟩])).run Tryz.prog W = .ok (.bool true) W := fun W => by
    have := eql_ent ([97], 2, []) ([97], 2, []) W
    rw [decide_eq_true rfl] at this
    exact this
  clear x0 x1 x2 hl
  go_wp2_with (go_at_call 45; refine HS3.out.mono ?_; rintro r w4 ⟨rfl, hb4⟩)
  go_ret
  exact ⟨rfl, below_then HB3.out hb4⟩

end Go.Proofs.YteijkbanlpodpaaGreatDoor
