/- A written path is walked: step, walk, Join, Clean. -/
import Derived.Test.YtoehopigjmmagaaDoorPCheck
namespace Go.Proofs.YtoehopigjmmagaaDoor
open Go.RowKit

theorem OwnS.alloc {w : World} {base : Nat} {v : Value} {ts : List (List UInt8)} (h : OwnS w base v ts) (o : Obj) : OwnS (w.alloc o) base v ts := World.ownsRow.alloc h o
theorem OwnS.drewN {w : World} {base : Nat} {v : Value} {ts : List (List UInt8)} (h : OwnS w base v ts) (n : Nat) : OwnS (w.drewN n) base v ts := h
theorem own_below {w w' : World} {base : Nat} {v : Value} {ts : List (List UInt8)} (h : OwnS w base v ts) (hb : base ≤ w.heap.size) (hg : w.grownBy w' v.ownBlock) : Below base w w' :=
  ⟨hg.os, hg.tape, hg.output, hg.size, fun k hk => hg.block k (by omega) (fun e => by have := (h.lt k e.symm).1; omega)⟩
theorem below_le {w w' : World} {a b : Nat} (h : Below a w w') (hb : b ≤ a) : Below b w w' := ⟨h.os, h.tape, h.output, h.size, fun k hk => h.block k (by omega)⟩
theorem below_tr {w w' w'' : World} {a : Nat} (h : Below a w w') (k : Below a w' w'') : Below a w w'' :=
  ⟨k.os.trans h.os, k.tape.trans h.tape, k.output.trans h.output, Nat.le_trans h.size k.size, fun i hi => (k.block i hi).trans (h.block i hi)⟩
/-- one text, laid as a slice -/
theorem strs_one (w : World) (p : ByteArray) : Strs (w.alloc (.cells #[.string p] 9)) (.slice (some ⟨w.heap.size, 0, none⟩) 1 1) [bl p] := by
  refine Or.inr ⟨w.heap.size, 0, 1, rfl, by simp, Nat.le_refl _, fun j hj => ?_⟩
  match j, hj with
  | 0, _ => simp [mk_bl]

theorem bl_ne {p : ByteArray} {l : List UInt8} (h : bl p ≠ l) : (p.toList == l) = false := by
  simp; exact h

/-- behind a step: the names, which blocks were written, where they lie -/
structure Stp (w : World) (base : Nat) (v : Value) (w' : World) (v' : Value) (m : List (List UInt8)) : Prop where
  own : OwnS w' base v' m
  gr : w.grownBy w' v.ownBlock
  pl : v'.ownBlock = v.ownBlock ∨ ∃ j, v'.ownBlock = some j ∧ w.heap.size ≤ j
/-- what a walk says -/
def StepPost (R : Except Int (List (List UInt8))) (w : World) (base : Nat) (v : Value) (e : Ending) (w' : World) : Prop :=
  (∃ m v', R = .ok m ∧ e = .returned (.tuple #[v', .int .i64 0]) ∧ Stp w base v w' v' m) ∨ (∃ x, R = .error x ∧ e = .returned (.tuple #[.slice none 0 0, .int .i64 x]) ∧ w' = w)
def WalkPost (R : Except Int (List (List UInt8))) (w : World) (base : Nat) (e : Ending) (w' : World) : Prop :=
  (∃ m v', R = .ok m ∧ e = .returned (.tuple #[v', .int .i64 0]) ∧ OwnS w' base v' m ∧ Below base w w') ∨ (∃ x, R = .error x ∧ e = .returned (.tuple #[.slice none 0 0, .int .i64 x]) ∧ Below base w w')

set_option maxHeartbeats 1000000 in
theorem step_any (base : Nat) (v : Value) (ts : List (List UInt8)) (p : ByteArray) (w : World) (ho : OwnS w base v ts) (hl : ts.length ≤ 1099511627776) (hb : base ≤ w.heap.size) :
    Calls Tryd.prog 55 #[v, .string p] w fun e w' => StepPost (stepP ts (bl p)) w base v e w' := by
  have HO := hid ho
  clear ho
  unfold stepP
  by_cases h1 : bl p = [] ∨ bl p = [46]
  · rw [if_pos h1]
    have HH := hid h1
    clear h1
    obtain ⟨ao, c, rfl⟩ := HO.out.strs.shape
    go_enter Tryd.func55, Tryd.ntmps55
    go_wp2
    all_goals first
      | (go_ret2; exact Or.inl ⟨_, _, rfl, rfl, HO.out, gb_refl _ _, Or.inl rfl⟩)
      | (exfalso; rcases HH.out with e | e <;> simp_all [bl]; done)
  · rw [if_neg h1]
    have n1 : p.toList.isEmpty = false := by
      have : bl p ≠ [] := fun e => h1 (Or.inl e)
      simpa [bl] using this
    have n2 : (p.toList == [46]) = false := bl_ne (fun e => h1 (Or.inr e))
    have n2' : ¬ p.toList = [46] := fun e => h1 (Or.inr e)
    clear h1
    by_cases h2 : bl p = [46, 46]
    · rw [if_pos h2]
      have n3 : p.toList = [46, 46] := h2
      by_cases hts : ts = []
      · rw [if_pos hts]
        subst hts
        obtain ⟨ao, c, rfl⟩ := HO.out.strs.shape
        clear h2
        go_enter Tryd.func55, Tryd.ntmps55
        go_wp2
        go_ret2
        exact Or.inr ⟨_, rfl, rfl, rfl⟩
      · rw [if_neg hts]
        rcases HO.out.forms with ⟨_, e⟩ | ⟨g, cap, rfl, _, _, hcap, hmax, _, _⟩
        · exact absurd e hts
        · have hpos : 0 < ts.length := List.length_pos_iff.2 hts
          have q0 : ¬ (ts.length : Int) = 0 := by omega
          have q0' : ((ts.length : Int) == 0) = false := by simp; exact hts
          have HT := hid (show OwnS w base (.slice (some ⟨g, 0, none⟩) (ts.length - 1) cap) ts.dropLast by rw [List.dropLast_eq_take]; exact HO.out.take _ (by omega))
          obtain ⟨I, HI⟩ : ∃ I : Nat, Hid (I = ts.length - 1) := ⟨_, rfl⟩
          have i1 : IntKind.i64.wrap ((ts.length : Int) - 1) = (I : Int) := by rw [IntKind.wrap_i64, HI.out]; omega
          rw [← HI.out] at HT
          have hsl := sl_to ⟨g, 0, none⟩ ts.length cap I (by rw [HI.out]; omega)
          clear h2
          go_enter Tryd.func55, Tryd.ntmps55
          go_wp2
          go_ret2
          exact Or.inl ⟨_, _, rfl, rfl, HT.out, gb_refl _ _, Or.inl rfl⟩
    · rw [if_neg h2]
      have n3 : (p.toList == [46, 46]) = false := bl_ne h2
      have n3' : ¬ p.toList = [46, 46] := h2
      clear h2
      cases hn : nmP (bl p) with
      | true =>
        rw [if_pos rfl]
        have HN := hid (name_ok p hn)
        clear hn
        go_enter Tryd.func55, Tryd.ntmps55
        go_wp2_with (first | (go_at_call 11; refine (HN.out _).mono ?_; rintro e w' ⟨rfl, rfl⟩) | (at_builtin; refine app_text rfl _ _ rfl base _ _ rfl (HO.out.alloc _) _ _ rfl (strs_one _ p) ?c1 ?c2 ?_))
        case c1 => simp; omega
        case c2 => simp; omega
        intro v3 w3 ho3 hg3 hp3
        obtain ⟨ao, c, rfl⟩ := ho3.strs.shape
        have HO3 := hid (⟨ho3, gb_trans (gb_alloc _ _ _) hg3, hp3.elim Or.inl (fun e => Or.inr ⟨_, e, by simp⟩)⟩ : Stp _ base _ _ _ _)
        clear ho3 hg3 hp3
        go_wp2
        go_ret2
        exact Or.inl ⟨_, _, rfl, rfl, HO3.out⟩
      | false =>
        rw [if_neg (by decide)]
        have HN := hid (name_bad p hn)
        clear hn
        obtain ⟨ao, c, rfl⟩ := HO.out.strs.shape
        go_enter Tryd.func55, Tryd.ntmps55
        go_wp2_with (go_at_call 11; refine (HN.out _).mono ?_; rintro e w' ⟨rfl, rfl⟩)
        go_ret2
        exact Or.inr ⟨_, rfl, rfl, rfl⟩

theorem stepP_len {l m : List (List UInt8)} {p : List UInt8} (h : stepP l p = .ok m) : m.length ≤ l.length + 1 := by
  unfold stepP at h
  repeat' split at h
  all_goals first | (cases h; done) | (cases h; simp; done) | (cases h; simp; omega)
theorem pcs_len (l : List UInt8) : (pcs l).length ≤ l.length + 1 := by
  induction l with
  | nil => simp [pcs]
  | cons c r ih =>
    by_cases h : c = 47
    · subst h; rw [pcs_slash]; simp; omega
    · obtain ⟨x, t, e1, e2⟩ := pcs_cons c r h
      rw [e2]; rw [e1] at ih; simp at *; omega
theorem drop_cons {l : List (List UInt8)} {k : Nat} (h : k < l.length) : l.drop k = l.getD k [] :: l.drop (k + 1) := by
  rw [List.drop_eq_getElem_cons h]
  simp [List.getD_eq_getElem?_getD, h]

set_option maxRecDepth 100000 in
set_option maxHeartbeats 1000000 in
theorem walk_any (base : Nat) (v : Value) (ts : List (List UInt8)) (s : ByteArray) (w : World) (ho : OwnS w base v ts) (hl : ts.length ≤ 1099511600000) (hb : base ≤ w.heap.size) :
    Calls Tryd.prog 42 #[v, .string s] w fun e w' => WalkPost (walkP ts (bl s)) w base e w' := by
  have HO := hid ho
  clear ho
  have hsz := bl_size s
  obtain ⟨l, hbl⟩ : ∃ l, bl s = l := ⟨_, rfl⟩
  rw [hbl] at hsz ⊢
  have HBL := hid hbl
  clear hbl
  unfold walkP
  by_cases h4 : 4096 < l.length
  · rw [if_pos h4]
    have q1 : (4096 : Int) < (l.length : Int) := by omega
    clear h4
    obtain ⟨ao, c, rfl⟩ := HO.out.strs.shape
    go_enter Tryd.func42, Tryd.ntmps42
    go_wp2
    go_ret2
    exact Or.inr ⟨_, rfl, rfl, Below.refl _ _⟩
  · rw [if_neg h4]
    have q1 : ¬ (4096 : Int) < (l.length : Int) := by omega
    have HPRE := hid (pre_any s ⟨#[47]⟩)
    rw [HBL.out, show bl (⟨#[47]⟩ : ByteArray) = [47] from bl_mk [47]] at HPRE
    by_cases h47 : l.head? = some 47
    · rw [if_pos h47]
      have e1 : [(47 : UInt8)].isPrefixOf l = true := by
        cases l with
        | nil => simp at h47
        | cons c r => simp at h47; subst h47; simp [List.isPrefixOf]
      rw [e1] at HPRE
      clear h47 e1 h4
      obtain ⟨ao, c, rfl⟩ := HO.out.strs.shape
      go_enter Tryd.func42, Tryd.ntmps42
      go_wp2_with (go_at_call 46; refine (HPRE.out _).mono ?_; rintro e w' ⟨rfl, rfl⟩)
      go_ret2
      exact Or.inr ⟨_, rfl, rfl, Below.refl _ _⟩
    · rw [if_neg h47]
      have e1 : [(47 : UInt8)].isPrefixOf l = false := by
        cases l with
        | nil => rfl
        | cons c r => simp at h47; simp [List.isPrefixOf]; exact fun e => h47 e.symm
      rw [e1] at HPRE
      have HSP := hid (split_any s w (by rw [hsz]; omega))
      rw [HBL.out] at HSP
      have hpl := pcs_len l
      obtain ⟨P, HP⟩ : ∃ P, Hid (pcs l = P) := ⟨_, rfl⟩
      rw [HP.out] at HSP hpl ⊢
      have HH := hid (show (w.alloc (.cells (strV P).toArray 9)).heap[w.heap.size]? = some (.cells (strV P).toArray 9 (0, 0)) from hp_new _ _)
      have HO1 := hid (HO.out.alloc (.cells (strV P).toArray 9))
      have HBW := hid (below_le (below_walk w (.cells (strV P).toArray 9)) hb)
      have HNE := hid (show v.ownBlock ≠ some w.heap.size from fun e => by have := (HO.out.lt _ e).2; omega)
      have hb1 : base ≤ (w.alloc (.cells (strV P).toArray 9)).heap.size := by simp; omega
      have hpb : P.length ≤ 4097 := by omega
      have hsz1 : (w.alloc (.cells (strV P).toArray 9)).heap.size = w.heap.size + 1 := by simp
      clear h47 e1 h4 hpl
      obtain ⟨ao, c, rfl⟩ := HO.out.strs.shape
      go_enter Tryd.func42, Tryd.ntmps42
      go_wp2_with (go_at_call 46; refine (HPRE.out _).mono ?_; rintro e w0 ⟨rfl, hw⟩; subst w0)
      refine HSP.out.mono ?_
      rintro e w1 ⟨rfl, hw⟩
      rw [← hw] at HH HO1 HBW hb1 hsz1
      clear hw
      go_wp2
      clear HPRE HSP
      go_loopw [0, 17] (fun x i wr => ∃ (k : Nat) (m : List (List UInt8)), k ≤ P.length ∧ i = .int .i64 k ∧ OwnS wr base x m ∧ Hid (stepsP m (P.drop k) = stepsP ts P) ∧ m.length ≤ ts.length + k ∧ Below base w wr ∧ wr.heap[w.heap.size]? = some (.cells (strV P).toArray 9 (0, 0)) ∧ x.ownBlock ≠ some w.heap.size) (fun _ i _ => P.length - (intOf i).toNat)
      case atStart => exact ⟨0, ts, by omega, rfl, HO1.out, by rw [List.drop_zero]; rfl, by omega, HBW.out, HH.out, HNE.out⟩
      case round =>
        obtain ⟨k, m, hk, rfl, hom, HST, hml, hbw, hpc, hne⟩ := hrel
        have HOM := hid hom
        have HBR := hid hbw
        have HPC := hid hpc
        have HNR := hid hne
        have hbr : base ≤ wr.heap.size := Nat.le_trans hb hbw.size
        clear hom hbw hpc hne HH HO1 HBW HNE hb1 hsz1
        by_cases hlt : k < P.length
        · have q2 : (k : Int) < (P.length : Int) := by omega
          have hc1 : wr.cell? ⟨w.heap.size, k, none⟩ = some (.string (mk (P.getD k []))) := by
            simp [World.cell?, HPC.out, strV, List.getD_eq_getElem?_getD, hlt]
          have hd := drop_cons hlt
          obtain ⟨pc, HPK⟩ : ∃ pc, Hid (P.getD k [] = pc) := ⟨_, rfl⟩
          rw [HPK.out] at hc1 hd
          have HD := hid hd
          clear hd
          have HSA := hid (step_any base u0 m (mk pc) wr HOM.out (by omega) hbr)
          rw [bl_mk] at HSA
          obtain ⟨ax, cx, rfl⟩ := HOM.out.strs.shape
          go_wp2_with fail
          refine HSA.out.mono ?_
          rintro e w2 (⟨m2, v2, hR, rfl, hs⟩ | ⟨x, hR, rfl, rfl⟩)
          · have HR := hid hR
            have HS := hid hs
            have HST2 := hid (show stepsP m2 (P.drop (k + 1)) = stepsP ts P by rw [← HST.out, HD.out, stepsP, hR])
            have hm2 := stepP_len hR
            obtain ⟨a2, c2, rfl⟩ := hs.own.strs.shape
            have HB2 := hid (below_tr HBR.out (own_below HOM.out hbr hs.gr))
            have HPC2 := hid ((hs.gr.block w.heap.size (hp_lt HPC.out) (fun e => HNR.out e.symm)).trans HPC.out)
            have HNE2 := hid (show (Value.slice a2 m2.length c2).ownBlock ≠ some w.heap.size from by
              intro e
              rcases hs.pl with h | ⟨j, h, hj⟩
              · exact HNR.out (h ▸ e)
              · rw [h] at e
                have := Option.some.inj e
                have := hp_lt HPC.out
                omega)
            clear hR hs
            go_wp2
            refine ⟨⟨k + 1, m2, by omega, by simp, HS.out.own, HST2, by omega, HB2.out, HPC2.out, HNE2.out⟩, by simp [intOf]; omega⟩
          · have HR := hid (show stepsP ts P = .error x by rw [← HST.out, HD.out, stepsP, hR])
            have hx : ¬ x = 0 := by have := stepP_err hR; omega
            have hx' : (x != 0) = true := by simp [hx]
            clear hR
            go_wp2
            go_ret2
            exact Or.inr ⟨x, HR.out, rfl, HBR.out⟩
        · have q2 : ¬ (k : Int) < (P.length : Int) := by omega
          obtain rfl : k = P.length := by omega
          have HR := hid (show stepsP ts P = .ok m by rw [← HST.out, List.drop_length, stepsP])
          obtain ⟨ax, cx, rfl⟩ := HOM.out.strs.shape
          go_wp2
          go_ret2
          exact Or.inl ⟨m, _, HR.out, rfl, HOM.out, HBR.out⟩

end Go.Proofs.YtoehopigjmmagaaDoor
