/- The document's walk by a written path, and its Join. -/
import Derived.Test.YtoehopigjmmagaaDoorPPieces
namespace Go.Proofs.YtoehopigjmmagaaDoor
open Go.RowKit

/-- what the document's walk says -/
def GonePost (R : Except Int (List (List UInt8))) (w : World) (e : Ending) (w' : World) : Prop :=
  (∃ m v', R = .ok m ∧ e = .returned (.tuple #[v', .int .i64 0]) ∧ Strs w' v' m ∧ Below w.heap.size w w') ∨ (∃ x, R = .error x ∧ e = .returned (.tuple #[.slice none 0 0, .int .i64 x]) ∧ Below w.heap.size w w')

/-- how the walk stands ahead of a round -/
structure Gst (w : World) (g : Nat) (vp : Value) (P : List (List UInt8)) (R : Except Int (List (List UInt8))) (n k : Nat) (x : Value) (m : List (List UInt8)) (wr : World) : Prop where
  own : OwnS wr w.heap.size x m
  pcs : OwnS wr w.heap.size vp P
  ne : x.ownBlock ≠ some g
  st : stepsP m (P.drop k) = R
  len : m.length ≤ n + k
  bel : Below w.heap.size w wr
theorem Gst.step {w : World} {g : Nat} {vp : Value} {P : List (List UInt8)} {R : Except Int (List (List UInt8))} {n k : Nat} {x : Value} {m : List (List UInt8)} {wr : World} (h : Gst w g vp P R n k x m wr) (hvp : vp.ownBlock = some g)
    {w2 : World} {v2 : Value} {m2 : List (List UInt8)} (hk : k < P.length) (hR : stepP m (P.getD k []) = .ok m2) (ho : OwnS w2 w.heap.size v2 m2) (hg : wr.grownBy w2 x.ownBlock) (hp : v2.ownBlock = x.ownBlock ∨ ∃ j, v2.ownBlock = some j ∧ wr.heap.size ≤ j) :
    Gst w g vp P R n (k + 1) v2 m2 w2 := by
  refine ⟨ho, h.pcs.kept hg (Or.inr (fun e => h.ne (by rw [← e, hvp]))), ?_, ?_, ?_, below_tr h.bel (own_below h.own h.bel.size hg)⟩
  · intro e
    rcases hp with h1 | ⟨j, h1, hj⟩
    · exact h.ne (h1 ▸ e)
    · rw [h1] at e
      have e2 := Option.some.inj e
      have := (h.pcs.lt g hvp).2
      omega
  · rw [← h.st, drop_cons hk, stepsP, hR]
  · have := stepP_len hR; have := h.len; omega
theorem Gst.err {w : World} {g : Nat} {vp : Value} {P : List (List UInt8)} {R : Except Int (List (List UInt8))} {n k : Nat} {x : Value} {m : List (List UInt8)} {wr : World} (h : Gst w g vp P R n k x m wr) (hk : k < P.length) {e : Int} (hR : stepP m (P.getD k []) = .error e) : R = .error e := by
  rw [← h.st, drop_cons hk, stepsP, hR]

theorem stepP_skip {l : List (List UInt8)} {p : List UInt8} (h : p = [] ∨ p = [46]) : stepP l p = .ok l := by unfold stepP; rw [if_pos h]
theorem stepP_up {l : List (List UInt8)} (h : l ≠ []) : stepP l [46, 46] = .ok l.dropLast := by
  unfold stepP; rw [if_neg (by simp), if_pos rfl, if_neg h]
theorem stepP_out : stepP [] [46, 46] = .error 43 := by unfold stepP; rw [if_neg (by simp), if_pos rfl, if_pos rfl]
theorem stepP_name {l : List (List UInt8)} {p : List UInt8} (h : nmP p = true) : stepP l p = .ok (l ++ [p]) := by
  obtain ⟨h1, h2, h3⟩ := nmP_ne h
  unfold stepP; rw [if_neg (by simp [h1, h2]), if_neg h3, if_pos h]
theorem stepP_bad {l : List (List UInt8)} {p : List UInt8} (h1 : ¬ (p = [] ∨ p = [46])) (h2 : p ≠ [46, 46]) (h : nmP p = false) : stepP l p = .error 42 := by
  unfold stepP; rw [if_neg h1, if_neg h2, if_neg (by rw [h]; decide)]

set_option maxRecDepth 100000 in
set_option maxHeartbeats 2000000 in
theorem gone_any (v : Value) (ts : List (List UInt8)) (s : ByteArray) (w : World) (h : Strs w v ts) (hl : ts.length ≤ 1099511600000) :
    Calls Tryd.prog 43 #[v, .string s] w fun e w' => GonePost (walkP ts (bl s)) w e w' := by
  have HS := hid h
  clear h
  have hsz := bl_size s
  have HPI := hid (rpieces_any s)
  have HAT := hid (bl_at s 0)
  obtain ⟨l, hbl⟩ : ∃ l, bl s = l := ⟨_, rfl⟩
  rw [hbl] at hsz HPI HAT ⊢
  clear hbl
  unfold walkP
  obtain ⟨ao, c, rfl⟩ := HS.out.shape
  by_cases h4 : 4096 < l.length
  · rw [if_pos h4]
    have q1 : (4096 : Int) < (l.length : Int) := by omega
    clear h4
    go_enter Tryd.func43, Tryd.ntmps43
    go_wp2
    go_ret2
    exact Or.inr ⟨_, rfl, rfl, Below.refl _ _⟩
  · rw [if_neg h4]
    have q1 : ¬ (4096 : Int) < (l.length : Int) := by omega
    by_cases h47 : l.head? = some 47
    · rw [if_pos h47]
      obtain ⟨r, rfl⟩ : ∃ r, l = 47 :: r := by
        cases l with
        | nil => simp at h47
        | cons c r => simp at h47; subst h47; exact ⟨r, rfl⟩
      have q2 : (0 : Int) < (((47 : UInt8) :: r).length : Int) := by simp
      have i1 : ∀ W, (Instr.index 9 (.string s) (.int .i64 0)).run Tryd.prog W = .ok (.int .u8 (((((47 : UInt8) :: r).getD 0 0).toNat : Nat) : Int)) W := HAT.out (by simp)
      clear HAT HPI
      rw [show ((47 : UInt8) :: r).getD 0 0 = 47 from rfl, show ((47 : UInt8).toNat : Int) = 47 from rfl] at i1
      generalize ((47 : UInt8) :: r).length = n at *
      clear h47 h4
      go_enter Tryd.func43, Tryd.ntmps43
      go_wp2
      go_ret2
      exact Or.inr ⟨_, rfl, rfl, Below.refl _ _⟩
    · rw [if_neg h47]
      have HC : Hid (¬ 0 < l.length ∨ 0 < l.length ∧ ∃ C : UInt8, C ≠ 47 ∧ ∀ W, (Instr.index 9 (.string s) (.int .i64 0)).run Tryd.prog W = .ok (.int .u8 (C.toNat : Int)) W) := by
        cases l with
        | nil => exact Or.inl (by simp)
        | cons c r => exact Or.inr ⟨by simp, c, by simpa using h47, HAT.out (by simp)⟩
      obtain ⟨P, HP⟩ : ∃ P, Hid (pcs l = P) := ⟨_, rfl⟩
      have hpl := pcs_len l
      have HNE := hid (pcs_ne l)
      rw [HP.out] at HPI hpl HNE ⊢
      have HPJ := hid (fun W => HPI.out W (by omega))
      clear h47 h4 HPI HAT
      go_enter Tryd.func43, Tryd.ntmps43
      rcases HC.out with h0 | ⟨h0, C, hC, i1⟩
      · have q2 : ¬ (0 : Int) < (l.length : Int) := by omega
        go_wp2_with (at_builtin; refine app_text rfl _ _ rfl w.heap.size _ _ rfl (OwnS.nil _ _) _ _ rfl HS.out ?c1a (Nat.le_refl _) ?_)
        case c1a => first | omega | (simp; omega)
        intro v1 w1 ho1' hg1 hp1
        have ho1 : OwnS w1 w.heap.size v1 ts := ho1'
        clear ho1'
        obtain ⟨a1, c1, rfl⟩ := ho1.strs.shape
        have HO1 := hid ho1
        have HB1 := hid (gb_below hg1 : Below w.heap.size w w1)
        have hs1 := hg1.size
        clear ho1 hg1 hp1 HS
        go_wp2_with fail
        refine (HPJ.out w1).mono ?_
        rintro e w2 ⟨vp, rfl, hp2, hb2⟩
        rcases hp2.forms with ⟨_, e⟩ | ⟨gp, cp, rfl, hgp, hgl, _, _, _, _⟩
        · exact absurd e HNE.out
        have HG0 : Hid (Gst w gp (.slice (some ⟨gp, 0, none⟩) P.length cp) P (stepsP ts P) ts.length 0 (.slice a1 ts.length c1) ts w2) :=
          ⟨HO1.out.below hb2, hp2.le hs1, fun e => by have := (HO1.out.lt _ e).2; omega, by rw [List.drop_zero], by omega, below_tr HB1.out (below_le hb2 hs1)⟩
        clear hp2 hb2 hgl HPJ HO1 HB1
        go_wp2
        go_loopw [6, 8] (fun x i wr => ∃ (k : Nat) (m : List (List UInt8)), k ≤ P.length ∧ i = .int .i64 k ∧ Gst w gp (.slice (some ⟨gp, 0, none⟩) P.length cp) P (stepsP ts P) ts.length k x m wr) (fun _ i _ => P.length - (intOf i).toNat)
        case atStart => exact ⟨0, ts, by omega, rfl, HG0.out⟩
        case round =>
          obtain ⟨k, m, hk, rfl, hst⟩ := hrel
          have HG := hid hst
          have hml := hst.len
          have hbs := hst.bel.size
          obtain ⟨ax, cx, rfl⟩ := hst.own.strs.shape
          clear hst HG0
          by_cases hlt : k < P.length
          · have q3 : (k : Int) < (P.length : Int) := by omega
            obtain ⟨g3, o3, e3, hc⟩ := HG.out.pcs.strs.at k hlt
            injection e3 with e3
            injection e3 with e4 e5
            subst e4 e5
            rw [Nat.zero_add] at hc
            have HST : Hid (∀ (w2 : World) (v2 : Value) (m2 : List (List UInt8)), stepP m (P.getD k []) = .ok m2 → OwnS w2 w.heap.size v2 m2 → wr.grownBy w2 (Value.slice ax m.length cx).ownBlock → (v2.ownBlock = (Value.slice ax m.length cx).ownBlock ∨ ∃ j, v2.ownBlock = some j ∧ wr.heap.size ≤ j) → Gst w gp (.slice (some ⟨gp, 0, none⟩) P.length cp) P (stepsP ts P) ts.length (k + 1) v2 m2 w2) := fun w2 v2 m2 h1 h2 h3 h4 => HG.out.step rfl hlt h1 h2 h3 h4
            have HER := hid (fun e h => HG.out.err (e := e) hlt h)
            obtain ⟨pc, HPK⟩ : ∃ pc, Hid (P.getD k [] = pc) := ⟨_, rfl⟩
            rw [HPK.out] at hc HST HER
            have e0 : (mk pc).toList = pc := bl_mk pc
            by_cases hA : pc = [] ∨ pc = [46]
            · have HN := hid (HST.out _ _ _ (stepP_skip hA) HG.out.own (gb_refl _ _) (Or.inl rfl))
              rcases hA with rfl | rfl
              · go_wp2
                exact ⟨⟨k + 1, m, by omega, by simp, HN.out⟩, by simp [intOf]; omega⟩
              · go_wp2
                exact ⟨⟨k + 1, m, by omega, by simp, HN.out⟩, by simp [intOf]; omega⟩
            · have n1 : pc.isEmpty = false := by
                have : pc ≠ [] := fun e => hA (Or.inl e)
                simpa using this
              have n1' : ¬ pc = [] := fun e => hA (Or.inl e)
              have n2 : (pc == [46]) = false := by
                have : pc ≠ [46] := fun e => hA (Or.inr e)
                simpa using this
              have n2' : ¬ pc = [46] := fun e => hA (Or.inr e)
              have HA := hid hA
              clear hA
              by_cases hB : pc = [46, 46]
              · subst hB
                by_cases hm : m = []
                · subst hm
                  have HE := hid (HER.out _ stepP_out)
                  go_wp2
                  go_ret2
                  exact Or.inr ⟨_, HE.out, rfl, HG.out.bel⟩
                · rcases HG.out.own.forms with ⟨_, e⟩ | ⟨go', cap, hv, _, _, hcap, hmax, _, _⟩
                  · exact absurd e hm
                  · injection hv with e6 e7 e8
                    subst e6 e8
                    have hpos : 0 < m.length := List.length_pos_iff.2 hm
                    have p0 : ¬ (m.length : Int) = 0 := by omega
                    have p0' : ((m.length : Int) == 0) = false := by simp; exact hm
                    have HT := hid (show OwnS wr w.heap.size (.slice (some ⟨go', 0, none⟩) (m.length - 1) cx) m.dropLast by rw [List.dropLast_eq_take]; exact HG.out.own.take _ (by omega))
                    have HN := hid (HST.out _ _ _ (stepP_up hm) HT.out (gb_refl _ _) (Or.inl rfl))
                    obtain ⟨I, HI⟩ : ∃ I : Nat, Hid (I = m.length - 1) := ⟨_, rfl⟩
                    have j1 : IntKind.i64.wrap ((m.length : Int) - 1) = (I : Int) := by rw [IntKind.wrap_i64, HI.out]; omega
                    rw [← HI.out] at HT HN
                    have hsl := sl_to ⟨go', 0, none⟩ m.length cx I (by rw [HI.out]; omega)
                    go_wp2
                    exact ⟨⟨k + 1, m.dropLast, by omega, by simp, HN.out⟩, by simp [intOf]; omega⟩
              · have n3 : (pc == [46, 46]) = false := by simpa using hB
                have n3' : ¬ pc = [46, 46] := hB
                cases hn : nmP pc with
                | true =>
                  have HNA := hid (rname_is (mk pc) true (by rw [bl_mk]; exact hn))
                  have HSN := hid (stepP_name (l := m) hn)
                  clear hn
                  go_wp2_with (first | (go_at_call 12; refine (HNA.out _).mono ?_; rintro e w' ⟨rfl, hw⟩; subst w') | (at_builtin; refine app_text rfl _ _ rfl w.heap.size _ _ rfl (HG.out.own.alloc _) _ _ rfl (strs_one _ (mk pc)) ?d1a ?d2a ?_))
                  case d1a => simp; omega
                  case d2a => simp; omega
                  intro v3 w3 ho3 hg3 hp3
                  rw [bl_mk] at ho3
                  obtain ⟨a3, c3, rfl⟩ := ho3.strs.shape
                  have HN := hid (HST.out _ _ _ HSN.out ho3 (gb_trans (gb_alloc _ _ _) hg3) (hp3.elim Or.inl (fun e => Or.inr ⟨_, e, by simp⟩)))
                  clear ho3 hg3 hp3
                  go_wp2
                  exact ⟨⟨k + 1, m ++ [pc], by omega, by simp, HN.out⟩, by simp [intOf]; omega⟩
                | false =>
                  have HNA := hid (rname_is (mk pc) false (by rw [bl_mk]; exact hn))
                  have HE := hid (HER.out _ (stepP_bad HA.out hB hn))
                  clear hn
                  go_wp2_with (go_at_call 12; refine (HNA.out _).mono ?_; rintro e w' ⟨rfl, hw⟩; subst w')
                  go_ret2
                  exact Or.inr ⟨_, HE.out, rfl, HG.out.bel⟩
          · have q3 : ¬ (k : Int) < (P.length : Int) := by omega
            obtain rfl : k = P.length := by omega
            have HR := hid (show stepsP ts P = .ok m by have := HG.out.st; rw [List.drop_length, stepsP] at this; exact this.symm)
            go_wp2
            go_ret2
            exact Or.inl ⟨m, _, HR.out, rfl, HG.out.own.strs, HG.out.bel⟩
      · have q2 : (0 : Int) < (l.length : Int) := by omega
        have i2 : ¬ (C.toNat : Int) = 47 := fun e => hC (UInt8.toNat_inj.1 (by rw [show (47 : UInt8).toNat = 47 from rfl]; omega))
        have i3 : ((C.toNat : Int) == 47) = false := by simp; omega
        go_wp2_with (at_builtin; refine app_text rfl _ _ rfl w.heap.size _ _ rfl (OwnS.nil _ _) _ _ rfl HS.out ?c1b (Nat.le_refl _) ?_)
        case c1b => first | omega | (simp; omega)
        intro v1 w1 ho1' hg1 hp1
        have ho1 : OwnS w1 w.heap.size v1 ts := ho1'
        clear ho1'
        obtain ⟨a1, c1, rfl⟩ := ho1.strs.shape
        have HO1 := hid ho1
        have HB1 := hid (gb_below hg1 : Below w.heap.size w w1)
        have hs1 := hg1.size
        clear ho1 hg1 hp1 HS
        go_wp2_with fail
        refine (HPJ.out w1).mono ?_
        rintro e w2 ⟨vp, rfl, hp2, hb2⟩
        rcases hp2.forms with ⟨_, e⟩ | ⟨gp, cp, rfl, hgp, hgl, _, _, _, _⟩
        · exact absurd e HNE.out
        have HG0 : Hid (Gst w gp (.slice (some ⟨gp, 0, none⟩) P.length cp) P (stepsP ts P) ts.length 0 (.slice a1 ts.length c1) ts w2) :=
          ⟨HO1.out.below hb2, hp2.le hs1, fun e => by have := (HO1.out.lt _ e).2; omega, by rw [List.drop_zero], by omega, below_tr HB1.out (below_le hb2 hs1)⟩
        clear hp2 hb2 hgl HPJ HO1 HB1
        go_wp2
        go_loopw [6, 8] (fun x i wr => ∃ (k : Nat) (m : List (List UInt8)), k ≤ P.length ∧ i = .int .i64 k ∧ Gst w gp (.slice (some ⟨gp, 0, none⟩) P.length cp) P (stepsP ts P) ts.length k x m wr) (fun _ i _ => P.length - (intOf i).toNat)
        case atStart => exact ⟨0, ts, by omega, rfl, HG0.out⟩
        case round =>
          obtain ⟨k, m, hk, rfl, hst⟩ := hrel
          have HG := hid hst
          have hml := hst.len
          have hbs := hst.bel.size
          obtain ⟨ax, cx, rfl⟩ := hst.own.strs.shape
          clear hst HG0
          by_cases hlt : k < P.length
          · have q3 : (k : Int) < (P.length : Int) := by omega
            obtain ⟨g3, o3, e3, hc⟩ := HG.out.pcs.strs.at k hlt
            injection e3 with e3
            injection e3 with e4 e5
            subst e4 e5
            rw [Nat.zero_add] at hc
            have HST : Hid (∀ (w2 : World) (v2 : Value) (m2 : List (List UInt8)), stepP m (P.getD k []) = .ok m2 → OwnS w2 w.heap.size v2 m2 → wr.grownBy w2 (Value.slice ax m.length cx).ownBlock → (v2.ownBlock = (Value.slice ax m.length cx).ownBlock ∨ ∃ j, v2.ownBlock = some j ∧ wr.heap.size ≤ j) → Gst w gp (.slice (some ⟨gp, 0, none⟩) P.length cp) P (stepsP ts P) ts.length (k + 1) v2 m2 w2) := fun w2 v2 m2 h1 h2 h3 h4 => HG.out.step rfl hlt h1 h2 h3 h4
            have HER := hid (fun e h => HG.out.err (e := e) hlt h)
            obtain ⟨pc, HPK⟩ : ∃ pc, Hid (P.getD k [] = pc) := ⟨_, rfl⟩
            rw [HPK.out] at hc HST HER
            have e0 : (mk pc).toList = pc := bl_mk pc
            by_cases hA : pc = [] ∨ pc = [46]
            · have HN := hid (HST.out _ _ _ (stepP_skip hA) HG.out.own (gb_refl _ _) (Or.inl rfl))
              rcases hA with rfl | rfl
              · go_wp2
                exact ⟨⟨k + 1, m, by omega, by simp, HN.out⟩, by simp [intOf]; omega⟩
              · go_wp2
                exact ⟨⟨k + 1, m, by omega, by simp, HN.out⟩, by simp [intOf]; omega⟩
            · have n1 : pc.isEmpty = false := by
                have : pc ≠ [] := fun e => hA (Or.inl e)
                simpa using this
              have n1' : ¬ pc = [] := fun e => hA (Or.inl e)
              have n2 : (pc == [46]) = false := by
                have : pc ≠ [46] := fun e => hA (Or.inr e)
                simpa using this
              have n2' : ¬ pc = [46] := fun e => hA (Or.inr e)
              have HA := hid hA
              clear hA
              by_cases hB : pc = [46, 46]
              · subst hB
                by_cases hm : m = []
                · subst hm
                  have HE := hid (HER.out _ stepP_out)
                  go_wp2
                  go_ret2
                  exact Or.inr ⟨_, HE.out, rfl, HG.out.bel⟩
                · rcases HG.out.own.forms with ⟨_, e⟩ | ⟨go', cap, hv, _, _, hcap, hmax, _, _⟩
                  · exact absurd e hm
                  · injection hv with e6 e7 e8
                    subst e6 e8
                    have hpos : 0 < m.length := List.length_pos_iff.2 hm
                    have p0 : ¬ (m.length : Int) = 0 := by omega
                    have p0' : ((m.length : Int) == 0) = false := by simp; exact hm
                    have HT := hid (show OwnS wr w.heap.size (.slice (some ⟨go', 0, none⟩) (m.length - 1) cx) m.dropLast by rw [List.dropLast_eq_take]; exact HG.out.own.take _ (by omega))
                    have HN := hid (HST.out _ _ _ (stepP_up hm) HT.out (gb_refl _ _) (Or.inl rfl))
                    obtain ⟨I, HI⟩ : ∃ I : Nat, Hid (I = m.length - 1) := ⟨_, rfl⟩
                    have j1 : IntKind.i64.wrap ((m.length : Int) - 1) = (I : Int) := by rw [IntKind.wrap_i64, HI.out]; omega
                    rw [← HI.out] at HT HN
                    have hsl := sl_to ⟨go', 0, none⟩ m.length cx I (by rw [HI.out]; omega)
                    go_wp2
                    exact ⟨⟨k + 1, m.dropLast, by omega, by simp, HN.out⟩, by simp [intOf]; omega⟩
              · have n3 : (pc == [46, 46]) = false := by simpa using hB
                have n3' : ¬ pc = [46, 46] := hB
                cases hn : nmP pc with
                | true =>
                  have HNA := hid (rname_is (mk pc) true (by rw [bl_mk]; exact hn))
                  have HSN := hid (stepP_name (l := m) hn)
                  clear hn
                  go_wp2_with (first | (go_at_call 12; refine (HNA.out _).mono ?_; rintro e w' ⟨rfl, hw⟩; subst w') | (at_builtin; refine app_text rfl _ _ rfl w.heap.size _ _ rfl (HG.out.own.alloc _) _ _ rfl (strs_one _ (mk pc)) ?d1b ?d2b ?_))
                  case d1b => simp; omega
                  case d2b => simp; omega
                  intro v3 w3 ho3 hg3 hp3
                  rw [bl_mk] at ho3
                  obtain ⟨a3, c3, rfl⟩ := ho3.strs.shape
                  have HN := hid (HST.out _ _ _ HSN.out ho3 (gb_trans (gb_alloc _ _ _) hg3) (hp3.elim Or.inl (fun e => Or.inr ⟨_, e, by simp⟩)))
                  clear ho3 hg3 hp3
                  go_wp2
                  exact ⟨⟨k + 1, m ++ [pc], by omega, by simp, HN.out⟩, by simp [intOf]; omega⟩
                | false =>
                  have HNA := hid (rname_is (mk pc) false (by rw [bl_mk]; exact hn))
                  have HE := hid (HER.out _ (stepP_bad HA.out hB hn))
                  clear hn
                  go_wp2_with (go_at_call 12; refine (HNA.out _).mono ?_; rintro e w' ⟨rfl, hw⟩; subst w')
                  go_ret2
                  exact Or.inr ⟨_, HE.out, rfl, HG.out.bel⟩
          · have q3 : ¬ (k : Int) < (P.length : Int) := by omega
            obtain rfl : k = P.length := by omega
            have HR := hid (show stepsP ts P = .ok m by have := HG.out.st; rw [List.drop_length, stepsP] at this; exact this.symm)
            go_wp2
            go_ret2
            exact Or.inl ⟨m, _, HR.out, rfl, HG.out.own.strs, HG.out.bel⟩

end Go.Proofs.YtoehopigjmmagaaDoor
