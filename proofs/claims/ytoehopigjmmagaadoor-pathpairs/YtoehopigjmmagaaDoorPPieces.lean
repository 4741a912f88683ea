/- The document's Pieces and Names. -/
import Derived.Test.YtoehopigjmmagaaDoorPRef2
namespace Go.Proofs.YtoehopigjmmagaaDoor
open Go.RowKit

/-- how Pieces stands: up to k looked at, from f on not yet laid -/
def Pst (l : List UInt8) (k f : Nat) (ts : List (List UInt8)) : Prop :=
  (k ≤ l.length ∧ f ≤ k ∧ (47 : UInt8) ∉ (l.take k).drop f ∧ ts ++ pcs (l.drop f) = pcs l ∧ ts.length ≤ k) ∨ (k = l.length + 1 ∧ f = k ∧ ts = pcs l)

theorem pst_next {l : List UInt8} {k f : Nat} {ts : List (List UInt8)} (h : Pst l k f ts) (hk : k < l.length) (hc : l.getD k 0 ≠ 47) : Pst l (k + 1) f ts := by
  rcases h with ⟨h1, h2, h3, h4, h5⟩ | ⟨h1, _⟩
  · refine Or.inl ⟨by omega, by omega, ?_, h4, by omega⟩
    rw [List.take_succ_eq_append_getElem hk, List.drop_append_of_le_length (by simp; omega)]
    simp only [List.mem_append, List.mem_singleton, not_or]
    refine ⟨h3, fun e => hc ?_⟩
    simp [List.getD_eq_getElem?_getD, hk, ← e]
  · omega
theorem drop_parts {l : List UInt8} {k f : Nat} (hf : f ≤ k) (hk : k < l.length) : l.drop f = (l.take k).drop f ++ l.getD k 0 :: l.drop (k + 1) := by
  have e : l.getD k 0 :: l.drop (k + 1) = l.drop k := by
    rw [List.drop_eq_getElem_cons hk]
    simp [List.getD_eq_getElem?_getD, hk]
  rw [e]
  conv => lhs; rw [← List.take_append_drop k l]
  rw [List.drop_append_of_le_length (by simp; omega)]
theorem pst_slash {l : List UInt8} {k f : Nat} {ts : List (List UInt8)} (h : Pst l k f ts) (hk : k < l.length) (hc : l.getD k 0 = 47) : Pst l (k + 1) (k + 1) (ts ++ [(l.take k).drop f]) := by
  rcases h with ⟨h1, h2, h3, h4, h5⟩ | ⟨h1, _⟩
  · refine Or.inl ⟨by omega, by omega, by simp, ?_, by simp; omega⟩
    rw [← h4, drop_parts h2 hk, hc, pcs_append, pcs_whole h3, List.append_assoc]
  · omega
theorem pst_end {l : List UInt8} {f : Nat} {ts : List (List UInt8)} (h : Pst l l.length f ts) : Pst l (l.length + 1) (l.length + 1) (ts ++ [(l.take l.length).drop f]) := by
  rcases h with ⟨h1, h2, h3, h4, h5⟩ | ⟨h1, _⟩
  · refine Or.inr ⟨rfl, rfl, ?_⟩
    rw [List.take_length] at h3 ⊢
    rw [← h4, pcs_whole h3]
  · omega
theorem pst_le {l : List UInt8} {k f : Nat} {ts : List (List UInt8)} (h : Pst l k f ts) : ts.length ≤ l.length + 1 ∧ f ≤ k ∧ k ≤ l.length + 1 := by
  rcases h with ⟨h1, h2, h3, h4, h5⟩ | ⟨h1, h2, h3⟩
  · omega
  · rw [h3]; have := pcs_len l; omega

set_option maxRecDepth 100000 in
set_option maxHeartbeats 1000000 in
theorem rpieces_any (s : ByteArray) (w : World) (hs : (bl s).length ≤ 1099511627776) :
    Calls Tryd.prog 37 #[.string s] w fun e w' => ∃ v, e = .returned v ∧ OwnS w' w.heap.size v (pcs (bl s)) ∧ Below w.heap.size w w' := by
  have HAT := hid (bl_at s)
  have HEX := hid (ext_bl s)
  have hsz := bl_size s
  obtain ⟨l, hl⟩ : ∃ l, bl s = l := ⟨_, rfl⟩
  rw [hl] at hsz HAT HEX hs ⊢
  clear hl
  go_enter Tryd.func37, Tryd.ntmps37
  go_wp2
  go_loopw [3, 4, 5] (fun x f i wr => ∃ (k F : Nat) (ts : List (List UInt8)), k ≤ l.length + 1 ∧ i = .int .i64 k ∧ f = .int .i64 F ∧ OwnS wr w.heap.size x ts ∧ Pst l k F ts ∧ Below w.heap.size w wr) (fun _ _ i _ => l.length + 1 - (intOf i).toNat)
  case atStart => exact ⟨0, 0, [], by omega, rfl, rfl, OwnS.nil _ _, Or.inl ⟨by omega, by omega, by simp, by simp, by simp⟩, Below.refl _ _⟩
  case round =>
    obtain ⟨k, F, ts, hk, rfl, rfl, ho, hp, hb⟩ := hrel
    have HO := hid ho
    have HP := hid hp
    have HB := hid hb
    obtain ⟨hts, hF, _⟩ := pst_le hp
    have hbs := hb.size
    obtain ⟨ax, cx, rfl⟩ := ho.strs.shape
    clear ho hp hb
    by_cases hlt : k ≤ l.length
    · have q1 : (k : Int) ≤ (l.length : Int) := by omega
      have HSL := hid (HEX.out F k)
      by_cases he : k = l.length
      · subst he
        have c2 : (F : Int) ≤ (l.length : Int) := by omega
        have c1 : (0 : Int) ≤ (F : Int) := by omega
        go_wp2_with (at_builtin; refine app_text rfl _ _ rfl w.heap.size _ _ rfl (HO.out.alloc _) _ _ rfl (strs_one _ _) ?c1 ?c2 ?_)
        case c1 => simp; omega
        case c2 => simp; omega
        intro v3 w3 ho3 hg3 hp3
        rw [HSL.out, bl_mk] at ho3
        obtain ⟨ao3, c3, rfl⟩ := ho3.strs.shape
        have HO3 := hid ho3
        have HB3 := hid (below_tr HB.out (below_tr (below_le (below_walk wr _) hbs) (own_below (HO.out.alloc _) (by simp; omega) hg3)))
        clear ho3 hg3 hp3
        go_wp2
        refine ⟨⟨l.length + 1, l.length + 1, ts ++ [(l.take l.length).drop F], by omega, by simp, by simp, ?_, pst_end HP.out, HB3.out⟩, by simp [intOf]⟩
        exact HO3.out
      · have hk2 : k < l.length := by omega
        have q2 : ((k : Int) == (l.length : Int)) = false := by simp; omega
        have q2' : ¬ (k : Int) = (l.length : Int) := by omega
        have i1 := HAT.out k hk2
        obtain ⟨C, HC⟩ : ∃ C : UInt8, Hid (l.getD k 0 = C) := ⟨_, rfl⟩
        rw [HC.out] at i1
        by_cases h47 : C = 47
        · subst h47
          have i2 : ((47 : UInt8).toNat : Int) = 47 := rfl
          rw [i2] at i1
          have c2 : (F : Int) ≤ (k : Int) := by omega
          have c1 : (0 : Int) ≤ (F : Int) := by omega
          have c3 : (k : Int) ≤ (l.length : Int) := by omega
          go_wp2_with (at_builtin; refine app_text rfl _ _ rfl w.heap.size _ _ rfl (HO.out.alloc _) _ _ rfl (strs_one _ _) ?d1 ?d2 ?_)
          case d1 => simp; omega
          case d2 => simp; omega
          intro v3 w3 ho3 hg3 hp3
          rw [HSL.out, bl_mk] at ho3
          obtain ⟨ao3, c3', rfl⟩ := ho3.strs.shape
          have HO3 := hid ho3
          have HB3 := hid (below_tr HB.out (below_tr (below_le (below_walk wr _) hbs) (own_below (HO.out.alloc _) (by simp; omega) hg3)))
          clear ho3 hg3 hp3
          go_wp2
          refine ⟨⟨k + 1, k + 1, ts ++ [(l.take k).drop F], by omega, by simp, by simp, ?_, pst_slash HP.out hk2 HC.out, HB3.out⟩, by simp [intOf]; omega⟩
          exact HO3.out
        · have i2 : ¬ (C.toNat : Int) = 47 := fun e => h47 (UInt8.toNat_inj.1 (by rw [show (47 : UInt8).toNat = 47 from rfl]; omega))
          have i3 : ((C.toNat : Int) == 47) = false := by simp; omega
          have HN := hid (pst_next HP.out hk2 (by rw [HC.out]; exact h47))
          clear h47
          go_wp2
          exact ⟨⟨k + 1, F, ts, by omega, by simp, rfl, HO.out, HN.out, HB.out⟩, by simp [intOf]; omega⟩
    · have q1 : ¬ (k : Int) ≤ (l.length : Int) := by omega
      have HR := hid (show ts = pcs l by rcases HP.out with ⟨h1, _⟩ | ⟨_, _, h⟩; omega; exact h)
      go_wp2
      go_ret
      exact ⟨_, rfl, by rw [← HR.out]; exact HO.out, HB.out⟩

/-- some of them is no name, or there are too many -/
theorem okP_no {l : List UInt8} {k : Nat} (h0 : l ≠ []) (hk : k < (pcs l).length) (hn : nmP ((pcs l).getD k []) = false) : okP l = false := by
  rw [okP_pcs h0]
  have : (pcs l).all nmP = false := by
    rw [Bool.eq_false_iff]
    intro e
    have := List.all_eq_true.1 e ((pcs l)[k]) (List.getElem_mem hk)
    simp [List.getD_eq_getElem?_getD, hk] at hn
    rw [hn] at this
    cases this
  rw [this]; rfl
/-- how far they are names -/
def nmTo (ts : List (List UInt8)) (k : Nat) : Prop := ∀ j, j < k → nmP (ts.getD j []) = true
theorem nmTo_all {ts : List (List UInt8)} (h : nmTo ts ts.length) : ∀ p ∈ ts, nmP p = true := by
  intro p hp
  obtain ⟨j, hj, rfl⟩ := List.mem_iff_getElem.1 hp
  have := h j hj
  simpa [List.getD_eq_getElem?_getD, hj] using this
theorem nmTo_next {ts : List (List UInt8)} {k : Nat} (h : nmTo ts k) (hn : nmP (ts.getD k []) = true) : nmTo ts (k + 1) := by
  intro j hj
  by_cases hjk : j = k
  · subst hjk; exact hn
  · exact h j (by omega)
theorem rname_is (s : ByteArray) (b : Bool) (h : nmP (bl s) = b) (w : World) :
    Calls Tryd.prog 12 #[.string s] w fun e w' => e = .returned (.bool b) ∧ w' = w := h ▸ rname_any s w

/-- what the document's Names says -/
def RNames (l : List UInt8) (w : World) (e : Ending) (w' : World) : Prop :=
  (okP l = true ∧ (∃ v, e = .returned (.tuple #[v, .bool true]) ∧ OwnS w' w.heap.size v (nms l)) ∨ okP l = false ∧ e = .returned (.tuple #[.slice none 0 0, .bool false])) ∧ Below w.heap.size w w'

set_option maxRecDepth 100000 in
set_option maxHeartbeats 1000000 in
theorem rnames_any (s : ByteArray) (w : World) (hs : (bl s).length ≤ 1099511627776) :
    Calls Tryd.prog 10 #[.string s] w fun e w' => RNames (bl s) w e w' := by
  by_cases h0 : bl s = []
  · have hl' : s.toList = [] := h0
    have HN : Hid (RNames (bl s) w (.returned (.tuple #[.slice none 0 0, .bool true])) w) := by
      rw [h0]; exact ⟨Or.inl ⟨rfl, _, rfl, OwnS.nil _ _⟩, Below.refl _ _⟩
    clear h0 hs
    go_enter Tryd.func10, Tryd.ntmps10
    go_wp2
    go_ret2
    exact HN.out
  · have hl' : s.toList.isEmpty = false := by simp; exact h0
    have HN := hid (show nms (bl s) = pcs (bl s) by unfold nms; rw [if_neg h0])
    have HPI := hid (rpieces_any s w hs)
    have hpl := pcs_len (bl s)
    have H0 := hid h0
    generalize bl s = l at *
    clear h0
    go_enter Tryd.func10, Tryd.ntmps10
    go_wp2_with fail
    refine HPI.out.mono ?_
    rintro e w1 ⟨v, rfl, ho, hb⟩
    obtain ⟨ax, cx, rfl⟩ := ho.strs.shape
    have HO := hid ho
    have HB := hid hb
    clear ho hb HPI
    go_wp2
    go_loop [5] (fun i => ∃ k : Nat, k ≤ (pcs l).length ∧ i = .int .i64 k ∧ nmTo (pcs l) k) (fun i => (pcs l).length - (intOf i).toNat)
    case atStart => exact ⟨0, by omega, rfl, fun j hj => by omega⟩
    case round =>
      obtain ⟨k, hk, rfl, hto⟩ := hrel
      have HTO := hid hto
      clear hto
      by_cases hlt : k < (pcs l).length
      · have q1 : (k : Int) < ((pcs l).length : Int) := by omega
        obtain ⟨g, o, rfl, hc⟩ := HO.out.strs.at k hlt
        cases hnm : nmP ((pcs l).getD k []) with
        | true =>
          have HNA := hid (rname_is (mk ((pcs l).getD k [])) true (by rw [bl_mk]; exact hnm))
          have HX := hid (nmTo_next HTO.out hnm)
          clear hnm
          generalize mk ((pcs l).getD k []) = x at *
          go_wp2_with (go_at_call 12; refine (HNA.out _).mono ?_; rintro e w' ⟨rfl, hw⟩; subst w')
          exact ⟨⟨k + 1, by omega, by simp, HX.out⟩, by simp [intOf]; omega⟩
        | false =>
          have HNA := hid (rname_is (mk ((pcs l).getD k [])) false (by rw [bl_mk]; exact hnm))
          have HX := hid (okP_no H0.out hlt hnm)
          clear hnm
          generalize mk ((pcs l).getD k []) = x at *
          go_wp2_with (go_at_call 12; refine (HNA.out _).mono ?_; rintro e w' ⟨rfl, hw⟩; subst w')
          go_ret2
          exact ⟨Or.inr ⟨HX.out, rfl⟩, HB.out⟩
      · have q1 : ¬ (k : Int) < ((pcs l).length : Int) := by omega
        obtain rfl : k = (pcs l).length := by omega
        have HA := hid (List.all_eq_true.2 (nmTo_all HTO.out))
        by_cases h32 : 32 < (pcs l).length
        · have q2 : (32 : Int) < ((pcs l).length : Int) := by omega
          have HE := hid (show okP l = false by rw [okP_pcs H0.out, HA.out, decide_eq_false (by omega)]; rfl)
          clear h32
          go_wp2
          go_ret2
          exact ⟨Or.inr ⟨HE.out, rfl⟩, HB.out⟩
        · have q2 : ¬ (32 : Int) < ((pcs l).length : Int) := by omega
          have HE := hid (show okP l = true by rw [okP_pcs H0.out, HA.out, decide_eq_true (by omega)]; rfl)
          clear h32
          go_wp2
          go_ret2
          exact ⟨Or.inl ⟨HE.out, _, rfl, by rw [HN.out]; exact HO.out⟩, HB.out⟩

end Go.Proofs.YtoehopigjmmagaaDoor
