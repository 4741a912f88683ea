/- Contracts and pure facts that the proof needs, joined. -/
import Derived.Test.YtiibhccbbpgehabGreatG4
import Derived.Test.YtiibhccbbpgehabGreatG3
import Derived.Test.YtiibhccbbpgehabGreatG1
import Derived.Great.BuildSlice
import Derived.Great.FillDense
import Derived.Test.YtiibhccbbpgehabGreatG2

/- What is read is in its one form, plainly. -/
namespace Go.Proofs.YtiibhccbbpgehabGreat
open Go.RowKit

theorem split_drop (bs : List UInt8) (a k : Nat) : bs.drop a = (bs.drop a).take k ++ bs.drop (a + k) := by
  rw [← List.drop_drop]
  exact (List.take_append_drop k (bs.drop a)).symm
theorem u_form (bs : List UInt8) (s : St) (h : (uS bs s).2.2.1 = 0) : s.2.1 = 0 ∧ bs.drop s.1 = sn (uS bs s).1 ++ bs.drop (uS bs s).2.1 ∧ (uS bs s).1 < 18446744073709551616 := by
  by_cases h0 : s.2.1 = 0
  · obtain ⟨E, n, k, hd⟩ : ∃ E n k, dec (bs.drop s.1) 0 0 = (E, n, k) := ⟨_, _, _, rfl⟩
    have e : uS bs s = (n, s.1 + k, (E : Int), watOf E s.1 s.2.2) := by unfold uS uintF; rw [if_neg (fun h9 => h9 h0), hd]
    rw [e] at h ⊢
    have hE : E = 0 := by have : (E : Int) = 0 := h; omega
    subst hE
    obtain ⟨_, _, h3, h4⟩ := dec_ok hd
    refine ⟨h0, ?_, h3⟩
    show bs.drop s.1 = sn n ++ bs.drop (s.1 + k)
    rw [← h4]
    exact split_drop bs s.1 k
  · rw [over_u bs s h0] at h
    exact absurd h h0
theorem c_form (bs : List UInt8) (m : Int) (s : St) (hm : 0 ≤ m) (h : (cS bs m s).2.2.1 = 0) : s.2.1 = 0 ∧ bs.drop s.1 = sn (cS bs m s).1 ++ bs.drop (cS bs m s).2.1 := by
  by_cases h0 : s.2.1 = 0
  · obtain ⟨E, n, k, hd⟩ : ∃ E n k, upTo (bs.drop s.1) m.toNat 11 = (E, n, k) := ⟨_, _, _, rfl⟩
    have e : cS bs m s = (n, s.1 + k, (E : Int), watOf E s.1 s.2.2) := by unfold cS countF; rw [if_neg (fun h9 => h9 h0), if_neg (by omega), hd]
    rw [e] at h ⊢
    have hE : E = 0 := by have : (E : Int) = 0 := h; omega
    subst hE
    obtain ⟨_, _, h3, h4⟩ := dec_ok (upTo_ok (by decide) hd).1
    refine ⟨h0, ?_⟩
    show bs.drop s.1 = sn n ++ bs.drop (s.1 + k)
    rw [← h4]
    exact split_drop bs s.1 k
  · rw [over_c bs m s h0] at h
    exact absurd h h0
theorem o_form (bs : List UInt8) (m : Int) (s : St) (hm : 0 ≤ m) (h : (oS bs m s).2.2.1 = 0) : s.2.1 = 0 ∧ bs.drop s.1 = sn (oS bs m s).1 ++ bs.drop (oS bs m s).2.1 ∧ 1 ≤ (oS bs m s).1 := by
  have h1 : (oS bs m s).1 ≠ 0 := fun h2 => oS_zero bs m s h2 h
  have e : oS bs m s = cS bs m s := by
    unfold oS at h1 ⊢
    split
    · rename_i h2
      rw [if_pos h2] at h1
      exact absurd rfl h1
    · rfl
  rw [e] at h h1 ⊢
  obtain ⟨a, b⟩ := c_form bs m s hm h
  exact ⟨a, b, by omega⟩
theorem t_form (bs : List UInt8) (m : Int) (s : St) (hm : 0 ≤ m) (h : (tS bs m s).2.2.1 = 0) : s.2.1 = 0 ∧ bs.drop s.1 = tx (mk (tS bs m s).1) ++ bs.drop (tS bs m s).2.1 := by
  by_cases h0 : s.2.1 = 0
  · obtain ⟨E, n, k, hd⟩ : ∃ E n k, wtxt (bs.drop s.1) m.toNat = (E, n, k) := ⟨_, _, _, rfl⟩
    have e : tS bs m s = (n, s.1 + k, (E : Int), watOf E s.1 s.2.2) := by unfold tS textF; rw [if_neg (fun h9 => h9 h0), if_neg (by omega), hd]
    rw [e] at h ⊢
    have hE : E = 0 := by have : (E : Int) = 0 := h; omega
    subst hE
    obtain ⟨h1, _⟩ := txt_ok hd
    refine ⟨h0, ?_⟩
    show bs.drop s.1 = tx (mk n) ++ bs.drop (s.1 + k)
    rw [tx_mk, ← h1]
    exact split_drop bs s.1 k
  · rw [over_t bs m s h0] at h
    exact absurd h h0
theorem l_form (bs : List UInt8) (m n : Int) (s : St) (hm : 0 ≤ m) (hn : 0 ≤ n) (h : (lS bs m n s).2.2.1 = 0) : s.2.1 = 0 ∧ bs.drop s.1 = ls ((lS bs m n s).1.map mk) ++ bs.drop (lS bs m n s).2.1 := by
  by_cases h0 : s.2.1 = 0
  · obtain ⟨E, ts, k, hd⟩ : ∃ E n9 k, lst (bs.drop s.1) m.toNat n.toNat = (E, n9, k) := ⟨_, _, _, rfl⟩
    by_cases hE : E = 0
    · subst hE
      have e1 : (lS bs m n s).1 = ts ∧ (lS bs m n s).2.1 = s.1 + k := by
        unfold lS listF
        rw [if_neg (fun h9 => h9 h0), if_neg (by omega), hd, if_neg (fun h9 => h9 rfl)]
        exact ⟨rfl, rfl⟩
      rw [e1.1, e1.2]
      obtain ⟨h1, _⟩ := lst_ok hd
      refine ⟨h0, ?_⟩
      rw [← h1]
      exact split_drop bs s.1 k
    · exfalso
      unfold lS listF at h
      rw [if_neg (fun h9 => h9 h0), if_neg (by omega), hd, if_pos hE] at h
      have : (E : Int) = 0 := h
      omega
  · rw [over_l bs m n s h0] at h
    exact absurd h h0
theorem r_form (bs : List UInt8) (s : St) (h : (rS bs 32 s).2.2.1 = 0) : s.2.1 = 0 ∧ bs.drop s.1 = (rS bs 32 s).1 ++ bs.drop (rS bs 32 s).2.1 ∧ (rS bs 32 s).1.length = 32 := by
  by_cases h0 : s.2.1 = 0
  · by_cases hl : bs.length - s.1 < 32
    · exfalso
      unfold rS rawF at h
      rw [if_neg (fun h9 => h9 h0), if_neg (by omega), if_pos (show bs.length - s.1 < (32 : Int).toNat from hl)] at h
      exact absurd h (by show ¬ (4 : Int) = 0; decide)
    · have e : rS bs 32 s = ((bs.drop s.1).take 32, s.1 + 32, 0, s.2.2) := by unfold rS rawF; rw [if_neg (fun h9 => h9 h0), if_neg (by omega), if_neg (show ¬ bs.length - s.1 < (32 : Int).toNat from hl)]; rfl
      rw [e]
      refine ⟨h0, split_drop bs s.1 32, ?_⟩
      rw [List.length_take, List.length_drop]
      omega
  · rw [over_r bs 32 s h0] at h
    exact absurd h h0
theorem e_form (bs : List UInt8) (s : St) (h : (eS bs s).1 = 0) : s.2.1 = 0 ∧ bs.drop s.1 = [] := by
  unfold eS at h
  by_cases h0 : s.2.1 = 0
  · rw [if_neg (fun h9 => h9 h0)] at h
    by_cases h1 : s.1 < bs.length
    · rw [if_pos h1] at h
      exact absurd h (by show ¬ (6 : Int) = 0; decide)
    · exact ⟨h0, List.drop_eq_nil_iff.2 (by omega)⟩
  · rw [if_pos h0] at h
    exact absurd h h0
theorem cast_nat (n : Nat) : ((n : Int)).toNat = n := by omega

/-- fields that were read stand there in their one form -/
theorem form_fields (bs : List UInt8) (K : Nat) (s : St) (hK : 1 ≤ K ∧ K ≤ 6) (he : (eS bs (fieldsP bs (K : Int) s).2).1 = 0) : s.2.1 = 0 ∧ bs.drop s.1 = layP (fieldsP bs (K : Int) s).1 := by
  obtain ⟨e1, e2⟩ := e_form bs _ he
  have hc : K = 1 ∨ K = 2 ∨ K = 3 ∨ K = 4 ∨ K = 5 ∨ K = 6 := by omega
  rcases hc with rfl | rfl | rfl | rfl | rfl | rfl
  · rw [show ((1 : Nat) : Int) = 1 from rfl, fieldsP_1] at e1 e2 ⊢
    obtain ⟨a1, a2, a3⟩ := r_form bs _ e1
    obtain ⟨b1, b2, _⟩ := o_form bs 64 _ (by omega) a1
    obtain ⟨c1, c2, _⟩ := o_form bs 1 _ (by omega) b1
    refine ⟨c1, ?_⟩
    rw [lay_1 _ rfl, sns_two]
    show bs.drop s.1 = sn ((((oS bs 1 s).1 : Nat) : Int)).toNat ++ sn ((((oS bs 64 (oS bs 1 s).2).1 : Nat) : Int)).toNat ++ pad32 (rS bs 32 (oS bs 64 (oS bs 1 s).2).2).1
    rw [cast_nat, cast_nat, c2, b2, a2, e2, List.append_nil]
    unfold pad32
    rw [if_pos a3, List.append_assoc]
  · rw [show ((2 : Nat) : Int) = 2 from rfl, fieldsP_2] at e1 e2 ⊢
    obtain ⟨a1, a2⟩ := t_form bs 2097152 _ (by omega) e1
    obtain ⟨b1, b2⟩ := l_form bs 8 4096 _ (by omega) (by omega) a1
    obtain ⟨c1, c2⟩ := c_form bs 2147483648 _ (by omega) b1
    obtain ⟨d1, d2⟩ := c_form bs 2147483648 _ (by omega) c1
    obtain ⟨f1, f2⟩ := c_form bs 2147483648 _ (by omega) d1
    obtain ⟨g1, g2, _⟩ := u_form bs _ f1
    refine ⟨g1, ?_⟩
    rw [lay_2 _ rfl]
    unfold layReqP
    rw [sns_thr]
    simp only [reqF, cast_nat]
    rw [g2, f2, d2, c2, b2, a2, e2, List.append_nil]
    simp only [List.append_assoc]
  · rw [show ((3 : Nat) : Int) = 3 from rfl, fieldsP_3] at e1 e2 ⊢
    obtain ⟨a1, a2⟩ := t_form bs 2097152 _ (by omega) e1
    obtain ⟨b1, b2, _⟩ := o_form bs 3 _ (by omega) a1
    obtain ⟨g1, g2, _⟩ := u_form bs _ b1
    refine ⟨g1, ?_⟩
    rw [lay_3 _ rfl, sns_one]
    simp only [resF, cast_nat]
    rw [g2, b2, a2, e2, List.append_nil]
  · rw [show ((4 : Nat) : Int) = 4 from rfl, fieldsP_4] at e1 e2 ⊢
    obtain ⟨g1, g2, _⟩ := u_form bs _ e1
    refine ⟨g1, ?_⟩
    rw [lay_4 _ rfl]
    simp only [canF, cast_nat]
    rw [g2, e2, List.append_nil]
  · rw [show ((5 : Nat) : Int) = 5 from rfl, fieldsP_5] at e1 e2 ⊢
    exact ⟨e1, by rw [lay_5 _ rfl]; exact e2⟩
  · rw [show ((6 : Nat) : Int) = 6 from rfl, fieldsP_6] at e1 e2 ⊢
    obtain ⟨a1, a2⟩ := t_form bs 2097152 _ (by omega) e1
    refine ⟨a1, ?_⟩
    rw [lay_6 _ rfl]
    simp only [noteF]
    rw [a2, e2, List.append_nil]
theorem fields_own (bs : List UInt8) (K : Nat) (s : St) (hK : 1 ≤ K ∧ K ≤ 6) : sameP (fieldsP bs (K : Int) s).1 (ownF (fieldsP bs (K : Int) s).1) = true := by
  have hc : K = 1 ∨ K = 2 ∨ K = 3 ∨ K = 4 ∨ K = 5 ∨ K = 6 := by omega
  have key : ∀ f : Fr, ownF f = f → sameP f (ownF f) = true := fun f h => by rw [h]; exact sameP_self f
  apply key
  rcases hc with rfl | rfl | rfl | rfl | rfl | rfl
  · rw [show ((1 : Nat) : Int) = 1 from rfl, fieldsP_1, own_1 _ rfl]
  · rw [show ((2 : Nat) : Int) = 2 from rfl, fieldsP_2, own_2 _ rfl]; rfl
  · rw [show ((3 : Nat) : Int) = 3 from rfl, fieldsP_3, own_3 _ rfl]; rfl
  · rw [show ((4 : Nat) : Int) = 4 from rfl, fieldsP_4, own_4 _ rfl]; rfl
  · rw [show ((5 : Nat) : Int) = 5 from rfl, fieldsP_5, own_5 _ rfl]
  · rw [show ((6 : Nat) : Int) = 6 from rfl, fieldsP_6, own_6 _ rfl]; rfl
/-- bytes whose fields are taken are the frame's body -/
theorem frame_form (bs : List UInt8) (head : Nat) (h : (frameP bs head).2.1 = 0) : okFr (frameP bs head).1 = true ∧ bs.drop head = bodyP (frameP bs head).1 ∧ (frameP bs head).2 = (0, 0) := by
  have hle := oS_le bs 6 (head, 0, 0) (by omega)
  by_cases h0 : (oS bs 6 (head, 0, 0)).1 = 0
  · rw [frameP_zero bs head h0] at h
    have h1 := oS_zero bs 6 _ h0
    have h2 := (e_form bs _ h).1
    exact absurd h2 h1
  · obtain ⟨K, hK⟩ : ∃ K, (oS bs 6 (head, 0, 0)).1 = K := ⟨_, rfl⟩
    rw [hK] at h0 hle
    have hK6 : 1 ≤ K ∧ K ≤ 6 := by omega
    by_cases he : (eS bs (fieldsP bs (K : Int) (oS bs 6 (head, 0, 0)).2).2).1 = 0
    · cases hm : mayF (fieldsP bs (K : Int) (oS bs 6 (head, 0, 0)).2).1 with
      | true =>
        rw [frameP_ok bs head K hK h0 he hm]
        obtain ⟨f1, f2⟩ := form_fields bs K _ hK6 he
        obtain ⟨_, g2, _⟩ := o_form bs 6 (head, 0, 0) (by omega) f1
        refine ⟨?_, ?_, rfl⟩
        · unfold okFr
          rw [fields_own bs K _ hK6, hm, fieldsP_kind bs K _ (by omega), decide_eq_true (by omega)]
          rfl
        · unfold bodyP
          rw [fieldsP_kind bs K _ (by omega), cast_nat]
          show bs.drop head = _
          have g3 : bs.drop head = sn (oS bs 6 (head, 0, 0)).1 ++ bs.drop (oS bs 6 (head, 0, 0)).2.1 := g2
          rw [g3, hK, f2]
      | false =>
        rw [frameP_may bs head K hK h0 he hm] at h
        exact absurd h (by show ¬ (70 : Int) = 0; decide)
    · rw [frameP_bad bs head K hK h0 he] at h
      exact absurd h he
/-- bytes that are taken are the one form of their frame -/
theorem dec_form (b : List UInt8) (h : (decP b).2.1 = 0) : chkE (decP b).1 = 0 ∧ encP (decP b).1 = b ∧ (decP b).2 = (0, 0) := by
  rw [decP_uns] at h ⊢
  by_cases h0 : (unsE b).1 = 0
  · rw [if_neg (fun h9 => h9 h0)] at h ⊢
    obtain ⟨u1, u2, u3, u4, u5⟩ := uns_ok h0
    obtain ⟨NB, hd, hN1, hN2, hNn⟩ := need_ok u1 u2
    obtain ⟨f1, f2, f3⟩ := frame_form _ _ h
    obtain ⟨hk0, hk1, hk2, hk3⟩ := dec_ok hd
    have e : b.take (b.length - 4) = sn NB ++ (b.drop (needP b).2.1).take NB := by
      rw [← hk3, show b.length - 4 = (needP b).2.1 + NB by omega, List.take_add]
    have hl := dec_ok_len hd
    have e2 : (b.take (b.length - 4)).drop (needP b).2.1 = (b.drop (needP b).2.1).take NB := by
      rw [e]
      exact List.drop_left' hl.symm
    rw [e2] at f2
    have e3 : (bodyP (frameP (b.take (b.length - 4)) (needP b).2.1).1).length = NB := by
      rw [← f2, List.length_take, List.length_drop]
      omega
    refine ⟨?_, ?_, f3⟩
    · unfold chkE
      rw [if_pos f1, e3, if_neg (by omega)]
    · unfold encP
      rw [e3, ← f2, ← e]
      unfold sealP
      unfold cokP at u4
      have h9 := of_decide_eq_true u4
      rw [← h9]
      exact List.take_append_drop _ b
  · rw [if_pos h0] at h
    exact absurd h h0
/-- what is refused tells no frame -/
theorem dec_none (b : List UInt8) (h : (decP b).2.1 ≠ 0) : (decP b).1 = zF := by
  rw [decP_uns] at h ⊢
  by_cases h0 : (unsE b).1 = 0
  · rw [if_neg (fun h9 => h9 h0)] at h ⊢
    unfold frameP at h ⊢
    repeat' split
    all_goals first | rfl | skip
    rename_i g1 g2 g3
    rw [if_neg g1, if_neg g2, if_pos g3] at h
    exact absurd rfl h
  · rw [if_pos h0]
/-- a frame that is told is within its types -/
theorem uS_lt (bs : List UInt8) (s : St) : (uS bs s).1 < 18446744073709551616 := uintF_lt bs s.1 s.2.1 s.2.2
theorem fields_rng (bs : List UInt8) (K : Nat) (s : St) (hK : 1 ≤ K ∧ K ≤ 6) (hl : bs.length ≤ 140737488355327) (hm : (fieldsP bs (K : Int) s).1.args.length ≤ 9223372036854775807) : Rng (fieldsP bs (K : Int) s).1 := by
  have hc : K = 1 ∨ K = 2 ∨ K = 3 ∨ K = 4 ∨ K = 5 ∨ K = 6 := by omega
  have tl := fieldsP_tool bs (K : Int) s
  have u1 := uS_lt bs s
  have tb : ∀ s' : St, (tS bs 2097152 s').1.length ≤ bs.length := fun s' => textF_len bs s'.1 s'.2.1 s'.2.2 2097152
  rcases hc with rfl | rfl | rfl | rfl | rfl | rfl
  · rw [show ((1 : Nat) : Int) = 1 from rfl, fieldsP_1] at tl hm ⊢
    have a := oS_le bs 1 s (by omega)
    have b := oS_le bs 64 (oS bs 1 s).2 (by omega)
    exact ⟨tl, by simp, by simp, by show ((oS bs 1 s).1 : Int) ≤ _; omega, by show ((oS bs 64 (oS bs 1 s).2).1 : Int) ≤ _; omega, by simp, by simp, by simp, by simp, by simp, hm⟩
  · rw [show ((2 : Nat) : Int) = 2 from rfl, fieldsP_2] at tl hm ⊢
    have a := cS_le bs 2147483648 (uS bs s).2 (by omega)
    have b := cS_le bs 2147483648 (cS bs 2147483648 (uS bs s).2).2 (by omega)
    have c := cS_le bs 2147483648 (cS bs 2147483648 (cS bs 2147483648 (uS bs s).2).2).2 (by omega)
    exact ⟨tl, by simp [reqF], by show ((uS bs s).1 : Int) ≤ _; omega, by simp [reqF], by simp [reqF], by simp [reqF], by show ((cS bs 2147483648 (uS bs s).2).1 : Int) ≤ _; omega, by show ((cS bs 2147483648 (cS bs 2147483648 (uS bs s).2).2).1 : Int) ≤ _; omega, by show ((cS bs 2147483648 (cS bs 2147483648 (cS bs 2147483648 (uS bs s).2).2).2).1 : Int) ≤ _; omega, Nat.le_trans (tb _) hl, hm⟩
  · rw [show ((3 : Nat) : Int) = 3 from rfl, fieldsP_3] at tl hm ⊢
    have a := oS_le bs 3 (uS bs s).2 (by omega)
    exact ⟨tl, by simp [resF], by show ((uS bs s).1 : Int) ≤ _; omega, by simp [resF], by simp [resF], by show ((oS bs 3 (uS bs s).2).1 : Int) ≤ _; omega, by simp [resF], by simp [resF], by simp [resF], Nat.le_trans (tb _) hl, hm⟩
  · rw [show ((4 : Nat) : Int) = 4 from rfl, fieldsP_4] at tl hm ⊢
    exact ⟨tl, by simp [canF], by show ((uS bs s).1 : Int) ≤ _; omega, by simp [canF], by simp [canF], by simp [canF], by simp [canF], by simp [canF], by simp [canF], by simp [canF], hm⟩
  · rw [show ((5 : Nat) : Int) = 5 from rfl, fieldsP_5] at tl hm ⊢
    exact ⟨tl, by simp [byeF], by simp [byeF], by simp [byeF], by simp [byeF], by simp [byeF], by simp [byeF], by simp [byeF], by simp [byeF], by simp [byeF], hm⟩
  · rw [show ((6 : Nat) : Int) = 6 from rfl, fieldsP_6] at tl hm ⊢
    exact ⟨tl, by simp [noteF], by simp [noteF], by simp [noteF], by simp [noteF], by simp [noteF], by simp [noteF], by simp [noteF], by simp [noteF], Nat.le_trans (tb _) hl, hm⟩
theorem zF_rng : Rng zF := ⟨rfl, by simp [zF], by simp [zF], by simp [zF], by simp [zF], by simp [zF], by simp [zF], by simp [zF], by simp [zF], by simp [zF], by simp [zF]⟩
theorem dec_rng (b : List UInt8) (hl : b.length ≤ 140737488355327) (hm : (decP b).1.args.length ≤ 9223372036854775807) : Rng (decP b).1 := by
  by_cases h : (decP b).2.1 = 0
  · rw [decP_uns] at h hm ⊢
    by_cases h0 : (unsE b).1 = 0
    · rw [if_neg (fun h9 => h9 h0)] at h hm ⊢
      have hle := oS_le (b.take (b.length - 4)) 6 ((needP b).2.1, 0, 0) (by omega)
      unfold frameP at h hm ⊢
      by_cases g1 : (oS (b.take (b.length - 4)) 6 ((needP b).2.1, 0, 0)).1 = 0
      · rw [if_pos g1]
        exact zF_rng
      · rw [if_neg g1] at hm ⊢
        split
        · exact zF_rng
        · rename_i g2
          rw [if_neg g2] at hm
          split
          · rename_i g3
            rw [if_pos g3] at hm
            exact fields_rng _ _ _ (by omega) (by rw [List.length_take]; omega) hm
          · exact zF_rng
    · rw [if_pos h0]
      exact zF_rng
  · rw [dec_none b h]
    exact zF_rng
end Go.Proofs.YtiibhccbbpgehabGreat

/- A decoder of frames, plainly: bytes are taken one by one; as many at once as are wanted at least is the same. -/
namespace Go.Proofs.YtiibhccbbpgehabGreat
open Go.RowKit

/-- how a decoder stands: its rest, how many bytes came, how many frames were whole, what was wrong first, the frames' sizes -/
structure Sx where
  r : List UInt8
  came : Nat
  whole : Nat
  why : Int
  wat : Int
  szs : List Nat
def zS : Sx := ⟨[], 0, 0, 0, 0, []⟩
def needM (M : Nat) (r : List UInt8) : Nat × Int :=
  if (needP r).2.2 ≠ 0 then (0, ((needP r).2.2 : Int)) else if (needP r).1 ≠ 0 ∧ M < (needP r).1 - (needP r).2.1 - 4 then (0, 3) else ((needP r).1, 0)
def lackP (r : List UInt8) : Nat := if (needP r).1 = 0 then 1 else (needP r).1 - r.length
/-- some bytes are taken at once -/
def takeC (M : Nat) (s : Sx) (X : List UInt8) : Sx × List Fr :=
  if (needM M (s.r ++ X)).2 ≠ 0 then (⟨s.r ++ X, s.came + X.length, s.whole, (needM M (s.r ++ X)).2, (s.came : Int) - (s.r.length : Int), s.szs⟩, [])
  else if (needM M (s.r ++ X)).1 = 0 ∨ (s.r ++ X).length < (needM M (s.r ++ X)).1 then (⟨s.r ++ X, s.came + X.length, s.whole, 0, 0, s.szs⟩, [])
  else if (decP (s.r ++ X)).2.1 ≠ 0 then (⟨s.r ++ X, s.came + X.length, s.whole, (decP (s.r ++ X)).2.1, IntKind.i64.wrap ((s.came : Int) - (s.r.length : Int) + (decP (s.r ++ X)).2.2), s.szs⟩, [])
  else (⟨[], s.came + X.length, s.whole + 1, 0, 0, s.szs ++ [(s.r ++ X).length]⟩, [(decP (s.r ++ X)).1])
abbrev Ra := Sx × List Fr × Nat
/-- one byte more, unless so many frames are enough, or something was wrong -/
def stepQ (M : Nat) (q : Nat → Bool) (a : Ra) (c : UInt8) : Ra :=
  if q a.2.1.length = true ∨ a.1.why ≠ 0 then a else ((takeC M a.1 [c]).1, a.2.1 ++ (takeC M a.1 [c]).2, a.2.2 + 1)
def runP (M : Nat) (q : Nat → Bool) (a : Ra) (bs : List UInt8) : Ra := bs.foldl (stepQ M q) a
theorem runP_nil (M : Nat) (q : Nat → Bool) (a : Ra) : runP M q a [] = a := rfl
theorem runP_cons (M : Nat) (q : Nat → Bool) (a : Ra) (c : UInt8) (bs : List UInt8) : runP M q a (c :: bs) = runP M q (stepQ M q a c) bs := rfl
theorem runP_app (M : Nat) (q : Nat → Bool) (a : Ra) (X Y : List UInt8) : runP M q a (X ++ Y) = runP M q (runP M q a X) Y := List.foldl_append
theorem runP_stop (M : Nat) (q : Nat → Bool) (a : Ra) (h : q a.2.1.length = true ∨ a.1.why ≠ 0) : ∀ X, runP M q a X = a
  | [] => rfl
  | c :: X => by
    rw [runP_cons, show stepQ M q a c = a by unfold stepQ; rw [if_pos h]]
    exact runP_stop M q a h X
theorem runP_snoc (M : Nat) (q : Nat → Bool) (a : Ra) (bs : List UInt8) (k : Nat) (hk : k < bs.length) : runP M q a (bs.take (k + 1)) = stepQ M q (runP M q a (bs.take k)) (bs.getD k 0) := by
  rw [List.take_succ_eq_append_getElem hk, runP_app]
  simp [runP, List.getD_eq_getElem?_getD, List.getElem?_eq_getElem hk]

theorem dec_more : ∀ (l Y : List UInt8) (i acc : Nat), (dec l i acc).1 ≠ 4 → dec (l ++ Y) i acc = dec l i acc
  | [], Y, i, acc, h => absurd rfl h
  | c :: r, Y, i, acc, h => by
    rw [List.cons_append, dec_cons, dec_cons]
    rw [dec_cons] at h
    split
    · rfl
    · split
      · rfl
      · split
        · rfl
        · rename_i h1 h2 h3
          rw [if_neg h1, if_neg h2, if_neg h3] at h
          exact dec_more r Y _ _ h
theorem dec_short : ∀ (l : List UInt8) (i acc : Nat), i ≤ 9 → (dec l i acc).1 = 4 → l.length + i ≤ 9
  | [], i, acc, hi, _ => by simpa using hi
  | c :: r, i, acc, hi, h => by
    rw [dec_cons] at h
    by_cases h1 : i = 9 ∧ 1 < c.toNat
    · rw [if_pos h1] at h; cases h
    · rw [if_neg h1] at h
      by_cases h2 : 0 < i ∧ c.toNat = 0
      · rw [if_pos h2] at h; cases h
      · rw [if_neg h2] at h
        by_cases h3 : c.toNat < 128
        · rw [if_pos h3] at h; cases h
        · rw [if_neg h3] at h
          have h9 : i ≤ 8 := by
            rcases Nat.lt_or_ge i 9 with h | h
            · omega
            · exact absurd ⟨by omega, by omega⟩ h1
          have := dec_short r (i + 1) _ (by omega) h
          simp only [List.length_cons]
          omega
theorem need_more {r : List UInt8} (Y : List UInt8) (h : (dec r 0 0).1 ≠ 4) : needP (r ++ Y) = needP r := by
  unfold needP
  rw [dec_more r Y 0 0 h]
theorem need_dec {r : List UInt8} (h : (needP r).1 ≠ 0 ∨ (needP r).2.2 ≠ 0) : (dec r 0 0).1 ≠ 4 := by
  intro h4
  unfold needP at h
  rw [if_pos h4] at h
  rcases h with h | h <;> exact h rfl
theorem need_none {r : List UInt8} (h : (needP r).1 = 0) (h2 : (needP r).2.2 = 0) : r.length ≤ 9 := by
  by_cases h4 : (dec r 0 0).1 = 4
  · exact dec_short r 0 0 (by omega) h4
  · exfalso
    unfold needP at h h2
    rw [if_neg h4] at h h2
    by_cases h0 : (dec r 0 0).1 ≠ 0
    · rw [if_pos h0] at h2
      exact h0 h2
    · rw [if_neg h0] at h h2
      by_cases hN : 2097152 < (dec r 0 0).2.1
      · rw [if_pos hN] at h2; cases h2
      · rw [if_neg hN] at h h2
        by_cases hz : (dec r 0 0).2.1 = 0
        · rw [if_pos hz] at h2; cases h2
        · rw [if_neg hz] at h
          have : (dec r 0 0).2.2 + (dec r 0 0).2.1 + 4 = 0 := h
          omega
theorem needM_more {M : Nat} {r : List UInt8} (Y : List UInt8) (h : (needM M r).1 ≠ 0) : needM M (r ++ Y) = needM M r ∧ needP (r ++ Y) = needP r := by
  have h1 : (needP r).1 ≠ 0 := by
    unfold needM at h
    split at h
    · exact absurd rfl h
    · split at h
      · exact absurd rfl h
      · exact h
  have h2 := need_more Y (need_dec (Or.inl h1))
  exact ⟨by unfold needM; rw [h2], h2⟩
theorem needM_ok {M : Nat} {r : List UInt8} (h : (needM M r).2 = 0) : (needM M r).1 = (needP r).1 ∧ (needP r).2.2 = 0 ∧ ((needP r).1 ≠ 0 → (needP r).1 ≤ M + 14) := by
  unfold needM at h ⊢
  by_cases h1 : (needP r).2.2 ≠ 0
  · rw [if_pos h1] at h
    exact absurd (show (((needP r).2.2 : Nat) : Int) = 0 from h) (by omega)
  · rw [if_neg h1] at h ⊢
    by_cases h2 : (needP r).1 ≠ 0 ∧ M < (needP r).1 - (needP r).2.1 - 4
    · rw [if_pos h2] at h; cases h
    · rw [if_neg h2]
      refine ⟨rfl, by omega, fun h0 => ?_⟩
      obtain ⟨N, hd, hN1, hN2, hn⟩ := need_ok (b := r) (by omega) h0
      have := dec_ok_len hd
      have h8 := sn_length_le N
      have h3 : ¬ M < (needP r).1 - (needP r).2.1 - 4 := fun h => h2 ⟨h0, h⟩
      omega
/-- how a decoder may stand -/
structure Gs (M : Nat) (s : Sx) : Prop where
  ok : s.why = 0 → s.wat = 0 ∧ (needM M s.r).2 = 0 ∧ ((needM M s.r).1 = 0 ∨ s.r.length < (needM M s.r).1)
  le : s.r.length ≤ s.came
  few : s.r.length ≤ M + 14
  wl : s.whole ≤ s.came
theorem needM_nil (M : Nat) : needM M [] = (0, 0) := by
  have h : needP [] = (0, 0, 0) := by decide
  unfold needM
  rw [h]
  rfl
theorem Gs.zero (M : Nat) : Gs M zS := ⟨fun _ => ⟨rfl, by show (needM M []).2 = 0; rw [needM_nil], Or.inl (by show (needM M []).1 = 0; rw [needM_nil])⟩, Nat.le_refl _, Nat.zero_le _, Nat.le_refl _⟩
theorem lack_pos {M : Nat} {s : Sx} (h : Gs M s) (h0 : s.why = 0) : 1 ≤ lackP s.r := by
  obtain ⟨_, h1, h2⟩ := h.ok h0
  have h3 := needM_ok h1
  unfold lackP
  split
  · exact Nat.le_refl _
  · rcases h2 with h2 | h2
    · omega
    · omega
theorem lack_le {M : Nat} {s : Sx} (h : Gs M s) (h0 : s.why = 0) : s.r.length + lackP s.r ≤ M + 14 := by
  obtain ⟨_, h1, h2⟩ := h.ok h0
  have h3 := needM_ok h1
  unfold lackP
  split
  · rename_i hz
    have := need_none hz h3.2.1
    omega
  · rename_i hz
    have := h3.2.2 hz
    omega
theorem takeC_good {M : Nat} {s : Sx} (h : Gs M s) (h0 : s.why = 0) (X : List UInt8) (hX : X ≠ []) (hl : X.length ≤ lackP s.r) : Gs M (takeC M s X).1 := by
  have hwl := h.wl
  have hpos := List.length_pos_iff.2 hX
  have hf := lack_le h h0
  have hle := h.le
  have hlen : (s.r ++ X).length = s.r.length + X.length := List.length_append
  unfold takeC
  by_cases h1 : (needM M (s.r ++ X)).2 ≠ 0
  · rw [if_pos h1]
    exact ⟨fun h => absurd h h1, by show (s.r ++ X).length ≤ s.came + X.length; omega, by show (s.r ++ X).length ≤ _; omega, by show s.whole ≤ s.came + X.length; omega⟩
  · rw [if_neg h1]
    by_cases h2 : (needM M (s.r ++ X)).1 = 0 ∨ (s.r ++ X).length < (needM M (s.r ++ X)).1
    · rw [if_pos h2]
      exact ⟨fun _ => ⟨rfl, by simpa using h1, h2⟩, by show (s.r ++ X).length ≤ s.came + X.length; omega, by show (s.r ++ X).length ≤ _; omega, by show s.whole ≤ s.came + X.length; omega⟩
    · rw [if_neg h2]
      by_cases h3 : (decP (s.r ++ X)).2.1 ≠ 0
      · rw [if_pos h3]
        exact ⟨fun h => absurd h h3, by show (s.r ++ X).length ≤ s.came + X.length; omega, by show (s.r ++ X).length ≤ _; omega, by show s.whole ≤ s.came + X.length; omega⟩
      · rw [if_neg h3]
        exact ⟨fun _ => ⟨rfl, by show (needM M []).2 = 0; rw [needM_nil], Or.inl (by show (needM M []).1 = 0; rw [needM_nil])⟩, Nat.zero_le _, Nat.zero_le _, by show s.whole + 1 ≤ s.came + X.length; omega⟩
theorem takeC_step {M : Nat} {s : Sx} (h : Gs M s) (h0 : s.why = 0) (c d : UInt8) (Y : List UInt8) (hl : (c :: d :: Y).length ≤ lackP s.r) :
    takeC M s [c] = (⟨s.r ++ [c], s.came + 1, s.whole, 0, 0, s.szs⟩, []) ∧ (d :: Y).length ≤ lackP (s.r ++ [c]) ∧ takeC M ⟨s.r ++ [c], s.came + 1, s.whole, 0, 0, s.szs⟩ (d :: Y) = takeC M s (c :: d :: Y) := by
  obtain ⟨_, h1, h2⟩ := h.ok h0
  have h3 := needM_ok h1
  have hn : (needP s.r).1 ≠ 0 := by
    intro hz
    unfold lackP at hl
    rw [if_pos hz] at hl
    simp at hl
  have hl2 : s.r.length + (Y.length + 2) ≤ (needP s.r).1 := by
    unfold lackP at hl
    rw [if_neg hn] at hl
    simp only [List.length_cons] at hl
    rcases h2 with h2 | h2 <;> omega
  have e1 := needM_more [c] (M := M) (r := s.r) (by rw [h3.1]; exact hn)
  refine ⟨?_, ?_, ?_⟩
  · unfold takeC
    rw [e1.1, if_neg (by simpa using h1), if_pos (Or.inr (by rw [h3.1, List.length_append]; simp; omega))]
    rfl
  · unfold lackP
    rw [e1.2, if_neg hn, List.length_append]
    simp
    omega
  · unfold takeC
    have e2 : s.r ++ [c] ++ d :: Y = s.r ++ c :: d :: Y := by simp
    have e3 : ((s.came + 1 : Nat) : Int) - ((s.r ++ [c]).length : Int) = (s.came : Int) - (s.r.length : Int) := by rw [List.length_append]; simp; omega
    have e4 : s.came + 1 + (d :: Y).length = s.came + (c :: d :: Y).length := by simp; omega
    simp only [e2, e3, e4]
/-- as many bytes as are wanted at least, one by one -/
theorem run_chunk (M : Nat) (q : Nat → Bool) : ∀ (X : List UInt8) (s : Sx) (out : List Fr) (k : Nat), Gs M s → s.why = 0 → X ≠ [] → X.length ≤ lackP s.r → q out.length = false →
    runP M q (s, out, k) X = ((takeC M s X).1, out ++ (takeC M s X).2, k + X.length)
  | [], _, _, _, _, _, hX, _, _ => absurd rfl hX
  | [c], s, out, k, _, h0, _, _, hq => by
    rw [runP_cons, runP_nil]
    unfold stepQ
    rw [if_neg (by simp [hq, h0])]
    rfl
  | c :: d :: Y, s, out, k, hg, h0, _, hl, hq => by
    obtain ⟨e1, e2, e3⟩ := takeC_step hg h0 c d Y hl
    have hg1 := takeC_good hg h0 [c] (by simp) (by simp only [List.length_cons] at hl ⊢; simp; omega)
    rw [e1] at hg1
    rw [runP_cons]
    unfold stepQ
    rw [if_neg (by simp [hq, h0]), e1, List.append_nil, run_chunk M q (d :: Y) _ out (k + 1) hg1 rfl (by simp) e2 hq, e3]
    refine Prod.ext rfl (Prod.ext rfl ?_)
    simp
    omega
/-- every step keeps what must be -/
theorem step_good {M : Nat} {q : Nat → Bool} {a : Ra} (h : Gs M a.1) (c : UInt8) : Gs M (stepQ M q a c).1 := by
  unfold stepQ
  split
  · exact h
  · rename_i hn
    have h0 : a.1.why = 0 := by
      by_cases h : a.1.why = 0
      · exact h
      · exact absurd (Or.inr h) hn
    exact takeC_good h h0 [c] (by simp) (by have := lack_pos h h0; simpa using this)
theorem run_good {M : Nat} {q : Nat → Bool} : ∀ (X : List UInt8) {a : Ra}, Gs M a.1 → Gs M (runP M q a X).1
  | [], _, h => h
  | c :: X, _, h => run_good X (step_good h c)
theorem takeC_came (M : Nat) (s : Sx) (X : List UInt8) : (takeC M s X).1.came = s.came + X.length := by
  unfold takeC
  repeat' split
  all_goals rfl
theorem takeC_few (M : Nat) (s : Sx) (X : List UInt8) : (takeC M s X).2.length ≤ 1 := by
  unfold takeC
  repeat' split
  all_goals simp
theorem run_came {M : Nat} {q : Nat → Bool} : ∀ (X : List UInt8) (a : Ra), (runP M q a X).1.came + a.2.2 = a.1.came + (runP M q a X).2.2
  | [], _ => Nat.add_comm _ _ ▸ rfl
  | c :: X, a => by
    rw [runP_cons]
    have ih := run_came (M := M) (q := q) X (stepQ M q a c)
    have : (stepQ M q a c).1.came + a.2.2 = a.1.came + (stepQ M q a c).2.2 := by
      unfold stepQ
      split
      · omega
      · show (takeC M a.1 [c]).1.came + a.2.2 = a.1.came + (a.2.2 + 1)
        rw [takeC_came]; simp; omega
    omega
theorem run_took {M : Nat} {q : Nat → Bool} : ∀ (X : List UInt8) (a : Ra), a.2.2 ≤ (runP M q a X).2.2 ∧ (runP M q a X).2.2 ≤ a.2.2 + X.length
  | [], _ => ⟨Nat.le_refl _, Nat.le_refl _⟩
  | c :: X, a => by
    rw [runP_cons]
    have ih := run_took (M := M) (q := q) X (stepQ M q a c)
    have : a.2.2 ≤ (stepQ M q a c).2.2 ∧ (stepQ M q a c).2.2 ≤ a.2.2 + 1 := by
      unfold stepQ
      split
      · omega
      · show a.2.2 ≤ a.2.2 + 1 ∧ a.2.2 + 1 ≤ a.2.2 + 1
        omega
    simp only [List.length_cons]
    omega
theorem run_few {M : Nat} {q : Nat → Bool} : ∀ (X : List UInt8) (a : Ra), (runP M q a X).2.1.length ≤ a.2.1.length + X.length
  | [], _ => Nat.le_refl _
  | c :: X, a => by
    rw [runP_cons]
    have ih := run_few (M := M) (q := q) X (stepQ M q a c)
    have : (stepQ M q a c).2.1.length ≤ a.2.1.length + 1 := by
      unfold stepQ
      split
      · omega
      · show (a.2.1 ++ (takeC M a.1 [c]).2).length ≤ _
        have := takeC_few M a.1 [c]
        rw [List.length_append]; omega
    simp only [List.length_cons]
    omega
/-- nothing was enough: what was out already has no part -/
theorem run_shift {M : Nat} : ∀ (X : List UInt8) (s : Sx) (out : List Fr) (k : Nat), runP M (fun _ => false) (s, out, k) X = ((runP M (fun _ => false) (s, [], 0) X).1, out ++ (runP M (fun _ => false) (s, [], 0) X).2.1, k + (runP M (fun _ => false) (s, [], 0) X).2.2)
  | [], s, out, k => by simp [runP_nil]
  | c :: X, s, out, k => by
    rw [runP_cons, runP_cons]
    by_cases h : s.why ≠ 0
    · rw [show stepQ M (fun _ => false) (s, out, k) c = (s, out, k) by unfold stepQ; rw [if_pos (Or.inr h)], show stepQ M (fun _ => false) (s, [], 0) c = (s, [], 0) by unfold stepQ; rw [if_pos (Or.inr h)]]
      exact run_shift X s out k
    · have e1 : ∀ o j, stepQ M (fun _ => false) (s, o, j) c = ((takeC M s [c]).1, o ++ (takeC M s [c]).2, j + 1) := by
        intro o j
        unfold stepQ
        rw [if_neg (by simpa using h)]
      rw [e1, e1, run_shift X _ (out ++ _), run_shift X _ ([] ++ (takeC M s [c]).2)]
      refine Prod.ext rfl (Prod.ext ?_ ?_)
      · simp
      · show k + 1 + _ = k + (0 + 1 + _); omega
/-- a bound on frames that is never met has no part -/
theorem run_congr {M : Nat} {q q' : Nat → Bool} : ∀ (X : List UInt8) (a : Ra), (∀ k, k ≤ a.2.1.length + X.length → q k = q' k) → runP M q a X = runP M q' a X
  | [], _, _ => rfl
  | c :: X, a, h => by
    rw [runP_cons, runP_cons]
    have e : stepQ M q a c = stepQ M q' a c := by
      unfold stepQ
      rw [h _ (by omega)]
    rw [e]
    refine run_congr X _ (fun k hk => h k ?_)
    have : (stepQ M q' a c).2.1.length ≤ a.2.1.length + 1 := by
      unfold stepQ
      split
      · omega
      · show (a.2.1 ++ (takeC M a.1 [c]).2).length ≤ _
        have := takeC_few M a.1 [c]
        rw [List.length_append]; omega
    simp only [List.length_cons]
    omega
theorem snF_mono : ∀ (f a b : Nat), a ≤ b → (snF f a).length ≤ (snF f b).length
  | 0, _, _, _ => Nat.le_refl _
  | f + 1, a, b, h => by
    rw [snF_succ, snF_succ]
    by_cases ha : a < 128
    · rw [if_pos ha]
      split
      · simp
      · simp
    · rw [if_neg ha, if_neg (by omega)]
      have := snF_mono f (a / 128) (b / 128) (by omega)
      simp only [List.length_cons]
      omega
theorem sn_mono {a b : Nat} (h : a ≤ b) : (sn a).length ≤ (sn b).length := snF_mono 10 a b h
/-- how many bytes a frame may have -/
def lngP (M : Nat) : Nat := (sn M).length + M + 4
/-- the frame's length alone tells whether its body is too long -/
theorem needM_long (M : Nat) (r : List UInt8) : needM M r = if lngP M < (needP r).1 then (0, 3) else if (needP r).2.2 ≠ 0 then (0, ((needP r).2.2 : Int)) else ((needP r).1, 0) := by
  unfold needM
  by_cases h1 : (needP r).2.2 ≠ 0
  · have h0 : (needP r).1 = 0 := by
      by_cases h : (needP r).1 = 0
      · exact h
      · exfalso
        unfold needP at h h1
        split at h
        · exact h rfl
        · rename_i g1
          rw [if_neg g1] at h1
          split at h
          · exact h rfl
          · rename_i g2
            rw [if_neg g2] at h1
            split at h
            · exact h rfl
            · rename_i g3
              rw [if_neg g3] at h1
              split at h
              · exact h rfl
              · rename_i g4
                rw [if_neg g4] at h1
                exact h1 rfl
    rw [if_pos h1, if_neg (by omega), if_pos h1]
  · rw [if_neg h1]
    by_cases h0 : (needP r).1 = 0
    · rw [if_neg (fun h => h.1 h0), if_neg (by omega), if_neg h1]
    · obtain ⟨N, hd, hN1, hN2, hn⟩ := need_ok (b := r) (by omega) h0
      have hk := dec_ok_len hd
      unfold lngP
      by_cases hm : M < N
      · have := sn_mono (Nat.le_of_lt hm)
        rw [if_pos ⟨h0, by omega⟩, if_pos (by omega)]
      · have := sn_mono (Nat.le_of_not_lt hm)
        rw [if_neg (fun h => hm (by have := h.2; omega)), if_neg (by omega), if_neg h1]
theorem lng_pos (M : Nat) : 0 < lngP M := by unfold lngP; omega
theorem lng_le {M : Nat} (h : M ≤ 2097152) : lngP M ≤ 3000000 := by have := sn_length_le M; unfold lngP; omega
theorem need_le (r : List UInt8) : (needP r).1 ≤ 3000000 := by
  by_cases h0 : (needP r).1 = 0
  · omega
  · by_cases h2 : (needP r).2.2 = 0
    · obtain ⟨N, hd, hN1, hN2, hn⟩ := need_ok h2 h0
      have hk := dec_ok_len hd
      have := sn_length_le N
      omega
    · exfalso
      have h := needM_long 0 r
      unfold needM at h
      rw [if_pos h2] at h
      split at h
      · rename_i g
        unfold needP at h0 h2
        repeat' split at h0
        all_goals first | exact h0 rfl | skip
        rename_i g1 g2 g3 g4
        rw [if_neg g1, if_neg g2, if_neg g3, if_neg g4] at h2
        exact h2 rfl
      · unfold needP at h0 h2
        repeat' split at h0
        all_goals first | exact h0 rfl | skip
        rename_i g1 g2 g3 g4
        rw [if_neg g1, if_neg g2, if_neg g3, if_neg g4] at h2
        exact h2 rfl
end Go.Proofs.YtiibhccbbpgehabGreat

/- A decoder's block, and what its small methods do. -/
namespace Go.Proofs.YtiibhccbbpgehabGreat
open Go.RowKit Go.BigFrame

/-- append(own, bytes...), and where it lies -/
theorem app_bytes {w : World} {ops : Array Oper} {rest : List Oper} {o : Oper} {a : Act} {Q : Exit → Act → World → Prop} (hgd : o.guard = none) (s x : Operand)
    (ho : o.op = .call { callee := .builtin .append, args := #[s, x], argTypes := #[22, 22] })
    (base : Nat) (v : Value) (bs : List UInt8) (hs : a.eval s = v) (hown : OwnB w base v bs) (vx : Value) (cs : List UInt8) (hx : a.eval x = vx) (hsrc : Src w vx cs)
    (hlen : bs.length + cs.length ≤ 140737488355327) (hbase : base ≤ w.heap.size)
    (h : ∀ v' w', OwnB w' base v' (bs ++ cs) → w.grownBy w' v.ownBlock → (v'.ownBlock = v.ownBlock ∨ v'.ownBlock = some w.heap.size) → wpList Tryz.prog ops Q rest (a.put o.dst v') w') : wpList Tryz.prog ops Q (o :: rest) a w := by
  obtain ⟨i0, hi, hz0, hz1, hz2⟩ := info_parts Tryz.infoU8
  obtain ⟨_, ⟨rfl, rfl⟩ | ⟨ad, cap, rfl, h1, h2, hlt, hc⟩⟩ := hsrc
  · refine wpList_append_own_none hgd s x 22 ho base 5 i0 1 Tryz.underlying22 hi v bs.length (bytesV bs) hs hown hx ?_
    exact h v w (by simpa using hown) (gb_refl _ _) (Or.inl rfl)
  · refine wpList_plain hgd fun K hK => ?_
    obtain ⟨v', w', hr, h5, h6, _⟩ := run_append_own (P := Tryz.prog) w base 22 o.type 5 i0 (.int .u8 0) 1 1 Tryz.underlying22 hi hz0 hz1 hz2 rfl (by decide) v bs.length (bytesV bs) hown ad cs.length cap (bytesV cs) (by simp [bytesV]) (src_cells hc) (bytesV_one cs) (by unfold maxLen; omega) (by omega) hbase
    have hp := app_place (P := Tryz.prog) w base 22 o.type 5 i0 (.int .u8 0) 1 1 Tryz.underlying22 hi hz0 hz1 hz2 v bs.length (bytesV bs) hown ad cs.length cap (bytesV cs) (by simp [bytesV]) (src_cells hc) (bytesV_one cs) (by unfold maxLen; omega) (by omega) v' w' hr
    unfold Oper.wp execOp
    simp only [ho, resolve, invoke, builtin, Sem.run_bind, Sem.run_pure, Result.andThen_ok, List.map_toArray, List.map_cons, List.map_nil, hs, hx, hr]
    exact hK _ _ (h v' w' (by unfold OwnB; rw [bytesV_append, List.length_append]; exact h5) h6 hp)

/-- block b is a decoder -/
structure Kb (w : World) (base b : Nat) (v : Value) (r : List UInt8) (ca wh lg : Nat) (y t : Int) : Prop where
  lo : base ≤ b
  blk : w.heap[b]? = some (.cells #[v, .int .i64 ca, .int .i64 wh, .int .i64 lg, .int .i64 y, .int .i64 t] 47 (0, 0))
  own : OwnB w base v r
section
variable {w w' : World} {base b : Nat} {v : Value} {r : List UInt8} {ca wh lg : Nat} {y t : Int}
theorem Kb.lt (h : Kb w base b v r ca wh lg y t) : b < w.heap.size := hp_lt h.blk
theorem Kb.c0 (h : Kb w base b v r ca wh lg y t) : w.cell? ⟨b, 0, none⟩ = some v := by simp [World.cell?, h.blk]
theorem Kb.c1 (h : Kb w base b v r ca wh lg y t) : w.cell? ⟨b, 1, none⟩ = some (.int .i64 ca) := by simp [World.cell?, h.blk]
theorem Kb.c2 (h : Kb w base b v r ca wh lg y t) : w.cell? ⟨b, 2, none⟩ = some (.int .i64 wh) := by simp [World.cell?, h.blk]
theorem Kb.c3 (h : Kb w base b v r ca wh lg y t) : w.cell? ⟨b, 3, none⟩ = some (.int .i64 lg) := by simp [World.cell?, h.blk]
theorem Kb.c4 (h : Kb w base b v r ca wh lg y t) : w.cell? ⟨b, 4, none⟩ = some (.int .i64 y) := by simp [World.cell?, h.blk]
theorem Kb.c5 (h : Kb w base b v r ca wh lg y t) : w.cell? ⟨b, 5, none⟩ = some (.int .i64 t) := by simp [World.cell?, h.blk]
theorem Kb.fz (h : Kb w base b v r ca wh lg y t) (i : Nat) : w.frozen? ⟨b, i, none⟩ = false := by simp [World.frozen?, h.blk]
theorem Kb.ne (h : Kb w base b v r ca wh lg y t) : v.ownBlock ≠ some b := own_block h.own h.blk (by decide)
theorem Kb.below (h : Kb w base b v r ca wh lg y t) (hb : Below w.heap.size w w') : Kb w' base b v r ca wh lg y t :=
  ⟨h.lo, (hb.block b h.lt).trans h.blk, h.own.below hb⟩
theorem Kb.drew (h : Kb w base b v r ca wh lg y t) (n : Nat) : Kb (w.drewN n) base b v r ca wh lg y t := h.below ⟨rfl, rfl, rfl, Nat.le_refl _, fun _ _ => rfl⟩
theorem Kb.low (h : Kb w base b v r ca wh lg y t) {v' : Value} (g : Gd w w' b v v') : Below base w w' :=
  g.low h.lo (Nat.le_of_lt (Nat.lt_of_le_of_lt h.lo h.lt)) (fun k e => (World.ownsRow.lt h.own k e).1)
theorem Kb.fault (h : Kb w base b v r ca wh lg y t) : w.rangeAt b 4 [.int .i64 y, .int .i64 t] := by
  intro j u hu
  match j, hu with
  | 0, hu => simp at hu; subst hu; exact h.c4
  | 1, hu => simp at hu; subst hu; exact h.c5
theorem Kb.there (h : Kb w base b v r ca wh lg y t) : w.there b 4 2 := by
  intro j hj
  match j, hj with
  | 0, _ => exact ⟨by rw [h.c4]; rfl, h.fz _⟩
  | 1, _ => exact ⟨by rw [h.c5]; rfl, h.fz _⟩
theorem Kb.setHeld (h : Kb w base b v r ca wh lg y t) {v' : Value} {r' : List UInt8} (hg : w.grownBy w' v.ownBlock) (ho : OwnB w' base v' r') :
    Kb (w'.setCell ⟨b, 0, none⟩ v') base b v' r' ca wh lg y t := by
  have hb : w'.heap[b]? = _ := (hg.block b h.lt (fun e => h.ne e.symm)).trans h.blk
  refine ⟨h.lo, by rw [blk_set hb]; rfl, ho.kept (gb_set w' _ _) (Or.inr ?_)⟩
  have := own_block ho hb (by decide)
  simpa using this
theorem Kb.setCame (h : Kb w base b v r ca wh lg y t) (x : Nat) : Kb (w.setCell ⟨b, 1, none⟩ (.int .i64 x)) base b v r x wh lg y t :=
  ⟨h.lo, by rw [blk_set h.blk]; rfl, h.own.kept (gb_set w _ _) (Or.inr (by simpa using h.ne))⟩
theorem Kb.setWhole (h : Kb w base b v r ca wh lg y t) (x : Nat) : Kb (w.setCell ⟨b, 2, none⟩ (.int .i64 x)) base b v r ca x lg y t :=
  ⟨h.lo, by rw [blk_set h.blk]; rfl, h.own.kept (gb_set w _ _) (Or.inr (by simpa using h.ne))⟩
theorem Kb.setFault (h : Kb w base b v r ca wh lg y t) (y' t' : Int) : Kb (w.setCells b 4 [.int .i64 y', .int .i64 t']) base b v r ca wh lg y' t' ∧ Gd w (w.setCells b 4 [.int .i64 y', .int .i64 t']) b v v := by
  have e : w.setCells b 4 [.int .i64 y', .int .i64 t'] = (w.setCell ⟨b, 4, none⟩ (.int .i64 y')).setCell ⟨b, 5, none⟩ (.int .i64 t') := rfl
  rw [e]
  have h1 : (w.setCell ⟨b, 4, none⟩ (.int .i64 y')).heap[b]? = some (.cells #[v, .int .i64 ca, .int .i64 wh, .int .i64 lg, .int .i64 y', .int .i64 t] 47 (0, 0)) := by rw [blk_set h.blk]; rfl
  refine ⟨⟨h.lo, by rw [blk_set h1]; rfl, (h.own.kept (gb_set w _ _) (Or.inr (by simpa using h.ne))).kept (gb_set _ _ _) (Or.inr (by simpa using h.ne))⟩, (Gd.set _ _ _ _ _).trans (Gd.set _ _ _ _ _)⟩
/-- what a new block's store changes is apart from a decoder -/
theorem Kb.far {n : Nat} (h : Kb w base b v r ca wh lg y t) (hg : w.grownBy w' (some n)) (hb : b ≠ n) (hv : ∀ k, v.ownBlock = some k → k ≠ n) : Kb w' base b v r ca wh lg y t :=
  ⟨h.lo, (hg.block b h.lt (fun e => hb (by injection e))).trans h.blk, h.own.kept hg (by
    cases e : v.ownBlock with
    | none => exact Or.inl rfl
    | some k => exact Or.inr (fun e2 => hv k e (by injection e2)))⟩

set_option maxHeartbeats 400000 in
theorem kmade_any (h : Kb w base b v r ca wh lg y t) (hl : 0 < lg) :
    Calls Tryz.prog 25 #[.pointer (some ⟨b, 0, none⟩)] w fun e w' => e = .returned (.bool true) ∧ w' = w := by
  have c3 := h.c3
  clear h
  go_enter Tryz.func25, Tryz.ntmps25
  go_wp2
  go_ret
  exact ⟨rfl, rfl⟩

set_option maxHeartbeats 400000 in
theorem kpois_any (h : Kb w base b v r ca wh lg y t) :
    Calls Tryz.prog 28 #[.pointer (some ⟨b, 0, none⟩)] w fun e w' => e = .returned (.bool (y != 0)) ∧ w' = w := by
  have c4 := h.c4
  clear h
  go_enter Tryz.func28, Tryz.ntmps28
  go_wp2
  go_ret
  exact ⟨rfl, rfl⟩

set_option maxHeartbeats 400000 in
theorem ksz_any (h : Kb w base b v r ca wh lg y t) :
    Calls Tryz.prog 29 #[.pointer (some ⟨b, 0, none⟩)] w fun e w' => e = .returned (.int .i64 r.length) ∧ w' = w := by
  have c0 := h.c0
  obtain ⟨av, cv, rfl⟩ := h.own.shape
  clear h
  go_enter Tryz.func29, Tryz.ntmps29
  go_wp2
  go_ret
  exact ⟨rfl, rfl⟩

set_option maxHeartbeats 400000 in
theorem kput_any (h : Kb w base b v r ca wh lg y t) (vx : Value) (X : List UInt8) (hx : Src w vx X) (hl : r.length + X.length ≤ 140737488355327) :
    Calls Tryz.prog 58 #[.pointer (some ⟨b, 0, none⟩), vx] w fun e w' => e = .returned (.tuple #[]) ∧ ∃ v', Kb w' base b v' (r ++ X) ca wh lg y t ∧ Gd w w' b v v' := by
  have c0 := h.c0
  have z0 := h.fz 0
  have H := hid h
  have HX := hid hx
  have HO := hid h.own
  have HBS := hid (Nat.le_of_lt (Nat.lt_of_le_of_lt h.lo h.lt))
  obtain ⟨av, cv, rfl⟩ := h.own.shape
  clear h hx
  go_enter Tryz.func58, Tryz.ntmps58
  go_wp2_with (at_builtin; refine app_bytes rfl _ _ rfl base _ _ rfl HO.out _ _ rfl HX.out hl HBS.out ?_)
  intro v1 w1 ho1 hg1 hp1
  have HK := hid (H.out.setHeld hg1 ho1)
  have HG := hid (Gd.grow (b := b) (i := 0) hg1 (v1 := v1) (fun k e => by
    rcases hp1 with e1 | e1
    · exact Or.inl (e1 ▸ e)
    · rw [e1] at e; injection e with e; right; omega) v1)
  have k0 : w1.cell? ⟨b, 0, none⟩ = some _ := (World.cell?_of_block (hg1.block b H.out.lt (fun e => H.out.ne e.symm))).trans c0
  have k1 : w1.frozen? ⟨b, 0, none⟩ = false := (World.frozen?_of_block (hg1.block b H.out.lt (fun e => H.out.ne e.symm))).trans z0
  obtain ⟨a1, n1, e1⟩ := ho1.shape
  subst e1
  clear ho1 hg1 hp1 c0 z0
  rw [List.length_append] at HK HG
  go_wp2
  go_end0
  exact ⟨rfl, _, HK.out, HG.out⟩

set_option maxHeartbeats 400000 in
theorem kdrop_any (h : Kb w base b v r ca wh lg y t) :
    Calls Tryz.prog 70 #[.pointer (some ⟨b, 0, none⟩)] w fun e w' => e = .returned (.tuple #[]) ∧ Kb w' base b (.slice none 0 0) [] ca wh lg y t ∧ Gd w w' b v (.slice none 0 0) := by
  have c0 := h.c0
  have z0 := h.fz 0
  have HK := hid (h.setHeld (gb_refl w _) (OwnB.nil w base))
  have HG := hid (Gd.grow (b := b) (i := 0) (gb_refl w v.ownBlock) (v1 := .slice none 0 0) (fun k e => by cases e) (.slice none 0 0))
  obtain ⟨av, cv, rfl⟩ := h.own.shape
  clear h
  go_enter Tryz.func70, Tryz.ntmps70
  go_wp2
  go_end0
  exact ⟨rfl, HK.out, HG.out⟩

set_option maxHeartbeats 400000 in
theorem kcopied_any (h : Kb w base b v r ca wh lg y t) (hl : r.length ≤ 140737488355327) :
    Calls Tryz.prog 31 #[.pointer (some ⟨b, 0, none⟩)] w fun e w' => ∃ v', e = .returned v' ∧ OwnB w' w.heap.size v' r ∧ Below w.heap.size w w' := by
  have c0 := h.c0
  have HX := hid (h.own.src hl)
  obtain ⟨av, cv, rfl⟩ := h.own.shape
  clear h
  go_enter Tryz.func31, Tryz.ntmps31
  go_wp2_with (at_builtin; refine app_src rfl _ _ rfl w.heap.size _ _ rfl (OwnB.nil _ _) _ _ rfl HX.out (by simpa using hl) (Nat.le_refl _) ?_)
  intro v1 w1 ho1 hg1
  have HO := hid (by simpa using ho1 : OwnB w1 w.heap.size v1 r)
  have HB := hid (gb_below hg1)
  obtain ⟨a1, n1, e1⟩ := ho1.shape
  subst e1
  clear ho1 hg1
  go_wp2
  go_ret
  exact ⟨_, rfl, HO.out, HB.out⟩

set_option maxHeartbeats 1000000 in
theorem klack_any (h : Kb w base b v r ca wh lg y t) (hl : r.length ≤ 140737488355327) (hn : (needP r).1 = 0 ∨ r.length ≤ (needP r).1) (hb : (needP r).1 ≤ 3000000) :
    Calls Tryz.prog 30 #[.pointer (some ⟨b, 0, none⟩)] w fun e w' => e = .returned (.int .i64 (lackP r : Nat)) ∧ Below w.heap.size w w' := by
  have c0 := h.c0
  have HX := hid (need_any _ r w (h.own.src hl))
  obtain ⟨n, Hn⟩ : ∃ n, Hid ((needP r).1 = n) := ⟨_, rfl⟩
  obtain ⟨e', He⟩ : ∃ n, Hid ((needP r).2.2 = n) := ⟨_, rfl⟩
  have HLP : Hid (lackP r = if n = 0 then 1 else n - r.length) := hid (by unfold lackP; rw [Hn.out])
  have H := hid h
  rw [Hn.out] at hn hb HX
  rw [He.out] at HX
  obtain ⟨av, cv, rfl⟩ := h.own.shape
  obtain ⟨L, HL⟩ : ∃ n, Hid (r.length = n) := ⟨_, rfl⟩
  rw [HL.out] at hl hn HLP HX c0
  clear h
  go_enter Tryz.func30, Tryz.ntmps30
  go_wp2_with fail
  refine HX.out.mono ?_
  rintro e w1 ⟨rfl, hb1⟩
  have k0 : w1.cell? ⟨b, 0, none⟩ = some _ := (H.out.below hb1).c0
  rw [HL.out] at k0
  have HB := hid hb1
  clear hb1 HX
  by_cases h0 : n = 0
  · have q1 : ((n : Int) == 0) = true := by simp [h0]
    have q2 : (n : Int) = 0 := by omega
    rw [if_pos h0] at HLP
    clear h0
    go_wp2
    go_ret
    rw [HLP.out]
    exact ⟨rfl, HB.out⟩
  · have q1 : ((n : Int) == 0) = false := by simp; omega
    have q2 : ¬ (n : Int) = 0 := by omega
    have q3 : IntKind.i64.wrap ((n : Int) - (L : Int)) = ((n - L : Nat) : Int) := by rw [IntKind.wrap_i64]; omega
    rw [if_neg h0] at HLP
    clear h0
    go_wp2
    go_ret
    rw [HLP.out]
    exact ⟨rfl, HB.out⟩

set_option maxHeartbeats 400000 in
theorem kboth_any (h : Kb w base b v r ca wh lg y t) :
    Calls Tryz.prog 26 #[.pointer (some ⟨b, 1, none⟩)] w fun e w' => e = .returned (.tuple #[.int .i64 ca, .int .i64 wh]) ∧ ∃ q, w' = w.drewN q := by
  have c1 := h.c1
  have c2 := h.c2
  clear h
  go_enter Tryz.func26, Tryz.ntmps26
  go_wp2_with fail
  go_quiet (fail)
  go_wp2
  exact bodyPost_ret (results_tmp2 rfl _ _ _) rfl ⟨rfl, _, rfl⟩

theorem zeroFault (W : World) : (zeroValue 30).run Tryz.prog W = .ok (.agg #[.int .i64 0, .int .i64 0]) W := by kernel_rfl

set_option maxRecDepth 100000 in
set_option maxHeartbeats 1000000 in
theorem kref_any (h : Kb w base b v r ca wh lg y t) (hl : 0 < lg) :
    Calls Tryz.prog 23 #[.pointer (some ⟨b, 0, none⟩)] w fun e w' => e = .returned (.agg #[.int .i64 (if y = 0 then 0 else 80), .int .i64 (if y = 0 then 0 else ca)]) ∧ Below w.heap.size w w' := by
  have HB := hid (below_walk w (.cells #[.int .i64 0, .int .i64 0] 30))
  have HK := hid (h.below HB.out)
  have HN := hid (hp_new w (.cells #[.int .i64 0, .int .i64 0] 30))
  obtain ⟨A, HAA⟩ : ∃ n, Hid (w.heap.size = n) := ⟨_, rfl⟩
  clear h
  go_enter Tryz.func23, Tryz.ntmps23
  go_upto_region 1 with fail
  generalize w.alloc (.cells #[.int .i64 0, .int .i64 0] 30) = w0 at HB HK HN ⊢
  rw [HAA.out] at HN ⊢
  have HM := hid (kmade_any HK.out hl)
  have HP := hid (kpois_any HK.out)
  have c1 := HK.out.c1
  go_wp2_with fail
  refine HM.out.mono ?_
  rintro e w1 ⟨rfl, hw⟩
  subst hw
  go_wp2_with fail
  refine HP.out.mono ?_
  rintro e w1 ⟨rfl, hw⟩
  subst hw
  by_cases h0 : y = 0
  · subst h0
    go_wp2_with (first
      | (refine bd_row (by rfl) 30 #[] (by rfl) _ (by simp) _ built_fz ?_)
      | (refine st_row (by rfl) 30 _ _ (by rfl) A [Value.int .i64 0, .int .i64 0] (by rfl) (by rfl) 30 _ HN.out faultSize rfl (fault_one _ _) ?_; intro w3 hw3))
    exact ret_row 2 30 rfl A rfl _ 30 hw3.blk _ Tryz.underlying30 rfl faultSize rfl ⟨rfl, Below.of_gb HB.out hw3.grown (by have := HAA.out; omega)⟩
  · have q1 : (y != 0) = true := by simpa using h0
    go_wp2_with (first
      | (refine bd_row (by rfl) 30 #[(0, .const (.int .i64 80)), (1, .tmp 15)] (by rfl) _ (by simp [Act.eval]) _ (built_ft _ _) ?_)
      | (refine st_row (by rfl) 30 _ _ (by rfl) A [Value.int .i64 80, .int .i64 (ca : Int)] (by rfl) (by rfl) 30 _ HN.out faultSize rfl (fault_one _ _) ?_; intro w3 hw3))
    exact ret_row 2 30 rfl A rfl _ 30 hw3.blk _ Tryz.underlying30 rfl faultSize rfl ⟨rfl, Below.of_gb HB.out hw3.grown (by have := HAA.out; omega)⟩
end
end Go.Proofs.YtiibhccbbpgehabGreat

/- A decoder opens a frame, and takes as many bytes as it wants at least. -/
namespace Go.Proofs.YtiibhccbbpgehabGreat
open Go.RowKit Go.BigFrame

theorem bel_drw (w : World) (n : Nat) : Below w.heap.size w (w.drewN n) := ⟨rfl, rfl, rfl, Nat.le_refl _, fun _ _ => rfl⟩
theorem Gd.fresh {w w1 w2 : World} {b n : Nat} {v v1 : Value} (h : Gd w w1 b v v1) (g : w1.grownBy w2 (some n)) (hn : w.heap.size ≤ n) : Gd w w2 b v v1 :=
  ⟨g.os.trans h.os, g.tape.trans h.tape, g.output.trans h.output, Nat.le_trans h.size g.size,
    fun k hk hb hv => (g.block k (Nat.lt_of_lt_of_le hk h.size) (fun e => by injection e with e; omega)).trans (h.block k hk hb hv), h.lies⟩
theorem own_kb {w w' : World} {base base2 b : Nat} {e : TypeId} {size : Nat} {v v' vo : Value} {n : Nat} {xs : List Value} {r : List UInt8} {ca wh lg : Nat} {y t : Int} (h : w.ownsRow base e size vo n xs) (g : Gd w w' b v v') (k : Kb w base2 b v r ca wh lg y t) (h1 : e ≠ 47) (h2 : e ≠ 5) : w'.ownsRow base e size vo n xs :=
  own_gd h g (own_block h k.blk h1) (fun _ hk => own_apart h k.own h2 hk)
theorem own_far {w w' : World} {base m : Nat} {e : TypeId} {size : Nat} {vo : Value} {n : Nat} {xs : List Value} (h : w.ownsRow base e size vo n xs) (g : w.grownBy w' (some m)) (hm : m < base) : w'.ownsRow base e size vo n xs :=
  World.ownsRow.kept h g (by
    cases hk : vo.ownBlock with
    | none => exact Or.inl rfl
    | some k => exact Or.inr (fun h9 => by injection h9 with h9; have := (World.ownsRow.lt h k hk).1; omega))
theorem dec_tool (r : List UInt8) : (decP r).1.tool.length = 32 := by
  unfold decP
  repeat' split
  all_goals first | rfl | skip
  unfold frameP
  repeat' split
  all_goals first | rfl | exact fieldsP_tool _ _ _

/-- what was wrong is written into a decoder -/
theorem st_fault {w : World} {base b : Nat} {v : Value} {r : List UInt8} {ca wh lg : Nat} {y t : Int} {ops : Array Oper} {rest : List Oper} {o : Oper} {a : Act} {Q : Exit → Act → World → Prop} (hgd : o.guard = none) (x z : Operand) (ho : o.op = .store 30 x z)
    (hk : Kb w base b v r ca wh lg y t) (y1 t1 : Int) (hx : a.eval x = .pointer (some ⟨b, 4, none⟩)) (hz : a.eval z = .agg [Value.int .i64 y1, .int .i64 t1].toArray)
    (h : ∀ w', Kb w' base b v r ca wh lg y1 t1 → Gd w w' b v v → wpList Tryz.prog ops Q rest (a.put o.dst undef) w') : wpList Tryz.prog ops Q (o :: rest) a w :=
  wpList_store_mid hgd 30 x z ho b 4 #[.int .i64 y1, .int .i64 t1] hx hz hk.there faultSize (all_oneCell_toArray (fault_one y1 t1)) (h _ (hk.setFault y1 t1).1 (hk.setFault y1 t1).2)

/-- what open answers -/
def OpenP (w : World) (base b : Nat) (v : Value) (r : List UInt8) (ca wh lg : Nat) (beg : Int) (e : Ending) (w' : World) : Prop :=
  if (decP r).2.1 = 0 then ∃ va, e = .returned (.tuple #[.agg (fcells (decP r).1 va).toArray, .bool true]) ∧ WOwnS w' w.heap.size va (decP r).1.args ∧ Kb w' base b (.slice none 0 0) [] ca (wh + 1) lg 0 0 ∧ Gd w w' b v (.slice none 0 0)
  else e = .returned (.tuple #[.agg (fcells zF nS).toArray, .bool false]) ∧ Kb w' base b v r ca wh lg (decP r).2.1 (IntKind.i64.wrap (beg + (decP r).2.2)) ∧ Gd w w' b v v

section
variable {w w' : World} {base b : Nat} {v : Value} {r : List UInt8} {ca wh lg : Nat}

set_option maxRecDepth 100000 in
set_option maxHeartbeats 4000000 in
theorem kopen_any (h : Kb w base b v r ca wh lg 0 0) (beg : Int) (hl : r.length ≤ 140737488355327) (hw : wh ≤ 4611686018427387904) :
    Calls Tryz.prog 59 #[.pointer (some ⟨b, 0, none⟩), .int .i64 beg] w (OpenP w base b v r ca wh lg beg) := by
  have HB0 := hid (below_walk w (.cells (fcells zF nS).toArray 65))
  have HN0 := hid (hp_new w (.cells (fcells zF nS).toArray 65))
  have HK0 := hid (h.below HB0.out)
  have HLT := hid h.lt
  have HVL := hid (fun k e => (World.ownsRow.lt h.own k e).2)
  obtain ⟨A, HAA⟩ : ∃ n, Hid (w.heap.size = n) := ⟨_, rfl⟩
  have HZ : Hid ((w.alloc (.cells (fcells zF nS).toArray 65)).heap.size = w.heap.size + 1) := hid (by simp)
  obtain ⟨av, cv, rfl⟩ := h.own.shape
  have HDE := hid (decode_any _ r _ (HK0.out.own.src hl))
  have HTL := hid (dec_tool r)
  unfold OpenP
  obtain ⟨f, HF⟩ : ∃ f, Hid ((decP r).1 = f) := ⟨_, rfl⟩
  obtain ⟨E1, HE1⟩ : ∃ f, Hid ((decP r).2.1 = f) := ⟨_, rfl⟩
  obtain ⟨E2, HE2⟩ : ∃ f, Hid ((decP r).2.2 = f) := ⟨_, rfl⟩
  rw [HF.out, HE1.out, HE2.out] at HDE ⊢
  rw [HF.out] at HTL
  obtain ⟨L, HL⟩ : ∃ n, Hid (r.length = n) := ⟨_, rfl⟩
  rw [HL.out] at HDE HK0 HVL ⊢
  clear h
  go_enter Tryz.func59, Tryz.ntmps59
  go_upto_region 1 with (refine al_row (by rfl) 65 (by rfl) _ zeroFrame ?_)
  generalize w.alloc (.cells (fcells zF nS).toArray 65) = w0 at HB0 HN0 HK0 HDE HZ ⊢
  rw [HAA.out] at HN0 HLT HVL HZ ⊢
  have c0 := HK0.out.c0
  go_wp2_with fail
  refine HDE.out.mono ?_
  rintro e w1 ⟨va, rfl, hoa, hb1⟩
  have HK1 := hid (HK0.out.below hb1)
  have HN1 := hid (bel_keep hb1 HN0.out)
  have HB1 := hid (below_then HB0.out hb1)
  rw [HZ.out] at hoa
  have HOA := hid hoa
  obtain ⟨aV, cV, eV⟩ := wowns_shape hoa
  have HSZ := hid (frame_size f va HTL.out)
  have HON := hid (fcells_one f va (by rw [eV]; rfl))
  have HOS := hid (show (fcells zF nS).toArray.size = (fcells f va).length by rw [fcells_length _ _ HTL.out]; rfl)
  obtain ⟨FF, HFF⟩ : ∃ L, Hid (fcells f va = L) := ⟨_, rfl⟩
  rw [HFF.out] at HSZ HON HOS ⊢
  clear hoa hb1 HDE HK0 HB0 HN0 eV c0 HZ
  go_upto_region 2 with (first
    | (refine al_row (by rfl) 65 (by rfl) _ zeroFrame ?_)
    | (refine st_row (by rfl) 65 _ _ (by rfl) w1.heap.size FF (by rfl) (by rfl) 65 _ (hp_two w1 _ _).1 HSZ.out HOS.out HON.out ?_; intro w2 hw2)
    | (refine st_row (by rfl) 30 _ _ (by rfl) (w1.heap.size + 1) [Value.int .i64 E1, .int .i64 E2] (by rfl) (by rfl) 30 _ (gb_keep hw2.grown (hp_two w1 _ _).2 (by omega)) faultSize rfl (fault_one _ _) ?_; intro w3 hw3))
  have HA := hid (gb_keep hw3.grown hw2.blk (by omega))
  have HT := hid hw3.blk
  have HQ3 := hid (Below.of_gb (Below.of_gb (below_walk2 w1 (.cells (fcells zF nS).toArray 65) (.cells #[.int .i64 0, .int .i64 0] 30)) hw2.grown (Nat.le_refl _)) hw3.grown (by omega))
  have HB3 := hid (below_then HB1.out HQ3.out)
  have HK3 := hid (HK1.out.below HQ3.out)
  have HN3 := hid (bel_keep HQ3.out HN1.out)
  have HOA3 := hid (own_below HOA.out HQ3.out)
  have HSL := hid (hp_lt HN1.out)
  obtain ⟨B, HBe⟩ : ∃ n, Hid (w1.heap.size = n) := ⟨_, rfl⟩
  rw [HBe.out] at HA HT HSL ⊢
  clear hw2 hw3 HB1 HQ3 HK1 HN1 HOA
  have t0 : w3.cell? ⟨B + 1, 0, none⟩ = some (.int .i64 E1) := by simp [World.cell?, HT.out]
  have t1 : w3.cell? ⟨B + 1, 1, none⟩ = some (.int .i64 E2) := by simp [World.cell?, HT.out]
  have HG3 := hid (Gd.below (Gd.refl w b (.slice av L cv)) HB3.out)
  by_cases hE : E1 = 0
  · as_aux_lemma =>
      subst hE
      go_wp2_with fail
      refine (kdrop_any HK3.out).mono ?_
      rintro e w4 ⟨rfl, hk4, hg4⟩
      have c2 := hk4.c2
      have z2 := hk4.fz 2
      obtain ⟨W1, HW1⟩ : ∃ n : Nat, Hid (wh + 1 = n) := ⟨_, rfl⟩
      have hw1 : IntKind.i64.wrap ((wh : Int) + 1) = (W1 : Int) := by rw [IntKind.wrap_i64]; have := HW1.out; omega
      have HK5 := hid (hk4.setWhole W1)
      have HG4 := hid (hg4.trans (Gd.set w4 b 2 (.int .i64 (W1 : Int)) (.slice none 0 0)))
      have HW4 := hid (Gd.after HB3.out HG4.out)
      have HA5 := hid ((HG4.out.block B (hp_lt HA.out) (by have := HSL.out; have := HLT.out; omega) (fun e => by have := HVL.out _ e; have := HSL.out; omega)).trans HA.out)
      have HN5 := hid ((HG4.out.block A (hp_lt HN3.out) (by have := HLT.out; omega) (fun e => by have := HVL.out _ e; omega)).trans HN3.out)
      have HOA5 := hid (own_kb HOA3.out HG4.out HK3.out (by decide) (by decide))
      clear hk4 hg4
      go_upto_region 7 with fail
      generalize w4.setCell ⟨b, 2, none⟩ (.int .i64 (W1 : Int)) = w5 at HK5 HG4 HW4 HA5 HN5 HOA5 ⊢
      go_wp2_with (first
        | (refine ld_row (by rfl) 65 (.tmp 6) (by rfl) B (by rfl) FF 65 HA5.out _ Tryz.underlying65 rfl HSZ.out ?_)
        | (refine st_row (by rfl) 65 _ _ (by rfl) A FF (by rfl) (by rfl) 65 _ HN5.out HSZ.out HOS.out HON.out ?_; intro wz hwz))
      refine ret_row2 4 5 65 rfl A rfl FF 65 hwz.blk _ Tryz.underlying65 rfl HSZ.out _ rfl rfl ?_
      try rw [if_pos rfl]
      rw [HW1.out]
      refine ⟨va, by rw [HFF.out]; rfl, own_le (own_far HOA5.out hwz.grown (by omega)) (by have := HAA.out; omega), HK5.out.far hwz.grown (by have := HLT.out; omega) (fun k e => by cases e), HW4.out.fresh hwz.grown (by have := HAA.out; omega)⟩
  · as_aux_lemma =>
      have q1 : (E1 != 0) = true := by simpa using hE
      obtain ⟨D, HD⟩ : ∃ d : Int, Hid (IntKind.i64.wrap (beg + E2) = d) := ⟨_, rfl⟩
      have hwD : IntKind.i64.wrap (beg + E2) = D := HD.out
      go_upto_region 4 with (first
        | (refine bd_row (by rfl) 30 #[(0, .tmp 22), (1, .tmp 26)] (by rfl) _ (by simp [Act.eval]) _ (built_ft _ _) ?_)
        | (refine st_fault (by rfl) _ _ (by rfl) HK3.out E1 D (by rfl) (by rfl) ?_; intro w5 hk5 hg5))
      have HK5 := hid hk5
      have HG5 := hid (Gd.after HB3.out hg5)
      have HN5 := hid ((hg5.block A (hp_lt HN3.out) (by have := HLT.out; omega) (fun e => by have := HVL.out _ e; omega)).trans HN3.out)
      clear hk5 hg5
      go_wp2_with (first
        | (refine bd_row (by rfl) 65 #[] (by rfl) _ (by simp) _ built_zf ?_)
        | (refine st_row (by rfl) 65 _ _ (by rfl) A (fcells zF nS) (by rfl) (by rfl) 65 _ HN5.out (frame_size zF nS rfl) rfl (fcells_one zF nS rfl) ?_; intro wz hwz))
      refine ret_row2 4 5 65 rfl A rfl (fcells zF nS) 65 hwz.blk _ Tryz.underlying65 rfl (frame_size zF nS rfl) _ rfl rfl ?_
      try rw [if_neg hE]
      try rw [HD.out]
      exact ⟨rfl, HK5.out.far hwz.grown (by have := HLT.out; omega) (fun k e => by have := HVL.out k e; omega), HG5.out.fresh hwz.grown (by have := HAA.out; omega)⟩
theorem kopen_ok (h : Kb w base b v r ca wh lg 0 0) (beg : Int) (hl : r.length ≤ 140737488355327) (hw : wh ≤ 4611686018427387904) (h0 : (decP r).2.1 = 0) :
    Calls Tryz.prog 59 #[.pointer (some ⟨b, 0, none⟩), .int .i64 beg] w fun e w' => ∃ va, e = .returned (.tuple #[.agg (fcells (decP r).1 va).toArray, .bool true]) ∧ WOwnS w' w.heap.size va (decP r).1.args ∧ Kb w' base b (.slice none 0 0) [] ca (wh + 1) lg 0 0 ∧ Gd w w' b v (.slice none 0 0) :=
  (kopen_any h beg hl hw).mono (fun e w' k => by unfold OpenP at k; rwa [if_pos h0] at k)
theorem kopen_bad (h : Kb w base b v r ca wh lg 0 0) (beg : Int) (hl : r.length ≤ 140737488355327) (hw : wh ≤ 4611686018427387904) (h0 : ¬ (decP r).2.1 = 0) :
    Calls Tryz.prog 59 #[.pointer (some ⟨b, 0, none⟩), .int .i64 beg] w fun e w' => e = .returned (.tuple #[.agg (fcells zF nS).toArray, .bool false]) ∧ Kb w' base b v r ca wh lg (decP r).2.1 (IntKind.i64.wrap (beg + (decP r).2.2)) ∧ Gd w w' b v v :=
  (kopen_any h beg hl hw).mono (fun e w' k => by unfold OpenP at k; rwa [if_neg h0] at k)
end
end Go.Proofs.YtiibhccbbpgehabGreat

/- A decoder takes as many bytes as it wants at least. -/
namespace Go.Proofs.YtiibhccbbpgehabGreat
open Go.RowKit Go.BigFrame

/-- block b is a decoder that New gave, for bodies of at most M bytes, and stands so -/
structure Sd (w : World) (base b : Nat) (v : Value) (M : Nat) (s : Sx) : Prop where
  kb : Kb w base b v s.r s.came s.whole (lngP M) s.why s.wat
  good : Gs M s
  one : 1 ≤ M
  big : M ≤ 2097152
section
variable {w w' : World} {base b : Nat} {v : Value} {M : Nat} {s : Sx}
theorem Sd.below (h : Sd w base b v M s) (hb : Below w.heap.size w w') : Sd w' base b v M s := ⟨h.kb.below hb, h.good, h.one, h.big⟩
theorem Sd.drew (h : Sd w base b v M s) (n : Nat) : Sd (w.drewN n) base b v M s := ⟨h.kb.drew n, h.good, h.one, h.big⟩
theorem Sd.low (h : Sd w base b v M s) {v' : Value} (g : Gd w w' b v v') : Below base w w' := h.kb.low g
theorem Sd.few (h : Sd w base b v M s) : s.r.length ≤ 3000000 := by have := h.good.few; have := h.big; omega
theorem Sd.far {n : Nat} (h : Sd w base b v M s) (hg : w.grownBy w' (some n)) (hb : b ≠ n) (hv : ∀ k, v.ownBlock = some k → k ≠ n) : Sd w' base b v M s := ⟨h.kb.far hg hb hv, h.good, h.one, h.big⟩

def hdF (l : List Fr) : Fr := l.headD zF

set_option maxRecDepth 100000 in
set_option maxHeartbeats 8000000 in
theorem ktake_any (h : Sd w base b v M s) (h0 : s.why = 0) (vx : Value) (X : List UInt8) (hx : Src w vx X) (hX : X ≠ []) (hl : X.length ≤ lackP s.r) (hc : s.came + X.length ≤ 4611686018427387904) :
    Calls Tryz.prog 43 #[.pointer (some ⟨b, 0, none⟩), vx] w fun e w' => ∃ va v', e = .returned (.tuple #[.agg (fcells (hdF (takeC M s X).2) va).toArray, .bool (!(takeC M s X).2.isEmpty)]) ∧
      WOwnS w' w.heap.size va (hdF (takeC M s X).2).args ∧ Sd w' base b v' M (takeC M s X).1 ∧ Gd w w' b v v' := by
  have HGD := hid (takeC_good h.good h0 X hX hl)
  have HONE := hid h.one
  have HBIG := hid h.big
  have HFEW := hid (lack_le h.good h0)
  have HLE := hid h.good.le
  have HWL := hid h.good.wl
  obtain ⟨r, ca, wh, y, t, szs⟩ := s
  have ht := (h.good.ok h0).1
  simp only at h0 ht hc hl HFEW HLE HWL
  subst h0 ht
  have hK := h.kb
  simp only at hK
  have HKG : Hid (∀ (W : World) (u : Value), Kb W base b u (takeC M ⟨r, ca, wh, 0, 0, szs⟩ X).1.r (takeC M ⟨r, ca, wh, 0, 0, szs⟩ X).1.came (takeC M ⟨r, ca, wh, 0, 0, szs⟩ X).1.whole (lngP M) (takeC M ⟨r, ca, wh, 0, 0, szs⟩ X).1.why (takeC M ⟨r, ca, wh, 0, 0, szs⟩ X).1.wat → Sd W base b u M (takeC M ⟨r, ca, wh, 0, 0, szs⟩ X).1) := hid (fun _ _ k => ⟨k, HGD.out, HONE.out, HBIG.out⟩)
  have HTC : Hid (takeC M ⟨r, ca, wh, 0, 0, szs⟩ X = if lngP M < (needP (r ++ X)).1 then (⟨r ++ X, ca + X.length, wh, 3, (ca : Int) - (r.length : Int), szs⟩, []) else if (needP (r ++ X)).2.2 ≠ 0 then (⟨r ++ X, ca + X.length, wh, ((needP (r ++ X)).2.2 : Int), (ca : Int) - (r.length : Int), szs⟩, [])
      else if (needP (r ++ X)).1 = 0 ∨ (r ++ X).length < (needP (r ++ X)).1 then (⟨r ++ X, ca + X.length, wh, 0, 0, szs⟩, []) else if (decP (r ++ X)).2.1 ≠ 0 then (⟨r ++ X, ca + X.length, wh, (decP (r ++ X)).2.1, IntKind.i64.wrap ((ca : Int) - (r.length : Int) + (decP (r ++ X)).2.2), szs⟩, [])
      else (⟨[], ca + X.length, wh + 1, 0, 0, szs ++ [(r ++ X).length]⟩, [(decP (r ++ X)).1])) := hid (by
    unfold takeC
    simp only [needM_long]
    by_cases g1 : lngP M < (needP (r ++ X)).1
    · rw [if_pos g1, if_pos g1, if_pos (by show (3 : Int) ≠ 0; decide)]
    · rw [if_neg g1, if_neg g1]
      by_cases g2 : (needP (r ++ X)).2.2 ≠ 0
      · rw [if_pos g2, if_pos g2, if_pos (by show (((needP (r ++ X)).2.2 : Nat) : Int) ≠ 0; omega)]
      · rw [if_neg g2, if_neg g2, if_neg (by show ¬ (0 : Int) ≠ 0; decide)])
  have HLG := hid (lng_le HBIG.out)
  have HNL := hid (need_le (r ++ X))
  obtain ⟨T, HTT⟩ : ∃ T, Hid (takeC M ⟨r, ca, wh, 0, 0, szs⟩ X = T) := ⟨_, rfl⟩
  rw [HTT.out] at HTC HKG ⊢
  obtain ⟨lg, Hlg⟩ : ∃ n, Hid (lngP M = n) := ⟨_, rfl⟩
  rw [Hlg.out] at HTC HKG HLG hK
  have HB0 := hid (below_walk w (.cells (fcells zF nS).toArray 65))
  have HN0 := hid (hp_new w (.cells (fcells zF nS).toArray 65))
  have HK0 := hid (hK.below HB0.out)
  have HX0 := hid (hx.below HB0.out)
  have HLT := hid hK.lt
  have HVL := hid (fun k e => (World.ownsRow.lt hK.own k e).2)
  obtain ⟨A, HAA⟩ : ∃ n, Hid (w.heap.size = n) := ⟨_, rfl⟩
  obtain ⟨av, cv, rfl⟩ := hK.own.shape
  obtain ⟨ax, cx, rfl⟩ := src_shape hx
  have hxl := hx.1
  have HRX := hid (show (r ++ X).length ≤ 3000000 by rw [List.length_append]; have := HFEW.out; have := HBIG.out; omega)
  obtain ⟨L, HL⟩ : ∃ n, Hid (r.length = n) := ⟨_, rfl⟩
  obtain ⟨LX, HLX⟩ : ∃ n, Hid (X.length = n) := ⟨_, rfl⟩
  rw [HL.out] at HK0 HVL HLE HFEW HTC hK
  rw [HLX.out] at HX0 hc hl hxl HTC
  clear h hK hx HGD
  rw [HL.out, HLX.out]
  go_enter Tryz.func43, Tryz.ntmps43
  go_upto_region 1 with (refine al_row (by rfl) 65 (by rfl) _ zeroFrame ?_)
  generalize w.alloc (.cells (fcells zF nS).toArray 65) = w0 at HB0 HN0 HK0 HX0 ⊢
  rw [HAA.out] at HN0 HLT HVL ⊢
  have c1 := HK0.out.c1
  have HSZ := hid (fun q => ksz_any (HK0.out.drew q))
  have HPU := hid (fun q => kput_any (HK0.out.drew q) _ X (HX0.out.below (w' := w0.drewN q) ⟨rfl, rfl, rfl, Nat.le_refl _, fun _ _ => rfl⟩) (by rw [List.length_append] at HRX; have := HRX.out; omega))
  rw [HL.out] at HSZ
  obtain ⟨D, HD⟩ : ∃ d : Int, Hid ((ca : Int) - (L : Int) = d) := ⟨_, rfl⟩
  have hwD : IntKind.i64.wrap ((ca : Int) - (L : Int)) = D := by rw [HD.out.symm, IntKind.wrap_i64]; have := HLE.out; omega
  rw [HD.out] at HTC
  go_quiet (first | (go_at_call 29; exact Calls.quiet_of_same (HSZ.out _)))
  go_wp2_with fail
  refine (HPU.out _).mono ?_
  rintro e w2 ⟨rfl, v2, hk2, hg2⟩
  have HG2 := hid (Gd.after HB0.out (Gd.after (bel_drw w0 _) hg2))
  have HN2 := hid ((hg2.block A (hp_lt HN0.out) (by have := HLT.out; omega) (fun e => by have := HVL.out _ e; omega)).trans HN0.out)
  have c1' := hk2.c1
  have z1 := hk2.fz 1
  obtain ⟨C, HC⟩ : ∃ d : Nat, Hid (ca + LX = d) := ⟨_, rfl⟩
  have hwC : IntKind.i64.wrap ((ca : Int) + (LX : Int)) = (C : Int) := by rw [IntKind.wrap_i64]; have := HC.out; omega
  have HK3 := hid (hk2.setCame C)
  have HG3 := hid (HG2.out.trans (Gd.set w2 b 1 (.int .i64 (C : Int)) v2))
  have HN3 := hid ((Below.heap_setCell w2 ⟨b, 1, none⟩ (.int .i64 (C : Int)) A (by have := HLT.out; simp; omega)).trans HN2.out)
  have HV2 := hid (fun k (e : v2.ownBlock = some k) => (show k ≠ A from fun e2 => by
    subst e2
    exact own_block hk2.own HN2.out (by decide) e))
  obtain ⟨a2, n2, e2⟩ := hk2.own.shape
  clear HPU HSZ hk2 hg2 HN2 HG2 c1
  obtain ⟨P, HP⟩ : ∃ p, Hid (r ++ X = p) := ⟨_, rfl⟩
  rw [HP.out] at HTC HNL HRX HK3 e2
  subst e2
  obtain ⟨LP, HLP⟩ : ∃ n, Hid (P.length = n) := ⟨_, rfl⟩
  rw [HLP.out] at HTC HRX HK3 HV2 HG3
  rw [HC.out] at HTC
  go_upto_region 4 with fail
  try rw [HP.out, HLP.out]
  generalize w2.setCell ⟨b, 1, none⟩ (.int .i64 (C : Int)) = w3 at HK3 HG3 HN3 ⊢
  have c0 := HK3.out.c0
  have HNE := hid (need_any _ P w3 (HK3.out.own.src (by rw [HLP.out]; have := HRX.out; omega)))
  obtain ⟨n, Hn⟩ : ∃ n, Hid ((needP P).1 = n) := ⟨_, rfl⟩
  obtain ⟨E, HE⟩ : ∃ n, Hid ((needP P).2.2 = n) := ⟨_, rfl⟩
  rw [Hn.out, HE.out] at HNE HTC
  rw [Hn.out] at HNL
  go_wp2_with fail
  refine HNE.out.mono ?_
  rintro e w4 ⟨rfl, hb4⟩
  have HK4 := hid (HK3.out.below hb4)
  have HN4 := hid (bel_keep hb4 HN3.out)
  have HG4 := hid (HG3.out.below hb4)
  have c3 := HK4.out.c3
  clear hb4 HNE HK3 HN3 HG3 c0 c1' z1
  -- a fault
  have fin : ∀ (y t : Int), Hid (T = (⟨P, C, wh, y, t, szs⟩, [])) → ∀ (wz : World), Kb wz base b (.slice a2 LP n2) P C wh lg y t → Gd w wz b (.slice av L cv) (.slice a2 LP n2) → ∃ va v', Ending.returned (.tuple #[.agg (fcells zF nS).toArray, .bool false]) = .returned (.tuple #[.agg (fcells (hdF T.2) va).toArray, .bool (!T.2.isEmpty)]) ∧
      WOwnS wz w.heap.size va (hdF T.2).args ∧ Sd wz base b v' M T.1 ∧ Gd w wz b (.slice av L cv) v' := by
    intro y t hT wz hk hg
    have hkg := HKG.out wz (.slice a2 LP n2)
    rw [hT.out] at hkg ⊢
    exact ⟨nS, _, rfl, World.ownsRow_nil _ _ _ _, hkg hk, hg⟩
  have FIN := hid fin
  clear fin
  by_cases g1 : lg < n
  · as_aux_lemma =>
      rw [if_pos g1] at HTC
      have q1 : (lg : Int) < (n : Int) := by omega
      have q2 : decide ((lg : Int) < (n : Int)) = true := decide_eq_true q1
      go_upto_region 9 with (first
        | (refine bd_row (by rfl) 30 #[(0, .tmp 53), (1, .tmp 54)] (by rfl) _ (by simp [Act.eval]) _ (built_ft _ _) ?_)
        | (refine st_fault (by rfl) _ _ (by rfl) HK4.out 3 D (by rfl) (by rfl) ?_; intro w5 hk5 hg5))
      have HK5 := hid hk5
      have HG5 := hid (HG4.out.trans hg5)
      have HN5 := hid ((hg5.block A (hp_lt HN4.out) (by have := HLT.out; omega) (fun e => HV2.out _ e rfl)).trans HN4.out)
      clear hk5 hg5
      go_wp2_with (first
        | (refine bd_row (by rfl) 65 #[] (by rfl) _ (by simp) _ built_zf ?_)
        | (refine st_row (by rfl) 65 _ _ (by rfl) A (fcells zF nS) (by rfl) (by rfl) 65 _ HN5.out (frame_size zF nS rfl) rfl (fcells_one zF nS rfl) ?_; intro wz hwz))
      refine ret_row2 4 5 65 rfl A rfl (fcells zF nS) 65 hwz.blk _ Tryz.underlying65 rfl (frame_size zF nS rfl) _ rfl rfl ?_
      exact FIN.out 3 D HTC wz (HK5.out.far hwz.grown (by have := HLT.out; omega) (fun k e => HV2.out k e)) (HG5.out.fresh hwz.grown (by have := HAA.out; omega))
  · rw [if_neg g1] at HTC
    have q1 : ¬ (lg : Int) < (n : Int) := by omega
    have q2 : decide ((lg : Int) < (n : Int)) = false := decide_eq_false q1
    by_cases g2 : E ≠ 0
    · as_aux_lemma =>
        rw [if_pos g2] at HTC
        have q3 : ((E : Int) != 0) = true := by simp; omega
        have q4 : ¬ (E : Int) = 0 := by omega
        go_upto_region 9 with (first
          | (refine bd_row (by rfl) 30 #[(0, .tmp 53), (1, .tmp 54)] (by rfl) _ (by simp [Act.eval]) _ (built_ft _ _) ?_)
          | (refine st_fault (by rfl) _ _ (by rfl) HK4.out (E : Int) D (by rfl) (by rfl) ?_; intro w5 hk5 hg5))
        have HK5 := hid hk5
        have HG5 := hid (HG4.out.trans hg5)
        have HN5 := hid ((hg5.block A (hp_lt HN4.out) (by have := HLT.out; omega) (fun e => HV2.out _ e rfl)).trans HN4.out)
        clear hk5 hg5
        go_wp2_with (first
          | (refine bd_row (by rfl) 65 #[] (by rfl) _ (by simp) _ built_zf ?_)
          | (refine st_row (by rfl) 65 _ _ (by rfl) A (fcells zF nS) (by rfl) (by rfl) 65 _ HN5.out (frame_size zF nS rfl) rfl (fcells_one zF nS rfl) ?_; intro wz hwz))
        refine ret_row2 4 5 65 rfl A rfl (fcells zF nS) 65 hwz.blk _ Tryz.underlying65 rfl (frame_size zF nS rfl) _ rfl rfl ?_
        exact FIN.out (E : Int) D HTC wz (HK5.out.far hwz.grown (by have := HLT.out; omega) (fun k e => HV2.out k e)) (HG5.out.fresh hwz.grown (by have := HAA.out; omega))
    · rw [if_neg g2] at HTC
      obtain rfl : E = 0 := by omega
      by_cases g3 : n = 0 ∨ LP < n
      · rw [if_pos g3] at HTC
        by_cases g4 : n = 0
        · as_aux_lemma =>
            subst g4
            go_wp2_with (first
              | (refine bd_row (by rfl) 65 #[] (by rfl) _ (by simp) _ built_zf ?_)
              | (refine st_row (by rfl) 65 _ _ (by rfl) A (fcells zF nS) (by rfl) (by rfl) 65 _ HN4.out (frame_size zF nS rfl) rfl (fcells_one zF nS rfl) ?_; intro wz hwz))
            refine ret_row2 4 5 65 rfl A rfl (fcells zF nS) 65 hwz.blk _ Tryz.underlying65 rfl (frame_size zF nS rfl) _ rfl rfl ?_
            exact FIN.out 0 0 HTC wz (HK4.out.far hwz.grown (by have := HLT.out; omega) (fun k e => HV2.out k e)) (HG4.out.fresh hwz.grown (by have := HAA.out; omega))
        · as_aux_lemma =>
            have q3 : ((n : Int) == 0) = false := by simp; omega
            have q4 : ¬ (n : Int) = 0 := by omega
            have q5 : (LP : Int) < (n : Int) := by omega
            have q6 : decide ((LP : Int) < (n : Int)) = true := decide_eq_true q5
            have HSZ := hid (ksz_any HK4.out)
            rw [HLP.out] at HSZ
            go_wp2_with fail
            refine HSZ.out.mono ?_
            rintro e w5 ⟨rfl, hw5⟩
            subst hw5
            go_wp2_with (first
              | (refine bd_row (by rfl) 65 #[] (by rfl) _ (by simp) _ built_zf ?_)
              | (refine st_row (by rfl) 65 _ _ (by rfl) A (fcells zF nS) (by rfl) (by rfl) 65 _ HN4.out (frame_size zF nS rfl) rfl (fcells_one zF nS rfl) ?_; intro wz hwz))
            refine ret_row2 4 5 65 rfl A rfl (fcells zF nS) 65 hwz.blk _ Tryz.underlying65 rfl (frame_size zF nS rfl) _ rfl rfl ?_
            exact FIN.out 0 0 HTC wz (HK4.out.far hwz.grown (by have := HLT.out; omega) (fun k e => HV2.out k e)) (HG4.out.fresh hwz.grown (by have := HAA.out; omega))
      · rw [if_neg g3] at HTC
        have q3 : ((n : Int) == 0) = false := by simp; omega
        have q4 : ¬ (n : Int) = 0 := by omega
        have q5 : ¬ (LP : Int) < (n : Int) := by omega
        have q6 : decide ((LP : Int) < (n : Int)) = false := decide_eq_false q5
        have HSZ := hid (ksz_any HK4.out)
        rw [HLP.out] at HSZ
        have HOK := hid (kopen_ok HK4.out D (by rw [HLP.out]; have := HRX.out; omega) (by have := HWL.out; omega))
        have HBD := hid (kopen_bad HK4.out D (by rw [HLP.out]; have := HRX.out; omega) (by have := HWL.out; omega))
        have HTL := hid (dec_tool P)
        obtain ⟨f, HF⟩ : ∃ f, Hid ((decP P).1 = f) := ⟨_, rfl⟩
        obtain ⟨E1, HE1⟩ : ∃ f, Hid ((decP P).2.1 = f) := ⟨_, rfl⟩
        obtain ⟨E2, HE2⟩ : ∃ f, Hid ((decP P).2.2 = f) := ⟨_, rfl⟩
        rw [HF.out, HE1.out, HE2.out] at HTC
        rw [HF.out, HE1.out] at HOK
        rw [HE1.out, HE2.out] at HBD
        rw [HF.out] at HTL
        go_wp2_with fail
        refine HSZ.out.mono ?_
        rintro e w5 ⟨rfl, hw5⟩
        subst hw5
        by_cases g4 : E1 = 0
        · as_aux_lemma =>
            have HOP := hid (HOK.out g4)
            clear HOK HBD
            subst g4
            rw [if_neg (by simp)] at HTC
            go_wp2_with fail
            refine HOP.out.mono ?_
            rintro e w6 ⟨va, rfl, hoa, hk6, hg6⟩
            have HN6 := hid ((hg6.block A (hp_lt HN4.out) (by have := HLT.out; omega) (fun e => HV2.out _ e rfl)).trans HN4.out)
            have HK6 := hid hk6
            have HG6 := hid (HG4.out.trans hg6)
            have HOA := hid hoa
            have HW4 := hid (hp_lt HN4.out)
            obtain ⟨aV, cV, eV⟩ := wowns_shape hoa
            have HSY := hid (frame_size f va HTL.out)
            have HON := hid (fcells_one f va (by rw [eV]; rfl))
            have HOS := hid (show (fcells zF nS).toArray.size = (fcells f va).length by rw [fcells_length _ _ HTL.out]; rfl)
            have HKG2 := hid HKG.out
            rw [HTC.out] at HKG2
            obtain ⟨FF, HFF⟩ : ∃ L, Hid (fcells f va = L) := ⟨_, rfl⟩
            rw [HFF.out] at HSY HON HOS ⊢
            clear hk6 hg6 hoa HOP eV
            go_wp2_with (first
              | (refine st_row (by rfl) 65 _ _ (by rfl) A FF (by rfl) (by rfl) 65 _ HN6.out HSY.out HOS.out HON.out ?_; intro wz hwz))
            refine ret_row2 4 5 65 rfl A rfl FF 65 hwz.blk _ Tryz.underlying65 rfl HSY.out _ rfl rfl ?_
            rw [HTC.out]
            refine ⟨va, _, by rw [← HFF.out]; rfl, own_le (own_far HOA.out hwz.grown HW4.out) (by have := HAA.out; have := HW4.out; omega), HKG2.out _ _ (HK6.out.far hwz.grown (by have := HLT.out; omega) (fun k e => by cases e)), HG6.out.fresh hwz.grown (by have := HAA.out; omega)⟩
        · as_aux_lemma =>
            rw [if_pos (by simpa using g4)] at HTC
            go_wp2_with fail
            refine (HBD.out g4).mono ?_
            rintro e w6 ⟨rfl, hk6, hg6⟩
            have HN6 := hid ((hg6.block A (hp_lt HN4.out) (by have := HLT.out; omega) (fun e => HV2.out _ e rfl)).trans HN4.out)
            have HK6 := hid hk6
            have HG6 := hid (HG4.out.trans hg6)
            clear hk6 hg6 HOK HBD
            go_wp2_with (first
              | (refine st_row (by rfl) 65 _ _ (by rfl) A (fcells zF nS) (by rfl) (by rfl) 65 _ HN6.out (frame_size zF nS rfl) rfl (fcells_one zF nS rfl) ?_; intro wz hwz))
            refine ret_row2 4 5 65 rfl A rfl (fcells zF nS) 65 hwz.blk _ Tryz.underlying65 rfl (frame_size zF nS rfl) _ rfl rfl ?_
            exact FIN.out _ _ HTC wz (HK6.out.far hwz.grown (by have := HLT.out; omega) (fun k e => HV2.out k e)) (HG6.out.fresh hwz.grown (by have := HAA.out; omega))
end
end Go.Proofs.YtiibhccbbpgehabGreat

/- A decoder takes bytes until so many frames are whole. -/
namespace Go.Proofs.YtiibhccbbpgehabGreat
open Go.RowKit Go.BigFrame

/-- how a slice is cut on both sides -/
theorem cut_range {w : World} {v : Value} {bs : List UInt8} (h : Src w v bs) (i j : Nat) (hij : i ≤ j) (hj : j ≤ bs.length) :
    ∃ vx, Src w vx ((bs.drop i).take (j - i)) ∧ (∀ k, vx.ownBlock = some k → v.ownBlock = some k) ∧ (∀ W, (Instr.sliceAt 22 v (some (.int .i64 (i : Int))) (some (.int .i64 (j : Int))) none).run Tryz.prog W = .ok vx W) := by
  obtain ⟨hl, ⟨rfl, rfl⟩ | ⟨ad, cap, rfl, h1, h2, hlt, hc⟩⟩ := h
  · simp at hj
    subst hj
    obtain rfl : i = 0 := by omega
    exact ⟨.slice none 0 0, ⟨by simp, Or.inl ⟨rfl, rfl⟩⟩, fun k e => e, fun W => by go_simp⟩
  · have hlen : ((bs.drop i).take (j - i)).length = j - i := by simp; omega
    have hi2 : (i : Int) ≤ (j : Int) := by omega
    have hj2 : (j : Int) ≤ (cap : Int) := by omega
    refine ⟨.slice (if cap = i then some ad else some (ad.add i)) (j - i) (cap - i), ⟨by omega, Or.inr ?_⟩, fun k e => ?_, fun W => ?_⟩
    · by_cases hck : cap = i
      · rw [if_pos hck]
        refine ⟨ad, cap - i, by rw [hlen], by omega, by unfold maxLen at *; omega, fun h => by rw [hlen] at h; omega, fun q hq => by rw [hlen] at hq; omega⟩
      · rw [if_neg hck]
        refine ⟨ad.add i, cap - i, by rw [hlen], by omega, by unfold maxLen at *; omega, fun h => ?_, fun q hq => ?_⟩
        · rw [addr_block]
          exact hlt (by rw [hlen] at h; omega)
        · rw [hlen] at hq
          have e : (ad.add i).add q = ad.add (i + q) := by simp [Addr.add]; split <;> split <;> simp_all <;> omega
          rw [e, hc (i + q) (by omega)]
          simp [List.getD_eq_getElem?_getD, hq]
    · by_cases hck : cap = i
      · rw [if_pos hck] at e; exact e
      · rw [if_neg hck] at e
        simpa [Value.ownBlock, addr_block] using e
    · go_simp

/-- a slice literal of one frame -/
theorem bs_frame {w : World} {ops : Array Oper} {rest : List Oper} {o : Oper} {a : Act} {Q : Exit → Act → World → Prop} (hg : o.guard = none) (x : Operand) (ho : o.op = .buildSlice 28 1 #[(0, x)])
    (cs : List Value) (hx : a.eval x = .agg cs.toArray) (hl : cs.length = 42) (g : Nat) (hg2 : w.heap.size = g)
    (h : wpList Tryz.prog ops Q rest (a.put o.dst (.slice (some ⟨g, 0, none⟩) 1 1)) (w.alloc (.cells cs.toArray 65))) : wpList Tryz.prog ops Q (o :: rest) a w := by
  subst hg2
  obtain ⟨i0, hi, hz0, hz1, hz2⟩ := info_parts Tryz.infoFrame
  refine wpList_buildSlice hg 28 65 1 #[(0, x)] ho cs.toArray i0 _ Tryz.underlying28 hi hz0 (by rw [hz1]; decide) (by rw [hz1]; decide) ?_ h
  rw [hz1]
  have e : (#[(0, x)].map fun (i, x) => (i, a.eval x)).toList = (([Value.agg cs.toArray]).zipIdx 0).map fun x => (x.2, x.1) := by simp [hx]
  rw [e, Great.fill_whole (s := 42) (by decide) [Value.agg cs.toArray] _ (by intro v hv; simp at hv; subst hv; simpa [Value.cells] using hl) (by simp)]
  simp [Value.cells]
/-- one frame in a new row -/
theorem frs_one (w : World) (f : Fr) (va : Value) (hr : Rng f) (hs : Strs w va f.args) : Frs (w.alloc (.cells (fcells f va).toArray 65)) (.slice (some ⟨w.heap.size, 0, none⟩) 1 1) [(f, va)] := by
  refine Or.inr ⟨w.heap.size, 0, 1, rfl, by simp, fun j hj => ?_⟩
  simp at hj
  subst hj
  refine ⟨fun i u hu => ?_, hs.below (below_walk w _), hr⟩
  rw [show 0 + 0 * 42 + i = i by omega, cell_of_row _ _ i _ _ _ (hp_new w _)]
  simpa using hu
section
variable {w w' : World} {base b : Nat} {v : Value} {M : Nat} {s : Sx}
theorem OFs.sd {lo : Nat} {vo v' : Value} {fs : List FV} (h : OFs w lo vo fs) (g : Gd w w' b v v') (k : Sd w base b v M s) : OFs w' lo vo fs := h.gd g k.kb.blk k.kb.own

theorem Gd.newer {w1 w2 : World} {vg v1 : Value} (h : Gd w w1 b v v1) (g : w1.grownBy w2 vg.ownBlock) (hn : ∀ k, vg.ownBlock = some k → w.heap.size ≤ k) : Gd w w2 b v v1 :=
  ⟨g.os.trans h.os, g.tape.trans h.tape, g.output.trans h.output, Nat.le_trans h.size g.size,
    fun k hk hb hv => (g.block k (Nat.lt_of_lt_of_le hk h.size) (fun e => by have := hn k e.symm; omega)).trans (h.block k hk hb hv), h.lies⟩
/-- a row of frames grew -/
theorem Sd.apart {lo : Nat} {vg : Value} {fs : List FV} (h : Sd w base b v M s) (g : w.grownBy w' vg.ownBlock) (k : OFs w lo vg fs) : Sd w' base b v M s := by
  refine ⟨⟨h.kb.lo, (g.block b h.kb.lt (fun e => own_block k.own h.kb.blk (by decide) e.symm)).trans h.kb.blk, h.kb.own.kept g ?_⟩, h.good, h.one, h.big⟩
  cases hk : v.ownBlock with
  | none => exact Or.inl rfl
  | some j => exact Or.inr (fun e => own_apart h.kb.own k.own (by decide) hk e.symm)
theorem takeC_hd (M : Nat) (s : Sx) (X : List UInt8) (va : Value) : (if (takeC M s X).2.isEmpty then ([] : List FV) else [(hdF (takeC M s X).2, va)]).map (·.1) = (takeC M s X).2 := by
  unfold takeC
  repeat' split
  all_goals first | rfl | (rename_i h; simp at h)
theorem takeC_rng (M : Nat) (s : Sx) (X : List UInt8) (hl : (s.r ++ X).length ≤ 140737488355327) (hm : (hdF (takeC M s X).2).args.length ≤ 9223372036854775807) : Rng (hdF (takeC M s X).2) := by
  have hz : Rng zF := by
    have := dec_rng [] (by simp) (by show (decP []).1.args.length ≤ _; rw [dec_none [] (by decide)]; simp [zF])
    rwa [dec_none [] (by decide)] at this
  unfold takeC at hm ⊢
  by_cases h1 : (needM M (s.r ++ X)).2 ≠ 0
  · rw [if_pos h1]; exact hz
  · rw [if_neg h1] at hm ⊢
    by_cases h2 : (needM M (s.r ++ X)).1 = 0 ∨ (s.r ++ X).length < (needM M (s.r ++ X)).1
    · rw [if_pos h2]; exact hz
    · rw [if_neg h2] at hm ⊢
      by_cases h3 : (decP (s.r ++ X)).2.1 ≠ 0
      · rw [if_pos h3]; exact hz
      · rw [if_neg h3] at hm ⊢
        exact dec_rng _ hl hm

/-- what takeUntil answers: frames of their own, how many bytes; the decoder stands so -/
def UntP (w : World) (base b : Nat) (v : Value) (M : Nat) (a : Ra) (e : Ending) (w' : World) : Prop :=
  ∃ vl v' fs, e = .returned (.tuple #[vl, .int .i64 (a.2.2 : Nat)]) ∧ OFs w' w.heap.size vl fs ∧ Sd w' base b v' M a.1 ∧ Gd w w' b v v' ∧ fs.map (·.1) = a.2.1

set_option maxRecDepth 100000 in
set_option maxHeartbeats 8000000 in
theorem kuntil_any (h : Sd w base b v M s) (n : Int) (vx : Value) (bs : List UInt8) (hx : ∀ W vd, Gd w W b v vd → Src W vx bs) (hc : s.came + bs.length ≤ 4611686018427387904) (hbl : bs.length ≤ 900000000000) :
    Calls Tryz.prog 24 #[.pointer (some ⟨b, 0, none⟩), .int .i64 n, vx] w (UntP w base b v M (runP M (fun j => decide (n ≤ (j : Int))) (s, [], 0) bs)) := by
  obtain ⟨q, Hq⟩ : ∃ q : Nat → Bool, Hid ((fun j : Nat => decide (n ≤ (j : Int))) = q) := ⟨_, rfl⟩
  rw [Hq.out]
  have HX := hid hx
  have H := hid h
  obtain ⟨ax, cx, rfl⟩ := src_shape (hx w v (Gd.refl _ _ _))
  clear h hx
  go_enter Tryz.func24, Tryz.ntmps24
  go_wp2
  go_loopw [8, 9] (fun vl vi wr => ∃ (K : Nat) (vd : Value) (fs : List FV) (a : Ra), K ≤ bs.length ∧ vi = .int .i64 K ∧ Hid (runP M q (s, [], 0) (bs.take K) = a) ∧ Hid (a.2.2 = K) ∧ Hid (fs.map (·.1) = a.2.1) ∧ Hid (OFs wr w.heap.size vl fs) ∧ Hid (Sd wr base b vd M a.1) ∧ Hid (Gd w wr b v vd)) (fun _ vi _ => bs.length - (intOf vi).toNat)
  case atStart => exact ⟨0, v, [], (s, [], 0), by omega, rfl, by rw [List.take_zero]; exact runP_nil _ _ _, rfl, rfl, OFs.nil _ _, H.out, Gd.refl _ _ _⟩
  case round =>
    obtain ⟨K, vd, fs, a, hk, rfl, HR, HTK, HFS, HOF, HSD, HGD⟩ := hrel
    obtain ⟨alv, clv, rfl⟩ := HOF.out.shape
    have HFL := hid (show fs.length = a.2.1.length by rw [← HFS.out, List.length_map])
    -- the end
    have FIN : Hid (runP M q a (bs.drop K) = a → UntP w base b v M (runP M q (s, [], 0) bs) (.returned (.tuple #[.slice alv fs.length clv, .int .i64 (K : Int)])) wr) := hid (by
      intro he
      have e : runP M q (s, [], 0) bs = a := by
        conv => lhs; rw [← List.take_append_drop K bs]
        rw [runP_app, HR.out, he]
      rw [e]
      exact ⟨_, vd, fs, by rw [HTK.out], HOF.out, HSD.out, HGD.out, HFS.out⟩)
    by_cases hlt : K < bs.length
    · have q1 : (K : Int) < (bs.length : Int) := by omega
      by_cases hq : n ≤ (fs.length : Int)
      · as_aux_lemma =>
          have q2 : ¬ (fs.length : Int) < n := by omega
          have HE := hid (runP_stop M q a (Or.inl (by rw [← Hq.out, ← HFL.out]; exact decide_eq_true hq)) (bs.drop K))
          go_wp2
          refine bodyPost_ret (results_tmp2 rfl _ _ _) rfl ?_
          exact FIN.out HE.out
      · have q2 : (fs.length : Int) < n := by omega
        have HQF := hid (show q a.2.1.length = false by rw [← Hq.out, ← HFL.out]; exact decide_eq_false hq)
        have HPO := hid (kpois_any HSD.out.kb)
        by_cases hy : a.1.why = 0
        · have q3 : (a.1.why != 0) = false := by simpa using hy
          rw [q3] at HPO
          have HLK := hid (klack_any HSD.out.kb (by have := HSD.out.few; omega) (by
            obtain ⟨_, h1, h2⟩ := HSD.out.good.ok hy
            rw [(needM_ok h1).1] at h2
            rcases h2 with h2 | h2
            · exact Or.inl h2
            · exact Or.inr (by omega)) (need_le _))
          have HLP := hid (lack_pos HSD.out.good hy)
          have HLL := hid (lack_le HSD.out.good hy)
          obtain ⟨lk, Hlk⟩ : ∃ n, Hid (lackP a.1.r = n) := ⟨_, rfl⟩
          rw [Hlk.out] at HLK HLP HLL
          obtain ⟨m, Hm⟩ : ∃ m : Nat, Hid (min lk (bs.length - K) = m) := ⟨_, rfl⟩
          obtain ⟨RM, HRM⟩ : ∃ n : Nat, Hid (bs.length - K = n) := ⟨_, rfl⟩
          obtain ⟨TO, HTO⟩ : ∃ n : Nat, Hid (K + m = n) := ⟨_, rfl⟩
          have hmm : IntKind.i64.wrap ((bs.length : Int) - (K : Int)) = (RM : Int) := by rw [IntKind.wrap_i64]; have := HRM.out; omega
          have hm : min (lk : Int) (RM : Int) = (m : Int) := by have := Hm.out; have := HRM.out; omega
          have hto : IntKind.i64.wrap ((K : Int) + (m : Int)) = (TO : Int) := by rw [IntKind.wrap_i64]; have := HTO.out; have := Hm.out; have := HLL.out; have := HSD.out.big; omega
          have hmp : 1 ≤ m ∧ m ≤ lk ∧ K + m ≤ bs.length := by have := Hm.out; have := HLP.out; omega
          have HSW := hid (HX.out wr vd HGD.out)
          obtain ⟨vp, hp1, _, hp2⟩ := cut_range HSW.out K (K + m) (by omega) hmp.2.2
          rw [show K + m - K = m by omega] at hp1
          rw [HTO.out] at hp2
          obtain ⟨X, HXX⟩ : ∃ X, Hid ((bs.drop K).take m = X) := ⟨_, rfl⟩
          rw [HXX.out] at hp1
          have HXL := hid (show X.length = m by rw [← HXX.out, List.length_take, List.length_drop]; omega)
          have HXN := hid (show X ≠ [] by intro e; have := HXL.out; rw [e] at this; simp at this; omega)
          have HCA := hid (show a.1.came = s.came + K by have := run_came (M := M) (q := q) (bs.take K) (s, [], 0); rw [HR.out, HTK.out] at this; simpa using this)
          have HCH := hid (run_chunk M q X a.1 a.2.1 a.2.2 HSD.out.good hy HXN.out (by rw [HXL.out, Hlk.out]; exact hmp.2.1) HQF.out)
          have HP1 := hid hp1
          clear hp1 FIN
          go_wp2_with fail
          refine HPO.out.mono ?_
          rintro e w1 ⟨rfl, hw1⟩
          subst hw1
          go_wp2_with fail
          refine HLK.out.mono ?_
          rintro e w2 ⟨rfl, hb2⟩
          have HSD2 := hid (HSD.out.below hb2)
          have HGD2 := hid (HGD.out.below hb2)
          have HOF2 := hid (HOF.out.below hb2)
          have HP2 := hid (HP1.out.below hb2)
          clear hb2 HLK HPO HSW
          have HTA := hid (ktake_any HSD2.out hy vp X HP2.out HXN.out (by rw [HXL.out, Hlk.out]; exact hmp.2.1) (by rw [HCA.out, HXL.out]; omega))
          have HFH := hid (takeC_hd M a.1 X)
          have HRG := hid (takeC_rng M a.1 X (by have := HSD2.out.few; rw [List.length_append, HXL.out]; omega))
          have HRN := hid (show runP M q (s, [], 0) (bs.take (K + m)) = ((takeC M a.1 X).1, a.2.1 ++ (takeC M a.1 X).2, K + m) by
            rw [List.take_add, runP_app, HR.out, HXX.out, show a = (a.1, a.2.1, a.2.2) from rfl, HCH.out, HTK.out, HXL.out])
          obtain ⟨T, HT⟩ : ∃ T, Hid (takeC M a.1 X = T) := ⟨_, rfl⟩
          rw [HT.out] at HTA HFH HRG HRN
          obtain ⟨sl, Hsl⟩ : ∃ L, Hid (s.came = L) := ⟨_, rfl⟩
          clear HCH HT
          go_wp2_with fail
          refine HTA.out.mono ?_
          rintro e w3 ⟨va, v3, rfl, hoa, hsd3, hg3⟩
          have HG3 := hid (HGD2.out.trans hg3)
          have HOF3 := hid (HOF2.out.sd hg3 HSD2.out)
          have HSD3 := hid hsd3
          have HOA3 := hid (own_le hoa (base' := w.heap.size) (HGD2.out.size))
          have HRG2 := hid (HRG.out (wowns_len hoa))
          obtain ⟨aV, cV, eV⟩ := wowns_shape hoa
          have HSY := hid (frame_size (hdF T.2) va HRG2.out.tool)
          have HON := hid (fcells_one (hdF T.2) va (by rw [eV]; rfl))
          have HOS := hid (show (fcells zF nS).toArray.size = (fcells (hdF T.2) va).length by rw [fcells_length _ _ HRG2.out.tool]; rfl)
          have HFO := hid (fun W (hW : Strs W va (hdF T.2).args) => frs_one W (hdF T.2) va HRG2.out hW)
          have HMP := hid (HFH.out va)
          obtain ⟨FF, HFF⟩ : ∃ L, Hid (fcells (hdF T.2) va = L) := ⟨_, rfl⟩
          rw [HFF.out] at HSY HON HOS HFO ⊢
          clear hoa hsd3 hg3 HTA HRG HOF2 HGD2 HSD2 HP2 eV
          have HW3 := hid (below_walk w3 (.cells FF.toArray 65))
          have HN4 := hid (hp_new w3 (.cells FF.toArray 65))
          have HSD4 := hid (HSD3.out.below HW3.out)
          have HG4 := hid (HG3.out.below HW3.out)
          have HOF4 := hid (HOF3.out.below HW3.out)
          have HOA4 := hid (own_below HOA3.out HW3.out)
          go_upto_region 6 with (first
            | (refine al_row (by rfl) 65 (by rfl) _ zeroFrame ?_)
            | (refine st_new (by rfl) 65 _ _ (by rfl) FF (by rfl) (by rfl) 65 _ HSY.out HOS.out HON.out ?_))
          obtain ⟨B, HBe⟩ : ∃ n, Hid (w3.heap.size = n) := ⟨_, rfl⟩
          rw [HBe.out] at HN4 ⊢
          generalize w3.alloc (.cells FF.toArray 65) = w4 at HW3 HN4 HSD4 HG4 HOF4 HOA4 ⊢
          clear HSD3 HG3 HOF3 HOA3 HW3
          cases hem : T.2.isEmpty with
          | true =>
            as_aux_lemma =>
              rw [hem, if_pos rfl] at HMP
              have HTN := hid (show T.2 = [] from List.isEmpty_iff.1 hem)
              go_wp2
              refine ⟨⟨K + m, v3, fs, _, hmp.2.2, by rw [HTO.out], HRN.out, rfl, ?_, HOF4.out, HSD4.out, HG4.out⟩, by have := HTO.out; simp [intOf]; omega⟩
              show fs.map (·.1) = a.2.1 ++ T.2
              rw [HFS.out, HTN.out, List.append_nil]
          | false =>
            as_aux_lemma =>
              rw [hem, if_neg (by simp)] at HMP
              have HST4 := hid (wowns_strs HOA4.out)
              have HW4 := hid (below_walk w4 (.cells FF.toArray 65))
              have HF1 := hid (HFO.out w4 HST4.out)
              have HOF5 := hid (HOF4.out.below HW4.out)
              have HOA5 := hid (own_below HOA4.out HW4.out)
              have HSD5 := hid (HSD4.out.below HW4.out)
              have HG5 := hid (HG4.out.below HW4.out)
              have hft : fs.length + 1 ≤ 1000000000000 := by
                have h1 := run_few (M := M) (q := q) (bs.take K) (s, [], 0)
                rw [HR.out, ← HFL.out] at h1
                simp at h1
                omega
              have HSZ4 := hid (show w.heap.size ≤ (w4.alloc (.cells FF.toArray 65)).heap.size from HG5.out.size)
              have HF42 := hid (show FF.length = 42 by rw [← HFF.out, fcells_length _ _ HRG2.out.tool])
              have HEA := hid (show ∀ f ∈ [((hdF T.2, va) : FV)], WOwnS (w4.alloc (.cells FF.toArray 65)) w.heap.size f.2 f.1.args ∧ Rng f.1 by
                intro f hf
                simp at hf
                subst hf
                exact ⟨HOA5.out, HRG2.out⟩)
              obtain ⟨B4, HB4⟩ : ∃ n, Hid (w4.heap.size = n) := ⟨_, rfl⟩
              rw [HB4.out] at HF1
              go_wp2_with (first
                | (refine ld_row (by rfl) 65 (.tmp 11) (by rfl) B (by rfl) FF 65 HN4.out _ Tryz.underlying65 rfl HSY.out ?_)
                | (refine bs_frame (by rfl) (.tmp 50) (by rfl) FF (by rfl) HF42.out B4 HB4.out ?_)
                | (at_builtin; refine app_frs (by rfl) _ _ rfl w.heap.size _ fs rfl HOF5.out [(hdF T.2, va)] _ rfl HF1.out (fun _ e => by cases e) HEA.out hft HSZ4.out ?_))
              intro v6 w6 ho6 hg6 hp6
              have HG6 := hid (HG5.out.newer hg6 (fun k e => (World.ownsRow.lt HOF5.out.own k e).1))
              have HSD6 := hid (HSD5.out.apart hg6 HOF5.out)
              have HO6 := hid ho6
              obtain ⟨a6, c6, e6⟩ := ho6.shape
              clear ho6 hg6 hp6
              have hl6 : (fs ++ [(hdF T.2, va)]).length = fs.length + 1 := by simp
              rw [hl6] at e6
              subst e6
              go_wp2
              refine ⟨⟨K + m, v3, fs ++ [(hdF T.2, va)], _, hmp.2.2, by rw [HTO.out], HRN.out, rfl, ?_, HO6.out, HSD6.out, HG6.out⟩, by have := HTO.out; simp [intOf]; omega⟩
              show (fs ++ [(hdF T.2, va)]).map (·.1) = a.2.1 ++ T.2
              rw [List.map_append, HFS.out, HMP.out]
        · as_aux_lemma =>
            have q3 : (a.1.why != 0) = true := by simpa using hy
            rw [q3] at HPO
            have HE := hid (runP_stop M q a (Or.inr hy) (bs.drop K))
            go_wp2_with fail
            refine HPO.out.mono ?_
            rintro e w1 ⟨rfl, hw1⟩
            subst hw1
            go_wp2
            refine bodyPost_ret (results_tmp2 rfl _ _ _) rfl ?_
            exact FIN.out HE.out
    · obtain rfl : K = bs.length := by omega
      as_aux_lemma =>
        have HE := hid (show runP M q a (bs.drop bs.length) = a by rw [List.drop_length]; rfl)
        go_wp2
        refine bodyPost_ret (results_tmp2 rfl _ _ _) rfl ?_
        exact FIN.out HE.out
end
end Go.Proofs.YtiibhccbbpgehabGreat

/- Feed. -/
namespace Go.Proofs.YtiibhccbbpgehabGreat
open Go.RowKit Go.BigFrame

/-- a slice of slices of bytes: these slices, these bytes -/
def Lsts (w : World) (v : Value) (us : List Value) (pss : List (List UInt8)) : Prop :=
  (∃ ao c, v = .slice ao 0 c ∧ pss = []) ∨ ∃ g o c, v = .slice (some ⟨g, o, none⟩) pss.length c ∧ g < w.heap.size ∧ ∀ j, j < pss.length → w.cell? ⟨g, o + j, none⟩ = some (us.getD j nS) ∧ Src w (us.getD j nS) (pss.getD j [])
theorem Lsts.shape {w : World} {v : Value} {us : List Value} {pss : List (List UInt8)} (h : Lsts w v us pss) : ∃ ao c, v = .slice ao pss.length c := by
  rcases h with ⟨ao, c, rfl, rfl⟩ | ⟨g, o, c, rfl, _⟩
  · exact ⟨_, _, rfl⟩
  · exact ⟨_, _, rfl⟩
theorem Lsts.at {w : World} {ao : Option Addr} {n c : Nat} {us : List Value} {pss : List (List UInt8)} (h : Lsts w (.slice ao n c) us pss) (k : Nat) (hk : k < pss.length) : ∃ g o, ao = some ⟨g, o, none⟩ ∧ w.cell? ⟨g, o + k, none⟩ = some (us.getD k nS) ∧ Src w (us.getD k nS) (pss.getD k []) := by
  rcases h with ⟨_, _, _, rfl⟩ | ⟨g, o, c', e, hlt, hc⟩
  · simp at hk
  · simp only [Value.slice.injEq] at e
    exact ⟨g, o, e.1, hc k hk⟩
theorem Lsts.below {w w' : World} {v : Value} {us : List Value} {pss : List (List UInt8)} (h : Lsts w v us pss) (hb : Below w.heap.size w w') : Lsts w' v us pss := by
  rcases h with h | ⟨g, o, c, hv, hlt, hc⟩
  · exact Or.inl h
  · exact Or.inr ⟨g, o, c, hv, Nat.lt_of_lt_of_le hlt hb.size, fun j hj => ⟨(hb.cell (p := ⟨g, o + j, none⟩) hlt).trans (hc j hj).1, (hc j hj).2.below hb⟩⟩
theorem lists_lsts {w : World} {v : Value} {pss : List (List UInt8)} (h : Lists w v pss) : ∃ us, Lsts w v us pss := by
  rcases h with h | ⟨g, o, c, hv, hlt, hc⟩
  · exact ⟨[], Or.inl h⟩
  · have : ∀ j, ∃ u, j < pss.length → w.cell? ⟨g, o + j, none⟩ = some u ∧ Src w u (pss.getD j []) := by
      intro j
      by_cases hj : j < pss.length
      · obtain ⟨u, hu⟩ := hc j hj
        exact ⟨u, fun _ => hu⟩
      · exact ⟨nS, fun h => absurd h hj⟩
    obtain ⟨f, hf⟩ := Classical.axiomOfChoice this
    refine ⟨(List.range pss.length).map f, Or.inr ⟨g, o, c, hv, hlt, fun j hj => ?_⟩⟩
    have e : ((List.range pss.length).map f).getD j nS = f j := by simp [List.getD_eq_getElem?_getD, hj]
    rw [e]
    exact hf j hj
theorem fault_at {w : World} {b : Nat} {v : Value} {ca wh lg : Nat} {y t : Int} {ty : TypeId} (h : w.heap[b]? = some (.cells #[v, .int .i64 ca, .int .i64 wh, .int .i64 lg, .int .i64 y, .int .i64 t] ty (0, 0))) : w.rangeAt b 4 [.int .i64 y, .int .i64 t] := by
  intro j u hu
  match j, hu with
  | 0, hu => simp at hu; subst hu; simp [World.cell?, h]
  | 1, hu => simp at hu; subst hu; simp [World.cell?, h]
theorem OFs.gone {w w' : World} {base n : Nat} {vo : Value} {fs : List FV} {cs : Array Value} {ty : TypeId} (h : OFs w base vo fs) (hg : w.grownBy w' (some n)) (hb : w.heap[n]? = some (.cells cs ty (0, 0))) (h1 : 65 ≠ ty) (h2 : 9 ≠ ty) : OFs w' base vo fs := by
  have key : ∀ {t : TypeId} {sz m : Nat} {u : Value} {ys : List Value}, w.ownsRow base t sz u m ys → t ≠ ty → w'.ownsRow base t sz u m ys := by
    intro t sz m u ys hu ht
    refine World.ownsRow.kept hu hg ?_
    cases hk : u.ownBlock with
    | none => exact Or.inl rfl
    | some k => exact Or.inr (fun h9 => own_block hu hb ht (hk.trans h9))
  exact ⟨key h.own h1, fun f hf => ⟨key (h.each f hf).1 h2, (h.each f hf).2⟩⟩
def nev : Nat → Bool := fun _ => false
section
variable {w w' : World} {base b : Nat} {v : Value} {M : Nat} {s : Sx}
theorem kref_ok {r : List UInt8} {ca wh lg : Nat} {t : Int} (h : Kb w base b v r ca wh lg 0 t) (hl : 0 < lg) :
    Calls Tryz.prog 23 #[.pointer (some ⟨b, 0, none⟩)] w fun e w' => e = .returned (.agg #[.int .i64 0, .int .i64 0]) ∧ Below w.heap.size w w' := kref_any h hl
theorem kref_bad {r : List UInt8} {ca wh lg : Nat} {y t : Int} (h : Kb w base b v r ca wh lg y t) (hl : 0 < lg) (hy : y ≠ 0) :
    Calls Tryz.prog 23 #[.pointer (some ⟨b, 0, none⟩)] w fun e w' => e = .returned (.agg #[.int .i64 80, .int .i64 ca]) ∧ Below w.heap.size w w' := by
  refine (kref_any h hl).mono fun e w' k => ?_
  rw [if_neg hy, if_neg hy] at k
  exact k
/-- what Feed answers -/
def FeedP (w : World) (base b : Nat) (v : Value) (M : Nat) (a : Ra) (e : Ending) (w' : World) : Prop :=
  ∃ vl v' fs, e = .returned (.tuple #[vl, .agg #[.int .i64 a.1.why, .int .i64 a.1.wat]]) ∧ OFs w' w.heap.size vl fs ∧ Sd w' base b v' M a.1 ∧ Gd w w' b v v' ∧ fs.map (·.1) = a.2.1

set_option maxRecDepth 100000 in
set_option maxHeartbeats 8000000 in
theorem kfeed_any (h : Sd w base b v M s) (h0 : s.why = 0) (vp : Value) (us : List Value) (pss : List (List UInt8)) (hp : ∀ W vd, Gd w W b v vd → Lsts W vp us pss) (hn : pss.length ≤ 140737488355327) (hc : s.came + (fl pss).length ≤ 4611686018427387904) (hbl : (fl pss).length ≤ 900000000000) :
    Calls Tryz.prog 7 #[.pointer (some ⟨b, 0, none⟩), vp] w (FeedP w base b v M (runP M nev (s, [], 0) (fl pss))) := by
  have HB0 := hid (below_walk w (.cells #[.int .i64 0, .int .i64 0] 30))
  have HN0 := hid (hp_new w (.cells #[.int .i64 0, .int .i64 0] 30))
  have HSD0 := hid (h.below HB0.out)
  have HLT := hid h.kb.lt
  have HP := hid hp
  have HBL := hid hbl
  have HC := hid hc
  obtain ⟨A, HAA⟩ : ∃ n, Hid (w.heap.size = n) := ⟨_, rfl⟩
  obtain ⟨ap, cp, rfl⟩ := (hp w v (Gd.refl _ _ _)).shape
  have HRF := hid (kref_ok (t := s.wat) (h0 ▸ HSD0.out.kb) (lng_pos M))
  clear h hp
  go_enter Tryz.func7, Tryz.ntmps7
  go_upto_region 1 with fail
  generalize w.alloc (.cells #[.int .i64 0, .int .i64 0] 30) = w0 at HB0 HN0 HSD0 HRF ⊢
  rw [HAA.out] at HN0 HLT ⊢
  go_wp2_with fail
  refine HRF.out.mono ?_
  rintro e w1 ⟨rfl, hb1⟩
  have HW1 := hid (below_walk w1 (.cells [Value.int .i64 0, .int .i64 0].toArray 30))
  have HSD2 := hid ((HSD0.out.below hb1).below HW1.out)
  have HN2 := hid (bel_keep HW1.out (bel_keep hb1 HN0.out))
  have HB2 := hid (below_then (below_then HB0.out hb1) HW1.out)
  have HT := hid (hp_new w1 (.cells [Value.int .i64 0, .int .i64 0].toArray 30))
  clear hb1 HRF HSD0 HN0 HB0
  go_upto_region 2 with (refine st_new (by rfl) 30 _ _ (by rfl) [Value.int .i64 0, .int .i64 0] (by rfl) (by rfl) 30 _ faultSize rfl (fault_one _ _) ?_)
  obtain ⟨B, HBe⟩ : ∃ n, Hid (w1.heap.size = n) := ⟨_, rfl⟩
  rw [HBe.out] at HT ⊢
  generalize w1.alloc (.cells [Value.int .i64 0, .int .i64 0].toArray 30) = w2 at HW1 HSD2 HN2 HB2 HT ⊢
  have t0 : w2.cell? ⟨B, 0, none⟩ = some (.int .i64 0) := by simp [World.cell?, HT.out]
  have HG2 := hid (Gd.below (Gd.refl w b v) HB2.out)
  clear HW1 HT
  go_wp2
  clear t0
  go_loopw [7, 20] (fun vl vi wr => ∃ (k : Nat) (vd : Value) (fs : List FV) (a : Ra), k ≤ pss.length ∧ vi = .int .i64 k ∧ Hid (runP M nev (s, [], 0) (fl (pss.take k)) = a) ∧ Hid (fs.map (·.1) = a.2.1) ∧ Hid (OFs wr w.heap.size vl fs) ∧ Hid (Sd wr base b vd M a.1) ∧ Hid (Gd w wr b v vd) ∧ Hid (wr.heap[A]? = some (.cells #[.int .i64 0, .int .i64 0] 30 (0, 0)))) (fun _ vi _ => pss.length - (intOf vi).toNat)
  case atStart => exact ⟨0, v, [], (s, [], 0), by omega, rfl, by rw [List.take_zero, fl_nil]; exact runP_nil _ _ _, rfl, OFs.nil _ _, HSD2.out, HG2.out, HN2.out⟩
  case round =>
    obtain ⟨k, vd, fs, a, hk, rfl, HR, HFS, HOF, HSD, HGD, HN⟩ := hrel
    obtain ⟨alv, clv, rfl⟩ := HOF.out.shape
    by_cases hlt : k < pss.length
    · as_aux_lemma =>
        obtain ⟨g, o, rfl, hcl, _⟩ := (HP.out _ _ HGD.out).at k hlt
        obtain ⟨u, HU⟩ : ∃ u, Hid (us.getD k nS = u) := ⟨_, rfl⟩
        obtain ⟨p, HPP⟩ : ∃ p, Hid (pss.getD k [] = p) := ⟨_, rfl⟩
        have HX := hid (fl_snoc pss k hlt)
        rw [HPP.out] at HX
        have hsum : (fl (pss.take k)).length + p.length ≤ (fl pss).length := by
          have e : fl pss = fl (pss.take (k + 1)) ++ fl (pss.drop (k + 1)) := by
            unfold fl
            rw [← List.flatten_append, List.take_append_drop]
          rw [e, HX.out, List.length_append, List.length_append]
          omega
        have HFE := hid (run_few (M := M) (q := nev) (fl (pss.take k)) (s, [], 0))
        rw [HR.out] at HFE
        have HFL := hid (show fs.length = a.2.1.length by rw [← HFS.out, List.length_map])
        have HCA := hid (show a.1.came ≤ s.came + (fl (pss.take k)).length by
          have h1 := run_came (M := M) (q := nev) (fl (pss.take k)) (s, [], 0)
          have h2 := (run_took (M := M) (q := nev) (fl (pss.take k)) (s, [], 0)).2
          rw [HR.out] at h1 h2
          simp at h1 h2
          omega)
        rw [HU.out] at hcl
        have HUN := hid (kuntil_any HSD.out 9223372036854775807 u p (fun W vd' hg => by
          obtain ⟨_, _, _, _, h3⟩ := (HP.out W vd' (HGD.out.trans hg)).at k hlt
          rw [HU.out, HPP.out] at h3
          exact h3) (by have := HCA.out; have := HC.out; omega) (by have := HBL.out; omega))
        rw [run_congr (q' := nev) p (a.1, [], 0) (fun j hj => decide_eq_false (by simp at hj; have := HBL.out; omega))] at HUN
        have HSH := hid (run_shift (M := M) p a.1 a.2.1 a.2.2)
        have HFP := hid (run_few (M := M) (q := nev) p (a.1, [], 0))
        obtain ⟨R, HRR⟩ : ∃ R, Hid (runP M nev (a.1, [], 0) p = R) := ⟨_, rfl⟩
        have HSH2 := hid (show runP M nev (s, [], 0) (fl (pss.take (k + 1))) = (R.1, a.2.1 ++ R.2.1, a.2.2 + R.2.2) by
          rw [HX.out, runP_app, HR.out, ← HRR.out]; exact HSH.out)
        rw [HRR.out] at HUN HFP
        clear HSH HRR HX HR
        go_wp2_with fail
        refine HUN.out.mono ?_
        rintro e w3 ⟨vl3, v3, fs3, rfl, hof3, hsd3, hg3, hm3⟩
        have HOA := hid (HOF.out.sd hg3 HSD.out)
        have HF3 := hid hof3.frs
        have HE3 := hid (show ∀ f ∈ fs3, WOwnS w3 w.heap.size f.2 f.1.args ∧ Rng f.1 from fun f hf => ⟨own_le (hof3.each f hf).1 HGD.out.size, (hof3.each f hf).2⟩)
        have HNI3 := hid hof3.nilc
        have HSD3 := hid hsd3
        have HG3 := hid (HGD.out.trans hg3)
        have HM3 := hid hm3
        have HN3 := hid ((hg3.block A (hp_lt HN.out) (by have := HLT.out; omega) (fun e => own_block HSD.out.kb.own HN.out (by decide) e)).trans HN.out)
        have hlen : fs.length + fs3.length ≤ 1000000000000 := by
          have h1 : fs3.length = R.2.1.length := by rw [← hm3, List.length_map]
          have h2 := HFP.out
          have h3 := HFE.out
          have h4 := HFL.out
          have h5 := HBL.out
          simp at h2 h3
          omega
        have HL3 := hid hlen
        obtain ⟨a3, c3, e3⟩ := hof3.shape
        subst e3
        clear hof3 hsd3 hg3 hm3 HUN hlen
        go_wp2_with (at_builtin; refine app_frs rfl _ _ rfl w.heap.size _ fs rfl HOA.out fs3 _ rfl HF3.out HNI3.out HE3.out HL3.out HG3.out.size ?_)
        intro v6 w6 ho6 hg6 hp6
        have HG6 := hid (HG3.out.newer hg6 (fun k e => (World.ownsRow.lt HOA.out.own k e).1))
        have HSD6 := hid (HSD3.out.apart hg6 HOA.out)
        have HO6 := hid ho6
        have HN6 := hid ((hg6.block A (hp_lt HN3.out) (fun e => own_block HOA.out.own HN3.out (by decide) e.symm)).trans HN3.out)
        obtain ⟨a6, c6, e6⟩ := ho6.shape
        have hl6 : (fs ++ fs3).length = fs.length + fs3.length := List.length_append
        rw [hl6] at e6
        subst e6
        clear ho6 hg6 hp6
        go_wp2
        refine ⟨⟨k + 1, v3, fs ++ fs3, _, hlt, by simp, HSH2.out, ?_, HO6.out, HSD6.out, HG6.out, HN6.out⟩, by simp [intOf]; omega⟩
        show (fs ++ fs3).map (·.1) = a.2.1 ++ R.2.1
        rw [List.map_append, HFS.out, HM3.out]
    · obtain rfl : k = pss.length := by omega
      as_aux_lemma =>
        rw [fl_all] at HR
        obtain ⟨y, HY⟩ : ∃ y, Hid (a.1.why = y) := ⟨_, rfl⟩
        obtain ⟨t, HTt⟩ : ∃ y, Hid (a.1.wat = y) := ⟨_, rfl⟩
        have HBK := hid HSD.out.kb.blk
        rw [HY.out, HTt.out] at HBK
        go_upto_region 11 with fail
        refine wp_noPanic (wp_region_held_drew (S := fun W => W.heap[b]? = some (.cells #[vd, .int .i64 a.1.came, .int .i64 a.1.whole, .int .i64 (lngP M : Nat), .int .i64 y, .int .i64 t] 47 (0, 0))) (by kernel_rfl) HBK.out ?_)
        intro hHeld
        refine wpAnyH_take (i := 0) (v := .slice alv fs.length clv) rfl (by kernel_rfl) (by kernel_rfl) (by kernel_rfl) (fun _ _ _ h => h) (Or.inl ⟨by rfl, fun W _ => by go_simp⟩) hHeld ?_
        simp only [Act.put, List.getElem_toArray, List.getElem_cons_zero, List.setIfInBounds_toArray, List.set_cons_succ, List.set_cons_zero]
        refine wpAnyH_take (i := 1) (v := .pointer (some ⟨b, 0, none⟩)) rfl (by kernel_rfl) (by kernel_rfl) (by kernel_rfl) (fun _ _ _ h => h) (Or.inl ⟨by rfl, fun W _ => by go_simp⟩) hHeld ?_
        simp only [Act.put, List.getElem_toArray, List.getElem_cons_zero, List.getElem_cons_succ, List.setIfInBounds_toArray, List.set_cons_succ, List.set_cons_zero]
        refine wpAnyH_take (i := 2) (v := .pointer (some ⟨b, 0, none⟩)) rfl (by kernel_rfl) (by kernel_rfl) (by kernel_rfl) (fun _ _ _ h => h) (Or.inl ⟨by rfl, fun W _ => by go_simp⟩) hHeld ?_
        simp only [Act.put, List.getElem_toArray, List.getElem_cons_zero, List.getElem_cons_succ, List.setIfInBounds_toArray, List.set_cons_succ, List.set_cons_zero]
        refine wpAnyH_take (i := 3) (v := .pointer (some ⟨b, 4, none⟩)) rfl (by kernel_rfl) (by kernel_rfl) (by kernel_rfl) (fun _ _ _ h => h) (Or.inl ⟨by rfl, fun W _ => by go_simp⟩) hHeld ?_
        simp only [Act.put, List.getElem_toArray, List.getElem_cons_zero, List.getElem_cons_succ, List.setIfInBounds_toArray, List.set_cons_succ, List.set_cons_zero]
        refine wpAnyH_take (i := 4) (v := .agg [Value.int .i64 y, .int .i64 t].toArray) rfl (by kernel_rfl) (by kernel_rfl) (by kernel_rfl) (fun _ _ _ h => h) (yieldsIf_load_mid (by rfl) 30 (.tmp 37) rfl b 4 rfl [Value.int .i64 y, .int .i64 t] _ (fun W hW => fault_at hW) Tryz.underlying30 rfl faultSize) hHeld ?_
        simp only [Act.put, List.getElem_toArray, List.getElem_cons_zero, List.getElem_cons_succ, List.setIfInBounds_toArray, List.set_cons_succ, List.set_cons_zero]
        refine wpAnyH_take (i := 5) (v := .slice alv fs.length clv) rfl (by kernel_rfl) (by kernel_rfl) (by kernel_rfl) (fun _ _ _ h => h) (Or.inl ⟨by rfl, fun W _ => by go_simp⟩) hHeld ?_
        simp only [Act.put, List.getElem_toArray, List.getElem_cons_zero, List.getElem_cons_succ, List.setIfInBounds_toArray, List.set_cons_succ, List.set_cons_zero]
        refine wpAnyH_ready (rs := [6]) (by kernel_rfl) (by simp) ?_
        refine AllReadyH.cons rfl (fun K9 hK9 => ?_) AllReadyH.nil
        refine step_store_row (by rfl) 30 _ _ (by rfl) A [Value.int .i64 y, .int .i64 t] (by rfl) (by rfl) 30 _ HN.out faultSize rfl (fault_one _ _) ?_
        intro wz hwz
        refine hK9.out _ _ (gb_keep hwz.grown HBK.out (by have := HLT.out; omega)) (fun hHeld => ?_)
        clear hK9 K9
        try simp only [Act.put, List.getElem_toArray, List.getElem_cons_zero, List.getElem_cons_succ]
        refine wpAnyH_done (by kernel_rfl) ?_ _
        simp only [noPanic]
        clear hHeld
        go_wp2
        refine ret_tc 4 5 30 rfl _ rfl A rfl _ 30 hwz.blk _ Tryz.underlying30 rfl faultSize rfl ?_
        rw [HR.out]
        exact ⟨_, vd, fs, by rw [HY.out, HTt.out]; rfl, (HOF.out.below (bel_drw wr 1)).gone hwz.grown HN.out (by decide) (by decide), ((HSD.out.drew 1).far hwz.grown (by have := HLT.out; omega) (fun k e h9 => own_block HSD.out.kb.own HN.out (by decide) (h9 ▸ e))), (HGD.out.below (bel_drw wr 1)).fresh hwz.grown (by have := HAA.out; omega), HFS.out⟩
end
end Go.Proofs.YtiibhccbbpgehabGreat

/- The other methods of a decoder, and New. -/
namespace Go.Proofs.YtiibhccbbpgehabGreat
open Go.RowKit Go.BigFrame

theorem results_ttc {fn : Func} {p r q : Tmp} {ty : TypeId} (h : fn.results = #[.tmp p, .tmp r, .cell q ty]) (tmps : Array Value) (P : Program) (w : World) :
    (results fn tmps).run P w = ((asAddr (tmps.getD q undef)).run P w).andThen fun a w₁ => ((loadVar ty a).run P w₁).andThen fun v w₂ => .ok (.tuple #[tmps.getD p undef, tmps.getD r undef, v]) w₂ := by
  simp only [results, h]
  simp [Sem.run_bind, Result.andThen]
theorem ret_ttc {P : Program} {fn : Func} {R : Ending → World → Prop} {a : Act} {w : World} (p r q : Tmp) (ty : TypeId) (h : fn.results = #[.tmp p, .tmp r, .cell q ty]) (v u : Value) (hv : a.tmps.getD p undef = v) (hu0 : a.tmps.getD r undef = u) (g : Nat) (hp : a.tmps.getD q undef = .pointer (some ⟨g, 0, none⟩))
    (cs : List Value) (t : TypeId) (hb : w.heap[g]? = some (.cells cs.toArray t (0, 0))) (d : TypeDesc) (hu : P.underlying ty = some d) (hd : d.isRow = true) (hi : (P.info? ty).map (·.size) = some cs.length)
    (hdf : a.defers = []) (hR : R (.returned (.tuple #[v, u, .agg cs.toArray])) w) : bodyPost P fn R .ret a w := by
  refine bodyPost_ret (v := .tuple #[v, u, .agg cs.toArray]) ?_ hdf hR
  rw [results_ttc h, hp, hv, hu0]
  have := run_loadVar_mid (P := P) w g 0 ty cs d (fun j v hv => by rw [Nat.zero_add, cell_of_row w g j cs.toArray t (0, 0) hb]; simpa using hv) hu hd hi
  simp [asAddr, this]
theorem decSize : (Tryz.prog.info? 47).map (·.size) = some 6 := by kernel_rfl
theorem zeroDec (W : World) : (zeroValue 47).run Tryz.prog W = .ok (.agg #[.slice none 0 0, .int .i64 0, .int .i64 0, .int .i64 0, .int .i64 0, .int .i64 0]) W := by kernel_rfl
theorem built_dec (l : Int) : Tryz.prog.built 47 [(2, .int .i64 l)] = some #[.slice none 0 0, .int .i64 0, .int .i64 0, .int .i64 l, .int .i64 0, .int .i64 0] := by kernel_rfl
theorem need_sn (m : Nat) (h1 : 1 ≤ m) (h2 : m ≤ 2097152) : needP (sn m) = (lngP m, (sn m).length, 0) := by
  have h := dec_sn m [] (by omega)
  rw [List.append_nil] at h
  unfold needP lngP
  rw [h, if_neg (by simp), if_neg (by simp), if_neg (by simpa using h2), if_neg (by simp; omega)]

def wantP (s : Sx) : Nat := if s.why ≠ 0 then 0 else lackP s.r
def stopP (s : Sx) : Int × Int := if s.why ≠ 0 then (s.why, s.wat) else if 0 < s.r.length then (4, (s.came : Int)) else (0, 0)
/-- what Some answers -/
def SomeP (w : World) (base b : Nat) (v : Value) (M : Nat) (a : Ra) (e : Ending) (w' : World) : Prop :=
  ∃ vl v' fs, e = .returned (.tuple #[vl, .int .i64 (a.2.2 : Nat), .agg #[.int .i64 a.1.why, .int .i64 a.1.wat]]) ∧ OFs w' w.heap.size vl fs ∧ Sd w' base b v' M a.1 ∧ Gd w w' b v v' ∧ fs.map (·.1) = a.2.1

theorem new_bad8 (w : World) (r : Int) (hr : r < 1 ∨ 2097152 < r) :
    Calls Tryz.prog 6 #[.int .i64 r] w fun e w' => e = .returned (.tuple #[.pointer none, .int .i64 1]) ∧ w' = w := by
  rcases hr with h | h
  · go_enter Tryz.func6, Tryz.ntmps6
    go_wp2
    exact bodyPost_ret (results_tmp2 rfl _ _ _) rfl ⟨rfl, rfl⟩
  · have h2 : ¬ r < 1 := by omega
    go_enter Tryz.func6, Tryz.ntmps6
    go_wp2
    exact bodyPost_ret (results_tmp2 rfl _ _ _) rfl ⟨rfl, rfl⟩

set_option maxRecDepth 100000 in
set_option maxHeartbeats 1000000 in
theorem new_ok8 (w : World) (m : Nat) (h1 : 1 ≤ m) (h2 : m ≤ 2097152) :
    Calls Tryz.prog 6 #[.int .i64 m] w fun e w' => ∃ b, e = .returned (.tuple #[.pointer (some ⟨b, 0, none⟩), .int .i64 0]) ∧ w.heap.size ≤ b ∧ Sd w' b b (.slice none 0 0) m zS ∧ Below w.heap.size w w' := by
  have q1 : ¬ (m : Int) < 1 := by omega
  have q2 : ¬ (2097152 : Int) < (m : Int) := by omega
  have q3 : IntKind.u64.wrap (m : Int) = (m : Int) := by rw [IntKind.wrap_u64]; omega
  have HPU := hid (putUint_any (.slice none 0 0) [] m w (OwnB.nil w w.heap.size |>.src (by simp)) (by omega) (by simp))
  have HNS := hid (need_sn m h1 h2)
  obtain ⟨lg, HLG⟩ : ∃ n, Hid (lngP m = n) := ⟨_, rfl⟩
  rw [HLG.out] at HNS
  go_enter Tryz.func6, Tryz.ntmps6
  go_wp2_with fail
  refine HPU.out.mono ?_
  rintro e w1 ⟨v1, rfl, ho1, hb1⟩
  have ho1' : OwnB w1 w.heap.size v1 (sn m) := by simpa using ho1
  have HNE := hid (need_any v1 (sn m) w1 (ho1'.src (by have := sn_length_le m; omega)))
  rw [HNS.out] at HNE
  obtain ⟨a1, c1, e1⟩ := ho1'.shape
  subst e1
  have HB1 := hid hb1
  clear ho1 ho1' hb1 HPU
  go_wp2_with fail
  refine HNE.out.mono ?_
  rintro e w2 ⟨rfl, hb2⟩
  have HB2 := hid (below_then HB1.out hb2)
  clear hb2 HNE HB1
  have HN := hid (hp_new w2 (.cells #[.slice none 0 0, .int .i64 0, .int .i64 0, .int .i64 lg, .int .i64 0, .int .i64 0] 47))
  have HB3 := hid (below_then HB2.out (below_walk w2 (.cells #[.slice none 0 0, .int .i64 0, .int .i64 0, .int .i64 lg, .int .i64 0, .int .i64 0] 47)))
  go_wp2_with (first
    | (refine bd_row (by rfl) 47 #[(2, .tmp 19)] (by rfl) _ (by simp [Act.eval]) _ (built_dec _) ?_)
    | (refine bx_row (by rfl) 47 (.tmp 20) (by rfl) _ (by rfl) ?_))
  refine bodyPost_ret (results_tmp2 rfl _ _ _) rfl ⟨_, rfl, HB2.out.size, ⟨⟨Nat.le_refl _, ?_, OwnB.nil _ _⟩, Gs.zero m, h1, h2⟩, HB3.out⟩
  rw [HLG.out]
  exact HN.out

section
variable {w w' : World} {base b : Nat} {v : Value} {M : Nat} {s : Sx}

theorem kcount_any (h : Sd w base b v M s) :
    Calls Tryz.prog 10 #[.pointer (some ⟨b, 0, none⟩)] w fun e w' => e = .returned (.tuple #[.int .i64 s.came, .int .i64 s.whole]) ∧ ∃ q, w' = w.drewN q := by
  have h1 := hid (kmade_any h.kb (lng_pos M))
  have h2 := hid (kboth_any h.kb)
  clear h
  go_enter Tryz.func10, Tryz.ntmps10
  go_wp2_with fail
  refine h1.out.mono ?_
  rintro e w1 ⟨rfl, hw⟩
  subst hw
  go_wp2_with fail
  refine h2.out.mono ?_
  rintro e w1 ⟨rfl, q, hw⟩
  subst hw
  go_wp2
  exact bodyPost_ret (results_tmp2 rfl _ _ _) rfl ⟨rfl, _, rfl⟩

theorem krest_any (h : Sd w base b v M s) :
    Calls Tryz.prog 15 #[.pointer (some ⟨b, 0, none⟩)] w fun e w' => ∃ v', e = .returned v' ∧ OwnB w' w.heap.size v' s.r ∧ Below w.heap.size w w' := by
  have h1 := hid (kmade_any h.kb (lng_pos M))
  have h2 := hid (kcopied_any h.kb (by have := h.few; omega))
  clear h
  go_enter Tryz.func15, Tryz.ntmps15
  go_wp2_with fail
  refine h1.out.mono ?_
  rintro e w1 ⟨rfl, hw⟩
  subst hw
  go_wp2_with fail
  refine h2.out.mono ?_
  rintro e w2 ⟨v2, rfl, ho, hb⟩
  go_wp2
  go_ret
  exact ⟨_, rfl, ho, hb⟩

theorem kwant_any (h : Sd w base b v M s) :
    Calls Tryz.prog 14 #[.pointer (some ⟨b, 0, none⟩)] w fun e w' => e = .returned (.int .i64 (wantP s : Nat)) ∧ Below w.heap.size w w' := by
  have h1 := hid (kmade_any h.kb (lng_pos M))
  have h2 := hid (kpois_any h.kb)
  unfold wantP
  by_cases hy : s.why = 0
  · have q1 : (s.why != 0) = false := by simpa using hy
    rw [q1] at h2
    rw [if_neg (by simpa using hy)]
    have h3 := hid (klack_any h.kb (by have := h.few; omega) (by
      obtain ⟨_, h1, h2⟩ := h.good.ok hy
      rw [(needM_ok h1).1] at h2
      rcases h2 with h2 | h2
      · exact Or.inl h2
      · exact Or.inr (by omega)) (need_le _))
    obtain ⟨L, HL⟩ : ∃ n, Hid (lackP s.r = n) := ⟨_, rfl⟩
    rw [HL.out] at h3 ⊢
    clear h
    go_enter Tryz.func14, Tryz.ntmps14
    go_wp2_with fail
    refine h1.out.mono ?_
    rintro e w1 ⟨rfl, hw⟩
    subst hw
    go_wp2_with fail
    refine h2.out.mono ?_
    rintro e w1 ⟨rfl, hw⟩
    subst hw
    go_wp2_with fail
    refine h3.out.mono ?_
    rintro e w2 ⟨rfl, hb⟩
    go_wp2
    go_ret
    exact ⟨rfl, hb⟩
  · have q1 : (s.why != 0) = true := by simpa using hy
    rw [q1] at h2
    rw [if_pos hy]
    clear h
    go_enter Tryz.func14, Tryz.ntmps14
    go_wp2_with fail
    refine h1.out.mono ?_
    rintro e w1 ⟨rfl, hw⟩
    subst hw
    go_wp2_with fail
    refine h2.out.mono ?_
    rintro e w1 ⟨rfl, hw⟩
    subst hw
    go_wp2
    go_ret
    exact ⟨rfl, Below.refl _ _⟩

set_option maxRecDepth 100000 in
set_option maxHeartbeats 1000000 in
theorem kpoison_any (h : Sd w base b v M s) :
    Calls Tryz.prog 8 #[.pointer (some ⟨b, 0, none⟩)] w fun e w' => e = .returned (.agg #[.int .i64 s.why, .int .i64 s.wat]) ∧ Below w.heap.size w w' := by
  have HB0 := hid (below_walk w (.cells #[.int .i64 0, .int .i64 0] 30))
  have HN0 := hid (hp_new w (.cells #[.int .i64 0, .int .i64 0] 30))
  have HK0 := hid (h.kb.below HB0.out)
  obtain ⟨A, HAA⟩ : ∃ n, Hid (w.heap.size = n) := ⟨_, rfl⟩
  clear h
  go_enter Tryz.func8, Tryz.ntmps8
  go_upto_region 1 with fail
  generalize w.alloc (.cells #[.int .i64 0, .int .i64 0] 30) = w0 at HB0 HN0 HK0 ⊢
  rw [HAA.out] at HN0 ⊢
  have h1 := hid (kmade_any HK0.out (lng_pos M))
  obtain ⟨y, HY⟩ : ∃ y, Hid (s.why = y) := ⟨_, rfl⟩
  obtain ⟨t, HTt⟩ : ∃ y, Hid (s.wat = y) := ⟨_, rfl⟩
  have HFA := hid HK0.out.fault
  rw [HY.out, HTt.out] at HFA
  go_wp2_with fail
  refine h1.out.mono ?_
  rintro e w1 ⟨rfl, hw⟩
  subst hw
  go_wp2_with (first
    | (refine wpList_load_mid (by rfl) 30 _ (by rfl) b 4 (by rfl) [Value.int .i64 y, .int .i64 t] _ HFA.out Tryz.underlying30 rfl faultSize ?_)
    | (refine st_row (by rfl) 30 _ _ (by rfl) A [Value.int .i64 y, .int .i64 t] (by rfl) (by rfl) 30 _ HN0.out faultSize rfl (fault_one _ _) ?_; intro w3 hw3))
  refine ret_row 2 30 rfl A rfl _ 30 hw3.blk _ Tryz.underlying30 rfl faultSize rfl ⟨?_, Below.of_gb HB0.out hw3.grown (by have := HAA.out; omega)⟩
  rw [HY.out, HTt.out]

set_option maxRecDepth 100000 in
set_option maxHeartbeats 1000000 in
theorem kend_any (h : Sd w base b v M s) :
    Calls Tryz.prog 13 #[.pointer (some ⟨b, 0, none⟩)] w fun e w' => e = .returned (.agg #[.int .i64 (stopP s).1, .int .i64 (stopP s).2]) ∧ Below w.heap.size w w' := by
  have HB0 := hid (below_walk w (.cells #[.int .i64 0, .int .i64 0] 30))
  have HN0 := hid (hp_new w (.cells #[.int .i64 0, .int .i64 0] 30))
  have HK0 := hid (h.kb.below HB0.out)
  obtain ⟨A, HAA⟩ : ∃ n, Hid (w.heap.size = n) := ⟨_, rfl⟩
  have HEP : Hid (stopP s = if s.why ≠ 0 then (s.why, s.wat) else if 0 < s.r.length then (4, (s.came : Int)) else (0, 0)) := hid rfl
  clear h
  go_enter Tryz.func13, Tryz.ntmps13
  go_upto_region 1 with fail
  generalize w.alloc (.cells #[.int .i64 0, .int .i64 0] 30) = w0 at HB0 HN0 HK0 ⊢
  rw [HAA.out] at HN0 ⊢
  have h1 := hid (kmade_any HK0.out (lng_pos M))
  have h2 := hid (kpois_any HK0.out)
  have h3 := hid (ksz_any HK0.out)
  have HFA := hid HK0.out.fault
  have c1 := HK0.out.c1
  obtain ⟨y, HY⟩ : ∃ y, Hid (s.why = y) := ⟨_, rfl⟩
  obtain ⟨t, HTt⟩ : ∃ y, Hid (s.wat = y) := ⟨_, rfl⟩
  obtain ⟨L, HL⟩ : ∃ y, Hid (s.r.length = y) := ⟨_, rfl⟩
  obtain ⟨ca, HCa⟩ : ∃ y, Hid (s.came = y) := ⟨_, rfl⟩
  rw [HY.out, HTt.out] at HFA
  rw [HY.out] at h2
  rw [HL.out] at h3
  rw [HCa.out] at c1
  rw [HY.out, HTt.out, HL.out, HCa.out] at HEP
  go_wp2_with fail
  refine h1.out.mono ?_
  rintro e w1 ⟨rfl, hw⟩
  subst hw
  go_wp2_with fail
  refine h2.out.mono ?_
  rintro e w1 ⟨rfl, hw⟩
  subst hw
  by_cases hy : y = 0
  · have q1 : (y != 0) = false := by simpa using hy
    rw [if_neg (by simpa using hy)] at HEP
    rw [q1]
    go_wp2_with fail
    refine h3.out.mono ?_
    rintro e w1 ⟨rfl, hw⟩
    subst hw
    by_cases hl : 0 < L
    · rw [if_pos hl] at HEP
      have q2 : (0 : Int) < (L : Int) := by omega
      go_wp2_with (first
        | (refine bd_row (by rfl) 30 #[(0, .const (.int .i64 4)), (1, .tmp 25)] (by rfl) _ (by simp [Act.eval]) _ (built_ft _ _) ?_)
        | (refine st_row (by rfl) 30 _ _ (by rfl) A [Value.int .i64 4, .int .i64 (ca : Int)] (by rfl) (by rfl) 30 _ HN0.out faultSize rfl (fault_one _ _) ?_; intro w3 hw3))
      refine ret_row 2 30 rfl A rfl _ 30 hw3.blk _ Tryz.underlying30 rfl faultSize rfl ⟨?_, Below.of_gb HB0.out hw3.grown (by have := HAA.out; omega)⟩
      rw [HEP.out]
    · rw [if_neg hl] at HEP
      have q2 : ¬ (0 : Int) < (L : Int) := by omega
      go_wp2_with (first
        | (refine bd_row (by rfl) 30 #[] (by rfl) _ (by simp) _ built_fz ?_)
        | (refine st_row (by rfl) 30 _ _ (by rfl) A [Value.int .i64 0, .int .i64 0] (by rfl) (by rfl) 30 _ HN0.out faultSize rfl (fault_one _ _) ?_; intro w3 hw3))
      refine ret_row 2 30 rfl A rfl _ 30 hw3.blk _ Tryz.underlying30 rfl faultSize rfl ⟨?_, Below.of_gb HB0.out hw3.grown (by have := HAA.out; omega)⟩
      rw [HEP.out]
  · have q1 : (y != 0) = true := by simpa using hy
    rw [if_pos hy] at HEP
    rw [q1]
    go_wp2_with (first
      | (refine wpList_load_mid (by rfl) 30 _ (by rfl) b 4 (by rfl) [Value.int .i64 y, .int .i64 t] _ HFA.out Tryz.underlying30 rfl faultSize ?_)
      | (refine st_row (by rfl) 30 _ _ (by rfl) A [Value.int .i64 y, .int .i64 t] (by rfl) (by rfl) 30 _ HN0.out faultSize rfl (fault_one _ _) ?_; intro w3 hw3))
    refine ret_row 2 30 rfl A rfl _ 30 hw3.blk _ Tryz.underlying30 rfl faultSize rfl ⟨?_, Below.of_gb HB0.out hw3.grown (by have := HAA.out; omega)⟩
    rw [HEP.out]

set_option maxRecDepth 100000 in
set_option maxHeartbeats 1000000 in
theorem kclone_any (h : Sd w base b v M s) :
    Calls Tryz.prog 16 #[.pointer (some ⟨b, 0, none⟩)] w fun e w' => ∃ b' v', e = .returned (.pointer (some ⟨b', 0, none⟩)) ∧ b' = w.heap.size ∧ Sd w' w.heap.size b' v' M s ∧ Below w.heap.size w w' := by
  have H := hid h
  have h1 := hid (kmade_any h.kb (lng_pos M))
  have HBK := hid h.kb.blk
  obtain ⟨DC, HDC⟩ : ∃ l : List Value, Hid ([v, .int .i64 s.came, .int .i64 s.whole, .int .i64 (lngP M : Nat), .int .i64 s.why, .int .i64 s.wat] = l) := ⟨_, rfl⟩
  have HD6 := hid (show DC.length = 6 by rw [← HDC.out]; rfl)
  have HBK2 := hid (show w.heap[b]? = some (.cells DC.toArray 47 (0, 0)) by rw [← HDC.out]; exact HBK.out)
  have HON := hid (show ∀ u ∈ DC, u.oneCell' = true by
    intro u hu
    rw [← HDC.out] at hu
    simp only [List.mem_cons, List.not_mem_nil, or_false] at hu
    obtain ⟨av, cv, e⟩ := h.kb.own.shape
    rcases hu with rfl | rfl | rfl | rfl | rfl | rfl <;> first | (rw [e]; rfl) | rfl)
  have HSZ := hid (show (Tryz.prog.info? 47).map (·.size) = some DC.length by rw [HD6.out]; exact decSize)
  have HW := hid (below_walk w (.cells DC.toArray 47))
  have HSD1 := hid (h.below HW.out)
  have HN1 := hid (hp_new w (.cells DC.toArray 47))
  obtain ⟨A, HAA⟩ : ∃ n, Hid (w.heap.size = n) := ⟨_, rfl⟩
  clear h
  go_enter Tryz.func16, Tryz.ntmps16
  go_wp2_with fail
  refine h1.out.mono ?_
  rintro e w1 ⟨rfl, hw⟩
  subst hw
  go_upto_region 4 with (first
    | (refine ld_row (by rfl) 47 _ (by rfl) b (by rfl) DC 47 HBK2.out _ Tryz.underlying47 rfl HSZ.out ?_)
    | (refine al_row (by rfl) 47 (by rfl) _ zeroDec ?_)
    | (refine st_new (by rfl) 47 _ _ (by rfl) DC (by rfl) (by rfl) 47 _ HSZ.out (by rw [HD6.out]; rfl) HON.out ?_))
  generalize w1.alloc (.cells DC.toArray 47) = w2 at HW HSD1 HN1 ⊢
  rw [HAA.out] at HN1 ⊢
  have h2 := hid (kcopied_any HSD1.out.kb (by have := HSD1.out.few; omega))
  have HA2 := hid (hp_lt HN1.out)
  go_wp2_with fail
  refine h2.out.mono ?_
  rintro e w3 ⟨v3, rfl, ho3, hb3⟩
  have HN3 := hid (bel_keep hb3 HN1.out)
  have HB3 := hid (below_then HW.out hb3)
  have c0 : w3.cell? ⟨A, 0, none⟩ = some v := by simp [World.cell?, HN3.out, ← HDC.out]
  have z0 : w3.frozen? ⟨A, 0, none⟩ = false := by simp [World.frozen?, HN3.out]
  have HO3 := hid (ho3.le (show A ≤ w2.heap.size from Nat.le_of_lt HA2.out))
  have HAB := hid (show v3.ownBlock ≠ some A from fun e => by have := (World.ownsRow.lt ho3 A e).1; have := HA2.out; omega)
  have HKN := hid (show (w3.setCell ⟨A, 0, none⟩ v3).heap[A]? = some (.cells #[v3, .int .i64 s.came, .int .i64 s.whole, .int .i64 (lngP M : Nat), .int .i64 s.why, .int .i64 s.wat] 47 (0, 0)) by
    rw [blk_set HN3.out, ← HDC.out]; rfl)
  have HBE := hid (Below.of_gb HB3.out (gb_set w3 ⟨A, 0, none⟩ v3) (by have := HAA.out; show w1.heap.size ≤ A; omega))
  have HO4 := hid (HO3.out.kept (gb_set w3 ⟨A, 0, none⟩ v3) (Or.inr (by simpa using HAB.out)))
  obtain ⟨a3, c3, e3⟩ := ho3.shape
  obtain ⟨av, cv, ev⟩ := HSD1.out.kb.own.shape
  subst e3
  subst ev
  clear ho3 hb3
  go_wp2
  go_ret
  refine ⟨A, _, rfl, HAA.out.symm, ⟨⟨?_, HKN.out, HO4.out.le (by have := HAA.out; omega)⟩, H.out.good, H.out.one, H.out.big⟩, HBE.out⟩
  have := HAA.out
  omega

set_option maxRecDepth 100000 in
set_option maxHeartbeats 4000000 in
theorem kfeed_bad (h : Sd w base b v M s) (h0 : s.why ≠ 0) (vp : Value) :
    Calls Tryz.prog 7 #[.pointer (some ⟨b, 0, none⟩), vp] w fun e w' => e = .returned (.tuple #[.slice none 0 0, .agg #[.int .i64 80, .int .i64 s.came]]) ∧ Below w.heap.size w w' := by
  have HB0 := hid (below_walk w (.cells #[.int .i64 0, .int .i64 0] 30))
  have HN0 := hid (hp_new w (.cells #[.int .i64 0, .int .i64 0] 30))
  have HSD0 := hid (h.below HB0.out)
  have HLT := hid h.kb.lt
  obtain ⟨A, HAA⟩ : ∃ n, Hid (w.heap.size = n) := ⟨_, rfl⟩
  have HRF := hid (kref_bad HSD0.out.kb (lng_pos M) h0)
  clear h
  go_enter Tryz.func7, Tryz.ntmps7
  go_upto_region 1 with fail
  generalize w.alloc (.cells #[.int .i64 0, .int .i64 0] 30) = w0 at HB0 HN0 HSD0 HRF ⊢
  rw [HAA.out] at HN0 HLT ⊢
  go_wp2_with fail
  refine HRF.out.mono ?_
  rintro e w1 ⟨rfl, hb1⟩
  have HW1 := hid (below_walk w1 (.cells [Value.int .i64 80, .int .i64 (s.came : Int)].toArray 30))
  have HSD2 := hid ((HSD0.out.below hb1).below HW1.out)
  have HN2 := hid (bel_keep HW1.out (bel_keep hb1 HN0.out))
  have HB2 := hid (below_then (below_then HB0.out hb1) HW1.out)
  have HT := hid (hp_new w1 (.cells [Value.int .i64 80, .int .i64 (s.came : Int)].toArray 30))
  have HBA := hid (hp_lt (bel_keep hb1 HN0.out))
  clear hb1 HRF HSD0 HN0 HB0
  go_upto_region 2 with (refine st_new (by rfl) 30 _ _ (by rfl) [Value.int .i64 80, .int .i64 (s.came : Int)] (by rfl) (by rfl) 30 _ faultSize rfl (fault_one _ _) ?_)
  obtain ⟨B, HBe⟩ : ∃ n, Hid (w1.heap.size = n) := ⟨_, rfl⟩
  rw [HBe.out] at HT HBA ⊢
  generalize w1.alloc (.cells [Value.int .i64 80, .int .i64 (s.came : Int)].toArray 30) = w2 at HW1 HSD2 HN2 HB2 HT ⊢
  have t0 : w2.cell? ⟨B, 0, none⟩ = some (.int .i64 80) := by simp [World.cell?, HT.out]
  go_upto_region 3 with fail
  refine wp_noPanic (wp_region_held_drew (S := fun W => W.heap[B]? = some (.cells [Value.int .i64 80, .int .i64 (s.came : Int)].toArray 30 (0, 0))) (by kernel_rfl) HT.out ?_)
  intro hHeld
  refine wpAnyH_take (i := 0) (v := .agg [Value.int .i64 80, .int .i64 (s.came : Int)].toArray) rfl (by kernel_rfl) (by kernel_rfl) (by kernel_rfl) (fun _ _ _ h => h) (yieldsIf_load_mid (by rfl) 30 (.tmp 6) rfl B 0 rfl [Value.int .i64 80, .int .i64 (s.came : Int)] _ (fun W hW => range_row hW) Tryz.underlying30 rfl faultSize) hHeld ?_
  simp only [Act.put, List.getElem_toArray, List.getElem_cons_zero, List.setIfInBounds_toArray, List.set_cons_succ, List.set_cons_zero]
  refine wpAnyH_take (i := 1) (v := .slice none 0 0) rfl (by kernel_rfl) (by kernel_rfl) (by kernel_rfl) (fun _ _ _ h => h) (Or.inl ⟨by rfl, fun W _ => by go_simp⟩) hHeld ?_
  simp only [Act.put, List.getElem_toArray, List.getElem_cons_zero, List.getElem_cons_succ, List.setIfInBounds_toArray, List.set_cons_succ, List.set_cons_zero]
  refine wpAnyH_ready (rs := [2]) (by kernel_rfl) (by simp) ?_
  refine AllReadyH.cons rfl (fun K9 hK9 => ?_) AllReadyH.nil
  refine step_store_row (by rfl) 30 _ _ (by rfl) A [Value.int .i64 80, .int .i64 (s.came : Int)] (by rfl) (by rfl) 30 _ HN2.out faultSize rfl (fault_one _ _) ?_
  intro wz hwz
  refine hK9.out _ _ (gb_keep hwz.grown HT.out (by have := HBA.out; omega)) (fun hHeld => ?_)
  clear hK9 K9
  try simp only [Act.put, List.getElem_toArray, List.getElem_cons_zero, List.getElem_cons_succ]
  refine wpAnyH_done (by kernel_rfl) ?_ _
  simp only [noPanic]
  clear hHeld
  go_wp2
  exact ret_tc 4 5 30 rfl _ rfl A rfl _ 30 hwz.blk _ Tryz.underlying30 rfl faultSize rfl ⟨rfl, Below.of_gb (below_then HB2.out (bel_drw w2 1)) hwz.grown (by have := HAA.out; omega)⟩

set_option maxRecDepth 100000 in
set_option maxHeartbeats 4000000 in
theorem ksome_bad (h : Sd w base b v M s) (h0 : s.why ≠ 0) (n : Int) (vp : Value) :
    Calls Tryz.prog 12 #[.pointer (some ⟨b, 0, none⟩), .int .i64 n, vp] w fun e w' => e = .returned (.tuple #[.slice none 0 0, .int .i64 0, .agg #[.int .i64 80, .int .i64 s.came]]) ∧ Below w.heap.size w w' := by
  have HB0 := hid (below_walk w (.cells #[.int .i64 0, .int .i64 0] 30))
  have HN0 := hid (hp_new w (.cells #[.int .i64 0, .int .i64 0] 30))
  have HSD0 := hid (h.below HB0.out)
  have HLT := hid h.kb.lt
  obtain ⟨A, HAA⟩ : ∃ n, Hid (w.heap.size = n) := ⟨_, rfl⟩
  have HRF := hid (kref_bad HSD0.out.kb (lng_pos M) h0)
  clear h
  go_enter Tryz.func12, Tryz.ntmps12
  go_upto_region 1 with fail
  generalize w.alloc (.cells #[.int .i64 0, .int .i64 0] 30) = w0 at HB0 HN0 HSD0 HRF ⊢
  rw [HAA.out] at HN0 HLT ⊢
  go_wp2_with fail
  refine HRF.out.mono ?_
  rintro e w1 ⟨rfl, hb1⟩
  have HW1 := hid (below_walk w1 (.cells [Value.int .i64 80, .int .i64 (s.came : Int)].toArray 30))
  have HSD2 := hid ((HSD0.out.below hb1).below HW1.out)
  have HN2 := hid (bel_keep HW1.out (bel_keep hb1 HN0.out))
  have HB2 := hid (below_then (below_then HB0.out hb1) HW1.out)
  have HT := hid (hp_new w1 (.cells [Value.int .i64 80, .int .i64 (s.came : Int)].toArray 30))
  have HBA := hid (hp_lt (bel_keep hb1 HN0.out))
  clear hb1 HRF HSD0 HN0 HB0
  go_upto_region 2 with (refine st_new (by rfl) 30 _ _ (by rfl) [Value.int .i64 80, .int .i64 (s.came : Int)] (by rfl) (by rfl) 30 _ faultSize rfl (fault_one _ _) ?_)
  obtain ⟨B, HBe⟩ : ∃ n, Hid (w1.heap.size = n) := ⟨_, rfl⟩
  rw [HBe.out] at HT HBA ⊢
  generalize w1.alloc (.cells [Value.int .i64 80, .int .i64 (s.came : Int)].toArray 30) = w2 at HW1 HSD2 HN2 HB2 HT ⊢
  have t0 : w2.cell? ⟨B, 0, none⟩ = some (.int .i64 80) := by simp [World.cell?, HT.out]
  go_upto_region 3 with fail
  refine wp_noPanic (wp_region_held_drew (S := fun W => W.heap[B]? = some (.cells [Value.int .i64 80, .int .i64 (s.came : Int)].toArray 30 (0, 0))) (by kernel_rfl) HT.out ?_)
  intro hHeld
  refine wpAnyH_take (i := 0) (v := .agg [Value.int .i64 80, .int .i64 (s.came : Int)].toArray) rfl (by kernel_rfl) (by kernel_rfl) (by kernel_rfl) (fun _ _ _ h => h) (yieldsIf_load_mid (by rfl) 30 (.tmp 9) rfl B 0 rfl [Value.int .i64 80, .int .i64 (s.came : Int)] _ (fun W hW => range_row hW) Tryz.underlying30 rfl faultSize) hHeld ?_
  simp only [Act.put, List.getElem_toArray, List.getElem_cons_zero, List.setIfInBounds_toArray, List.set_cons_succ, List.set_cons_zero]
  refine wpAnyH_take (i := 1) (v := .slice none 0 0) rfl (by kernel_rfl) (by kernel_rfl) (by kernel_rfl) (fun _ _ _ h => h) (Or.inl ⟨by rfl, fun W _ => by go_simp⟩) hHeld ?_
  simp only [Act.put, List.getElem_toArray, List.getElem_cons_zero, List.getElem_cons_succ, List.setIfInBounds_toArray, List.set_cons_succ, List.set_cons_zero]
  refine wpAnyH_take (i := 2) (v := .int .i64 0) rfl (by kernel_rfl) (by kernel_rfl) (by kernel_rfl) (fun _ _ _ h => h) (Or.inl ⟨by rfl, fun W _ => by go_simp⟩) hHeld ?_
  simp only [Act.put, List.getElem_toArray, List.getElem_cons_zero, List.getElem_cons_succ, List.setIfInBounds_toArray, List.set_cons_succ, List.set_cons_zero]
  refine wpAnyH_ready (rs := [3]) (by kernel_rfl) (by simp) ?_
  refine AllReadyH.cons rfl (fun K9 hK9 => ?_) AllReadyH.nil
  refine step_store_row (by rfl) 30 _ _ (by rfl) A [Value.int .i64 80, .int .i64 (s.came : Int)] (by rfl) (by rfl) 30 _ HN2.out faultSize rfl (fault_one _ _) ?_
  intro wz hwz
  refine hK9.out _ _ (gb_keep hwz.grown HT.out (by have := HBA.out; omega)) (fun hHeld => ?_)
  clear hK9 K9
  try simp only [Act.put, List.getElem_toArray, List.getElem_cons_zero, List.getElem_cons_succ]
  refine wpAnyH_done (by kernel_rfl) ?_ _
  simp only [noPanic]
  clear hHeld
  go_wp2
  exact ret_ttc 6 7 8 30 rfl _ _ rfl rfl A rfl _ 30 hwz.blk _ Tryz.underlying30 rfl faultSize rfl ⟨rfl, Below.of_gb (below_then HB2.out (bel_drw w2 1)) hwz.grown (by have := HAA.out; omega)⟩

set_option maxRecDepth 100000 in
set_option maxHeartbeats 4000000 in
theorem ksome_any (h : Sd w base b v M s) (h0 : s.why = 0) (n : Int) (vx : Value) (bs : List UInt8) (hx : ∀ W vd, Gd w W b v vd → Src W vx bs) (hc : s.came + bs.length ≤ 4611686018427387904) (hbl : bs.length ≤ 900000000000) :
    Calls Tryz.prog 12 #[.pointer (some ⟨b, 0, none⟩), .int .i64 n, vx] w (SomeP w base b v M (runP M (fun j => decide (n ≤ (j : Int))) (s, [], 0) bs)) := by
  have HX := hid hx
  obtain ⟨ax, cx, rfl⟩ := src_shape (hx w v (Gd.refl _ _ _))
  clear hx
  have HB0 := hid (below_walk w (.cells #[.int .i64 0, .int .i64 0] 30))
  have HN0 := hid (hp_new w (.cells #[.int .i64 0, .int .i64 0] 30))
  have HSD0 := hid (h.below HB0.out)
  have HLT := hid h.kb.lt
  obtain ⟨A, HAA⟩ : ∃ n, Hid (w.heap.size = n) := ⟨_, rfl⟩
  have HRF := hid (kref_ok (t := s.wat) (h0 ▸ HSD0.out.kb) (lng_pos M))
  clear h
  go_enter Tryz.func12, Tryz.ntmps12
  go_upto_region 1 with fail
  generalize w.alloc (.cells #[.int .i64 0, .int .i64 0] 30) = w0 at HB0 HN0 HSD0 HRF ⊢
  rw [HAA.out] at HN0 HLT ⊢
  go_wp2_with fail
  refine HRF.out.mono ?_
  rintro e w1 ⟨rfl, hb1⟩
  have HW1 := hid (below_walk w1 (.cells [Value.int .i64 0, .int .i64 0].toArray 30))
  have HSD2 := hid ((HSD0.out.below hb1).below HW1.out)
  have HN2 := hid (bel_keep HW1.out (bel_keep hb1 HN0.out))
  have HB2 := hid (below_then (below_then HB0.out hb1) HW1.out)
  have HT := hid (hp_new w1 (.cells [Value.int .i64 0, .int .i64 0].toArray 30))
  have HBA := hid (hp_lt (bel_keep hb1 HN0.out))
  clear hb1 HRF HSD0 HN0 HB0
  go_upto_region 2 with (refine st_new (by rfl) 30 _ _ (by rfl) [Value.int .i64 0, .int .i64 0] (by rfl) (by rfl) 30 _ faultSize rfl (fault_one _ _) ?_)
  obtain ⟨B, HBe⟩ : ∃ n, Hid (w1.heap.size = n) := ⟨_, rfl⟩
  rw [HBe.out] at HT HBA ⊢
  generalize w1.alloc (.cells [Value.int .i64 0, .int .i64 0].toArray 30) = w2 at HW1 HSD2 HN2 HB2 HT ⊢
  have t0 : w2.cell? ⟨B, 0, none⟩ = some (.int .i64 0) := by simp [World.cell?, HT.out]
  have HG2 := hid (Gd.below (Gd.refl w b v) HB2.out)
  have HUN := hid (kuntil_any HSD2.out n _ bs (fun W vd hg => HX.out W vd (HG2.out.trans hg)) hc hbl)
  obtain ⟨R, HRR⟩ : ∃ R, Hid (runP M (fun j => decide (n ≤ (j : Int))) (s, [], 0) bs = R) := ⟨_, rfl⟩
  rw [HRR.out] at HUN
  go_wp2_with fail
  refine HUN.out.mono ?_
  rintro e w3 ⟨vl3, v3, fs3, rfl, hof3, hsd3, hg3, hm3⟩
  have HOF3 := hid (hof3.le (show w.heap.size ≤ w2.heap.size from HG2.out.size))
  have HSD3 := hid hsd3
  have HG3 := hid (HG2.out.trans hg3)
  have HM3 := hid hm3
  have HN3 := hid ((hg3.block A (hp_lt HN2.out) (by have := HLT.out; omega) (fun e => own_block HSD2.out.kb.own HN2.out (by decide) e)).trans HN2.out)
  have HBK := hid hsd3.kb.blk
  obtain ⟨y, HY⟩ : ∃ y, Hid (R.1.why = y) := ⟨_, rfl⟩
  obtain ⟨t, HTt⟩ : ∃ y, Hid (R.1.wat = y) := ⟨_, rfl⟩
  rw [HY.out, HTt.out] at HBK
  clear hof3 hsd3 hg3 hm3 HUN
  go_upto_region 5 with fail
  refine wp_noPanic (wp_region_held_drew (S := fun W => W.heap[b]? = some (.cells #[v3, .int .i64 R.1.came, .int .i64 R.1.whole, .int .i64 (lngP M : Nat), .int .i64 y, .int .i64 t] 47 (0, 0))) (by kernel_rfl) HBK.out ?_)
  intro hHeld
  refine wpAnyH_take (i := 0) (v := vl3) rfl (by kernel_rfl) (by kernel_rfl) (by kernel_rfl) (fun _ _ _ h => h) (Or.inl ⟨by rfl, fun W _ => by go_simp⟩) hHeld ?_
  simp only [Act.put, List.getElem_toArray, List.getElem_cons_zero, List.setIfInBounds_toArray, List.set_cons_succ, List.set_cons_zero]
  refine wpAnyH_take (i := 1) (v := .int .i64 (R.2.2 : Nat)) rfl (by kernel_rfl) (by kernel_rfl) (by kernel_rfl) (fun _ _ _ h => h) (Or.inl ⟨by rfl, fun W _ => by go_simp⟩) hHeld ?_
  simp only [Act.put, List.getElem_toArray, List.getElem_cons_zero, List.getElem_cons_succ, List.setIfInBounds_toArray, List.set_cons_succ, List.set_cons_zero]
  refine wpAnyH_take (i := 2) (v := .pointer (some ⟨b, 0, none⟩)) rfl (by kernel_rfl) (by kernel_rfl) (by kernel_rfl) (fun _ _ _ h => h) (Or.inl ⟨by rfl, fun W _ => by go_simp⟩) hHeld ?_
  simp only [Act.put, List.getElem_toArray, List.getElem_cons_zero, List.getElem_cons_succ, List.setIfInBounds_toArray, List.set_cons_succ, List.set_cons_zero]
  refine wpAnyH_take (i := 3) (v := .pointer (some ⟨b, 0, none⟩)) rfl (by kernel_rfl) (by kernel_rfl) (by kernel_rfl) (fun _ _ _ h => h) (Or.inl ⟨by rfl, fun W _ => by go_simp⟩) hHeld ?_
  simp only [Act.put, List.getElem_toArray, List.getElem_cons_zero, List.getElem_cons_succ, List.setIfInBounds_toArray, List.set_cons_succ, List.set_cons_zero]
  refine wpAnyH_take (i := 4) (v := .pointer (some ⟨b, 4, none⟩)) rfl (by kernel_rfl) (by kernel_rfl) (by kernel_rfl) (fun _ _ _ h => h) (Or.inl ⟨by rfl, fun W _ => by go_simp⟩) hHeld ?_
  simp only [Act.put, List.getElem_toArray, List.getElem_cons_zero, List.getElem_cons_succ, List.setIfInBounds_toArray, List.set_cons_succ, List.set_cons_zero]
  refine wpAnyH_take (i := 5) (v := .agg [Value.int .i64 y, .int .i64 t].toArray) rfl (by kernel_rfl) (by kernel_rfl) (by kernel_rfl) (fun _ _ _ h => h) (yieldsIf_load_mid (by rfl) 30 (.tmp 29) rfl b 4 rfl [Value.int .i64 y, .int .i64 t] _ (fun W hW => fault_at hW) Tryz.underlying30 rfl faultSize) hHeld ?_
  simp only [Act.put, List.getElem_toArray, List.getElem_cons_zero, List.getElem_cons_succ, List.setIfInBounds_toArray, List.set_cons_succ, List.set_cons_zero]
  refine wpAnyH_take (i := 6) (v := vl3) rfl (by kernel_rfl) (by kernel_rfl) (by kernel_rfl) (fun _ _ _ h => h) (Or.inl ⟨by rfl, fun W _ => by go_simp⟩) hHeld ?_
  simp only [Act.put, List.getElem_toArray, List.getElem_cons_zero, List.getElem_cons_succ, List.setIfInBounds_toArray, List.set_cons_succ, List.set_cons_zero]
  refine wpAnyH_take (i := 7) (v := .int .i64 (R.2.2 : Nat)) rfl (by kernel_rfl) (by kernel_rfl) (by kernel_rfl) (fun _ _ _ h => h) (Or.inl ⟨by rfl, fun W _ => by go_simp⟩) hHeld ?_
  simp only [Act.put, List.getElem_toArray, List.getElem_cons_zero, List.getElem_cons_succ, List.setIfInBounds_toArray, List.set_cons_succ, List.set_cons_zero]
  refine wpAnyH_ready (rs := [8]) (by kernel_rfl) (by simp) ?_
  refine AllReadyH.cons rfl (fun K9 hK9 => ?_) AllReadyH.nil
  refine step_store_row (by rfl) 30 _ _ (by rfl) A [Value.int .i64 y, .int .i64 t] (by rfl) (by rfl) 30 _ HN3.out faultSize rfl (fault_one _ _) ?_
  intro wz hwz
  refine hK9.out _ _ (gb_keep hwz.grown HBK.out (by have := HLT.out; omega)) (fun hHeld => ?_)
  clear hK9 K9
  try simp only [Act.put, List.getElem_toArray, List.getElem_cons_zero, List.getElem_cons_succ]
  refine wpAnyH_done (by kernel_rfl) ?_ _
  simp only [noPanic]
  clear hHeld
  go_wp2
  refine ret_ttc 6 7 8 30 rfl _ _ rfl rfl A rfl _ 30 hwz.blk _ Tryz.underlying30 rfl faultSize rfl ?_
  rw [HRR.out]
  exact ⟨_, v3, fs3, by rw [HY.out, HTt.out]; rfl, (HOF3.out.below (bel_drw w3 1)).gone hwz.grown HN3.out (by decide) (by decide), ((HSD3.out.drew 1).far hwz.grown (by have := HLT.out; omega) (fun k e h9 => own_block HSD3.out.kb.own HN3.out (by decide) (h9 ▸ e))), (HG3.out.below (bel_drw w3 1)).fresh hwz.grown (by have := HAA.out; omega), HM3.out⟩
end
end Go.Proofs.YtiibhccbbpgehabGreat

/- Whether all fields of two frames are the same. -/
namespace Go.Proofs.YtiibhccbbpgehabGreat
open Go.RowKit

set_option maxRecDepth 100000 in
set_option maxHeartbeats 4000000 in
theorem rsame_any (f g : Fr) (va vb : Value) (w : World) (hf : f.tool.length = 32) (hg : g.tool.length = 32) (ha : Strs w va f.args) (hb : Strs w vb g.args) (hn : f.args.length ≤ 9223372036854775807) :
    Calls Tryz.prog 33 #[.agg (fcells f va).toArray, .agg (fcells g vb).toArray] w fun e w' => e = .returned (.bool (sameP f g)) ∧ Below w.heap.size w w' := by
  have HNA := hid (hp_two w (.cells (fcells f va).toArray 65) (.cells (fcells g vb).toArray 65))
  have HBL := hid (below_walk2 w (.cells (fcells f va).toArray 65) (.cells (fcells g vb).toArray 65))
  have HSA := hid ha
  have HSB := hid hb
  have HN := hid hn
  have HF := hid hf
  have HG := hid hg
  clear ha hb hn hf hg
  go_enter Tryz.func33, Tryz.ntmps33
  go_upto_region 1 with fail
  generalize (w.alloc (.cells (fcells f va).toArray 65)).alloc (.cells (fcells g vb).toArray 65) = w2 at HNA HBL ⊢
  have HA := hid (Fb.of HNA.out.1 HF.out)
  have HB := hid (Fb.of HNA.out.2 HG.out)
  clear HNA
  have HSA2 := hid (HSA.out.below HBL.out)
  have HSB2 := hid (HSB.out.below HBL.out)
  clear HSA HSB
  have hlg := limG
  have hdg := digG
  have HEQ := hid (wsame_any va vb f.args g.args w2 HSA2.out HSB2.out HN.out)
  obtain ⟨fk, fi, fv, fs, ft, fst, fl, fa, fb⟩ := f
  obtain ⟨gk, gi, gv, gs, gt, gst, gl, ga, gb⟩ := g
  obtain ⟨fl1, fl2, fl3⟩ := fl
  obtain ⟨gl1, gl2, gl3⟩ := gl
  obtain ⟨B2, HB2⟩ : ∃ b : Nat, Hid (w.heap.size + 1 = b) := ⟨_, rfl⟩
  obtain ⟨B1, HB1⟩ : ∃ b : Nat, Hid (w.heap.size = b) := ⟨_, rfl⟩
  rw [HB2.out] at HB ⊢
  rw [HB1.out] at HA ⊢
  clear HB1 HB2
  by_cases hne : fk = gk
  · subst hne
    by_cases hne : fi = gi
    · subst hne
      by_cases hne : fv = gv
      · subst hne
        by_cases hne : fs = gs
        · subst hne
          by_cases hne : ft = gt
          · subst hne
            by_cases hne : fst = gst
            · subst hne
              by_cases hne : (fl1, fl2, fl3) = (gl1, gl2, gl3)
              · injection hne with h1 h2; injection h2 with h2 h3; subst h1; subst h2; subst h3
                by_cases hne : fa = ga
                · subst hne
                  by_cases hne : fb = gb
                  · subst hne
                    have HR : Hid (sameP ⟨fk, fi, fv, fs, ft, fst, (fl1, fl2, fl3), fa, fb⟩ ⟨fk, fi, fv, fs, ft, fst, (fl1, fl2, fl3), fa, fb⟩ = true) := hid (sameP_self _)
                    have a0 := HA.out.k
                    have b0 := HB.out.k
                    have a1 := HA.out.i
                    have b1 := HB.out.i
                    have a2 := HA.out.v
                    have b2 := HB.out.v
                    have a3 := HA.out.s
                    have b3 := HB.out.s
                    have a4 := hid HA.out.t
                    have b4 := hid HB.out.t
                    have HS1 := hid (tool_size ft HF.out)
                    have HS2 := hid (tool_size ft HG.out)
                    have a5 := HA.out.st
                    have b5 := HB.out.st
                    have a61 := HA.out.l1
                    have b61 := HB.out.l1
                    have a62 := HA.out.l2
                    have b62 := HB.out.l2
                    have a63 := HA.out.l3
                    have b63 := HB.out.l3
                    have a7 := HA.out.a
                    have b7 := HB.out.a
                    have e4 := dig_eql ft ft HF.out HF.out
                    rw [decide_eq_true rfl] at e4
                    have e6 := lim_eql fl1 fl2 fl3 fl1 fl2 fl3
                    rw [decide_eq_true rfl] at e6
                    have HE2 := hid HEQ.out
                    simp only [decide_true] at HE2
                    have HA8 := hid (fun n => (show (w2.drewN n).cell? ⟨B1, 41, none⟩ = _ from HA.out.bd))
                    have HB8 := hid (fun n => (show (w2.drewN n).cell? ⟨B2, 41, none⟩ = _ from HB.out.bd))
                    clear HA HB HEQ HF HG
                    go_wp2_with (first | (refine ld_gd (by rfl) 60 (.tmp 32) (by rfl) B1 4 (by rfl) _ _ a4.out Tryz.underlying60 rfl HS1.out ?_) | (refine ld_gd (by rfl) 60 (.tmp 34) (by rfl) B2 4 (by rfl) _ _ b4.out Tryz.underlying60 rfl HS2.out ?_))
                    refine HE2.out.mono ?_
                    rintro e w3 ⟨rfl, n, rfl⟩
                    have a8 := HA8.out n
                    have b8 := HB8.out n
                    clear HA8 HB8
                    clear HE2
                    go_wp2
                    go_ret
                    exact ⟨ret_eq HR.out.symm, HBL.out.trans ⟨rfl, rfl, rfl, Nat.le_refl _, fun _ _ => rfl⟩⟩
                  · have HR : Hid (sameP ⟨fk, fi, fv, fs, ft, fst, (fl1, fl2, fl3), fa, fb⟩ ⟨fk, fi, fv, fs, ft, fst, (fl1, fl2, fl3), fa, gb⟩ = false) := hid (decide_eq_false (fun h9 => hne (by exact h9.2.2.2.2.2.2.2.2)))
                    have a0 := HA.out.k
                    have b0 := HB.out.k
                    have a1 := HA.out.i
                    have b1 := HB.out.i
                    have a2 := HA.out.v
                    have b2 := HB.out.v
                    have a3 := HA.out.s
                    have b3 := HB.out.s
                    have a4 := hid HA.out.t
                    have b4 := hid HB.out.t
                    have HS1 := hid (tool_size ft HF.out)
                    have HS2 := hid (tool_size ft HG.out)
                    have a5 := HA.out.st
                    have b5 := HB.out.st
                    have a61 := HA.out.l1
                    have b61 := HB.out.l1
                    have a62 := HA.out.l2
                    have b62 := HB.out.l2
                    have a63 := HA.out.l3
                    have b63 := HB.out.l3
                    have a7 := HA.out.a
                    have b7 := HB.out.a
                    have e4 := dig_eql ft ft HF.out HF.out
                    rw [decide_eq_true rfl] at e4
                    have e6 := lim_eql fl1 fl2 fl3 fl1 fl2 fl3
                    rw [decide_eq_true rfl] at e6
                    have HE2 := hid HEQ.out
                    simp only [decide_true] at HE2
                    have HA8 := hid (fun n => (show (w2.drewN n).cell? ⟨B1, 41, none⟩ = _ from HA.out.bd))
                    have HB8 := hid (fun n => (show (w2.drewN n).cell? ⟨B2, 41, none⟩ = _ from HB.out.bd))
                    have t1 : ¬ (mk fb).toList = (mk gb).toList := fun h9 => hne ((bl_mk fb).symm.trans (h9.trans (bl_mk gb)))
                    have t2 : ((mk fb).toList == (mk gb).toList) = false := by simpa using t1
                    clear HA HB HEQ HF HG
                    clear hne
                    go_wp2_with (first | (refine ld_gd (by rfl) 60 (.tmp 32) (by rfl) B1 4 (by rfl) _ _ a4.out Tryz.underlying60 rfl HS1.out ?_) | (refine ld_gd (by rfl) 60 (.tmp 34) (by rfl) B2 4 (by rfl) _ _ b4.out Tryz.underlying60 rfl HS2.out ?_))
                    refine HE2.out.mono ?_
                    rintro e w3 ⟨rfl, n, rfl⟩
                    have a8 := HA8.out n
                    have b8 := HB8.out n
                    clear HA8 HB8
                    clear HE2
                    go_wp2
                    go_ret
                    exact ⟨ret_eq HR.out.symm, HBL.out.trans ⟨rfl, rfl, rfl, Nat.le_refl _, fun _ _ => rfl⟩⟩
                · have HR : Hid (sameP ⟨fk, fi, fv, fs, ft, fst, (fl1, fl2, fl3), fa, fb⟩ ⟨fk, fi, fv, fs, ft, fst, (fl1, fl2, fl3), ga, gb⟩ = false) := hid (decide_eq_false (fun h9 => hne (by exact h9.2.2.2.2.2.2.2.1)))
                  have a0 := HA.out.k
                  have b0 := HB.out.k
                  have a1 := HA.out.i
                  have b1 := HB.out.i
                  have a2 := HA.out.v
                  have b2 := HB.out.v
                  have a3 := HA.out.s
                  have b3 := HB.out.s
                  have a4 := hid HA.out.t
                  have b4 := hid HB.out.t
                  have HS1 := hid (tool_size ft HF.out)
                  have HS2 := hid (tool_size ft HG.out)
                  have a5 := HA.out.st
                  have b5 := HB.out.st
                  have a61 := HA.out.l1
                  have b61 := HB.out.l1
                  have a62 := HA.out.l2
                  have b62 := HB.out.l2
                  have a63 := HA.out.l3
                  have b63 := HB.out.l3
                  have a7 := HA.out.a
                  have b7 := HB.out.a
                  have e4 := dig_eql ft ft HF.out HF.out
                  rw [decide_eq_true rfl] at e4
                  have e6 := lim_eql fl1 fl2 fl3 fl1 fl2 fl3
                  rw [decide_eq_true rfl] at e6
                  have HE2 := hid HEQ.out
                  simp only [decide_eq_false hne] at HE2
                  clear HA HB HEQ HF HG
                  clear hne
                  go_wp2_with (first | (refine ld_gd (by rfl) 60 (.tmp 32) (by rfl) B1 4 (by rfl) _ _ a4.out Tryz.underlying60 rfl HS1.out ?_) | (refine ld_gd (by rfl) 60 (.tmp 34) (by rfl) B2 4 (by rfl) _ _ b4.out Tryz.underlying60 rfl HS2.out ?_))
                  refine HE2.out.mono ?_
                  rintro e w3 ⟨rfl, n, rfl⟩
                  clear HE2
                  go_wp2
                  go_ret
                  exact ⟨ret_eq HR.out.symm, HBL.out.trans ⟨rfl, rfl, rfl, Nat.le_refl _, fun _ _ => rfl⟩⟩
              · have HR : Hid (sameP ⟨fk, fi, fv, fs, ft, fst, (fl1, fl2, fl3), fa, fb⟩ ⟨fk, fi, fv, fs, ft, fst, (gl1, gl2, gl3), ga, gb⟩ = false) := hid (decide_eq_false (fun h9 => hne (by exact h9.2.2.2.2.2.2.1)))
                have a0 := HA.out.k
                have b0 := HB.out.k
                have a1 := HA.out.i
                have b1 := HB.out.i
                have a2 := HA.out.v
                have b2 := HB.out.v
                have a3 := HA.out.s
                have b3 := HB.out.s
                have a4 := hid HA.out.t
                have b4 := hid HB.out.t
                have HS1 := hid (tool_size ft HF.out)
                have HS2 := hid (tool_size ft HG.out)
                have a5 := HA.out.st
                have b5 := HB.out.st
                have a61 := HA.out.l1
                have b61 := HB.out.l1
                have a62 := HA.out.l2
                have b62 := HB.out.l2
                have a63 := HA.out.l3
                have b63 := HB.out.l3
                have e4 := dig_eql ft ft HF.out HF.out
                rw [decide_eq_true rfl] at e4
                have e6 := lim_eql fl1 fl2 fl3 gl1 gl2 gl3
                rw [decide_eq_false hne] at e6
                clear HA HB HEQ HF HG
                clear hne
                go_wp2_with (first | (refine ld_gd (by rfl) 60 (.tmp 32) (by rfl) B1 4 (by rfl) _ _ a4.out Tryz.underlying60 rfl HS1.out ?_) | (refine ld_gd (by rfl) 60 (.tmp 34) (by rfl) B2 4 (by rfl) _ _ b4.out Tryz.underlying60 rfl HS2.out ?_))
                go_ret
                exact ⟨ret_eq HR.out.symm, HBL.out⟩
            · have HR : Hid (sameP ⟨fk, fi, fv, fs, ft, fst, (fl1, fl2, fl3), fa, fb⟩ ⟨fk, fi, fv, fs, ft, gst, (gl1, gl2, gl3), ga, gb⟩ = false) := hid (decide_eq_false (fun h9 => hne (by exact h9.2.2.2.2.2.1)))
              have a0 := HA.out.k
              have b0 := HB.out.k
              have a1 := HA.out.i
              have b1 := HB.out.i
              have a2 := HA.out.v
              have b2 := HB.out.v
              have a3 := HA.out.s
              have b3 := HB.out.s
              have a4 := hid HA.out.t
              have b4 := hid HB.out.t
              have HS1 := hid (tool_size ft HF.out)
              have HS2 := hid (tool_size ft HG.out)
              have a5 := HA.out.st
              have b5 := HB.out.st
              have e4 := dig_eql ft ft HF.out HF.out
              rw [decide_eq_true rfl] at e4
              have q1 : (fst == gst) = false := by simpa using hne
              clear HA HB HEQ HF HG
              go_wp2_with (first | (refine ld_gd (by rfl) 60 (.tmp 32) (by rfl) B1 4 (by rfl) _ _ a4.out Tryz.underlying60 rfl HS1.out ?_) | (refine ld_gd (by rfl) 60 (.tmp 34) (by rfl) B2 4 (by rfl) _ _ b4.out Tryz.underlying60 rfl HS2.out ?_))
              go_ret
              exact ⟨ret_eq HR.out.symm, HBL.out⟩
          · have HR : Hid (sameP ⟨fk, fi, fv, fs, ft, fst, (fl1, fl2, fl3), fa, fb⟩ ⟨fk, fi, fv, fs, gt, gst, (gl1, gl2, gl3), ga, gb⟩ = false) := hid (decide_eq_false (fun h9 => hne (by exact h9.2.2.2.2.1)))
            have a0 := HA.out.k
            have b0 := HB.out.k
            have a1 := HA.out.i
            have b1 := HB.out.i
            have a2 := HA.out.v
            have b2 := HB.out.v
            have a3 := HA.out.s
            have b3 := HB.out.s
            have a4 := hid HA.out.t
            have b4 := hid HB.out.t
            have HS1 := hid (tool_size ft HF.out)
            have HS2 := hid (tool_size gt HG.out)
            have e4 := dig_eql ft gt HF.out HG.out
            rw [decide_eq_false hne] at e4
            clear HA HB HEQ HF HG
            clear hne
            go_wp2_with (first | (refine ld_gd (by rfl) 60 (.tmp 32) (by rfl) B1 4 (by rfl) _ _ a4.out Tryz.underlying60 rfl HS1.out ?_) | (refine ld_gd (by rfl) 60 (.tmp 34) (by rfl) B2 4 (by rfl) _ _ b4.out Tryz.underlying60 rfl HS2.out ?_))
            go_ret
            exact ⟨ret_eq HR.out.symm, HBL.out⟩
        · have HR : Hid (sameP ⟨fk, fi, fv, fs, ft, fst, (fl1, fl2, fl3), fa, fb⟩ ⟨fk, fi, fv, gs, gt, gst, (gl1, gl2, gl3), ga, gb⟩ = false) := hid (decide_eq_false (fun h9 => hne (by exact h9.2.2.2.1)))
          have a0 := HA.out.k
          have b0 := HB.out.k
          have a1 := HA.out.i
          have b1 := HB.out.i
          have a2 := HA.out.v
          have b2 := HB.out.v
          have a3 := HA.out.s
          have b3 := HB.out.s
          have q1 : (fs == gs) = false := by simpa using hne
          clear HA HB HEQ HF HG
          go_wp2
          go_ret
          exact ⟨ret_eq HR.out.symm, HBL.out⟩
      · have HR : Hid (sameP ⟨fk, fi, fv, fs, ft, fst, (fl1, fl2, fl3), fa, fb⟩ ⟨fk, fi, gv, gs, gt, gst, (gl1, gl2, gl3), ga, gb⟩ = false) := hid (decide_eq_false (fun h9 => hne (by exact h9.2.2.1)))
        have a0 := HA.out.k
        have b0 := HB.out.k
        have a1 := HA.out.i
        have b1 := HB.out.i
        have a2 := HA.out.v
        have b2 := HB.out.v
        have q1 : (fv == gv) = false := by simpa using hne
        clear HA HB HEQ HF HG
        go_wp2
        go_ret
        exact ⟨ret_eq HR.out.symm, HBL.out⟩
    · have HR : Hid (sameP ⟨fk, fi, fv, fs, ft, fst, (fl1, fl2, fl3), fa, fb⟩ ⟨fk, gi, gv, gs, gt, gst, (gl1, gl2, gl3), ga, gb⟩ = false) := hid (decide_eq_false (fun h9 => hne (by exact h9.2.1)))
      have a0 := HA.out.k
      have b0 := HB.out.k
      have a1 := HA.out.i
      have b1 := HB.out.i
      have q1 : (fi == gi) = false := by simpa using hne
      clear HA HB HEQ HF HG
      go_wp2
      go_ret
      exact ⟨ret_eq HR.out.symm, HBL.out⟩
  · have HR : Hid (sameP ⟨fk, fi, fv, fs, ft, fst, (fl1, fl2, fl3), fa, fb⟩ ⟨gk, gi, gv, gs, gt, gst, (gl1, gl2, gl3), ga, gb⟩ = false) := hid (decide_eq_false (fun h9 => hne (by exact h9.1)))
    have a0 := HA.out.k
    have b0 := HB.out.k
    have q1 : (fk == gk) = false := by simpa using hne
    clear HA HB HEQ HF HG
    go_wp2
    go_ret
    exact ⟨ret_eq HR.out.symm, HBL.out⟩

end Go.Proofs.YtiibhccbbpgehabGreat

/- A Bye, written by the document. -/
namespace Go.Proofs.YtiibhccbbpgehabGreat
open Go.RowKit Go.BigFrame

set_option maxRecDepth 100000 in
set_option maxHeartbeats 4000000 in
theorem onlyBye_any (w : World) :
    Calls Tryz.prog 60 #[.agg (fcells byeF nS).toArray] w fun e w' => e = .returned (.agg (fcells byeF nS).toArray) ∧ Below w.heap.size w w' := by
  have HNB := hid (hp_two w (.cells (fcells byeF nS).toArray 65) (.cells (fcells zF nS).toArray 65))
  have HBL := hid (below_walk2 w (.cells (fcells byeF nS).toArray 65) (.cells (fcells zF nS).toArray 65))
  have HZ : Hid ((w.alloc (.cells (fcells byeF nS).toArray 65)).heap.size = w.heap.size + 1) := hid (by simp)
  have HSZ := hid (frame_size byeF nS rfl)
  go_enter Tryz.func60, Tryz.ntmps60
  go_upto_region 1 with (refine al_row (by rfl) 65 (by rfl) _ zeroFrame ?_)
  try rw [HZ.out]
  generalize (w.alloc (.cells (fcells byeF nS).toArray 65)).alloc (.cells (fcells zF nS).toArray 65) = w2 at HNB HBL ⊢
  have x0 : w2.cell? ⟨w.heap.size, 0, none⟩ = some (.int .i64 5) := (Fb.of HNB.out.1 rfl).k
  have HL2 := hid (hp_lt HNB.out.2)
  go_upto_region 2 with (first
    | (refine bd_row (by rfl) 65 #[(0, .tmp 5)] (by rfl) _ (by simp [Act.eval]) _ built_bye ?_)
    | (refine al_row (by rfl) 65 (by rfl) _ zeroFrame ?_)
    | (refine st_new (by rfl) 65 _ _ (by rfl) (fcells byeF nS) (by rfl) (by rfl) 65 _ HSZ.out rfl (fcells_one byeF nS rfl) ?_))
  have HN1 := hid ((below_walk w2 (.cells (fcells byeF nS).toArray 65)).block _ (by have := HL2.out; omega) |>.trans HNB.out.1)
  have HN2 := hid ((below_walk w2 (.cells (fcells byeF nS).toArray 65)).block _ HL2.out |>.trans HNB.out.2)
  have HN3 := hid (hp_new w2 (.cells (fcells byeF nS).toArray 65))
  have HB3 := hid (below_then HBL.out (below_walk w2 (.cells (fcells byeF nS).toArray 65)))
  obtain ⟨B3, HE3⟩ : ∃ b : Nat, Hid (w2.heap.size = b) := ⟨_, rfl⟩
  rw [HE3.out] at HN3 ⊢
  generalize w2.alloc (.cells (fcells byeF nS).toArray 65) = w3 at HN1 HN2 HN3 HB3 ⊢
  clear x0 HNB HBL HL2
  have x1 : w3.cell? ⟨w.heap.size, 0, none⟩ = some (.int .i64 5) := (Fb.of HN1.out rfl).k
  go_wp2_with (first
    | (refine ld_row (by rfl) 65 (.tmp 3) (by rfl) B3 (by rfl) (fcells byeF nS) 65 HN3.out _ Tryz.underlying65 rfl HSZ.out ?_)
    | (refine st_row (by rfl) 65 _ _ (by rfl) (w.heap.size + 1) (fcells byeF nS) (by rfl) (by rfl) 65 _ HN2.out HSZ.out rfl (fcells_one byeF nS rfl) ?_; intro w4 hw4))
  refine ret_row 2 65 rfl (w.heap.size + 1) rfl (fcells byeF nS) 65 hw4.blk _ Tryz.underlying65 rfl HSZ.out rfl ⟨rfl, Below.of_gb HB3.out hw4.grown (by omega)⟩

theorem ruint_five (w : World) : Calls Tryz.prog 46 #[.int .u64 5] w fun e w' => ∃ ao c, e = .returned (.slice ao 1 c) ∧ OwnB w' w.heap.size (.slice ao 1 c) [5] ∧ Below w.heap.size w w' := by
  refine (refUint_any 5 w (by decide)).mono ?_
  rintro e w' ⟨v, rfl, ho, hb⟩
  have ho' : OwnB w' w.heap.size v [5] := ho
  obtain ⟨ao, c, rfl⟩ := src_shape (ho'.src (by simp))
  exact ⟨ao, c, rfl, ho', hb⟩
theorem ruint_one (w : World) : Calls Tryz.prog 46 #[.int .u64 1] w fun e w' => ∃ ao c, e = .returned (.slice ao 1 c) ∧ OwnB w' w.heap.size (.slice ao 1 c) [1] ∧ Below w.heap.size w w' := by
  refine (refUint_any 1 w (by decide)).mono ?_
  rintro e w' ⟨v, rfl, ho, hb⟩
  have ho' : OwnB w' w.heap.size v [1] := ho
  obtain ⟨ao, c, rfl⟩ := src_shape (ho'.src (by simp))
  exact ⟨ao, c, rfl, ho', hb⟩

set_option maxRecDepth 100000 in
set_option maxHeartbeats 4000000 in
theorem bodyBye_any (w : World) :
    Calls Tryz.prog 45 #[.agg (fcells byeF nS).toArray] w fun e w' => ∃ ao c, e = .returned (.slice ao 1 c) ∧ Src w' (.slice ao 1 c) [5] ∧ Below w.heap.size w w' := by
  have HNB := hid (hp_new w (.cells (fcells byeF nS).toArray 65))
  have HBL := hid (below_walk w (.cells (fcells byeF nS).toArray 65))
  go_enter Tryz.func45, Tryz.ntmps45
  go_upto_region 1 with fail
  generalize w.alloc (.cells (fcells byeF nS).toArray 65) = w1 at HNB HBL ⊢
  have x0 : w1.cell? ⟨w.heap.size, 0, none⟩ = some (.int .i64 5) := (Fb.of HNB.out rfl).k
  have hw5 : IntKind.u64.wrap 5 = 5 := rfl
  go_wp2_with fail
  refine (ruint_five w1).mono ?_
  rintro e w2 ⟨ao, c, rfl, ho2, hb2⟩
  have HS2 := hid (ho2.src (by simp))
  have HN2 := hid ((hb2.block _ (hp_lt HNB.out)).trans HNB.out)
  have HB2 := hid (below_then HBL.out hb2)
  have x1 : w2.cell? ⟨w.heap.size, 0, none⟩ = some (.int .i64 5) := (Fb.of HN2.out rfl).k
  clear x0 hw5 ho2 hb2 HNB HBL HN2
  go_wp2
  go_ret
  exact ⟨_, _, rfl, HS2.out, HB2.out⟩

theorem rsame_bye (w : World) : Calls Tryz.prog 33 #[.agg (fcells byeF nS).toArray, .agg (fcells byeF nS).toArray] w fun e w' => e = .returned (.bool true) ∧ Below w.heap.size w w' := by
  have := rsame_any byeF byeF nS nS w rfl rfl (strs_nil w) (strs_nil w) (by simp [byeF])
  rwa [sameP_self] at this

set_option maxRecDepth 100000 in
set_option maxHeartbeats 4000000 in
theorem checkBye_any (w : World) :
    Calls Tryz.prog 44 #[.agg (fcells byeF nS).toArray] w fun e w' => e = .returned (.int .i64 0) ∧ Below w.heap.size w w' := by
  have HNB := hid (hp_new w (.cells (fcells byeF nS).toArray 65))
  have HBL := hid (below_walk w (.cells (fcells byeF nS).toArray 65))
  have HSZ := hid (frame_size byeF nS rfl)
  go_enter Tryz.func44, Tryz.ntmps44
  go_upto_region 1 with fail
  generalize w.alloc (.cells (fcells byeF nS).toArray 65) = w1 at HNB HBL ⊢
  have HL := hid (hp_lt HNB.out)
  have x0 : w1.cell? ⟨w.heap.size, 0, none⟩ = some (.int .i64 5) := (Fb.of HNB.out rfl).k
  have x7 : w1.cell? ⟨w.heap.size, 40, none⟩ = some (.slice none 0 0) := (Fb.of HNB.out rfl).a
  have z0 := fun p : Bel w1 => p.cell x0 HL.out
  have z7 := fun p : Bel w1 => p.cell x7 HL.out
  have ib : Nonempty (Bel w1) := bel_some w1
  have HRA := hid (Bel.range (range_row HNB.out) HL.out)
  clear x0 x7
  refine wp_region_quiet_bel (by kernel_rfl) (by kernel_rfl) ?_
  go_big_quiet_step (fail)
  go_big_quiet_step (fail)
  go_big_quiet_step (fail)
  go_big_quiet_step (fail)
  go_big_quiet_step (fail)
  go_big_quiet_step (fail)
  go_big_quiet_step (fail)
  go_big_quiet_step (fail)
  go_big_quiet_step (fail)
  refine wpQuiet_want (by rfl) fun K hK => quiet_ld 65 (.tmp 1) (by rfl) w.heap.size 0 (by rfl) _ _ HRA.out Tryz.underlying65 rfl HSZ.out (hK _ ?_)
  simp only [Act.put, List.setIfInBounds_toArray, List.set_cons_succ, List.set_cons_zero]
  refine wpQuiet_want (by rfl) fun K hK => quiet_ld 65 (.tmp 1) (by rfl) w.heap.size 0 (by rfl) _ _ HRA.out Tryz.underlying65 rfl HSZ.out (hK _ ?_)
  simp only [Act.put, List.setIfInBounds_toArray, List.set_cons_succ, List.set_cons_zero]
  go_big_quiet_step (first | (go_at_call 60; exact bel_of (onlyBye_any _)))
  go_big_quiet_step (first | (go_at_call 33; exact bel_of (rsame_bye _)))
  go_big_quiet_step (fail)
  go_big_quiet_step (fail)
  go_big_quiet_step (fail)
  go_big_quiet_step (fail)
  go_big_quiet_step (fail)
  go_big_quiet_step (fail)
  go_big_quiet_step (fail)
  go_big_quiet_step (fail)
  go_big_quiet_step (fail)
  refine wpQuiet_nil ?_
  rintro w2 ⟨⟨w2', hb2⟩, hw2⟩
  obtain rfl : w2 = w2' := hw2
  have HN2 := hid ((hb2.block _ HL.out).trans HNB.out)
  have HB2 := hid (below_then HBL.out hb2)
  clear hb2 z0 z7 ib HRA HNB HBL HL
  have x0 : w2.cell? ⟨w.heap.size, 0, none⟩ = some (.int .i64 5) := (Fb.of HN2.out rfl).k
  have l1 : w2.cell? ⟨w.heap.size, 37, none⟩ = some (.int .i64 0) := (Fb.of HN2.out rfl).l1
  have l2 : w2.cell? ⟨w.heap.size, 38, none⟩ = some (.int .i64 0) := (Fb.of HN2.out rfl).l2
  have l3 : w2.cell? ⟨w.heap.size, 39, none⟩ = some (.int .i64 0) := (Fb.of HN2.out rfl).l3
  have x7 : w2.cell? ⟨w.heap.size, 40, none⟩ = some (.slice none 0 0) := (Fb.of HN2.out rfl).a
  have x8 : w2.cell? ⟨w.heap.size, 41, none⟩ = some (.string ⟨#[]⟩) := (Fb.of HN2.out rfl).bd
  go_wp2_with fail
  go_loopw [3, 4] (fun b i wr => b = .bool false ∧ i = .int .i64 0 ∧ wr = w2) (fun _ _ _ => 0)
  case atStart => exact ⟨rfl, rfl, rfl⟩
  case round =>
    obtain ⟨rfl, rfl, rfl⟩ := hrel
    have HRG := hid (range_row HN2.out)
    go_wp2_with (refine ld_gd (by rfl) 65 (.tmp 1) (by rfl) w.heap.size 0 (by rfl) _ _ HRG.out Tryz.underlying65 rfl HSZ.out ?_)
    refine (bodyBye_any wr).mono ?_
    rintro e w3 ⟨ao, c, rfl, hs3, hb3⟩
    have HB3 := hid (below_then HB2.out hb3)
    clear hs3 hb3 x0 l1 l2 l3 x7 x8 HN2 HB2
    go_wp2
    go_ret
    exact ⟨rfl, HB3.out⟩

set_option maxRecDepth 100000 in
set_option maxHeartbeats 4000000 in
theorem rencodeBye_any (w : World) :
    Calls Tryz.prog 27 #[.agg (fcells byeF nS).toArray] w fun e w' => ∃ v, e = .returned (.tuple #[v, .int .i64 0]) ∧ OwnB w' w.heap.size v (sealP [1, 5]) ∧ Below w.heap.size w w' := by
  have HNB := hid (hp_new w (.cells (fcells byeF nS).toArray 65))
  have HBL := hid (below_walk w (.cells (fcells byeF nS).toArray 65))
  have HSZ := hid (frame_size byeF nS rfl)
  go_enter Tryz.func27, Tryz.ntmps27
  go_upto_region 1 with fail
  generalize w.alloc (.cells (fcells byeF nS).toArray 65) = w1 at HNB HBL ⊢
  go_wp2_with (refine ld_row (by rfl) 65 (.tmp 1) (by rfl) w.heap.size (by rfl) (fcells byeF nS) 65 HNB.out _ Tryz.underlying65 rfl HSZ.out ?_)
  refine (checkBye_any w1).mono ?_
  rintro e w2 ⟨rfl, hb2⟩
  have HN2 := hid ((hb2.block _ (hp_lt HNB.out)).trans HNB.out)
  have HB2 := hid (below_then HBL.out hb2)
  clear hb2 HNB HBL
  go_wp2_with (refine ld_row (by rfl) 65 (.tmp 1) (by rfl) w.heap.size (by rfl) (fcells byeF nS) 65 HN2.out _ Tryz.underlying65 rfl HSZ.out ?_)
  refine (bodyBye_any w2).mono ?_
  rintro e w3 ⟨ao, c, rfl, hs3, hb3⟩
  have HS3 := hid hs3
  have HB3 := hid (below_then HB2.out hb3)
  have hw1 : IntKind.u64.wrap 1 = 1 := rfl
  clear hs3 hb3 HN2 HB2
  go_wp2_with fail
  refine (ruint_one w3).mono ?_
  rintro e w4 ⟨a4, c4, rfl, ho4, hb4⟩
  have HO4 := hid ho4
  have HS4 := hid (HS3.out.below hb4)
  have HB4 := hid (below_then HB3.out hb4)
  have HZ4 := hid hb4.size
  clear ho4 hb4 HS3
  go_wp2_with (at_builtin; refine app_src rfl _ _ rfl w3.heap.size _ [1] rfl HO4.out _ [5] rfl HS4.out (by simp) HZ4.out ?_)
  intro v5 w5 ho5 hg5
  have hs5 : Src w5 v5 [1, 5] := ho5.src (by simp)
  have HB5 := hid (show Below w.heap.size w w5 from below_tr HB4.out ⟨hg5.os, hg5.tape, hg5.output, hg5.size, fun k hk => hg5.block k (by have := HB3.out.size; have := HZ4.out; omega) (fun e => by have := (HO4.out.lt k e.symm).1; have := HB3.out.size; omega)⟩)
  have HSE := hid (rseal_any w5 v5 [1, 5] hs5 (by simp))
  obtain ⟨a5, c5, e5⟩ := src_shape hs5
  subst e5
  clear ho5 hg5 hs5 HB4 HB3 HZ4 HO4 HS4
  go_wp2_with fail
  refine HSE.out.mono ?_
  rintro e w6 ⟨v6, rfl, ho6, hb6⟩
  have HO6 := hid (ho6.le HB5.out.size)
  have HB7 := hid (below_then HB5.out hb6)
  obtain ⟨a6, c6, e6⟩ := src_shape (ho6.src (by rw [sealP_length]; simp))
  subst e6
  clear ho6 hb6
  go_wp2
  go_ret2
  exact ⟨_, rfl, HO6.out, HB7.out⟩

end Go.Proofs.YtiibhccbbpgehabGreat
