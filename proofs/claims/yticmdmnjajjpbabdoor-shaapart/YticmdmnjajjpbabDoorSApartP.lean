/- Unlike tags or parts have unlike preimages. -/
import Derived.Test.YticmdmnjajjpbabDoorSPre
import Derived.Test.YticmdmnjajjpbabDoorSPreB
namespace Go.Proofs.YticmdmnjajjpbabDoor
open Go.RowKit

theorem u8_mod {a b : Nat} (h : a.toUInt8 = b.toUInt8) : a % 256 = b % 256 := by
  have := congrArg UInt8.toNat h
  rw [byte_of, byte_of] at this
  exact this
theorem be8_inj {n m : Nat} (hn : n < 18446744073709551616) (hm : m < 18446744073709551616) (h : be8 n = be8 m) : n = m := by
  unfold be8 at h
  simp only [List.cons.injEq, and_true] at h
  obtain ⟨h0, h1, h2, h3, h4, h5, h6, h7⟩ := h
  have h0 := u8_mod h0
  have h1 := u8_mod h1
  have h2 := u8_mod h2
  have h3 := u8_mod h3
  have h4 := u8_mod h4
  have h5 := u8_mod h5
  have h6 := u8_mod h6
  have h7 := u8_mod h7
  simp only [Nat.reducePow, Nat.div_one] at h0 h1 h2 h3 h4 h5 h6 h7
  omega
/-- each part is short -/
def Short (pss : List (List UInt8)) : Prop := ∀ p ∈ pss, p.length < 18446744073709551616
theorem fl_preQ_cons (p : List UInt8) (r : List (List UInt8)) : fl (preQ (p :: r)) = be8 p.length ++ (p ++ fl (preQ r)) := by
  show pre1 p ++ fl (preQ r) = _
  rw [pre1, List.append_assoc]
theorem head_same {p q s t : List UInt8} (hp : p.length < 18446744073709551616) (hq : q.length < 18446744073709551616) (h : be8 p.length ++ (p ++ s) = be8 q.length ++ (q ++ t)) : p = q ∧ s = t := by
  obtain ⟨h1, h2⟩ := List.append_inj h (by rw [be8_length, be8_length])
  exact List.append_inj h2 (be8_inj hp hq h1)
theorem pre_inj : ∀ {pss qss : List (List UInt8)}, Short pss → Short qss → fl (preQ pss) = fl (preQ qss) → pss = qss
  | [], [], _, _, _ => rfl
  | [], q :: r, _, _, h => by
    have := congrArg List.length h
    rw [preQ_len, preQ_len, fl_nil] at this
    simp only [List.length_nil, List.length_cons] at this
    omega
  | p :: r, [], _, _, h => by
    have := congrArg List.length h
    rw [preQ_len, preQ_len, fl_nil] at this
    simp only [List.length_nil, List.length_cons] at this
    omega
  | p :: r, q :: s, hp, hq, h => by
    rw [fl_preQ_cons, fl_preQ_cons] at h
    obtain ⟨rfl, h2⟩ := head_same (hp p (by simp)) (hq q (by simp)) h
    rw [pre_inj (fun x hx => hp x (by simp [hx])) (fun x hx => hq x (by simp [hx])) h2]
theorem pre_free : ∀ {pss qss : List (List UInt8)} {t : List UInt8}, pss.length = qss.length → Short pss → Short qss → fl (preQ pss) ++ t = fl (preQ qss) → pss = qss
  | [], [], _, _, _, _, _ => rfl
  | [], q :: r, _, h, _, _, _ => by simp at h
  | p :: r, [], _, h, _, _, _ => by simp at h
  | p :: r, q :: s, t, hl, hp, hq, h => by
    rw [fl_preQ_cons, fl_preQ_cons, List.append_assoc, List.append_assoc] at h
    obtain ⟨rfl, h2⟩ := head_same (hp p (by simp)) (hq q (by simp)) h
    rw [pre_free (by simpa using hl) (fun x hx => hp x (by simp [hx])) (fun x hx => hq x (by simp [hx])) h2]
theorem tag_same {l m : List UInt8} {s t : List UInt8} (hl : l.length ≤ 32) (hm : m.length ≤ 32) (h : l.length.toUInt8 :: (l ++ s) = m.length.toUInt8 :: (m ++ t)) : l = m ∧ s = t := by
  simp only [List.cons.injEq] at h
  have := u8_mod h.1
  exact List.append_inj h.2 (by omega)
theorem preP_inj {l m : List UInt8} {pss qss : List (List UInt8)} (hl : tagP l = true) (hm : tagP m = true) (hp : Short pss) (hq : Short qss) : decide (preP l pss = preP m qss) = decide (l = m ∧ pss = qss) := by
  rw [decide_eq_decide]
  constructor
  · intro h
    obtain ⟨rfl, h2⟩ := tag_same (tag_len hl) (tag_len hm) h
    exact ⟨rfl, pre_inj hp hq h2⟩
  · rintro ⟨rfl, rfl⟩
    rfl
theorem preP_free {l : List UInt8} {pss qss : List (List UInt8)} (hp : Short pss) (hq : Short qss) (hl : pss.length = qss.length) (hne : pss ≠ qss) : (preP l qss).take (preP l pss).length ≠ preP l pss := by
  intro h
  have h2 : preP l pss ++ (preP l qss).drop (preP l pss).length = preP l qss := by
    conv => lhs; lhs; rw [← h]
    exact List.take_append_drop _ _
  unfold preP at h2
  simp only [List.cons_append, List.cons.injEq, List.append_assoc, true_and] at h2
  have h3 := List.append_cancel_left h2
  exact hne (pre_free hl hp hq h3)

end Go.Proofs.YticmdmnjajjpbabDoor
