/- What a call reads, as a function of the bytes and of where the reader stands; and that over a beginning of the bytes the same is read, until bytes are missing. -/
import Derived.Test.YtggmgbdofjhkdaaBackA
namespace Go.Proofs.Ytggmgbdofjhkdaa

/-- what is read, and where the reader stands then: place, fault, its place -/
def byteF (bs : List UInt8) (a : Nat) (why wat : Int) : Nat × Nat × Int × Int :=
  if why ≠ 0 then (0, a, why, wat) else if a < bs.length then ((bs.getD a 0).toNat, a + 1, 0, wat) else (0, a, 4, a)
def uintF (bs : List UInt8) (a : Nat) (why wat : Int) : Nat × Nat × Int × Int :=
  if why ≠ 0 then (0, a, why, wat) else ((dec (bs.drop a) 0 0).2.1, a + (dec (bs.drop a) 0 0).2.2, (dec (bs.drop a) 0 0).1, watOf (dec (bs.drop a) 0 0).1 a wat)
def countF (bs : List UInt8) (a : Nat) (why wat m : Int) : Nat × Nat × Int × Int :=
  if why ≠ 0 then (0, a, why, wat) else if m < 0 then (0, a, 1, a) else ((upTo (bs.drop a) m.toNat 11).2.1, a + (upTo (bs.drop a) m.toNat 11).2.2, (upTo (bs.drop a) m.toNat 11).1, watOf (upTo (bs.drop a) m.toNat 11).1 a wat)
def boolF (bs : List UInt8) (a : Nat) (why wat : Int) : Bool × Nat × Int × Int :=
  if why ≠ 0 then (false, a, why, wat) else if a < bs.length then (if 1 < (bs.getD a 0).toNat then (false, a, 5, a) else ((((bs.getD a 0).toNat : Int) == 1), a + 1, 0, wat)) else (false, a, 4, a)
def textF (bs : List UInt8) (a : Nat) (why wat m : Int) : List UInt8 × Nat × Int × Int :=
  if why ≠ 0 then ([], a, why, wat) else if m < 0 then ([], a, 1, a) else ((txt (bs.drop a) m.toNat).2.1, a + (txt (bs.drop a) m.toNat).2.2, (txt (bs.drop a) m.toNat).1, watOf (txt (bs.drop a) m.toNat).1 a wat)
def listF (bs : List UInt8) (a : Nat) (why wat m n : Int) : List (List UInt8) × Nat × Int × Int :=
  if why ≠ 0 then ([], a, why, wat) else if m < 0 ∨ n < 0 then ([], a, 1, a) else if (lst (bs.drop a) m.toNat n.toNat).1 ≠ 0 then ([], a, (lst (bs.drop a) m.toNat n.toNat).1, ((a + (lst (bs.drop a) m.toNat n.toNat).2.2 : Nat) : Int)) else ((lst (bs.drop a) m.toNat n.toNat).2.1, a + (lst (bs.drop a) m.toNat n.toNat).2.2, 0, wat)
def rawF (bs : List UInt8) (a : Nat) (why wat m : Int) : List UInt8 × Nat × Int × Int :=
  if why ≠ 0 then ([], a, why, wat) else if m < 0 then ([], a, 1, a) else if bs.length - a < m.toNat then ([], a, 4, a) else ((bs.drop a).take m.toNat, a + m.toNat, 0, wat)

theorem drop_take' (bs : List UInt8) (n a : Nat) : (bs.take n).drop a = (bs.drop a).take (n - a) := by rw [List.drop_take]

theorem upTo_begin (l : List UInt8) (j most t : Nat) : upTo (l.take j) most t = upTo l most t ∨ upTo (l.take j) most t = (4, 0, 0) := by
  rcases dec_begin l j 0 0 with h | h
  · exact Or.inl (by unfold upTo; rw [h])
  · exact Or.inr (by unfold upTo; rw [h]; simp)
theorem txt_begin (l : List UInt8) (j most : Nat) : txt (l.take j) most = txt l most ∨ txt (l.take j) most = (4, [], 0) := by
  rcases upTo_begin l j most 3 with h | h
  · obtain ⟨er, n, k, hd⟩ : ∃ er n k, upTo l most 3 = (er, n, k) := ⟨_, _, _, rfl⟩
    unfold txt
    rw [h, hd]
    simp only
    by_cases he : er = 0
    · subst he
      simp only [ne_eq, not_true_eq_false, if_false]
      by_cases hl : (l.take j).length < k + n
      · exact Or.inr (by rw [if_pos hl])
      · have hl' := hl
        simp only [List.length_take, Nat.not_lt] at hl'
        rw [if_neg hl, if_neg (by omega)]
        refine Or.inl ?_
        rw [List.drop_take, List.take_take]
        have : min n (j - k) = n := by omega
        rw [this]
    · rw [if_pos he, if_pos he]; exact Or.inl rfl
  · exact Or.inr (by unfold txt; rw [h]; simp)
theorem lstR_begin : ∀ (n : Nat) (l : List UInt8) (j each : Nat), lstR n (l.take j) each = lstR n l each ∨ (lstR n (l.take j) each).1 = 4
  | 0, _, _, _ => Or.inl rfl
  | n + 1, l, j, each => by
    rcases txt_begin l j each with h | h
    · rw [lstR_succ, lstR_succ, h]
      obtain ⟨er, s, k, hd⟩ : ∃ er s k, txt l each = (er, s, k) := ⟨_, _, _, rfl⟩
      rw [hd]
      simp only
      by_cases he : er = 0
      · subst he
        simp only [ne_eq, not_true_eq_false, if_false]
        have hdt : (l.take j).drop k = (l.drop k).take (j - k) := List.drop_take ..
        rw [hdt]
        rcases lstR_begin n (l.drop k) (j - k) each with h2 | h2
        · rw [h2]; exact Or.inl rfl
        · refine Or.inr ?_
          rw [if_pos (by rw [h2]; decide)]
          exact h2
      · rw [if_pos he, if_pos he]; exact Or.inl rfl
    · refine Or.inr ?_
      rw [lstR_succ, h]
      simp
theorem lst_begin (l : List UInt8) (j most each : Nat) : lst (l.take j) most each = lst l most each ∨ (lst (l.take j) most each).1 = 4 := by
  rcases upTo_begin l j most 11 with h | h
  · obtain ⟨er, n, k, hd⟩ : ∃ er n k, upTo l most 11 = (er, n, k) := ⟨_, _, _, rfl⟩
    unfold lst
    rw [h, hd]
    simp only
    by_cases he : er = 0
    · subst he
      simp only [ne_eq, not_true_eq_false, if_false]
      have hdt : (l.take j).drop k = (l.drop k).take (j - k) := List.drop_take ..
      rw [hdt]
      rcases lstR_begin n (l.drop k) (j - k) each with h2 | h2
      · rw [h2]; exact Or.inl rfl
      · exact Or.inr h2
    · rw [if_pos he, if_pos he]; exact Or.inl rfl
  · exact Or.inr (by unfold lst; rw [h]; simp)

section
variable (bs : List UInt8) (n a : Nat) (why wat : Int)
theorem byteF_begin (h : (byteF (bs.take n) a why wat).2.2.1 ≠ 4) : byteF (bs.take n) a why wat = byteF bs a why wat := by
  unfold byteF at h ⊢
  by_cases hw : why ≠ 0
  · rw [if_pos hw, if_pos hw]
  · rw [if_neg hw] at h ⊢
    rw [if_neg hw]
    by_cases hl : a < (bs.take n).length
    · have hl2 : a < bs.length := by simp at hl; omega
      rw [if_pos hl, if_pos hl2]
      have : (bs.take n).getD a 0 = bs.getD a 0 := by
        have hn : a < n := by simp at hl; omega
        simp [List.getD_eq_getElem?_getD, hn]
      rw [this]
    · rw [if_neg hl] at h; exact absurd rfl h
theorem boolF_begin (h : (boolF (bs.take n) a why wat).2.2.1 ≠ 4) : boolF (bs.take n) a why wat = boolF bs a why wat := by
  unfold boolF at h ⊢
  by_cases hw : why ≠ 0
  · rw [if_pos hw, if_pos hw]
  · rw [if_neg hw] at h ⊢
    rw [if_neg hw]
    by_cases hl : a < (bs.take n).length
    · have hl2 : a < bs.length := by simp at hl; omega
      rw [if_pos hl, if_pos hl2]
      have : (bs.take n).getD a 0 = bs.getD a 0 := by
        have hn : a < n := by simp at hl; omega
        simp [List.getD_eq_getElem?_getD, hn]
      rw [this]
    · rw [if_neg hl] at h; exact absurd rfl h
theorem uintF_begin (h : (uintF (bs.take n) a why wat).2.2.1 ≠ 4) : uintF (bs.take n) a why wat = uintF bs a why wat := by
  unfold uintF at h ⊢
  rw [drop_take'] at h ⊢
  by_cases hw : why ≠ 0
  · rw [if_pos hw, if_pos hw]
  · rw [if_neg hw] at h ⊢
    rw [if_neg hw]
    rcases dec_begin (bs.drop a) (n - a) 0 0 with h2 | h2
    · rw [h2]
    · rw [h2] at h; exact absurd rfl h
theorem countF_begin (m : Int) (h : (countF (bs.take n) a why wat m).2.2.1 ≠ 4) : countF (bs.take n) a why wat m = countF bs a why wat m := by
  unfold countF at h ⊢
  rw [drop_take'] at h ⊢
  by_cases hw : why ≠ 0
  · rw [if_pos hw, if_pos hw]
  · rw [if_neg hw] at h ⊢
    rw [if_neg hw]
    by_cases hm : m < 0
    · rw [if_pos hm, if_pos hm]
    · rw [if_neg hm] at h ⊢
      rw [if_neg hm]
      rcases upTo_begin (bs.drop a) (n - a) m.toNat 11 with h2 | h2
      · rw [h2]
      · rw [h2] at h; exact absurd rfl h
theorem textF_begin (m : Int) (h : (textF (bs.take n) a why wat m).2.2.1 ≠ 4) : textF (bs.take n) a why wat m = textF bs a why wat m := by
  unfold textF at h ⊢
  rw [drop_take'] at h ⊢
  by_cases hw : why ≠ 0
  · rw [if_pos hw, if_pos hw]
  · rw [if_neg hw] at h ⊢
    rw [if_neg hw]
    by_cases hm : m < 0
    · rw [if_pos hm, if_pos hm]
    · rw [if_neg hm] at h ⊢
      rw [if_neg hm]
      rcases txt_begin (bs.drop a) (n - a) m.toNat with h2 | h2
      · rw [h2]
      · rw [h2] at h; exact absurd rfl h
theorem listF_begin (m k : Int) (h : (listF (bs.take n) a why wat m k).2.2.1 ≠ 4) : listF (bs.take n) a why wat m k = listF bs a why wat m k := by
  unfold listF at h ⊢
  rw [drop_take'] at h ⊢
  by_cases hw : why ≠ 0
  · rw [if_pos hw, if_pos hw]
  · rw [if_neg hw] at h ⊢
    rw [if_neg hw]
    by_cases hm : m < 0 ∨ k < 0
    · rw [if_pos hm, if_pos hm]
    · rw [if_neg hm] at h ⊢
      rw [if_neg hm]
      rcases lst_begin (bs.drop a) (n - a) m.toNat k.toNat with h2 | h2
      · rw [h2]
      · rw [if_pos (by rw [h2]; decide)] at h
        exact absurd (by rw [h2]; rfl) h
theorem rawF_begin (m : Int) (h : (rawF (bs.take n) a why wat m).2.2.1 ≠ 4) : rawF (bs.take n) a why wat m = rawF bs a why wat m := by
  unfold rawF at h ⊢
  rw [drop_take'] at h ⊢
  by_cases hw : why ≠ 0
  · rw [if_pos hw, if_pos hw]
  · rw [if_neg hw] at h ⊢
    rw [if_neg hw]
    by_cases hm : m < 0
    · rw [if_pos hm, if_pos hm]
    · rw [if_neg hm] at h ⊢
      rw [if_neg hm]
      by_cases hl : (bs.take n).length - a < m.toNat
      · rw [if_pos hl] at h; exact absurd rfl h
      · rw [if_neg hl, if_neg (by simp at hl; omega), List.take_take]
        have : min m.toNat (n - a) = m.toNat := by simp at hl; omega
        rw [this]
end

end Go.Proofs.Ytggmgbdofjhkdaa
