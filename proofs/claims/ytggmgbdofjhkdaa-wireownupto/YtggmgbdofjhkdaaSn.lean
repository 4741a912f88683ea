/- Short numbers, texts and lists as bytes: the plain mathematics. Nothing here speaks of the program. -/
import Derived.Lib.BitFns
namespace Go.Proofs.Ytggmgbdofjhkdaa

/-- a short number's bytes, at most f of them -/
def snF : Nat → Nat → List UInt8
  | 0, _ => []
  | f + 1, n => if n < 128 then [n.toUInt8] else (n % 128 + 128).toUInt8 :: snF f (n / 128)
/-- a short number's bytes -/
def sn (n : Nat) : List UInt8 := snF 10 n

theorem snF_succ (f n : Nat) : snF (f + 1) n = if n < 128 then [n.toUInt8] else (n % 128 + 128).toUInt8 :: snF f (n / 128) := rfl

theorem snF_more : ∀ (f n : Nat), n < 128 ^ f → 0 < f → snF (f + 1) n = snF f n
  | 0, _, _, h => absurd h (Nat.lt_irrefl _)
  | f + 1, n, h, _ => by
    rw [snF_succ (f + 1) n, snF_succ f n]
    by_cases hn : n < 128
    · rw [if_pos hn, if_pos hn]
    · rw [if_neg hn, if_neg hn]
      have hd : n / 128 < 128 ^ f := by
        rw [Nat.pow_succ] at h
        exact Nat.div_lt_of_lt_mul (by rw [Nat.mul_comm]; exact h)
      have hf : 0 < f := by
        rcases Nat.eq_zero_or_pos f with rfl | h'
        · simp at hd; omega
        · exact h'
      rw [snF_more f (n / 128) hd hf]

theorem sn_lt {n : Nat} (h : n < 128) : sn n = [n.toUInt8] := by simp [sn, snF, h]
theorem sn_ge {n : Nat} (h : 128 ≤ n) (h2 : n < 18446744073709551616) : sn n = (n % 128 + 128).toUInt8 :: sn (n / 128) := by
  have e : snF 10 (n / 128) = snF 9 (n / 128) := snF_more 9 (n / 128) (by omega) (by omega)
  rw [sn, sn, e, snF_succ 9, if_neg (by omega)]

theorem snF_length : ∀ (f n : Nat), (snF f n).length ≤ f
  | 0, _ => by simp [snF]
  | f + 1, n => by
    rw [snF]
    split
    · simp
    · have := snF_length f (n / 128); simp; omega
theorem sn_length_le (n : Nat) : (sn n).length ≤ 10 := snF_length 10 n
theorem sn_length_pos (n : Nat) : 1 ≤ (sn n).length := by
  rw [sn, snF]
  split <;> simp

/-- how many bits a number has, and how many groups of seven -/
theorem bitLen_pos {x : Nat} (h : x ≠ 0) (hx : x < 2 ^ 64) : 1 ≤ Lib.bitLen x := by rw [Lib.bitLen_half x h hx]; omega
theorem bitLen_seven (n : Nat) (h : 128 ≤ n) (hx : n < 2 ^ 64) : Lib.bitLen n = 7 + Lib.bitLen (n / 128) := Lib.bitLen_shift 7 n h hx

theorem size_sn : ∀ (f n : Nat), f ≤ 10 → n < 128 ^ f → n < 2 ^ 64 → 0 < f → (Lib.bitLen (max n 1) + 6) / 7 = (snF f n).length
  | 0, _, _, _, _, h => absurd h (Nat.lt_irrefl _)
  | f + 1, n, hf10, h, hx, _ => by
    rw [snF]
    by_cases hn : n < 128
    · rw [if_pos hn]
      have h1 : Lib.bitLen (max n 1) ≤ 7 := Lib.bitLen_le _ 7 (by omega) (by omega)
      have h2 : 1 ≤ Lib.bitLen (max n 1) := bitLen_pos (by omega) (by omega)
      simp
      omega
    · rw [if_neg hn]
      have hd : n / 128 < 128 ^ f := by
        rw [Nat.pow_succ] at h
        exact Nat.div_lt_of_lt_mul (by rw [Nat.mul_comm]; exact h)
      have hf : 0 < f := by
        rcases Nat.eq_zero_or_pos f with rfl | h'
        · simp at hd; omega
        · exact h'
      have ih := size_sn f (n / 128) (by omega) hd (by omega) hf
      have e1 : max n 1 = n := by omega
      have e2 : max (n / 128) 1 = n / 128 := by omega
      rw [e1, bitLen_seven n (by omega) hx, List.length_cons, ← ih, e2]
      omega

/-- an odd or even number's bits: the lowest one set changes how many only of nought -/
theorem bitLen_or_one (n : Nat) (hx : n < 2 ^ 64) : Lib.bitLen (n ||| 1) = Lib.bitLen (max n 1) := by
  by_cases h : n = 0
  · subst h; rfl
  · have e : max n 1 = n := by omega
    have h1 : (n ||| 1) ≠ 0 := by
      intro e1
      have := Nat.or_eq_zero_iff.1 e1
      omega
    have h2 : (n ||| 1) < 2 ^ 64 := Nat.or_lt_two_pow hx (by decide)
    have h3 : (n ||| 1) / 2 = n / 2 := by
      have := Nat.or_div_two (a := n) (b := 1)
      simpa using this
    rw [e, Lib.bitLen_half _ h1 h2, Lib.bitLen_half _ h hx, h3]

theorem size_eq (n : Nat) (hx : n < 18446744073709551616) : (Lib.bitLen (n ||| 1) + 6) / 7 = (sn n).length := by
  rw [bitLen_or_one n hx]
  exact size_sn 10 n (by omega) (by omega) hx (by omega)

/-- a text's bytes; texts, one behind the other; a list's -/
def tx (s : ByteArray) : List UInt8 := sn s.size ++ s.data.toList
def txs (l : List ByteArray) : List UInt8 := l.flatMap tx
def ls (l : List ByteArray) : List UInt8 := sn l.length ++ txs l
theorem txs_nil : txs [] = [] := rfl
theorem txs_append (a b : List ByteArray) : txs (a ++ b) = txs a ++ txs b := by simp [txs]
theorem txs_one (s : ByteArray) : txs [s] = tx s := by simp [txs]
theorem tx_length (s : ByteArray) : (tx s).length = (sn s.size).length + s.size := by simp [tx]

/-- the number that stands for a number with a sign -/
def zz (n : Int) : Nat := if n < 0 then (-2 * n - 1).toNat else (2 * n).toNat

end Go.Proofs.Ytggmgbdofjhkdaa
