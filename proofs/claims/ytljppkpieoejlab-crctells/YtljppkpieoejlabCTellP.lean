/- Turned bits among thirty-two neighbouring ones are told: the mathematics. -/
import Derived.Test.YtljppkpieoejlabCPure2
import Derived.Test.YtljppkpieoejlabCLaw4
namespace Go.Proofs.Ytljppkpieoejlab

/-- the word of four bytes -/
def wd (t : List UInt8) : Nat := (t.getD 0 0).toNat ^^^ 2 ^ 8 * (t.getD 1 0).toNat ^^^ 2 ^ 16 * (t.getD 2 0).toNat ^^^ 2 ^ 24 * (t.getD 3 0).toNat
theorem four_of {t : List UInt8} (h : t.length = 4) : ∃ a b c d, t = [a, b, c, d] := by
  match t, h with
  | [a, b, c, d], _ => exact ⟨a, b, c, d, rfl⟩
theorem shN_cut (j k m : Nat) : shN (j + k) (2 ^ j * m) = shN k m := by rw [shN_add, shN_pow]
theorem raw_four (x : Nat) (t : List UInt8) (h : t.length = 4) : raw x t = shN 32 (x ^^^ wd t) := by
  obtain ⟨a, b, c, d, rfl⟩ := four_of h
  simp only [wd, List.getD_cons_zero, List.getD_cons_succ]
  rw [raw_cons, raw_cons, raw_cons, raw_cons, raw_nil]
  simp only [shN_xor, ← shN_add, Nat.reduceAdd]
  rw [show (32 : Nat) = 8 + 24 from rfl, shN_cut 8 24, show (8 + 24 : Nat) = 16 + 16 from rfl, shN_cut 16 16, show (16 + 16 : Nat) = 24 + 8 from rfl, shN_cut 24 8]
  simp only [Nat.xor_assoc]
theorem shN_inj {k a b : Nat} (ha : a < 4294967296) (hb : b < 4294967296) (h : shN k a = shN k b) : a = b := by
  refine xor_eq_zero (shN_nil (xlt ha hb) k ?_)
  rw [shN_xor, h, Nat.xor_self]
theorem wd_lt (t : List UInt8) : wd t < 4294967296 := by
  unfold wd
  have h0 := (t.getD 0 0).toNat_lt
  have h1 := (t.getD 1 0).toNat_lt
  have h2 := (t.getD 2 0).toNat_lt
  have h3 := (t.getD 3 0).toNat_lt
  exact xlt (xlt (xlt (by omega) (by omega)) (by omega)) (by omega)
theorem hi_xor (n k m : Nat) (h : n < 2 ^ k) : n ^^^ 2 ^ k * m = 2 ^ k * m + n := by
  rw [Nat.two_pow_add_eq_or_of_lt h]
  refine Nat.eq_of_testBit_eq fun i => ?_
  rw [Nat.testBit_xor, Nat.testBit_or, Nat.testBit_two_pow_mul]
  by_cases hi : i < k
  · simp [show ¬ i ≥ k by omega]
  · have : n.testBit i = false := Nat.testBit_lt_two_pow (Nat.lt_of_lt_of_le h (Nat.pow_le_pow_right (by omega) (by omega)))
    simp [this]
theorem wd_sum (t : List UInt8) : wd t = (t.getD 0 0).toNat + 256 * (t.getD 1 0).toNat + 65536 * (t.getD 2 0).toNat + 16777216 * (t.getD 3 0).toNat := by
  unfold wd
  have h0 := (t.getD 0 0).toNat_lt
  have h1 := (t.getD 1 0).toNat_lt
  have h2 := (t.getD 2 0).toNat_lt
  have h3 := (t.getD 3 0).toNat_lt
  rw [hi_xor _ 8 _ (by omega), hi_xor _ 16 _ (by omega), hi_xor _ 24 _ (by omega)]
  omega
theorem wd_le4 (c : Nat) (hc : c < 4294967296) : wd (le4 c) = c := by
  rw [wd_sum]
  simp only [le4, List.getD_cons_zero, List.getD_cons_succ, byte_of]
  omega
theorem u8_eq {a b : UInt8} (h : a.toNat = b.toNat) : a = b := UInt8.toNat_inj.1 h
theorem wd_inj {s t : List UInt8} (hs : s.length = 4) (ht : t.length = 4) (h : wd s = wd t) : s = t := by
  obtain ⟨a, b, c, d, rfl⟩ := four_of hs
  obtain ⟨e, f, g, i, rfl⟩ := four_of ht
  rw [wd_sum, wd_sum] at h
  simp only [List.getD_cons_zero, List.getD_cons_succ] at h
  have h0 := a.toNat_lt
  have h1 := b.toNat_lt
  have h2 := c.toNat_lt
  have h3 := d.toNat_lt
  have k0 := e.toNat_lt
  have k1 := f.toNat_lt
  have k2 := g.toNat_lt
  have k3 := i.toNat_lt
  rw [u8_eq (show a.toNat = e.toNat by omega), u8_eq (show b.toNat = f.toNat by omega), u8_eq (show c.toNat = g.toNat by omega), u8_eq (show d.toNat = i.toNat by omega)]
/-- bytes are sealed just if all of them together leave this -/
theorem okP_iff (s : List UInt8) (h : 4 ≤ s.length) : okP s = decide (raw 4294967295 s = shN 32 4294967295) := by
  obtain ⟨n, hn⟩ : ∃ n, s.length = n + 4 := ⟨s.length - 4, by omega⟩
  rw [okP_at s n hn]
  have hd : (s.drop n).length = 4 := by rw [List.length_drop]; omega
  have hr : raw 4294967295 s = shN 32 (raw 4294967295 (s.take n) ^^^ wd (s.drop n)) := by
    rw [← raw_four _ _ hd, ← raw_append, List.take_append_drop]
  have hq := raw_lt (show 4294967295 < 4294967296 by omega) (s.take n)
  have hs : sumP (s.take n) = 4294967295 ^^^ raw 4294967295 (s.take n) := by unfold sumP moreP; rw [Nat.xor_zero]
  refine decide_eq_decide.2 ⟨fun e => ?_, fun e => ?_⟩
  · rw [hr, e, wd_le4 _ (sumP_lt _), hs, Nat.xor_comm 4294967295, xx]
  · rw [hr] at e
    have h1 := shN_inj (xlt hq (wd_lt _)) (by omega) e
    refine wd_inj hd (le4_length _) ?_
    rw [wd_le4 _ (sumP_lt _), hs]
    generalize raw 4294967295 (s.take n) = R at h1 ⊢
    rw [← h1, Nat.xor_comm R, xx']
/-- bit j turned -/
def flip (s : List UInt8) (j : Nat) : List UInt8 := s.set (j / 8) (turnB (s.getD (j / 8) 0) (2 ^ (j % 8)))
theorem flip_length (s : List UInt8) (j : Nat) : (flip s j).length = s.length := by simp [flip]
theorem pow8_lt (j : Nat) : 2 ^ (j % 8) < 256 := Nat.lt_of_le_of_lt (Nat.pow_le_pow_right (by omega) (show j % 8 ≤ 7 by omega)) (by omega)
theorem raw_flip (c : Nat) (s : List UInt8) (a i : Nat) (hi : i < 32) (h : a + 32 ≤ 8 * s.length) : raw c (flip s (a + i)) = raw c s ^^^ shN (8 * s.length - a) (2 ^ i) := by
  unfold flip
  rw [raw_turn _ (pow8_lt _) s _ c (by omega)]
  congr 1
  have e1 : 8 * (s.length - (a + i) / 8) = (a + i) % 8 + (8 * s.length - (a + i)) := by omega
  have e2 : 8 * s.length - a = i + (8 * s.length - (a + i)) := by omega
  have h1 := shN_cut ((a + i) % 8) (8 * s.length - (a + i)) 1
  have h2 := shN_cut i (8 * s.length - (a + i)) 1
  rw [Nat.mul_one] at h1 h2
  rw [e1, e2, h1, h2]
theorem low_yes {b k : Nat} (h : b / 2 ^ k % 2 = 1) : b % 2 ^ (k + 1) = b % 2 ^ k ^^^ 2 ^ k := by
  rw [Nat.mod_pow_succ, h]
  have := hi_xor (b % 2 ^ k) k 1 (Nat.mod_lt _ (Nat.two_pow_pos k))
  rw [Nat.mul_one] at this
  rw [this]
  omega
theorem low_no {b k : Nat} (h : b / 2 ^ k % 2 = 0) : b % 2 ^ (k + 1) = b % 2 ^ k := by
  rw [Nat.mod_pow_succ, h]
  omega
/-- how the bytes stand behind k of the bits -/
structure Tl (s : List UInt8) (a b k : Nat) (S : List UInt8) (t : Bool) : Prop where
  len : S.length = s.length
  raw_ : raw 4294967295 S = raw 4294967295 s ^^^ shN (8 * s.length - a) (b % 2 ^ k)
  yes : t = true → b % 2 ^ k ≠ 0
  no : t = false → b % 2 ^ k = 0 ∧ S = s
theorem Tl.begin (s : List UInt8) (a b : Nat) : Tl s a b 0 s false := ⟨rfl, by rw [Nat.pow_zero, Nat.mod_one, shN_zero, Nat.xor_zero], (fun h => by cases h), fun _ => ⟨by rw [Nat.pow_zero, Nat.mod_one], rfl⟩⟩
theorem Tl.turn {s S : List UInt8} {a b k : Nat} {t : Bool} (h : Tl s a b k S t) (hk : k < 32) (ha : a + 32 ≤ 8 * s.length) (hb : b / 2 ^ k % 2 = 1) : Tl s a b (k + 1) (flip S (a + k)) true := by
  refine ⟨by rw [flip_length, h.len], ?_, fun _ => ?_, (fun h => by cases h)⟩
  · rw [raw_flip _ S a k hk (by rw [h.len]; exact ha), h.raw_, h.len, Nat.xor_assoc, ← shN_xor, low_yes hb]
  · rw [Nat.mod_pow_succ, hb]
    have := Nat.two_pow_pos k
    omega
theorem Tl.keep {s S : List UInt8} {a b k : Nat} {t : Bool} (h : Tl s a b k S t) (hb : b / 2 ^ k % 2 = 0) : Tl s a b (k + 1) S t := by
  refine ⟨h.len, by rw [low_no hb]; exact h.raw_, by rw [low_no hb]; exact h.yes, by rw [low_no hb]; exact h.no⟩
theorem Tl.bad {p S : List UInt8} {a b : Nat} (h : Tl (sealP p) a b 32 S true) (hb : b < 4294967296) : okP S = false := by
  have hl := sealP_length p
  have h1 := okP_seal p
  rw [okP_iff _ (by omega)] at h1
  have h2 := of_decide_eq_true h1
  rw [okP_iff _ (by rw [h.len]; omega)]
  refine decide_eq_false fun e => ?_
  rw [h.raw_, h2] at e
  have h3 := congrArg (fun x => shN 32 4294967295 ^^^ x) e
  simp only [xx, Nat.xor_self] at h3
  have hm : b % 2 ^ 32 = b := Nat.mod_eq_of_lt hb
  rw [hm] at h3
  have h4 := shN_nil hb _ h3
  have h5 := h.yes rfl
  rw [hm] at h5
  exact h5 h4
end Go.Proofs.Ytljppkpieoejlab
