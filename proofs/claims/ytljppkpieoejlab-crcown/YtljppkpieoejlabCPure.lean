/- The check sum's mathematics: shifts, products of polynomials, sums of bytes. -/
import Init
namespace Go.Proofs.Ytljppkpieoejlab

/-- one shift -/
def sh (c : Nat) : Nat := if c % 2 = 1 then (c / 2) ^^^ 2197175160 else c / 2
def shN : Nat → Nat → Nat
  | 0, c => c
  | k + 1, c => sh (shN k c)

theorem xlt {a b : Nat} (ha : a < 4294967296) (hb : b < 4294967296) : a ^^^ b < 4294967296 := Nat.xor_lt_two_pow (n := 32) ha hb
theorem sh_lt {c : Nat} (h : c < 4294967296) : sh c < 4294967296 := by
  unfold sh
  split
  · exact xlt (by omega) (by omega)
  · omega
theorem shN_lt {c : Nat} (h : c < 4294967296) : ∀ k, shN k c < 4294967296
  | 0 => h
  | k + 1 => sh_lt (shN_lt h k)
theorem xor_half (a b : Nat) : (a ^^^ b) / 2 = a / 2 ^^^ b / 2 := by
  have := Nat.shiftRight_xor_distrib (a := a) (b := b) (i := 1)
  simpa [Nat.shiftRight_eq_div_pow] using this
theorem xor_odd (a b : Nat) : (a ^^^ b) % 2 = (a % 2 + b % 2) % 2 := by
  have h : (a ^^^ b).testBit 0 = (a.testBit 0 ^^ b.testBit 0) := Nat.testBit_xor ..
  simp only [Nat.testBit_zero] at h
  rcases Nat.mod_two_eq_zero_or_one a with ha | ha <;> rcases Nat.mod_two_eq_zero_or_one b with hb | hb <;> rcases Nat.mod_two_eq_zero_or_one (a ^^^ b) with hx | hx <;> simp [ha, hb, hx] at h ⊢
theorem x4 (a b p : Nat) : a ^^^ p ^^^ (b ^^^ p) = a ^^^ b := by
  rw [Nat.xor_assoc, ← Nat.xor_assoc p b p, Nat.xor_comm p b, Nat.xor_assoc b p p, Nat.xor_self, Nat.xor_zero]
theorem x3 (a b p : Nat) : a ^^^ p ^^^ b = a ^^^ b ^^^ p := by rw [Nat.xor_assoc, Nat.xor_comm p b, ← Nat.xor_assoc]
theorem x4' (a b c d : Nat) : a ^^^ b ^^^ (c ^^^ d) = a ^^^ c ^^^ (b ^^^ d) := by
  rw [Nat.xor_assoc, ← Nat.xor_assoc b c d, Nat.xor_comm b c, Nat.xor_assoc c b d, ← Nat.xor_assoc]
theorem xx (a b : Nat) : a ^^^ (a ^^^ b) = b := by rw [← Nat.xor_assoc, Nat.xor_self, Nat.zero_xor]
theorem xx' (a b : Nat) : a ^^^ b ^^^ b = a := by rw [Nat.xor_assoc, Nat.xor_self, Nat.xor_zero]
theorem xor_eq_zero {a b : Nat} (h : a ^^^ b = 0) : a = b := by
  have := congrArg (fun x => x ^^^ b) h
  simpa [xx'] using this
theorem sh_xor (a b : Nat) : sh (a ^^^ b) = sh a ^^^ sh b := by
  unfold sh
  rw [xor_half, xor_odd]
  rcases Nat.mod_two_eq_zero_or_one a with h | h <;> rcases Nat.mod_two_eq_zero_or_one b with k | k <;> simp [h, k]
  · rw [Nat.xor_assoc]
  · rw [x3]
  · rw [x4]
theorem sh_zero : sh 0 = 0 := rfl
theorem shN_zero : ∀ k, shN k 0 = 0
  | 0 => rfl
  | k + 1 => by rw [shN, shN_zero k]; rfl
theorem shN_xor (a b : Nat) : ∀ k, shN k (a ^^^ b) = shN k a ^^^ shN k b
  | 0 => rfl
  | k + 1 => by rw [shN, shN_xor a b k, sh_xor]; rfl
theorem shN_add (c j : Nat) : ∀ k, shN (j + k) c = shN k (shN j c)
  | 0 => rfl
  | k + 1 => by rw [← Nat.add_assoc, shN, shN_add c j k]; rfl
theorem shN_succ (c k : Nat) : shN (k + 1) c = shN k (sh c) := by rw [Nat.add_comm, shN_add]; rfl
theorem sh_nil {c : Nat} (h : c < 4294967296) (e : sh c = 0) : c = 0 := by
  unfold sh at e
  split at e
  · have := xor_eq_zero e; omega
  · omega
theorem shN_nil {c : Nat} (h : c < 4294967296) : ∀ k, shN k c = 0 → c = 0
  | 0, e => e
  | k + 1, e => shN_nil h k (sh_nil (shN_lt h k) e)
theorem sh_double (m : Nat) : sh (2 * m) = m := by
  unfold sh
  rw [if_neg (by omega)]
  omega
theorem shN_pow (m : Nat) : ∀ k, shN k (2 ^ k * m) = m
  | 0 => by simp [shN]
  | k + 1 => by rw [shN_succ, show 2 ^ (k + 1) * m = 2 * (2 ^ k * m) by rw [Nat.pow_succ]; simp [Nat.mul_comm, Nat.mul_left_comm], sh_double]; exact shN_pow m k

/-- the product's first k steps -/
def tmK (a b : Nat) : Nat → Nat
  | 0 => 0
  | k + 1 => tmK a b k ^^^ (if a.testBit (31 - k) then shN k b else 0)
def tm (a b : Nat) : Nat := tmK a b 32
theorem tmK_lt {a b : Nat} (hb : b < 4294967296) : ∀ k, tmK a b k < 4294967296
  | 0 => by simp [tmK]
  | k + 1 => by
    rw [tmK]
    refine xlt (tmK_lt hb k) ?_
    split
    · exact shN_lt hb k
    · omega
theorem tm_lt {a b : Nat} (hb : b < 4294967296) : tm a b < 4294967296 := tmK_lt hb 32
theorem tmK_right (a b c : Nat) : ∀ k, tmK a (b ^^^ c) k = tmK a b k ^^^ tmK a c k
  | 0 => by simp [tmK]
  | k + 1 => by
    rw [tmK, tmK, tmK, tmK_right a b c k]
    cases a.testBit (31 - k) <;> simp [shN_xor, x4']
theorem tmK_left (a b c : Nat) : ∀ k, tmK (a ^^^ b) c k = tmK a c k ^^^ tmK b c k
  | 0 => by simp [tmK]
  | k + 1 => by
    rw [tmK, tmK, tmK, tmK_left a b c k, Nat.testBit_xor, x4']
    cases a.testBit (31 - k) <;> cases b.testBit (31 - k) <;> simp
theorem lin_nil {f : Nat → Nat} (hf : ∀ a b, f (a ^^^ b) = f a ^^^ f b) : f 0 = 0 := by
  have := hf 0 0
  rw [Nat.xor_self, Nat.xor_self] at this
  exact this
theorem lin_ext {f g : Nat → Nat} (hf : ∀ a b, f (a ^^^ b) = f a ^^^ f b) (hg : ∀ a b, g (a ^^^ b) = g a ^^^ g b) (n : Nat) (h : ∀ i, i < n → f (2 ^ i) = g (2 ^ i)) :
    ∀ a, a < 2 ^ n → f a = g a := by
  induction n with
  | zero =>
    intro a ha
    obtain rfl : a = 0 := by simpa using ha
    rw [lin_nil hf, lin_nil hg]
  | succ n ih =>
    intro a ha
    have ih' := ih (fun i hi => h i (by omega))
    by_cases hlt : a < 2 ^ n
    · exact ih' a hlt
    · have h1 : a ^^^ 2 ^ n < 2 ^ n := by
        refine Nat.lt_pow_two_of_testBit _ fun i hi => ?_
        rw [Nat.testBit_xor, Nat.testBit_two_pow]
        by_cases hin : n = i
        · subst hin
          have : a.testBit n = true := by
            rw [Nat.testBit_eq_decide_div_mod_eq]
            have : a / 2 ^ n = 1 := by
              rw [Nat.div_eq_iff (Nat.two_pow_pos n)]
              rw [Nat.pow_succ] at ha
              omega
            rw [this]; rfl
          simp [this]
        · have : a.testBit i = false := Nat.testBit_lt_two_pow (Nat.lt_of_lt_of_le ha (Nat.pow_le_pow_right (by omega) (by omega)))
          simp [this, hin]
      have h2 : a = (a ^^^ 2 ^ n) ^^^ 2 ^ n := (xx' _ _).symm
      rw [h2, hf, hg, ih' _ h1, h n (by omega)]
theorem tmK_unit (i : Nat) (hi : i < 32) (b : Nat) : ∀ k, k ≤ 32 → tmK (2 ^ i) b k = if 31 - i < k then shN (31 - i) b else 0
  | 0, _ => by simp [tmK]
  | k + 1, hk => by
    rw [tmK, tmK_unit i hi b k (by omega), Nat.testBit_two_pow]
    by_cases h1 : 31 - i < k
    · have h3 : ¬ i = 31 - k := by omega
      have h4 : 31 - i < k + 1 := by omega
      simp [h1, h3, h4]
    · by_cases h2 : 31 - i = k
      · have h3 : i = 31 - k := by omega
        have h4 : 31 - i < k + 1 := by omega
        simp only [h1, h4, if_true, if_false, Nat.zero_xor]
        rw [if_pos (by simp [← h3]), h2]
      · have h3 : ¬ i = 31 - k := by omega
        have h4 : ¬ 31 - i < k + 1 := by omega
        simp [h1, h3, h4]
theorem tm_unit (i : Nat) (hi : i < 32) (b : Nat) : tm (2 ^ i) b = shN (31 - i) b := by
  unfold tm
  rw [tmK_unit i hi b 32 (by omega), if_pos (by omega)]
theorem unit_sh (j : Nat) (hj : j < 32) : 2 ^ j = shN (31 - j) 2147483648 := by
  have h := shN_pow (2 ^ j) (31 - j)
  rw [← Nat.pow_add, show 31 - j + j = 31 by omega] at h
  exact h.symm
theorem tm_comm (a b : Nat) (ha : a < 4294967296) (hb : b < 4294967296) : tm a b = tm b a := by
  refine lin_ext (f := fun x => tm x b) (g := fun x => tm b x) (fun x y => tmK_left x y b 32) (fun x y => tmK_right b x y 32) 32 (fun i hi => ?_) a ha
  refine lin_ext (f := fun y => tm (2 ^ i) y) (g := fun y => tm y (2 ^ i)) (fun x y => tmK_right (2 ^ i) x y 32) (fun x y => tmK_left x y (2 ^ i) 32) 32 (fun j hj => ?_) b hb
  show tm (2 ^ i) (2 ^ j) = tm (2 ^ j) (2 ^ i)
  rw [tm_unit i hi, tm_unit j hj, unit_sh j hj, unit_sh i hi, ← shN_add, ← shN_add, Nat.add_comm]
theorem tm_right_sh (a b : Nat) : tm a (sh b) = sh (tm a b) := by
  unfold tm
  have : ∀ k, tmK a (sh b) k = sh (tmK a b k) := by
    intro k
    induction k with
    | zero => simp [tmK, sh_zero]
    | succ k ih =>
      rw [tmK, tmK, ih, sh_xor]
      split
      · rw [← shN_succ]; rfl
      · rfl
  exact this 32
theorem tm_right_shN (a b : Nat) : ∀ k, tm a (shN k b) = shN k (tm a b)
  | 0 => rfl
  | k + 1 => by rw [shN, tm_right_sh, tm_right_shN a b k]; rfl
theorem tm_one (a : Nat) (ha : a < 4294967296) : tm a 2147483648 = a := by
  rw [tm_comm a _ ha (by omega)]
  have := tm_unit 31 (by omega) a
  simpa [shN] using this
/-- times the k-th power is k shifts -/
theorem tm_pow (a : Nat) (ha : a < 4294967296) (k : Nat) : tm a (shN k 2147483648) = shN k a := by rw [tm_right_shN, tm_one a ha]
theorem tm_pow_left (a : Nat) (ha : a < 4294967296) (k : Nat) : tm (shN k 2147483648) a = shN k a := by
  rw [tm_comm _ a (shN_lt (by omega) k) ha, tm_pow a ha]

/-- bytes taken in, without the turnings -/
def raw (c : Nat) (p : List UInt8) : Nat := p.foldl (fun c b => shN 8 (c ^^^ b.toNat)) c
theorem u8lt (b : UInt8) : b.toNat < 4294967296 := by have := b.toNat_lt; omega
theorem raw_nil (c : Nat) : raw c [] = c := by simp only [raw, List.foldl_nil]
theorem raw_cons (c : Nat) (b : UInt8) (p : List UInt8) : raw c (b :: p) = raw (shN 8 (c ^^^ b.toNat)) p := by simp only [raw, List.foldl_cons]
theorem raw_snoc (c : Nat) (b : UInt8) (p : List UInt8) : raw c (p ++ [b]) = shN 8 (raw c p ^^^ b.toNat) := by simp [raw]
theorem raw_append (c : Nat) (p q : List UInt8) : raw c (p ++ q) = raw (raw c p) q := by simp [raw]
theorem raw_lt {c : Nat} (h : c < 4294967296) (p : List UInt8) : raw c p < 4294967296 := by
  induction p generalizing c with
  | nil => exact h
  | cons b p ih => rw [raw_cons]; exact ih (shN_lt (xlt h (u8lt b)) 8)
theorem raw_take (c : Nat) (p : List UInt8) (k : Nat) (h : k < p.length) : raw c (p.take (k + 1)) = shN 8 (raw c (p.take k) ^^^ (p.getD k 0).toNat) := by
  rw [List.take_succ_eq_append_getElem h, raw_snoc]
  simp [List.getD_eq_getElem?_getD, List.getElem?_eq_getElem h]
/-- moved on over n bytes 0 -/
theorem raw_lin (c d : Nat) : ∀ p : List UInt8, raw (c ^^^ d) p = raw c p ^^^ shN (8 * p.length) d
  | [] => by simp [raw, shN]
  | b :: p => by
    rw [raw_cons, raw_cons, x3, shN_xor, raw_lin _ (shN 8 d) p, ← shN_add, List.length_cons, show 8 * (p.length + 1) = 8 + 8 * p.length by omega]
/-- the table's words -/
theorem table_word (c b : Nat) : shN 8 (c ^^^ b) = shN 8 ((c % 256) ^^^ b) ^^^ (c / 256) := by
  have h1 : c = (c % 256) ^^^ (2 ^ 8 * (c / 256)) := by
    have h2 := Nat.two_pow_add_eq_or_of_lt (i := 8) (b := c % 256) (by omega) (c / 256)
    have h3 : (c % 256) ^^^ (2 ^ 8 * (c / 256)) = 2 ^ 8 * (c / 256) + c % 256 := by
      rw [h2]
      refine Nat.eq_of_testBit_eq fun i => ?_
      rw [Nat.testBit_xor, Nat.testBit_or, Nat.testBit_two_pow_mul]
      by_cases hi : i < 8
      · simp [show ¬ i ≥ 8 by omega]
      · have : (c % 256).testBit i = false := Nat.testBit_lt_two_pow (Nat.lt_of_lt_of_le (show c % 256 < 2 ^ 8 by omega) (Nat.pow_le_pow_right (by omega) (by omega)))
        simp [this]
    rw [h3]; omega
  have h4 : c ^^^ b = (c % 256 ^^^ b) ^^^ (2 ^ 8 * (c / 256)) := (congrArg (fun x => x ^^^ b) h1).trans (x3 _ _ _)
  rw [h4, shN_xor, shN_pow]
theorem row_add (low bit : Nat) (j : Nat) (h : low % 2 ^ (j + 1) = 0) (hb : bit = 2 ^ j) : low + bit = low ^^^ bit := by
  subst hb
  obtain ⟨m, rfl⟩ : ∃ m, low = 2 ^ (j + 1) * m := ⟨low / 2 ^ (j + 1), by have := Nat.div_add_mod low (2 ^ (j + 1)); omega⟩
  have h2 := Nat.two_pow_add_eq_or_of_lt (i := j + 1) (b := 2 ^ j) (Nat.pow_lt_pow_right (by omega) (by omega)) m
  rw [h2]
  refine Nat.eq_of_testBit_eq fun i => ?_
  rw [Nat.testBit_xor, Nat.testBit_or, Nat.testBit_two_pow_mul, Nat.testBit_two_pow]
  by_cases hi : i ≥ j + 1
  · simp [show ¬ j = i by omega]
  · simp [hi]

/-- the sum that the document says -/
def moreP (c : Nat) (p : List UInt8) : Nat := 4294967295 ^^^ raw (4294967295 ^^^ c) p
def sumP (p : List UInt8) : Nat := moreP 0 p
theorem moreP_lt {c : Nat} (h : c < 4294967296) (p : List UInt8) : moreP c p < 4294967296 := xlt (by omega) (raw_lt (xlt (by omega) h) p)
theorem moreP_nil (c : Nat) : moreP c [] = c := xx _ _
theorem moreP_append (c : Nat) (p q : List UInt8) : moreP c (p ++ q) = moreP (moreP c p) q := by
  unfold moreP
  rw [raw_append, xx]
theorem sumP_lt (p : List UInt8) : sumP p < 4294967296 := moreP_lt (by omega) p
/-- the sum of two texts -/
theorem sumP_join (x y : List UInt8) : shN (8 * y.length) (sumP x) ^^^ sumP y = sumP (x ++ y) := by
  have key : ∀ S M R : Nat, S ^^^ (M ^^^ R) = M ^^^ (R ^^^ S) := fun S M R => by rw [Nat.xor_comm S, Nat.xor_assoc]
  have h := raw_lin 4294967295 (4294967295 ^^^ raw (4294967295 ^^^ 0) x) y
  rw [xx] at h
  unfold sumP
  rw [moreP_append]
  unfold moreP
  rw [xx, h, key]
  rfl

end Go.Proofs.Ytljppkpieoejlab
