/- The sum of bytes of which one is turned. -/
import Derived.Test.YtljppkpieoejlabCPure
namespace Go.Proofs.Ytljppkpieoejlab

/-- a byte with some bits turned -/
def turnB (b : UInt8) (m : Nat) : UInt8 := (b.toNat ^^^ m).toUInt8
theorem turnB_nat (b : UInt8) (m : Nat) (hm : m < 256) : (turnB b m).toNat = b.toNat ^^^ m := by
  have hx : b.toNat ^^^ m < 2 ^ 8 := Nat.xor_lt_two_pow b.toNat_lt hm
  unfold turnB
  simp only [Nat.toUInt8_eq, UInt8.toNat_ofNat']
  omega
theorem raw_turn (m : Nat) (hm : m < 256) : ∀ (p : List UInt8) (a c : Nat), a < p.length → raw c (p.set a (turnB (p.getD a 0) m)) = raw c p ^^^ shN (8 * (p.length - a)) m
  | b :: r, 0, c, _ => by
    simp only [List.set_cons_zero, List.getD_cons_zero, List.length_cons, Nat.sub_zero]
    rw [raw_cons, raw_cons, turnB_nat b m hm, ← Nat.xor_assoc, shN_xor, raw_lin, ← shN_add]
    congr 2
    omega
  | b :: r, a + 1, c, h => by
    have ih := raw_turn m hm r a (shN 8 (c ^^^ b.toNat)) (by simpa using h)
    simp only [List.set_cons_succ, List.getD_cons_succ, List.length_cons]
    rw [raw_cons, raw_cons, ih]
    congr 2
    omega
  | [], _, _, h => by simp at h
theorem sumP_turn (m : Nat) (hm : m < 256) (p : List UInt8) (a : Nat) (h : a < p.length) : sumP (p.set a (turnB (p.getD a 0) m)) = sumP p ^^^ shN (8 * (p.length - a)) m := by
  unfold sumP moreP
  rw [raw_turn m hm p a _ h, Nat.xor_assoc]

end Go.Proofs.Ytljppkpieoejlab
