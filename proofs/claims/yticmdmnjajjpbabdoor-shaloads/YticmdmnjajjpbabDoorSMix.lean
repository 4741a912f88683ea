/- What the small functions of one block answer: turning bits round, mixing, choosing. -/
import Derived.Test.YticmdmnjajjpbabDoorSBase
namespace Go.Proofs.YticmdmnjajjpbabDoor
open Go.RowKit

/-- x with its bits turned round by n to the right -/
def rot (x : Int) (n : Nat) : Int := bits .or .u32 (x / 2 ^ n) (x * 2 ^ (32 - n) % 4294967296)
def xor32 (x y : Int) : Int := bits .xor .u32 x y
def and32 (x y : Int) : Int := bits .and .u32 x y
def add32 (x y : Int) : Int := (x + y) % 4294967296
def not32 (x : Int) : Int := bits .xor .u32 IntKind.u32.max x
def sm0 (x : Int) : Int := xor32 (xor32 (rot x 7) (rot x 18)) (x / 8)
def sm1 (x : Int) : Int := xor32 (xor32 (rot x 17) (rot x 19)) (x / 1024)
def gm0 (x : Int) : Int := xor32 (xor32 (rot x 2) (rot x 13)) (rot x 22)
def gm1 (x : Int) : Int := xor32 (xor32 (rot x 6) (rot x 11)) (rot x 25)
def cho (x y z : Int) : Int := xor32 (and32 x y) (and32 (not32 x) z)
def maj (x y z : Int) : Int := xor32 (xor32 (and32 x y) (and32 x z)) (and32 y z)

theorem rot_and_all : ∀ n : Fin 32, 1 ≤ n.val → bits BinOp.and IntKind.u64 (IntKind.u64.wrap (-(n.val : Int))) 31 = ((32 - n.val : Nat) : Int) := by decide +kernel
theorem rot_and (n : Nat) (h1 : 1 ≤ n) (h2 : n ≤ 31) : bits BinOp.and IntKind.u64 (IntKind.u64.wrap (-(n : Int))) 31 = ((32 - n : Nat) : Int) := rot_and_all ⟨n, by omega⟩ h1
theorem or_comm32 (a b : Int) : bits .or .u32 a b = bits .or .u32 b a := by
  simp [bits, BitVec.or_comm]
theorem rot_left (x : Int) (n : Nat) (h : n ≤ 32) : bits .or .u32 (x * 2 ^ (32 - n) % 4294967296) (x / 2 ^ (32 - (32 - n))) = rot x n := by
  rw [or_comm32, show 32 - (32 - n) = n by omega]; rfl

set_option maxHeartbeats 400000 in
theorem rotl_any (x k : Int) (w : World) (n : Nat) (hk : k = -(n : Int)) (h1 : 1 ≤ n) (h2 : n ≤ 31) :
    Calls Tryd.prog 62 #[.int .u32 x, .int .i64 k] w fun e w' => e = .returned (.int .u32 (rot x n)) ∧ w' = w := by
  subst hk
  have ha := rot_and n h1 h2
  have hr := hid (rot_left x n (by omega))
  obtain ⟨s, hs⟩ : ∃ s, s = 32 - n := ⟨_, rfl⟩
  rw [← hs] at ha
  have hs1 : 1 ≤ s := by omega
  have hs2 : s ≤ 31 := by omega
  go_enter Tryd.func62, Tryd.ntmps62
  go_wp2
  go_ret
  exact ⟨by rw [hr.out]; rfl, rfl⟩

set_option maxHeartbeats 400000 in
theorem turned_any (x k : Int) (w : World) (n : Nat) (hk : k = (n : Int)) (h1 : 1 ≤ n) (h2 : n ≤ 31) :
    Calls Tryd.prog 61 #[.int .u32 x, .int .i64 k] w fun e w' => e = .returned (.int .u32 (rot x n)) ∧ w' = w := by
  subst hk
  go_enter Tryd.func61, Tryd.ntmps61
  go_wp2_with fail
  refine (rotl_any x _ _ n (by omega) h1 h2).mono ?_
  rintro e w' ⟨rfl, rfl⟩
  go_wp2
  go_ret
  exact ⟨rfl, rfl⟩

set_option maxHeartbeats 400000 in
theorem rotr_any (x k : Int) (w : World) (n : Nat) (hk : k = (n : Int)) (h1 : 1 ≤ n) (h2 : n ≤ 31) :
    Calls Tryd.prog 58 #[.int .u32 x, .int .u64 k] w fun e w' => e = .returned (.int .u32 (rot x n)) ∧ w' = w := by
  subst hk
  go_enter Tryd.func58, Tryd.ntmps58
  go_wp2
  go_ret
  exact ⟨rfl, rfl⟩

set_option maxHeartbeats 400000 in
theorem smallMix0_any (x : Int) (w : World) :
    Calls Tryd.prog 60 #[.int .u32 x] w fun e w' => e = .returned (.int .u32 (sm0 x)) ∧ w' = w := by
  go_enter Tryd.func60, Tryd.ntmps60
  go_wp2_with fail
  refine (turned_any x _ _ 7 rfl (by omega) (by omega)).mono ?_
  rintro e w' ⟨rfl, rfl⟩
  go_wp2_with fail
  refine (turned_any x _ _ 18 rfl (by omega) (by omega)).mono ?_
  rintro e w' ⟨rfl, rfl⟩
  go_wp2
  go_ret
  exact ⟨rfl, rfl⟩

set_option maxHeartbeats 400000 in
theorem smallMix1_any (x : Int) (w : World) :
    Calls Tryd.prog 59 #[.int .u32 x] w fun e w' => e = .returned (.int .u32 (sm1 x)) ∧ w' = w := by
  go_enter Tryd.func59, Tryd.ntmps59
  go_wp2_with fail
  refine (turned_any x _ _ 17 rfl (by omega) (by omega)).mono ?_
  rintro e w' ⟨rfl, rfl⟩
  go_wp2_with fail
  refine (turned_any x _ _ 19 rfl (by omega) (by omega)).mono ?_
  rintro e w' ⟨rfl, rfl⟩
  go_wp2
  go_ret
  exact ⟨rfl, rfl⟩

set_option maxHeartbeats 400000 in
theorem greatMix0_any (x : Int) (w : World) :
    Calls Tryd.prog 56 #[.int .u32 x] w fun e w' => e = .returned (.int .u32 (gm0 x)) ∧ w' = w := by
  go_enter Tryd.func56, Tryd.ntmps56
  go_wp2_with fail
  refine (turned_any x _ _ 2 rfl (by omega) (by omega)).mono ?_
  rintro e w' ⟨rfl, rfl⟩
  go_wp2_with fail
  refine (turned_any x _ _ 13 rfl (by omega) (by omega)).mono ?_
  rintro e w' ⟨rfl, rfl⟩
  go_wp2_with fail
  refine (turned_any x _ _ 22 rfl (by omega) (by omega)).mono ?_
  rintro e w' ⟨rfl, rfl⟩
  go_wp2
  go_ret
  exact ⟨rfl, rfl⟩

set_option maxHeartbeats 400000 in
theorem greatMix1_any (x : Int) (w : World) :
    Calls Tryd.prog 54 #[.int .u32 x] w fun e w' => e = .returned (.int .u32 (gm1 x)) ∧ w' = w := by
  go_enter Tryd.func54, Tryd.ntmps54
  go_wp2_with fail
  refine (turned_any x _ _ 6 rfl (by omega) (by omega)).mono ?_
  rintro e w' ⟨rfl, rfl⟩
  go_wp2_with fail
  refine (turned_any x _ _ 11 rfl (by omega) (by omega)).mono ?_
  rintro e w' ⟨rfl, rfl⟩
  go_wp2_with fail
  refine (turned_any x _ _ 25 rfl (by omega) (by omega)).mono ?_
  rintro e w' ⟨rfl, rfl⟩
  go_wp2
  go_ret
  exact ⟨rfl, rfl⟩

set_option maxHeartbeats 400000 in
theorem choice_any (x y z : Int) (w : World) :
    Calls Tryd.prog 55 #[.int .u32 x, .int .u32 y, .int .u32 z] w fun e w' => e = .returned (.int .u32 (cho x y z)) ∧ w' = w := by
  have hsg : IntKind.u32.signed = false := rfl
  go_enter Tryd.func55, Tryd.ntmps55
  go_wp2
  go_ret
  exact ⟨rfl, rfl⟩

set_option maxHeartbeats 400000 in
theorem majority_any (x y z : Int) (w : World) :
    Calls Tryd.prog 57 #[.int .u32 x, .int .u32 y, .int .u32 z] w fun e w' => e = .returned (.int .u32 (maj x y z)) ∧ w' = w := by
  go_enter Tryd.func57, Tryd.ntmps57
  go_wp2
  go_ret
  exact ⟨rfl, rfl⟩

end Go.Proofs.YticmdmnjajjpbabDoor
