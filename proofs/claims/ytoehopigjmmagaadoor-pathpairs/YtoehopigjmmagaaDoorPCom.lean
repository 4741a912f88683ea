/- How many names two rows begin with, of both sides. -/
import Derived.Test.YtoehopigjmmagaaDoorPAbove
namespace Go.Proofs.YtoehopigjmmagaaDoor
open Go.RowKit

def comL : List (List UInt8) → List (List UInt8) → Nat
  | x :: a, y :: b => if x = y then comL a b + 1 else 0
  | _, _ => 0
theorem comL_is : ∀ {k : Nat} {x y : List (List UInt8)}, k ≤ x.length → k ≤ y.length → x.take k = y.take k → (k = x.length ∨ k = y.length ∨ x.getD k [] ≠ y.getD k []) → comL x y = k
  | 0, [], y, _, _, _, _ => by cases y <;> rfl
  | 0, x :: a, [], _, _, _, _ => rfl
  | 0, x :: a, y :: b, _, _, _, h => by
    have : x ≠ y := by simpa using h
    simp [comL, this]
  | k + 1, [], _, h, _, _, _ => by simp at h
  | k + 1, x :: a, [], _, h, _, _ => by simp at h
  | k + 1, x :: a, y :: b, h1, h2, h3, h4 => by
    simp only [List.take_succ_cons, List.cons.injEq] at h3
    obtain ⟨rfl, h3⟩ := h3
    have ih := comL_is (k := k) (x := a) (y := b) (by simpa using h1) (by simpa using h2) h3 (by simpa using h4)
    simp [comL, ih]
theorem take_next {x y : List (List UInt8)} {k : Nat} (h1 : k < x.length) (h2 : k < y.length) (h : x.take k = y.take k) (e : x.getD k [] = y.getD k []) : x.take (k + 1) = y.take (k + 1) := by
  rw [List.take_succ_eq_append_getElem h1, List.take_succ_eq_append_getElem h2, h]
  simp [List.getD_eq_getElem?_getD, h1, h2] at e
  rw [e]
theorem comL_le : ∀ (x y : List (List UInt8)), comL x y ≤ x.length ∧ comL x y ≤ y.length ∧ x.take (comL x y) = y.take (comL x y)
  | [], y => by cases y <;> simp [comL]
  | x :: a, [] => by simp [comL]
  | x :: a, y :: b => by
    have ih := comL_le a b
    by_cases h : x = y
    · subst h
      rw [show comL (x :: a) (x :: b) = comL a b + 1 by simp [comL]]
      exact ⟨by simp; omega, by simp; omega, by rw [List.take_succ_cons, List.take_succ_cons, ih.2.2]⟩
    · simp [comL, h]

set_option maxRecDepth 100000 in
set_option maxHeartbeats 1000000 in
theorem shared_any (va vb : Value) (x y : List (List UInt8)) (w : World) (ha : Strs w va x) (hb : Strs w vb y) (hx : x.length ≤ 9223372036854775806) (hy : y.length ≤ 9223372036854775806) :
    Calls Tryd.prog 49 #[va, vb] w fun e w' => e = .returned (.int .i64 (comL x y)) ∧ ∃ n, w' = w.drewN n := by
  have HA := hid ha
  have HB := hid hb
  obtain ⟨a1, c1, rfl⟩ := ha.shape
  obtain ⟨a2, c2, rfl⟩ := hb.shape
  clear ha hb
  go_enter Tryd.func49, Tryd.ntmps49
  go_wp2
  go_loopw [5] (fun i wr => ∃ k q : Nat, k ≤ x.length ∧ k ≤ y.length ∧ i = .int .i64 k ∧ wr = w.drewN q ∧ Hid (x.take k = y.take k)) (fun i _ => x.length - (intOf i).toNat)
  case atStart => exact ⟨0, 0, by omega, by omega, rfl, rfl, rfl⟩
  case round =>
    obtain ⟨k, q, hkx, hky, rfl, rfl, HT⟩ := hrel
    by_cases h1 : k < x.length
    · have d1 : decide ((k : Int) < (x.length : Int)) = true := by simpa using h1
      have d1' : (k : Int) < (x.length : Int) := by omega
      by_cases h2 : k < y.length
      · have d2 : decide ((k : Int) < (y.length : Int)) = true := by simpa using h2
        have d2' : (k : Int) < (y.length : Int) := by omega
        obtain ⟨g1, o1, rfl, e1⟩ := HA.out.at k h1
        obtain ⟨g2, o2, rfl, e2⟩ := HB.out.at k h2
        by_cases he : x.getD k [] = y.getD k []
        · have HN := hid (take_next h1 h2 HT.out he)
          rw [← he] at e2
          generalize mk (x.getD k []) = s at *
          clear he
          go_wp2_with fail
          go_quiet (fail)
          go_wp2_with fail
          go_roundw
          case rel => exact ⟨k + 1, q + nq, by omega, by omega, by go_num, rfl, HN⟩
          case measure => simp [intOf]; omega
        · have HR := hid (comL_is hkx hky HT.out (Or.inr (Or.inr he)))
          have l1 : (mk (x.getD k [])).toList = x.getD k [] := bl_mk _
          have l2 : (mk (y.getD k [])).toList = y.getD k [] := bl_mk _
          have hne : ((mk (x.getD k [])).toList == (mk (y.getD k [])).toList) = false := by rw [l1, l2]; simpa using he
          clear he l1 l2
          generalize mk (x.getD k []) = s at *
          generalize mk (y.getD k []) = s2 at *
          go_wp2_with fail
          go_quiet (fail)
          go_wp2
          go_ret
          exact ⟨ret_i (by rw [HR.out]), q + nq, by simp⟩
      · have d2 : decide ((k : Int) < (y.length : Int)) = false := by simp; omega
        have d2' : ¬ (k : Int) < (y.length : Int) := by omega
        have HR := hid (comL_is hkx hky HT.out (Or.inr (Or.inl (by omega))))
        go_wp2_with fail
        go_quiet (fail)
        go_wp2
        go_ret
        exact ⟨ret_i (by rw [HR.out]), q + nq, by simp⟩
    · have d1 : decide ((k : Int) < (x.length : Int)) = false := by simp; omega
      have d1' : ¬ (k : Int) < (x.length : Int) := by omega
      have HR := hid (comL_is hkx hky HT.out (Or.inl (by omega)))
      go_wp2_with fail
      go_quiet (fail)
      go_wp2
      go_ret
      exact ⟨ret_i (by rw [HR.out]), q + nq, by simp⟩

set_option maxRecDepth 100000 in
set_option maxHeartbeats 1000000 in
theorem rcommon_any (va vb : Value) (x y : List (List UInt8)) (w : World) (ha : Strs w va x) (hb : Strs w vb y) (hx : x.length ≤ 9223372036854775806) (hy : y.length ≤ 9223372036854775806) :
    Calls Tryd.prog 47 #[va, vb] w fun e w' => e = .returned (.int .i64 (comL x y)) ∧ ∃ n, w' = w.drewN n := by
  have HA := hid ha
  have HB := hid hb
  obtain ⟨a1, c1, rfl⟩ := ha.shape
  obtain ⟨a2, c2, rfl⟩ := hb.shape
  clear ha hb
  go_enter Tryd.func47, Tryd.ntmps47
  go_wp2
  go_loopw [5] (fun i wr => ∃ k q : Nat, k ≤ x.length ∧ k ≤ y.length ∧ i = .int .i64 k ∧ wr = w.drewN q ∧ Hid (x.take k = y.take k)) (fun i _ => x.length - (intOf i).toNat)
  case atStart => exact ⟨0, 0, by omega, by omega, rfl, rfl, rfl⟩
  case round =>
    obtain ⟨k, q, hkx, hky, rfl, rfl, HT⟩ := hrel
    by_cases h1 : k < x.length
    · have d1 : decide ((k : Int) < (x.length : Int)) = true := by simpa using h1
      have d1' : (k : Int) < (x.length : Int) := by omega
      by_cases h2 : k < y.length
      · have d2 : decide ((k : Int) < (y.length : Int)) = true := by simpa using h2
        have d2' : (k : Int) < (y.length : Int) := by omega
        obtain ⟨g1, o1, rfl, e1⟩ := HA.out.at k h1
        obtain ⟨g2, o2, rfl, e2⟩ := HB.out.at k h2
        by_cases he : x.getD k [] = y.getD k []
        · have HN := hid (take_next h1 h2 HT.out he)
          rw [← he] at e2
          generalize mk (x.getD k []) = s at *
          clear he
          go_wp2_with fail
          go_quiet (fail)
          go_wp2_with fail
          go_roundw
          case rel => exact ⟨k + 1, q + nq, by omega, by omega, by go_num, rfl, HN⟩
          case measure => simp [intOf]; omega
        · have HR := hid (comL_is hkx hky HT.out (Or.inr (Or.inr he)))
          have l1 : (mk (x.getD k [])).toList = x.getD k [] := bl_mk _
          have l2 : (mk (y.getD k [])).toList = y.getD k [] := bl_mk _
          have hne : ((mk (x.getD k [])).toList == (mk (y.getD k [])).toList) = false := by rw [l1, l2]; simpa using he
          clear he l1 l2
          generalize mk (x.getD k []) = s at *
          generalize mk (y.getD k []) = s2 at *
          go_wp2_with fail
          go_quiet (fail)
          go_wp2
          go_ret
          exact ⟨ret_i (by rw [HR.out]), q + nq, by simp⟩
      · have d2 : decide ((k : Int) < (y.length : Int)) = false := by simp; omega
        have d2' : ¬ (k : Int) < (y.length : Int) := by omega
        have HR := hid (comL_is hkx hky HT.out (Or.inr (Or.inl (by omega))))
        go_wp2_with fail
        go_quiet (fail)
        go_wp2
        go_ret
        exact ⟨ret_i (by rw [HR.out]), q + nq, by simp⟩
    · have d1 : decide ((k : Int) < (x.length : Int)) = false := by simp; omega
      have d1' : ¬ (k : Int) < (x.length : Int) := by omega
      have HR := hid (comL_is hkx hky HT.out (Or.inl (by omega)))
      go_wp2_with fail
      go_quiet (fail)
      go_wp2
      go_ret
      exact ⟨ret_i (by rw [HR.out]), q + nq, by simp⟩

end Go.Proofs.YtoehopigjmmagaaDoor
