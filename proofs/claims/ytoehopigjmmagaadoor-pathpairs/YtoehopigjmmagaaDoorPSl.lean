/- Slices of texts, cut. -/
import Derived.Test.YtoehopigjmmagaaDoorPCom
namespace Go.Proofs.YtoehopigjmmagaaDoor
open Go.RowKit

theorem at_off (g o j : Nat) : (⟨g, o, none⟩ : Addr).add j = ⟨g, o + j, none⟩ := by
  by_cases h0 : j = 0 <;> simp [Addr.add, h0]

/-- the first ones -/
theorem cut_to {w : World} {v : Value} {ts : List (List UInt8)} (h : Strs w v ts) (k : Nat) (hk : k ≤ ts.length) :
    ∃ vx, Strs w vx (ts.take k) ∧ (∀ W, (Instr.slice 22 v none (some (.int .i64 (k : Int))) none).run Tryd.prog W = .ok vx W) := by
  rcases h with ⟨ao, c, rfl, rfl, h0⟩ | ⟨g, o, c, rfl, hlt, h1, hc⟩
  · simp at hk
    subst hk
    cases ao with
    | none =>
      obtain rfl := h0 rfl
      exact ⟨.slice none 0 0, Or.inl ⟨_, _, rfl, rfl, fun _ => rfl⟩, fun W => by go_simp⟩
    | some ad => exact ⟨.slice (some ad) 0 c, Or.inl ⟨_, _, rfl, rfl, fun e => by cases e⟩, fun W => sl_to ad 0 c 0 (Nat.zero_le _) W⟩
  · have hlen : (ts.take k).length = k := by simp; omega
    refine ⟨.slice (some ⟨g, o, none⟩) k c, Or.inr ⟨g, o, c, by rw [hlen], hlt, by omega, fun j hj => ?_⟩, fun W => sl_to _ _ c k (by omega) W⟩
    rw [hlen] at hj
    rw [hc j (by omega)]
    simp [List.getD_eq_getElem?_getD, hj]
/-- what comes behind the first ones -/
theorem cut_from {w : World} {v : Value} {ts : List (List UInt8)} (h : Strs w v ts) (k : Nat) (hk : k ≤ ts.length) :
    ∃ vx, Strs w vx (ts.drop k) ∧ (∀ W, (Instr.slice 22 v (some (.int .i64 (k : Int))) none none).run Tryd.prog W = .ok vx W) := by
  rcases h with ⟨ao, c, rfl, rfl, h0⟩ | ⟨g, o, c, rfl, hlt, h1, hc⟩
  · simp at hk
    subst hk
    cases ao with
    | none =>
      obtain rfl := h0 rfl
      exact ⟨.slice none 0 0, Or.inl ⟨_, _, rfl, rfl, fun _ => rfl⟩, fun W => by go_simp⟩
    | some ad =>
      refine ⟨.slice (if c = 0 then some ad else some (ad.add 0)) 0 c, Or.inl ⟨_, _, rfl, rfl, fun e => ?_⟩, fun W => by go_simp⟩
      split at e <;> cases e
  · have hlen : (ts.drop k).length = ts.length - k := by simp
    have hk2 : (k : Int) ≤ (ts.length : Int) := by omega
    refine ⟨.slice (if c = k then some ⟨g, o, none⟩ else some ((⟨g, o, none⟩ : Addr).add k)) (ts.length - k) (c - k), ?_, fun W => by go_simp⟩
    by_cases hck : c = k
    · rw [if_pos hck]
      have e0 : ts.length - k = 0 := by omega
      refine Or.inl ⟨_, _, by rw [e0], ?_, fun e => by cases e⟩
      exact List.length_eq_zero_iff.1 (by rw [hlen]; exact e0)
    · rw [if_neg hck, at_off]
      refine Or.inr ⟨g, o + k, c - k, by rw [hlen], hlt, by rw [hlen]; omega, fun j hj => ?_⟩
      rw [hlen] at hj
      rw [Nat.add_assoc, hc (k + j) (by omega)]
      simp [List.getD_eq_getElem?_getD]

end Go.Proofs.YtoehopigjmmagaaDoor
