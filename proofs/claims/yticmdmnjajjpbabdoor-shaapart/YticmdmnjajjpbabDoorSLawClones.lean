/- ShaClones answers true. -/
import Derived.Test.YticmdmnjajjpbabDoorSAwake
import Derived.Test.YticmdmnjajjpbabDoorSClone
import Derived.Test.YticmdmnjajjpbabDoorSEq
namespace Go.Proofs.YticmdmnjajjpbabDoor
open Go.RowKit

/-- where a slice of the caller's lies -/
def Low (n : Nat) (v : Value) (bs : List UInt8) : Prop := ∀ k, 0 < bs.length → v.ownBlock = some k → k < n
theorem src_low {w : World} {v : Value} {bs : List UInt8} (h : Src w v bs) : Low w.heap.size v bs := by
  intro k hp hk
  rcases h.2 with ⟨rfl, rfl⟩ | ⟨ad, cap, rfl, _, _, hlt, _⟩
  · simp at hp
  · have : ad.block = k := by simpa [Value.ownBlock] using hk
    rw [← this]
    exact hlt hp

theorem fl_one (m : List UInt8) : fl [m] = m := by simp [fl]
theorem fl_two (m a : List UInt8) : fl [m, a] = m ++ a := by simp [fl]
theorem sum_two (m a : List UInt8) : sumP (absorb (absorb (Hs, []) m) a).1 (absorb (absorb (Hs, []) m) a).2 (m.length + a.length) = ofP (m ++ a) := by
  unfold ofP
  rw [absorb_append, List.length_append]

/-- Sum behind two writes -/
theorem sum_of (w : World) (b : Nat) (m a : List UInt8) (D : List Value) (hD : D = u8V (ofP (m ++ a))) (hT : Tabs w) (hs : Hst w b (absorb (absorb (Hs, []) m) a).1 (absorb (absorb (Hs, []) m) a).2 (m.length + a.length)) (h : m.length + a.length ≤ 2305843009213693951) :
    Calls Tryd.prog 20 #[.pointer (some ⟨b, 0, none⟩)] w fun e w' => e = .returned (.agg D.toArray) ∧ Below w.heap.size w w' := by
  have := sum_any w b _ _ _ hT hs.hg h
  rw [sum_two, ← hD] at this
  exact this
/-- Of of two -/
theorem of_two (w : World) (v u : Value) (m a : List UInt8) (D : List Value) (hD : D = u8V (ofP (m ++ a))) (hT : Tabs w) (h : Src w v m) (g : Src w u a) :
    Calls Tryd.prog 21 #[.slice (some ⟨w.heap.size, 0, none⟩) 2 2] (w.alloc (.cells #[v, u] 24)) fun e w' => e = .returned (.agg D.toArray) ∧ Below w.heap.size w w' := by
  have hl := h.1
  have gl := g.1
  have := of_any (w.alloc (.cells #[v, u] 24)) _ [m, a] (hT.below (below_walk _ _)) (lists_two h g (fun k hp hk => by have := src_low h k hp hk; rw [hp_size]; omega) (fun k hp hk => by have := src_low g k hp hk; rw [hp_size]; omega) (by rw [hp_size]; omega)) (by simp) (by rw [fl_two, List.length_append]; omega)
  rw [fl_two, ← hD] at this
  exact this.mono fun e w' ⟨he, hb⟩ => ⟨he, (below_walk w _).trans (hb.mono (by rw [hp_size]; omega))⟩

end Go.Proofs.YticmdmnjajjpbabDoor
