/- ShaTags answers true. -/
import Derived.Test.YticmdmnjajjpbabDoorSLawTags
namespace Go.Proofs.YticmdmnjajjpbabDoor
open Go.RowKit

/-- a tag and parts, in a block of their own -/
structure Nb (w : World) (b : Nat) (s : ByteArray) (v : Value) : Prop where
  blk : w.heap[b]? = some (.cells #[.string s, v] 62 (0, 0))
theorem Nb.c0 {w : World} {b : Nat} {s : ByteArray} {v : Value} (h : Nb w b s v) : w.cell? ⟨b, 0, none⟩ = some (.string s) := by
  rw [cell_of_row _ _ _ _ _ _ h.blk]; rfl
theorem Nb.c1 {w : World} {b : Nat} {s : ByteArray} {v : Value} (h : Nb w b s v) : w.cell? ⟨b, 1, none⟩ = some v := by
  rw [cell_of_row _ _ _ _ _ _ h.blk]; rfl
theorem Nb.below {w w' : World} {b : Nat} {s : ByteArray} {v : Value} (h : Nb w b s v) (hb : Below w.heap.size w w') : Nb w' b s v := ⟨(hb.block b (hp_lt h.blk)).trans h.blk⟩

end Go.Proofs.YticmdmnjajjpbabDoor
