/- PathNames: a text is a name or a path just when it is told to be. -/
import Derived.Test.YtoehopigjmmagabDoorPPieces
namespace Go.Proofs.YtoehopigjmmagabDoor
open Go.RowKit

theorem Strs.drewN {w : World} {v : Value} {ts : List (List UInt8)} (h : Strs w v ts) (n : Nat) : Strs (w.drewN n) v ts := h
theorem below_drew {w w' w'' : World} {a n : Nat} (h : Below a w w') (k : Below (w'.drewN n).heap.size (w'.drewN n) w'') (ha : a ≤ w'.heap.size) : Below a w w'' :=
  ⟨k.os.trans h.os, k.tape.trans h.tape, k.output.trans h.output, Nat.le_trans h.size k.size, fun i hi => (k.block i (Nat.lt_of_lt_of_le hi ha)).trans (h.block i hi)⟩

/-- what both Names say -/
def BNames (l : List UInt8) (w : World) (e : Ending) (w' : World) : Prop :=
  (okP l = true ∧ (∃ v, e = .returned (.tuple #[v, .int .i64 0]) ∧ OwnS w' w.heap.size v (nms l)) ∨ okP l = false ∧ e = .returned (.tuple #[.slice none 0 0, .int .i64 45])) ∧ Below w.heap.size w w'
theorem names_any (s : ByteArray) (w : World) (hs : (bl s).length ≤ 9223372036854775807) :
    Calls Tryd.prog 17 #[.string s] w fun e w' => BNames (bl s) w e w' := by
  cases h : okP (bl s) with
  | true => exact (names_ok s w h).mono fun e w' ⟨v, he, ho, hb⟩ => ⟨Or.inl ⟨h, v, he, ho⟩, hb⟩
  | false => exact (names_bad s w h hs).mono fun e w' ⟨he, hb⟩ => ⟨Or.inr ⟨h, he⟩, hb⟩

end Go.Proofs.YtoehopigjmmagabDoor
