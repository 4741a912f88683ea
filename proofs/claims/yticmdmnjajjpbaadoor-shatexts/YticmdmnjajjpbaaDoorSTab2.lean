/- An array of bytes, handed in by value. -/
import Derived.Test.YticmdmnjajjpbaaDoorSTab
import Derived.Test.YticmdmnjajjpbaaDoorSRead
namespace Go.Proofs.YticmdmnjajjpbaaDoor
open Go.ChangeShapes Go.WideShapes Go.ChangeAt Go.RowKit

theorem bytes_of_array {H : Type} {enc : TypeId × Value → H} {P : Program} {w : World} {base : Nat} {sp : Nat → Bool} {held : Bool} {t e : TypeId} {n : Nat} {v : Value} {d : DataW H} {p : List MemPlace}
    (ht : P.underlying t = some (.array n e)) (he : P.underlying e = some (.int .u8)) (hce : P.cellsOf e = 1) (hct : P.cellsOf t = n) (hn : n ≠ 1)
    (h : DataW.Trod enc P w base sp held t v d p) : ∃ bs : List UInt8, bs.length = n ∧ v = .agg (bytesV bs).toArray := by
  have h' := h
  obtain ⟨xs, hl, rfl⟩ := ints_of_array ht he hce hct hn h
  obtain ⟨fuel, hf⟩ := h'
  obtain ⟨ys, m, _, _, _, hyl, hel⟩ := DataW.trod_array ht hf
  have hb : ∀ i, i < n → 0 ≤ xs.getD i 0 ∧ xs.getD i 0 ≤ 255 := by
    intro i hi
    have h1 := hel i hi
    rw [hce, Nat.mul_one, List.getElem?_eq_getElem (by omega)] at h1
    obtain ⟨z, hc, _, hw⟩ := DataW.trod_int he h1
    have h2 := congrArg (·[0]?) hc
    have h3 : xs[i]? = some z := by
      simpa [Value.cells, List.getElem?_take, List.getElem?_drop, List.getElem?_map] using h2
    rw [List.getD_eq_getElem?_getD, h3]
    simpa [Lit.wf, IntKind.min, IntKind.max, IntKind.signed, IntKind.bits] using hw
  refine ⟨xs.map (fun z => z.toNat.toUInt8), by simpa using hl, ?_⟩
  congr 2
  apply List.ext_getElem?
  intro i
  by_cases hi : i < n
  · have := hb i hi
    rw [List.getD_eq_getElem?_getD, List.getElem?_eq_getElem (by omega)] at this
    simp only [Option.getD_some] at this
    simp [bytesV, List.getElem?_eq_getElem (show i < xs.length by omega)]
    omega
  · rw [List.getElem?_eq_none (by simp; omega), List.getElem?_eq_none (by simp [bytesV]; omega)]

end Go.Proofs.YticmdmnjajjpbaaDoor
