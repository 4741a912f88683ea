/- From what a row says of one thing laid down to what the walk wants. -/
import Derived.Test.YtggmgbdofjhkdaaRead3
namespace Go.Proofs.Ytggmgbdofjhkdaa
open Go.ChangeShapes Go.WideShapes Go.ChangeAt Go.RowKit

section
variable {H : Type} {enc : TypeId × Value → H} {W : World} {spare : Nat → Bool} {held : Bool}

theorem put_val {base : Nat} {v : Value} {d : DataW H} {pl : List MemPlace} (_ : Value.okWide Try.prog W .any base 27 v) (h : DataW.Trod enc Try.prog W 0 spare held 27 v d pl) (hk : Rows.uptoBulk d ≤ 1048576) :
    ∃ x : PutD, v = .agg #[.int .i64 x.k, .int .u64 x.u, .int .i64 x.i, x.tv] ∧ PutOk W x.u x.i x.tv x.ss ∧ x.bytes.length ≤ 11534336 := by
  obtain ⟨fuel, hf⟩ := h
  obtain ⟨x, hx, hok, hxl, _⟩ := put_of hf hk
  refine ⟨x, ?_, hok, by omega⟩
  cases v with
  | agg cs =>
    have : cs.toList = [.int .i64 x.k, .int .u64 x.u, .int .i64 x.i, x.tv] := by simpa [Value.cells] using hx
    rw [show cs = #[.int .i64 x.k, .int .u64 x.u, .int .i64 x.i, x.tv] from by cases cs; simp at this; simp [this]]
  | _ => simp [Value.cells] at hx
end

end Go.Proofs.Ytggmgbdofjhkdaa
