/- Load of a state with no bytes behind its whole blocks. -/
import Derived.Test.YticmdmnjajjpbaaDoorSSum
import Derived.Test.YticmdmnjajjpbaaDoorSOf
namespace Go.Proofs.YticmdmnjajjpbaaDoor
open Go.RowKit

/-- a state's cells -/
def scells (H : List Int) (vb : Value) (N : Int) : List Value := u32V H ++ [vb, .int .u64 N]
theorem load_built (a b c d e f g i N : Int) : Tryd.prog.built 97 [(0, .agg (u32V [a, b, c, d, e, f, g, i]).toArray), (2, .int .u64 N), (3, .bool true)] = some (hcells [a, b, c, d, e, f, g, i] (zeros 64) N true).toArray := by kernel_rfl
theorem field_sN (b : Nat) (w : World) : (Instr.fieldAt 65 (.pointer (some ⟨b, 0, none⟩)) 2).run Tryd.prog w = .ok (.pointer (some ⟨b, 9, none⟩)) w := by go_simp
theorem field_sH (b : Nat) (w : World) : (Instr.fieldAt 65 (.pointer (some ⟨b, 0, none⟩)) 0).run Tryd.prog w = .ok (.pointer (some ⟨b, 0, none⟩)) w := by go_simp

theorem ld_cell {P : Program} {w : World} {ops : Array Oper} {rest : List Oper} {o : Oper} {a : Act} {Q : Exit → Act → World → Prop} (hgd : o.guard = none) (t : TypeId) (x : Operand) (ho : o.op = .load t x)
    (ad : Addr) (hx : a.eval x = .pointer (some ad)) (v : Value) (hc : w.cell? ad = some v) (k : IntKind) (hu : P.underlying t = some (.int k))
    (h : wpList P ops Q rest (a.put o.dst v) w) : wpList P ops Q (o :: rest) a w := by
  refine wpList_plain hgd fun K hK => ?_
  have ha : (isAgg t).run P w = .ok false w := by
    unfold isAgg
    rw [Sem.run_bind, run_underlying hu w]
    rfl
  unfold Oper.wp execOp
  simp only [ho, hx, Instr.loadAt, Instr.sureAddr, loadVar, Sem.run_bind, Sem.run_pure, Result.andThen_ok, ha]
  simp [run_load, hc]
  exact hK _ _ h

end Go.Proofs.YticmdmnjajjpbaaDoor
