/- ShaBack answers true. -/
import Derived.Test.YticmdmnjajjpbaaDoorSAwake
import Derived.Test.YticmdmnjajjpbaaDoorSUnhex
import Derived.Test.YticmdmnjajjpbaaDoorSClone
namespace Go.Proofs.YticmdmnjajjpbaaDoor
open Go.RowKit

theorem four_ne (bs : List UInt8) (h : bs.length = 32) (W : World) : (binOp .neq 41 (.agg (bytesV bs).toArray) (.agg (bytesV bs).toArray)).run Tryd.prog W = .ok (.bool false) W := by
  have e : bytesV bs = (bs.map fun c => (c.toNat : Int)).map (Value.int .u8) := by simp [bytesV]
  rw [e]
  exact neq_row W 41 5 32 .u8 Tryd.underlying41 Tryd.underlying5 (by kernel_rfl) _ (by simpa using h)
theorem four_eq (bs : List UInt8) (h : bs.length = 32) (W : World) : (binOp .eql 41 (.agg (bytesV bs).toArray) (.agg (bytesV bs).toArray)).run Tryd.prog W = .ok (.bool true) W := by
  have e : bytesV bs = (bs.map fun c => (c.toNat : Int)).map (Value.int .u8) := by simp [bytesV]
  rw [e]
  exact eql_row W 41 5 32 .u8 Tryd.underlying41 Tryd.underlying5 (by kernel_rfl) _ (by simpa using h)
theorem uh_hex (bs : List UInt8) (h : bs.length = 32) : uhB (hexT bs) = bs ∧ uhE (hexT bs) = 0 := by
  have h1 := unh_hexT bs
  have h2 : (hexT bs).length = 64 ∧ okT (hexT bs) = true := ⟨by rw [hexT_length, h], h1.2⟩
  unfold uhB uhE
  rw [if_pos h2, if_pos h2]
  exact ⟨h1.1, rfl⟩
theorem ex_row {P : Program} {w : World} {ops : Array Oper} {rest : List Oper} {o : Oper} {a : Act} {Q : Exit → Act → World → Prop} (hgd : o.guard = none) (x : Operand) (i : Nat) (ho : o.op = .extract x i) (vs : Array Value) (hx : a.eval x = .tuple vs) (v : Value) (hv : vs[i]? = some v)
    (h : wpList P ops Q rest (a.put o.dst v) w) : wpList P ops Q (o :: rest) a w := by
  refine wpList_plain hgd fun K hK => ?_
  unfold Oper.wp execOp
  simp [ho, hx, hv, Instr.extract]
  exact hK _ _ h
theorem unguard {P : Program} {ops : Array Oper} {Q : Exit → Act → World → Prop} {a : Act} {w : World} {rest : List Oper} {d : Option Tmp} {op : Op} {ty : TypeId} {pos : String} {af : Array Edge} {g : Option (Nat × Bool)}
    (hw : Region.wanted ⟨d, op, ty, pos, af, g⟩ (yielded ops a.tmps) = true) (h : wpList P ops Q (⟨d, op, ty, pos, af, none⟩ :: rest) a w) : wpList P ops Q (⟨d, op, ty, pos, af, g⟩ :: rest) a w := by
  have hn : Region.wanted ⟨d, op, ty, pos, af, none⟩ (yielded ops a.tmps) = true := by simp [Region.wanted]
  simp only [wpList] at h ⊢
  rw [if_pos hn] at h
  rw [if_pos hw]
  exact h
theorem arr_list (l : List UInt8) : (⟨l.toArray⟩ : ByteArray).data.toList = l := by simp

end Go.Proofs.YticmdmnjajjpbaaDoor
