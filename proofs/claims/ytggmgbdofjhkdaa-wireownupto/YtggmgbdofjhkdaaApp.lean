/- append of bytes or of a text's bytes behind bytes of the call's own, as one law each; string(bytes). -/
import Derived.Test.YtggmgbdofjhkdaaAlive
import Derived.Test.YtggmgbdofjhkdaaSn
import Derived.Laws.BytesString
import Derived.Laws.IdiomStrings
namespace Go.Proofs.Ytggmgbdofjhkdaa
open Go.RowKit

theorem src_cells {w : World} {ad : Addr} {bs : List UInt8} (hc : ∀ j, j < bs.length → w.cell? (ad.add j) = some (.int .u8 (bs.getD j 0).toNat)) :
    ∀ j u, (bytesV bs)[j]? = some u → w.cell? (ad.add j) = some u := by
  intro j u hj
  rw [bytesV_get] at hj
  have hjl : j < bs.length := by
    rcases Nat.lt_or_ge j bs.length with h | h
    · exact h
    · rw [List.getElem?_eq_none h] at hj; cases hj
  rw [hc j hjl, ← hj]
  simp [List.getElem?_eq_getElem hjl, List.getD_eq_getElem?_getD]

/-- append(own, bytes...) -/
theorem app_src {w : World} {ops : Array Oper} {rest : List Oper} {o : Oper} {a : Act} {Q : Exit → Act → World → Prop} (hgd : o.guard = none) (s x : Operand)
    (ho : o.op = .call { callee := .builtin .append, args := #[s, x], argTypes := #[23, 23] })
    (base : Nat) (v : Value) (bs : List UInt8) (hs : a.eval s = v) (hown : OwnB w base v bs) (vx : Value) (cs : List UInt8) (hx : a.eval x = vx) (hsrc : Src w vx cs)
    (hlen : bs.length + cs.length ≤ 140737488355327) (hbase : base ≤ w.heap.size)
    (h : ∀ v' w', OwnB w' base v' (bs ++ cs) → w.grownBy w' v.ownBlock → wpList Try.prog ops Q rest (a.put o.dst v') w') : wpList Try.prog ops Q (o :: rest) a w := by
  obtain ⟨i0, hi, hz0, hz1, hz2⟩ := info_parts Try.infoU8
  obtain ⟨_, ⟨rfl, rfl⟩ | ⟨ad, cap, rfl, h1, h2, hlt, hc⟩⟩ := hsrc
  · refine wpList_append_own_none hgd s x 23 ho base 5 i0 1 Try.underlying23 hi v bs.length (bytesV bs) hs hown hx ?_
    exact h v w (by simpa using hown) (gb_refl _ _)
  · refine wpList_append_own w hgd s x 23 ho base 5 i0 (.int .u8 0) 1 1 Try.underlying23 hi hz0 hz1 hz2 rfl (by decide) v bs.length (bytesV bs) hs hown ad cs.length cap (bytesV cs) hx (by simp [bytesV]) (src_cells hc) (bytesV_one cs) (by unfold maxLen; omega) (by omega) hbase ?_
    intro v' w' h3 h4 _
    exact h v' w' (by unfold OwnB; rw [bytesV_append, List.length_append]; exact h3) h4

/-- append(own, text...) -/
theorem app_str {w : World} {ops : Array Oper} {rest : List Oper} {o : Oper} {a : Act} {Q : Exit → Act → World → Prop} (hgd : o.guard = none) (s x : Operand)
    (ho : o.op = .call { callee := .builtin .append, args := #[s, x], argTypes := #[23, 9] })
    (base : Nat) (v : Value) (bs : List UInt8) (hs : a.eval s = v) (hown : OwnB w base v bs) (t : ByteArray) (hx : a.eval x = .string t)
    (hlen : bs.length + t.size ≤ 140737488355327) (hbase : base ≤ w.heap.size)
    (h : ∀ v' w', OwnB w' base v' (bs ++ t.data.toList) → w.grownBy w' v.ownBlock → wpList Try.prog ops Q rest (a.put o.dst v') w') : wpList Try.prog ops Q (o :: rest) a w := by
  obtain ⟨i0, hi, hz0, hz1, hz2⟩ := info_parts Try.infoU8
  refine Lib.wpList_append_own_string w hgd s x 23 9 ho base 5 i0 Try.underlying23 Try.underlying9 hi hz0 hz1 hz2 v bs.length (bytesV bs) hs hown t hx (by unfold maxLen; omega) (by omega) hbase ?_
  intro v' w' h3 h4 _
  refine h v' w' ?_ h4
  unfold OwnB
  rw [bytesV_append, List.length_append]
  exact h3

/-- make([]byte, 0, n) -/
theorem make_own {w : World} {ops : Array Oper} {rest : List Oper} {o : Oper} {a : Act} {Q : Exit → Act → World → Prop} (hgd : o.guard = none) (l c : Operand) (ho : o.op = Op.makeSlice 23 l c)
    (C : Int) (n : Nat) (hl : a.eval l = .int .i64 0) (hc : a.eval c = .int .i64 C) (hC : C = (n : Int)) (hn : n ≤ 140737488355327)
    (h : ∀ v' w', OwnB w' w.heap.size v' [] → Below w.heap.size w w' → wpList Try.prog ops Q rest (a.put o.dst v') w') : wpList Try.prog ops Q (o :: rest) a w := by
  obtain ⟨i0, hi, hz0, hz1, hz2⟩ := info_parts Try.infoU8
  refine wpList_make_own w hgd l c 23 ho w.heap.size 5 i0 (.int .u8 0) 1 Try.underlying23 hi hz0 hz1 .i64 .i64 C n hl hc hC (by rw [hz2]; omega) (by unfold maxLen; omega) (Nat.le_refl _) ?_
  intro w' h1 h2
  exact h _ w' h1 (gb_below h2)

/-- string(bytes) -/
theorem run_str {w : World} {v : Value} {bs : List UInt8} (h : Src w v bs) : (convert 23 9 v).run Try.prog w = .ok (.string ⟨bs.toArray⟩) w := by
  obtain ⟨_, ⟨rfl, rfl⟩ | ⟨ad, cap, rfl, h1, h2, hlt, hc⟩⟩ := h
  · rw [run_convert_bytes_string w 23 9 5 none 0 0 Try.underlying23 Try.underlying5 Try.underlying9]
    rfl
  · refine run_convert_bytes_back w 23 9 5 ad cap bs Try.underlying23 Try.underlying5 Try.underlying9 ?_
    intro j hj
    rw [hc j hj]
    simp [List.getElem?_eq_getElem hj, List.getD_eq_getElem?_getD]

set_option maxHeartbeats 400000 in
/-- bytes.Equal of the same bytes -/
theorem equal_true (va vb : Value) (bs : List UInt8) (w : World) (ha : Src w va bs) (hb : Src w vb bs) :
    Calls Try.prog 11 #[va, vb] w fun e w' => e = .returned (.bool true) ∧ w' = w := by
  have h1 := run_str ha
  have h2 := run_str hb
  clear ha hb
  generalize (⟨bs.toArray⟩ : ByteArray) = s at *
  go_enter Try.func11, Try.ntmps11
  go_wp2
  go_ret
  exact ⟨by simp, rfl⟩

end Go.Proofs.Ytggmgbdofjhkdaa
