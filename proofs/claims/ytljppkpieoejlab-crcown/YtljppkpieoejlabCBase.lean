/- Rows of words and bytes, lists of bytes, in memory. -/
import Derived.Test.YtljppkpieoejlabSRow
import Derived.Test.YtljppkpieoejlabCPure
import Derived.Deep.Cut
import Derived.KernelRfl
import Derived.Laws.BitsAllLaws
import Derived.Lib.SlBytesConst
namespace Go.Proofs.Ytljppkpieoejlab
open Go.RowKit
variable {P : Program}

theorem mv_row {w : World} {ops : Array Oper} {rest : List Oper} {o : Oper} {a : Act} {Q : Exit → Act → World → Prop} (hgd : o.guard = none) (x : Operand) (ho : o.op = .move x) (v : Value) (hx : a.eval x = v)
    (h : wpList P ops Q rest (a.put o.dst v) w) : wpList P ops Q (o :: rest) a w := by
  subst hx
  refine wpList_plain hgd fun K hK => ?_
  unfold Oper.wp execOp
  simp only [ho, Sem.run_pure]
  exact hK _ _ h

def u32N (xs : List Nat) : List Value := xs.map fun (x : Nat) => Value.int .u32 (x : Int)
theorem u32N_length (xs : List Nat) : (u32N xs).length = xs.length := by simp [u32N]
theorem u32N_one (xs : List Nat) : ∀ v ∈ u32N xs, v.oneCell' = true := by
  intro v hv
  simp only [u32N, List.mem_map] at hv
  obtain ⟨c, _, rfl⟩ := hv
  rfl
theorem u32N_set (xs : List Nat) (i y : Nat) : (u32N xs).set i (.int .u32 (y : Int)) = u32N (xs.set i y) := by simp [u32N, List.map_set]
theorem row_cell {w : World} {b : Nat} {cs : List Value} {T : TypeId} (h : w.heap[b]? = some (.cells cs.toArray T (0, 0))) (i : Nat) (hi : i < cs.length) : w.cell? ⟨b, i, none⟩ = some (cs[i]) := by
  simp [World.cell?, h, hi]
theorem u32N_cell {w : World} {b : Nat} {xs : List Nat} {T : TypeId} (h : w.heap[b]? = some (.cells (u32N xs).toArray T (0, 0))) (i : Nat) (hi : i < xs.length) : w.cell? ⟨b, i, none⟩ = some (.int .u32 ((xs.getD i 0 : Nat) : Int)) := by
  rw [row_cell h i (by simpa [u32N] using hi)]
  simp [u32N, List.getD_eq_getElem?_getD, hi]
theorem row_fz {w : World} {b : Nat} {cs : Array Value} {T : TypeId} (h : w.heap[b]? = some (.cells cs T (0, 0))) (i : Nat) : w.frozen? ⟨b, i, none⟩ = false := by simp [World.frozen?, h]

theorem src_shape {w : World} {v : Value} {bs : List UInt8} (h : Src w v bs) : ∃ ao c, v = .slice ao bs.length c := by
  rcases h.2 with ⟨rfl, rfl⟩ | ⟨ad, cap, rfl, _⟩
  · exact ⟨none, 0, rfl⟩
  · exact ⟨_, _, rfl⟩

/-- v is a slice that holds these lists of bytes -/
def Lists (w : World) (v : Value) (pss : List (List UInt8)) : Prop :=
  (∃ ao c, v = .slice ao 0 c ∧ pss = []) ∨ ∃ g o c, v = .slice (some ⟨g, o, none⟩) pss.length c ∧ g < w.heap.size ∧
    ∀ j, j < pss.length → ∃ u, w.cell? ⟨g, o + j, none⟩ = some u ∧ Src w u (pss.getD j [])
theorem Lists.below {w w' : World} {v : Value} {pss : List (List UInt8)} (h : Lists w v pss) (hb : Below w.heap.size w w') : Lists w' v pss := by
  rcases h with h | ⟨g, o, c, hv, hlt, hc⟩
  · exact Or.inl h
  · refine Or.inr ⟨g, o, c, hv, Nat.lt_of_lt_of_le hlt hb.size, fun j hj => ?_⟩
    obtain ⟨u, h1, h2⟩ := hc j hj
    exact ⟨u, by rw [hb.cell (p := ⟨g, o + j, none⟩) hlt]; exact h1, h2.below hb⟩
theorem Lists.shape {w : World} {v : Value} {pss : List (List UInt8)} (h : Lists w v pss) : ∃ ao c, v = .slice ao pss.length c := by
  rcases h with ⟨ao, c, rfl, rfl⟩ | ⟨g, o, c, rfl, _⟩
  · exact ⟨_, _, rfl⟩
  · exact ⟨_, _, rfl⟩
theorem Lists.at {w : World} {ao : Option Addr} {n c : Nat} {pss : List (List UInt8)} (h : Lists w (.slice ao n c) pss) (k : Nat) (hk : k < pss.length) :
    ∃ g o, ao = some ⟨g, o, none⟩ ∧ ∃ u, w.cell? ⟨g, o + k, none⟩ = some u ∧ Src w u (pss.getD k []) := by
  rcases h with ⟨_, _, _, h0⟩ | ⟨g, o, c, hv, _, hc⟩
  · rw [h0] at hk; simp at hk
  · injection hv with h1 _ _
    obtain ⟨u, h2, h3⟩ := hc k hk
    exact ⟨g, o, h1, u, h2, h3⟩
/-- a list of one -/
theorem lists_one {w : World} {v : Value} {bs : List UInt8} (h : Src w v bs) :
    Lists (w.alloc (.cells #[v] 22)) (.slice (some ⟨w.heap.size, 0, none⟩) 1 1) [bs] := by
  have hb := hp_new w (.cells #[v] 22)
  refine Or.inr ⟨w.heap.size, 0, 1, rfl, hp_lt hb, fun j hj => ?_⟩
  match j, hj with
  | 0, _ => exact ⟨v, by rw [cell_of_row _ _ _ _ _ _ hb]; rfl, h.below (below_walk _ _)⟩
/-- a list of two -/
theorem lists_two {w : World} {v u : Value} {bs cs : List UInt8} (h : Src w v bs) (g : Src w u cs) :
    Lists (w.alloc (.cells #[v, u] 22)) (.slice (some ⟨w.heap.size, 0, none⟩) 2 2) [bs, cs] := by
  have hb := hp_new w (.cells #[v, u] 22)
  refine Or.inr ⟨w.heap.size, 0, 2, rfl, hp_lt hb, fun j hj => ?_⟩
  match j, hj with
  | 0, _ => exact ⟨v, by rw [cell_of_row _ _ _ _ _ _ hb]; rfl, h.below (below_walk _ _)⟩
  | 1, _ => exact ⟨u, by rw [cell_of_row _ _ _ _ _ _ hb]; rfl, g.below (below_walk _ _)⟩
/-- all of them, one behind the other -/
def fl (pss : List (List UInt8)) : List UInt8 := pss.flatten
theorem fl_snoc (pss : List (List UInt8)) (k : Nat) (hk : k < pss.length) : fl (pss.take (k + 1)) = fl (pss.take k) ++ pss.getD k [] := by
  unfold fl
  rw [List.take_succ_eq_append_getElem hk, List.flatten_append]
  simp only [List.flatten_cons, List.flatten_nil, List.append_nil]
  simp [List.getD_eq_getElem?_getD, hk]
theorem fl_nil : fl [] = [] := rfl
theorem fl_all (pss : List (List UInt8)) : fl (pss.take pss.length) = fl pss := by rw [List.take_length]
/-- bytes that a literal lays -/
theorem src_lit {w : World} {g : Nat} {bs : List UInt8} {C : Array Value} {fr : Nat × Nat} (hb : w.heap[g]? = some (.cells C 5 fr)) (hC : C = (bytesV bs).toArray) (hl : bs.length ≤ 1000) (n : Nat) (hn : n = bs.length) :
    Src w (.slice (some ⟨g, 0, none⟩) n n) bs := by
  subst hn hC
  refine ⟨by omega, Or.inr ⟨⟨g, 0, none⟩, bs.length, rfl, Nat.le_refl _, by unfold maxLen; omega, fun _ => hp_lt hb, fun j hj => ?_⟩⟩
  rw [addr_add, cell_of_row w g j _ _ _ hb]
  simp [bytesV, List.getD_eq_getElem?_getD, hj]
theorem src_at {w : World} {ao : Option Addr} {n c : Nat} {bs : List UInt8} (h : Src w (.slice ao n c) bs) (k : Nat) (hk : k < bs.length) :
    ∃ ad, ao = some ad ∧ w.cell? (ad.add k) = some (.int .u8 (bs.getD k 0).toNat) := by
  rcases h.2 with ⟨_, h0⟩ | ⟨ad, cap, hv, _, _, _, hc⟩
  · rw [h0] at hk; simp at hk
  · injection hv with h1
    exact ⟨ad, h1, hc k hk⟩

end Go.Proofs.Ytljppkpieoejlab
