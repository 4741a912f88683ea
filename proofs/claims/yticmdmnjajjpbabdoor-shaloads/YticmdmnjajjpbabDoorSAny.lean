/- A region that draws its order: pure steps first, then two loads in either order, then the rest in a row. -/
import Derived.Test.YticmdmnjajjpbabDoorSPure2
import Derived.StillTailTactics
import Derived.OrdersHeld
namespace Go.Proofs.YticmdmnjajjpbabDoor
open Go.RowKit
variable {P : Program}

/-- what must be shown where no step can panic -/
def noPanic (Q : Exit → Act → World → Prop) : Exit → Act → World → Prop := fun e a w => match e with
  | .panic _ => False
  | e => Q e a w
theorem wp_noPanic {c : Code} {Q : Exit → Act → World → Prop} {a : Act} {w : World} (h : c.wp P (noPanic Q) a w) : c.wp P Q a w :=
  Code.wp_mono (fun e a w h => by
    cases e
    all_goals first | exact h | exact h.elim) h

theorem wanted_plain {o : Oper} {ops : Array Oper} {a : Act} (h : o.guard = none) : Region.wanted o (yielded ops a.tmps) = true := by simp [Region.wanted, h]

theorem any_yield {ops : Array Oper} {Q : Exit → Act → World → Prop} {fuel : Nat} {listed : Array Bool} {a : Act} {w : World} (i : Nat) (oi : Oper) (v : Value) (hi : ops[i]? = some oi) (hg : oi.guard = none)
    (hs : Region.noSelect ops = true) (hf : Region.free .any ops listed i = true) (hr : (Region.ready .any ops listed).contains i = true)
    (hy : ∀ w, (execOp a.eval oi).run P w = .ok (.value v) w)
    (h : wpAny P .any ops (noPanic Q) fuel (listed.setIfInBounds i true) (a.put oi.dst v) w) : wpAny P .any ops (noPanic Q) (fuel + 1) listed a w :=
  wpAny_take hi hs hf hr (fun _ _ _ h => h.elim) (.inl ⟨wanted_plain hg, hy⟩) h

theorem op_ld {ops : Array Oper} {Q : Exit → Act → World → Prop} {K : Act → World → Prop} {a : Act} {w : World} {i : Nat} {o : Oper} (hi : ops[i]? = some o) (hg : o.guard = none) (ty : TypeId) (x : Operand) (ho : o.op = .load ty x)
    (b off : Nat) (hx : a.eval x = .pointer (some ⟨b, off, none⟩)) (cs : List Value) (d : TypeDesc) (hc : w.rangeAt b off cs) (hu : P.underlying ty = some d) (hd : d.isRow = true) (hz : (P.info? ty).map (·.size) = some cs.length)
    (h : K (a.put o.dst (.agg cs.toArray)) w) : wpOp P ops Q i K a w := by
  unfold wpOp
  simp only [hi, wanted_plain hg, if_true]
  exact Or.inl (wp_load_mid ty x ho b off hx cs d hc hu hd hz h)

theorem any_two_loads {ops : Array Oper} {Q : Exit → Act → World → Prop} {fuel : Nat} {listed : Array Bool} {a : Act} {w : World} (i j : Nat) (oi oj : Oper) (hi : ops[i]? = some oi) (hj : ops[j]? = some oj)
    (gi : oi.guard = none) (gj : oj.guard = none) (hr : Region.ready .any ops listed = [i, j]) (hri : Region.ready .any ops (listed.setIfInBounds i true) = [j]) (hrj : Region.ready .any ops (listed.setIfInBounds j true) = [i])
    (hij : i ≠ j)
    (ti : TypeId) (xi : Operand) (hoi : oi.op = .load ti xi) (bi fi : Nat) (csi : List Value) (di : TypeDesc) (hci : w.rangeAt bi fi csi) (hui : P.underlying ti = some di) (hdi : di.isRow = true) (hzi : (P.info? ti).map (·.size) = some csi.length)
    (tj : TypeId) (xj : Operand) (hoj : oj.op = .load tj xj) (bj fj : Nat) (csj : List Value) (dj : TypeDesc) (hcj : w.rangeAt bj fj csj) (huj : P.underlying tj = some dj) (hdj : dj.isRow = true) (hzj : (P.info? tj).map (·.size) = some csj.length)
    (hxi : a.eval xi = .pointer (some ⟨bi, fi, none⟩)) (hxi' : (a.put oj.dst (.agg csj.toArray)).eval xi = .pointer (some ⟨bi, fi, none⟩))
    (hxj : a.eval xj = .pointer (some ⟨bj, fj, none⟩)) (hxj' : (a.put oi.dst (.agg csi.toArray)).eval xj = .pointer (some ⟨bj, fj, none⟩))
    (hcomm : (a.put oj.dst (.agg csj.toArray)).put oi.dst (.agg csi.toArray) = (a.put oi.dst (.agg csi.toArray)).put oj.dst (.agg csj.toArray))
    (h : wpAny P .any ops (noPanic Q) fuel ((listed.setIfInBounds i true).setIfInBounds j true) ((a.put oi.dst (.agg csi.toArray)).put oj.dst (.agg csj.toArray)) w) : wpAny P .any ops (noPanic Q) (fuel + 1 + 1) listed a w := by
  refine wpAny_all hr (by simp) fun n hn => ?_
  simp only [List.mem_cons, List.not_mem_nil, or_false] at hn
  rcases hn with rfl | rfl
  · refine op_ld hi gi ti xi hoi bi fi hxi csi di hci hui hdi hzi ?_
    refine wpAny_all hri (by simp) fun n hn => ?_
    simp only [List.mem_cons, List.not_mem_nil, or_false] at hn
    subst hn
    exact op_ld hj gj tj xj hoj bj fj hxj' csj dj hcj huj hdj hzj h
  · refine op_ld hj gj tj xj hoj bj fj hxj csj dj hcj huj hdj hzj ?_
    refine wpAny_all hrj (by simp) fun n hn => ?_
    simp only [List.mem_cons, List.not_mem_nil, or_false] at hn
    subst hn
    refine op_ld hi gi ti xi hoi bi fi hxi' csi di hci hui hdi hzi ?_
    rw [hcomm, Array.setIfInBounds_comm _ _ hij.symm]
    exact h

theorem any_tail {L : List Oper} {Q : Exit → Act → World → Prop} (k : Nat) {fuel : Nat} {listed : Array Bool} {a : Act} {w : World} (hf : fuel = L.length - k) (hs : Region.seqB .any L.toArray fuel k listed = true)
    (h : wpList P L.toArray (noPanic Q) (L.drop k) a w) : wpAny P .any L.toArray (noPanic Q) fuel listed a w := by
  have := wpAny_of_seq (md := .any) (Q' := noPanic Q) (L.drop k) k listed a w (fun j => by simp [List.getElem?_drop]) (by simpa [hf] using hs) h
  simpa [hf] using this

end Go.Proofs.YticmdmnjajjpbabDoor
