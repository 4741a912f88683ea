/- The document's Parts and SameParts. -/
import Derived.Test.YticmdmnjajjpbacDoorSFit
import Derived.Test.YticmdmnjajjpbacDoorSRef1
namespace Go.Proofs.YticmdmnjajjpbacDoor
open Go.RowKit

theorem Tryd.infoBs : (Tryd.prog.info? 28).map (fun i => (i.zero, i.size, i.bytes)) = some (some (.slice none 0 0), 1, 24) := by kernel_rfl

/-- two rows of unlike types are not one -/
theorem rows_ne {w : World} {base base' : Nat} {e e' : TypeId} {s s' : Nat} {v u : Value} {n m : Nat} {xs ys : List Value} (h : w.ownsRow base e s v n xs) (k : w.ownsRow base' e' s' u m ys) (hne : e' ≠ e) : u.ownBlock = none ∨ u.ownBlock ≠ v.ownBlock := by
  rcases k.2 with ⟨rfl, _⟩ | ⟨g, cap, cur, rfl, _, hg, _⟩
  · exact Or.inl rfl
  · refine Or.inr fun heq => ?_
    rcases h.2 with ⟨rfl, _⟩ | ⟨g', cap', cur', rfl, _, hg', _⟩
    · cases heq
    · simp only [Value.ownBlock, Option.some.injEq] at heq
      subst heq
      rw [hg] at hg'
      simp only [Option.some.injEq, Obj.cells.injEq] at hg'
      exact hne hg'.2.1

/-- append(own, list) -/
theorem app_list {w : World} {ops : Array Oper} {rest : List Oper} {o : Oper} {a : Act} {Q : Exit → Act → World → Prop} (hgd : o.guard = none) (s x : Operand)
    (ho : o.op = .call { callee := .builtin .append, args := #[s, x], argTypes := #[38, 38] })
    (base : Nat) (v : Value) (us : List Value) (hs : a.eval s = v) (hown : w.ownsRow base 28 1 v us.length us) (u : Value) (g : Nat) (hx : a.eval x = .slice (some ⟨g, 0, none⟩) 1 1) (hc : w.cell? ⟨g, 0, none⟩ = some u) (hu : u.oneCell' = true)
    (hlen : us.length ≤ 1048576) (hbase : base ≤ w.heap.size)
    (h : ∀ v' w', w'.ownsRow base 28 1 v' (us ++ [u]).length (us ++ [u]) → w.grownBy w' v.ownBlock → wpList Tryd.prog ops Q rest (a.put o.dst v') w') : wpList Tryd.prog ops Q (o :: rest) a w := by
  obtain ⟨i0, hi, hz0, hz1, hz2⟩ := info_parts Tryd.infoBs
  refine wpList_append_own w hgd s x 38 ho base 28 i0 (.slice none 0 0) 1 24 Tryd.underlying38 hi hz0 hz1 hz2 rfl (by decide) v us.length us hs hown ⟨g, 0, none⟩ 1 1 [u] hx rfl (fun j y hj => ?_) (by simpa using hu) (by unfold maxLen; omega) (by omega) hbase ?_
  · match j, hj with
    | 0, hj =>
      simp only [List.getElem?_cons_zero, Option.some.injEq] at hj
      subst hj
      rw [addr_add]
      exact hc
    | j + 1, hj => simp at hj
  · intro v' w' h3 h4 _
    exact h v' w' (by rw [List.length_append]; exact h3) h4

/-- while Parts goes on -/
structure Pt (w : World) (pss : List (List UInt8)) (v : Value) (us : List Value) (k : Nat) (wr : World) : Prop where
  own : wr.ownsRow w.heap.size 28 1 v us.length us
  len : us.length = k
  src : ∀ j, j < k → ∃ u, us[j]? = some u ∧ OwnB wr w.heap.size u (pss.getD j [])
  bel : Below w.heap.size w wr

theorem Pt.lists {w : World} {pss : List (List UInt8)} {v : Value} {us : List Value} {wr : World} (h : Pt w pss v us pss.length wr) (hl : ∀ j, j < pss.length → (pss.getD j []).length ≤ 140737488355327) : Lists (· < wr.heap.size) wr v pss := by
  have hown := h.own
  rcases h.own.2 with ⟨hv, h0⟩ | ⟨g, cap, cur, hv, _, hh, _, _, _, _⟩
  · refine Or.inl ⟨none, 0, hv, ?_⟩
    have := h.len
    exact List.length_eq_zero_iff.1 (by omega)
  · refine Or.inr ⟨g, 0, cap, by rw [hv, h.len], hp_lt hh, hp_lt hh, fun j hj => ?_⟩
    obtain ⟨u, hu, ho⟩ := h.src j hj
    refine ⟨u, ?_, ho.src (hl j hj), fun k _ hk => (ho.lt k hk).2⟩
    have := World.ownsRow.cells hown (g := g) (by rw [hv]; rfl) j u hu
    rw [addr_add] at this
    rwa [Nat.zero_add]

theorem Pt.next {w : World} {pss : List (List UInt8)} {v : Value} {us : List Value} {k : Nat} {wr w1 w2 : World} {o : Obj} {u v2 : Value} {cs : List UInt8} (h : Pt w pss v us k wr) (hcs : cs = pss.getD k []) (ho1 : OwnB w1 wr.heap.size u cs) (hg1 : wr.grownBy w1 none)
    (how : (w1.alloc o).ownsRow w.heap.size 28 1 v us.length us) (ho2 : w2.ownsRow w.heap.size 28 1 v2 (us ++ [u]).length (us ++ [u])) (hg2 : (w1.alloc o).grownBy w2 v.ownBlock) : Pt w pss v2 (us ++ [u]) (k + 1) w2 := by
  have hbs : w.heap.size ≤ w1.heap.size := Nat.le_trans h.bel.size hg1.size
  have hB1 := h.bel.grown hg1 h.bel.size (by intro k hk; cases hk)
  have keep : ∀ (x : Value) (bs : List UInt8), OwnB w1 w.heap.size x bs → OwnB w2 w.heap.size x bs := fun x bs hx => by
    have h1 : OwnB (w1.alloc o) w.heap.size x bs := World.ownsRow.alloc hx o
    exact h1.kept hg2 (rows_ne how h1 (by decide))
  refine ⟨ho2, by rw [List.length_append, h.len]; rfl, fun j hj => ?_, ?_⟩
  · rcases Nat.lt_or_ge j k with hjk | hjk
    · obtain ⟨x, hx, hox⟩ := h.src j hjk
      refine ⟨x, by rw [List.getElem?_append_left (by rw [h.len]; exact hjk)]; exact hx, keep _ _ ?_⟩
      exact hox.kept hg1 (by cases e : x.ownBlock <;> simp)
    · obtain rfl : j = k := by omega
      refine ⟨u, ?_, keep _ _ (by rw [← hcs]; exact ho1.le h.bel.size)⟩
      rw [List.getElem?_append_right (by rw [h.len]; exact Nat.le_refl _), h.len]
      simp
  · refine (hB1.alloc hbs o).grown hg2 (by rw [hp_size]; omega) (fun q hq => (World.ownsRow.lt how q hq).1)

end Go.Proofs.YticmdmnjajjpbacDoor
