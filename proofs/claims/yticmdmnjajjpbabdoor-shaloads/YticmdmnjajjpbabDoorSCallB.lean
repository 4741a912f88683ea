/- calls: what lies in memory while a call is done. -/
import Derived.Test.YticmdmnjajjpbabDoorSTells
import Derived.Test.YticmdmnjajjpbabDoorSClone
import Derived.Test.YticmdmnjajjpbabDoorSLong
namespace Go.Proofs.YticmdmnjajjpbabDoor
open Go.RowKit

/-- a pair that nobody made -/
def zp : List Value := [.pointer none, .pointer none] ++ (z10 ++ (z10 ++ [.int .i64 0]))
theorem zp_length : zp.length = 23 := rfl
theorem Tryd.sizePair : (Tryd.prog.info? 43).map (·.size) = some 23 := by kernel_rfl

theorem own_other {w : World} {base : Nat} {v : Value} {bs : List UInt8} {p : Nat} {cs : Array Value} {T : TypeId} (h : OwnB w base v bs) (k : w.heap[p]? = some (.cells cs T (0, 0))) (hT : T ≠ 5) : v.ownBlock ≠ some p := by
  intro e
  obtain ⟨_, ⟨rfl, _⟩ | ⟨g, cap, cur, rfl, _, hh, _⟩⟩ := h
  · cases e
  · simp only [Value.ownBlock, Option.some.injEq] at e
    subst e
    rw [hh] at k
    injection k with k
    injection k with _ h2
    exact hT h2.symm
theorem hg_other {w : World} {b : Nat} {H : List Int} {buf : List UInt8} {N : Nat} {p : Nat} {cs : Array Value} {T : TypeId} (h : Hg w b H buf N) (k : w.heap[p]? = some (.cells cs T (0, 0))) (hT : T ≠ 74) : p ≠ b := by
  intro e
  subst e
  obtain ⟨_, _, _, hb, _⟩ := h.ex
  rw [hb.blk] at k
  injection k with k
  injection k with _ h2
  exact hT h2.symm
theorem At.typ {w w' : World} {base b p : Nat} {σ : S5} {cs : Array Value} {T : TypeId} (h : At w base b σ) (k : w.heap[p]? = some (.cells cs T (0, 0))) (h1 : T ≠ 5) (h2 : T ≠ 74) (hg : w.grownBy w' (some p)) : At w' base b σ :=
  h.grown hg (by simpa using hg_other h.hg k h2) (Or.inr (own_other h.ow k h1))

/-- what stays in memory until the answer is laid -/
structure Cs (p : Nat) (b0 b1 : Nat) (s0 s1 : List Value) (n : Int) (dd : Int) (vp : Value) (κ : S5) (W : World) : Prop where
  pb : Pb W p b0 b1 s0 s1 n
  ob : W.heap[p + 1]? = some (.cells #[.int .i64 dd, vp] 49 (0, 0))
  sb : W.heap[p + 1 + 1 + 1]? = some (.cells κ.cs.toArray 27 (0, 0))
section
variable {p : Nat} {b0 b1 : Nat} {s0 s1 : List Value} {n : Int} {dd : Int} {vp : Value} {κ : S5} {W W' : World}
theorem Cs.below (h : Cs p b0 b1 s0 s1 n dd vp κ W) (hb : Below W.heap.size W W') : Cs p b0 b1 s0 s1 n dd vp κ W' :=
  ⟨h.pb.below hb, (hb.block _ (hp_lt h.ob)).trans h.ob, (hb.block _ (hp_lt h.sb)).trans h.sb⟩
theorem Cs.grown {g : Nat} (h : Cs p b0 b1 s0 s1 n dd vp κ W) (hg : W.grownBy W' (some g)) (h0 : g ≠ p) (h1 : g ≠ p + 1) (h3 : g ≠ p + 1 + 1 + 1) : Cs p b0 b1 s0 s1 n dd vp κ W' :=
  ⟨h.pb.grown hg (by simpa using h0), (hg.block _ (hp_lt h.ob) (by simpa using Ne.symm h1)).trans h.ob, (hg.block _ (hp_lt h.sb) (by simpa using Ne.symm h3)).trans h.sb⟩
theorem Cs.op (h : Cs p b0 b1 s0 s1 n dd vp κ W) : W.cell? ⟨p + 1, 1, none⟩ = some vp := by
  rw [cell_of_row _ _ _ _ _ _ h.ob]; rfl
theorem Cs.sr (h : Cs p b0 b1 s0 s1 n dd vp κ W) : W.rangeAt (p + 1 + 1 + 1) 0 κ.cs := fun j v hv => by
  rw [Nat.zero_add, cell_of_row _ _ j _ _ _ h.sb]
  simpa using hv
end

/-- in a call: the pair, the call, the answer's variable and the state's -/
structure Cl (base p : Nat) (b0 b1 : Nat) (σ τ : S5) (n : Int) (dd : Int) (vp : Value) (κ : S5) (W : World) : Prop where
  pb : Pb W p b0 b1 σ.cs τ.cs n
  ob : W.heap[p + 1]? = some (.cells #[.int .i64 dd, vp] 49 (0, 0))
  zb : W.heap[p + 1 + 1]? = some (.cells zp.toArray 43 (0, 0))
  sb : W.heap[p + 1 + 1 + 1]? = some (.cells κ.cs.toArray 27 (0, 0))
  a0 : At W base b0 σ
  a1 : At W base b1 τ
section
variable {base p : Nat} {b0 b1 : Nat} {σ τ : S5} {n : Int} {dd : Int} {vp : Value} {κ : S5} {W W' : World}
theorem Cl.below (h : Cl base p b0 b1 σ τ n dd vp κ W) (hb : Below W.heap.size W W') : Cl base p b0 b1 σ τ n dd vp κ W' :=
  ⟨h.pb.below hb, (hb.block _ (hp_lt h.ob)).trans h.ob, (hb.block _ (hp_lt h.zb)).trans h.zb, (hb.block _ (hp_lt h.sb)).trans h.sb, h.a0.below hb, h.a1.below hb⟩
theorem Cl.s (h : Cl base p b0 b1 σ τ n dd vp κ W) : Cs p b0 b1 σ.cs τ.cs n dd vp κ W := ⟨h.pb, h.ob, h.sb⟩
theorem Cl.od (h : Cl base p b0 b1 σ τ n dd vp κ W) : W.cell? ⟨p + 1, 0, none⟩ = some (.int .i64 dd) := by
  rw [cell_of_row _ _ _ _ _ _ h.ob]; rfl
theorem Cl.op (h : Cl base p b0 b1 σ τ n dd vp κ W) : W.cell? ⟨p + 1, 1, none⟩ = some vp := by
  rw [cell_of_row _ _ _ _ _ _ h.ob]; rfl
theorem Cl.sr (h : Cl base p b0 b1 σ τ n dd vp κ W) : W.rangeAt (p + 1 + 1 + 1) 0 κ.cs := fun j v hv => by
  rw [Nat.zero_add, cell_of_row _ _ j _ _ _ h.sb]
  simpa using hv
end

/-- what a call answers -/
def Good (w0 w : World) (b : Nat) (e : Ending) (w' : World) : Prop :=
  ∃ (c0 c1 : Nat) (σ τ : S5) (n : Nat), e = .returned (.tuple #[.agg (pc c0 c1 σ.cs τ.cs (n : Int)).toArray, .bool true]) ∧ At w' w0.heap.size c0 σ ∧ At w' w0.heap.size c1 τ ∧ c0 ≠ c1 ∧ n < 2 ∧ Below w0.heap.size w0 w' ∧ w.grownBy w' (some b)

theorem lists_sh {X : Nat → Prop} {w : World} {v : Value} {pss : List (List UInt8)} (h : Lists X w v pss) : ∃ ao c, v = .slice ao pss.length c := by
  rcases h with ⟨ao, c, rfl, rfl⟩ | ⟨g, o, c, rfl, _⟩
  · exact ⟨ao, c, rfl⟩
  · exact ⟨_, c, rfl⟩
theorem Lists.keep {X : Nat → Prop} {w w' : World} {v : Value} {pss : List (List UInt8)} {b : Nat} (h : Lists X w v pss) (hg : w.grownBy w' (some b)) (hb : ∀ k, X k → k ≠ b) : Lists X w' v pss := by
  rcases h with h | ⟨g, o, c, hv, hlt, hX, hc⟩
  · exact Or.inl h
  · refine Or.inr ⟨g, o, c, hv, Nat.lt_of_lt_of_le hlt hg.size, hX, fun j hj => ?_⟩
    obtain ⟨u, h1, h2, h3⟩ := hc j hj
    refine ⟨u, ?_, h2.grown2 hg (fun hp e => hb b (h3 b hp e) rfl), h3⟩
    rw [World.cell?_of_block (hg.block g hlt (by simpa using hb g hX))]
    exact h1
/-- the parts of one's own lie elsewhere -/
theorem Pt.above {w : World} {pss : List (List UInt8)} {v : Value} {us : List Value} {wr : World} (h : Pt w pss v us pss.length wr) (hl : ∀ j, j < pss.length → (pss.getD j []).length ≤ 140737488355327) : Lists (fun k => w.heap.size ≤ k) wr v pss := by
  have hown := h.own
  rcases h.own.2 with ⟨hv, h0⟩ | ⟨g, cap, cur, hv, hg, hh, _, _, _, _⟩
  · refine Or.inl ⟨none, 0, hv, ?_⟩
    have := h.len
    exact List.length_eq_zero_iff.1 (by omega)
  · refine Or.inr ⟨g, 0, cap, by rw [hv, h.len], hp_lt hh, hg, fun j hj => ?_⟩
    obtain ⟨u, hu, ho⟩ := h.src j hj
    refine ⟨u, ?_, ho.src (hl j hj), fun k _ hk => (ho.lt k hk).1⟩
    have := World.ownsRow.cells hown (g := g) (by rw [hv]; rfl) j u hu
    rw [addr_add] at this
    rwa [Nat.zero_add]

end Go.Proofs.YticmdmnjajjpbabDoor
