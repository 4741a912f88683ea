/- Lists of bytes in memory; fit. -/
import Derived.Test.YticmdmnjajjpbabDoorSTake
namespace Go.Proofs.YticmdmnjajjpbabDoor
open Go.RowKit
variable {P : Program}

theorem mv_row {w : World} {ops : Array Oper} {rest : List Oper} {o : Oper} {a : Act} {Q : Exit → Act → World → Prop} (hgd : o.guard = none) (x : Operand) (ho : o.op = .move x) (v : Value) (hx : a.eval x = v)
    (h : wpList P ops Q rest (a.put o.dst v) w) : wpList P ops Q (o :: rest) a w := by
  subst hx
  refine wpList_plain hgd fun K hK => ?_
  unfold Oper.wp execOp
  simp only [ho, Sem.run_pure]
  exact hK _ _ h

/-- v is a slice that holds these lists of bytes, in blocks of which X is true -/
def Lists (X : Nat → Prop) (w : World) (v : Value) (pss : List (List UInt8)) : Prop :=
  (∃ ao c, v = .slice ao 0 c ∧ pss = []) ∨ ∃ g o c, v = .slice (some ⟨g, o, none⟩) pss.length c ∧ g < w.heap.size ∧ X g ∧
    ∀ j, j < pss.length → ∃ u, w.cell? ⟨g, o + j, none⟩ = some u ∧ Src w u (pss.getD j []) ∧ ∀ k, 0 < (pss.getD j []).length → u.ownBlock = some k → X k
theorem Lists.below {X : Nat → Prop} {w w' : World} {v : Value} {pss : List (List UInt8)} (h : Lists X w v pss) (hb : Below w.heap.size w w') : Lists X w' v pss := by
  rcases h with h | ⟨g, o, c, hv, hlt, hX, hc⟩
  · exact Or.inl h
  · refine Or.inr ⟨g, o, c, hv, Nat.lt_of_lt_of_le hlt hb.size, hX, fun j hj => ?_⟩
    obtain ⟨u, h1, h2, h3⟩ := hc j hj
    exact ⟨u, by rw [hb.cell (p := ⟨g, o + j, none⟩) hlt]; exact h1, h2.below hb, h3⟩
theorem Lists.grown {w w' : World} {v : Value} {pss : List (List UInt8)} {b : Nat} (h : Lists (· ≠ b) w v pss) (hg : w.grownBy w' (some b)) : Lists (· ≠ b) w' v pss := by
  rcases h with h | ⟨g, o, c, hv, hlt, hX, hc⟩
  · exact Or.inl h
  · refine Or.inr ⟨g, o, c, hv, Nat.lt_of_lt_of_le hlt hg.size, hX, fun j hj => ?_⟩
    obtain ⟨u, h1, h2, h3⟩ := hc j hj
    refine ⟨u, ?_, h2.grown2 hg (fun hp e => h3 b hp e rfl), h3⟩
    rw [World.cell?_of_block (hg.block g hlt (by simpa using hX))]
    exact h1
theorem Lists.imp {X Y : Nat → Prop} {w : World} {v : Value} {pss : List (List UInt8)} (h : Lists X w v pss) (hXY : ∀ k, X k → Y k) : Lists Y w v pss := by
  rcases h with h | ⟨g, o, c, hv, hlt, hX, hc⟩
  · exact Or.inl h
  · refine Or.inr ⟨g, o, c, hv, hlt, hXY _ hX, fun j hj => ?_⟩
    obtain ⟨u, h1, h2, h3⟩ := hc j hj
    exact ⟨u, h1, h2, fun k hp hk => hXY _ (h3 k hp hk)⟩
theorem Lists.drewN {X : Nat → Prop} {w : World} {v : Value} {pss : List (List UInt8)} (h : Lists X w v pss) (k : Nat) : Lists X (w.drewN k) v pss := h

/-- all of them, one behind the other -/
def fl (pss : List (List UInt8)) : List UInt8 := pss.flatten
theorem fl_snoc (pss : List (List UInt8)) (k : Nat) (hk : k < pss.length) : fl (pss.take (k + 1)) = fl (pss.take k) ++ pss.getD k [] := by
  unfold fl
  rw [List.take_succ_eq_append_getElem hk, List.flatten_append]
  simp only [List.flatten_cons, List.flatten_nil, List.append_nil]
  simp [List.getD_eq_getElem?_getD, hk]
theorem fl_length (pss : List (List UInt8)) (k : Nat) (hk : k < pss.length) : (fl (pss.take (k + 1))).length = (fl (pss.take k)).length + (pss.getD k []).length := by
  rw [fl_snoc pss k hk, List.length_append]
theorem fl_le (pss : List (List UInt8)) (k : Nat) : (fl (pss.take k)).length ≤ (fl pss).length := by
  have e : fl pss = fl (pss.take k) ++ fl (pss.drop k) := by unfold fl; rw [← List.flatten_append, List.take_append_drop]
  rw [e, List.length_append]; omega
theorem fl_nil : fl [] = [] := rfl
theorem fl_all (pss : List (List UInt8)) : fl (pss.take pss.length) = fl pss := by rw [List.take_length]

theorem src_shape {w : World} {v : Value} {bs : List UInt8} (h : Src w v bs) : ∃ ao c, v = .slice ao bs.length c := by
  rcases h.2 with ⟨rfl, rfl⟩ | ⟨ad, cap, rfl, _⟩
  · exact ⟨none, 0, rfl⟩
  · exact ⟨_, _, rfl⟩

set_option maxRecDepth 100000 in
set_option maxHeartbeats 1000000 in
theorem fit_any (X : Nat → Prop) (w : World) (room : Nat) (v : Value) (pss : List (List UInt8)) (hv : Lists X w v pss) (hr : room < 18446744073709551616) (hn : pss.length ≤ 140737488355327) :
    Calls Tryd.prog 39 #[.int .u64 room, v] w fun e w' => e = .returned (.bool (decide ((fl pss).length ≤ room))) ∧ w' = w := by
  rcases hv with ⟨ao, c, rfl, rfl⟩ | ⟨g, o, c, rfl, hlt, hX, hc⟩
  · go_enter Tryd.func39, Tryd.ntmps39
    go_wp2
    go_loop [0, 9] (fun r i => i = .int .i64 0) (fun _ _ => 0)
    case atStart => rfl
    case round =>
      obtain rfl := hrel
      go_wp2
      go_ret
      exact ⟨by simp [fl_nil], rfl⟩
  · have HC := hid hc
    clear hc
    go_enter Tryd.func39, Tryd.ntmps39
    go_wp2
    go_loop [0, 9] (fun r i => ∃ (k rr : Nat), k ≤ pss.length ∧ rr + (fl (pss.take k)).length = room ∧ r = .int .u64 rr ∧ i = .int .i64 k) (fun _ i => pss.length - (intOf i).toNat)
    case atStart => exact ⟨0, room, by omega, by simp [fl_nil], rfl, rfl⟩
    case round =>
      obtain ⟨k, rr, hk, hsum, rfl, rfl⟩ := hrel
      by_cases hkl : k < pss.length
      · obtain ⟨u, hcell, hsrc, _⟩ := HC.out k hkl
        obtain ⟨ao, cu, rfl⟩ := src_shape hsrc
        have hl := hsrc.1
        have hs1 := fl_length pss k hkl
        have hs2 := fl_le pss (k + 1)
        clear hsrc
        obtain ⟨L, HL⟩ : ∃ L, L = (pss.getD k []).length := ⟨_, rfl⟩
        rw [← HL] at hcell hl hs1
        have HLH := hid HL
        clear HL
        by_cases hgt : rr < L
        · go_wp2
          go_ret
          refine ⟨?_, rfl⟩
          have : decide ((fl pss).length ≤ room) = false := decide_eq_false (by omega)
          exact congrArg (fun b => Ending.returned (Value.bool b)) this.symm
        · go_wp2
          refine ⟨⟨k + 1, rr - L, by omega, by omega, ?_, by simp⟩, by simp [intOf]; omega⟩
          congr 1
          omega
      · obtain rfl : k = pss.length := by omega
        rw [fl_all] at hsum
        go_wp2
        go_ret
        refine ⟨?_, rfl⟩
        have : decide ((fl pss).length ≤ room) = true := decide_eq_true (by omega)
        exact congrArg (fun b => Ending.returned (Value.bool b)) this.symm

end Go.Proofs.YticmdmnjajjpbabDoor
