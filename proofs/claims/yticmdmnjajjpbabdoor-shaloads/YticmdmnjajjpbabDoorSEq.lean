/- Two arrays of the same numbers are equal. -/
import Derived.Test.YticmdmnjajjpbabDoorSSpread
import Derived.Laws.StructEq
namespace Go.Proofs.YticmdmnjajjpbabDoor
open Go.RowKit
variable {P : Program}

theorem run_part_int (w : World) (e : TypeId) (k : IntKind) (he : P.underlying e = some (.int k)) (cs : Array Value) (i : Nat) (v : Value) (h : cs[i]? = some v) : (part e cs i).run P w = .ok v w := by
  have ha : (isAgg e).run P w = .ok false w := by
    unfold isAgg
    rw [Sem.run_bind, run_underlying he w]
    rfl
  simp [part, Sem.run_bind, ha, h]

theorem run_equal_row (w : World) (d : Nat) (t e : TypeId) (n : Nat) (k : IntKind) (ht : P.underlying t = some (.array n e)) (he : P.underlying e = some (.int k)) (hs : (P.info? e).map (·.size) = some 1)
    (xs : List Int) (hl : xs.length = n) : (Op.equalIn (d + 1 + 1) t (.agg (xs.map (Value.int k)).toArray) (.agg (xs.map (Value.int k)).toArray)).run P w = .ok true w := by
  have hsz : (sizeOf e).run P w = .ok 1 w := by
    cases hq : P.info? e with
    | none => rw [hq] at hs; cases hs
    | some i => rw [hq] at hs; simp at hs; simp [sizeOf, typeInfo, hq, hs]
  unfold Op.equalIn
  simp only [Sem.run_bind, run_underlying ht, Result.andThen_ok, hsz, Nat.mul_one]
  have key : ∀ l : List Nat, (∀ i ∈ l, i < n) → ∀ (f : Nat → Option Bool × Unit → Sem (ForInStep (Option Bool × Unit))),
      (∀ i, i < n → (f i (none, ())).run P w = .ok (.yield (none, ())) w) → (forIn l (none, ()) f).run P w = .ok (none, ()) w := by
    intro l
    induction l with
    | nil => intro _ f _; simp
    | cons a r ih =>
      intro hl f hf
      simp only [List.forIn_cons, Sem.run_bind]
      rw [hf a (hl a (by simp))]
      simp only [Result.andThen_ok]
      exact ih (fun i hi => hl i (by simp [hi])) f hf
  rw [Std.Legacy.Range.forIn_eq_forIn_range']
  simp only [Std.Legacy.Range.size, Nat.sub_zero, Nat.add_one_sub_one, Nat.div_one]
  rw [key _ (fun i hi => by simpa using hi) _ (fun i hi => ?_)]
  · simp
  · have hc : (xs.map (Value.int k)).toArray[i]? = some (.int k (xs.getD i 0)) := by simp [List.getD_eq_getElem?_getD, show i < xs.length by omega]
    simp only [Sem.run_bind, run_part_int w e k he _ i _ hc, Result.andThen_ok, run_equalIn_int w d e k k _ _ he]
    simp

theorem eql_row (w : World) (t e : TypeId) (n : Nat) (k : IntKind) (ht : P.underlying t = some (.array n e)) (he : P.underlying e = some (.int k)) (hs : (P.info? e).map (·.size) = some 1)
    (xs : List Int) (hl : xs.length = n) : (binOp .eql t (.agg (xs.map (Value.int k)).toArray) (.agg (xs.map (Value.int k)).toArray)).run P w = .ok (.bool true) w := by
  rw [run_eql_struct]
  rw [run_equal_row w 9998 t e n k ht he hs xs hl]
  rfl
theorem neq_row (w : World) (t e : TypeId) (n : Nat) (k : IntKind) (ht : P.underlying t = some (.array n e)) (he : P.underlying e = some (.int k)) (hs : (P.info? e).map (·.size) = some 1)
    (xs : List Int) (hl : xs.length = n) : (binOp .neq t (.agg (xs.map (Value.int k)).toArray) (.agg (xs.map (Value.int k)).toArray)).run P w = .ok (.bool false) w := by
  rw [run_neq_struct]
  rw [run_equal_row w 9998 t e n k ht he hs xs hl]
  rfl

end Go.Proofs.YticmdmnjajjpbabDoor
