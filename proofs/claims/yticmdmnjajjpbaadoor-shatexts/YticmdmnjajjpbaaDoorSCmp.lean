/- Compare. -/
import Derived.Test.YticmdmnjajjpbaaDoorSUnhex
namespace Go.Proofs.YticmdmnjajjpbaaDoor
open Go.RowKit

/-- which of two lists of bytes comes first -/
def cmpP : List UInt8 → List UInt8 → Int
  | a :: r, b :: s => if a.toNat < b.toNat then -1 else if b.toNat < a.toNat then 1 else cmpP r s
  | _, _ => 0
theorem cmp_bound : ∀ a b : List UInt8, -1 ≤ cmpP a b ∧ cmpP a b ≤ 1
  | a :: r, b :: s => by
    unfold cmpP
    have := cmp_bound r s
    split
    · omega
    · split <;> omega
  | [], _ => by simp [cmpP]
  | _ :: _, [] => by simp [cmpP]
theorem cmp_neg : ∀ a b : List UInt8, cmpP b a = - cmpP a b
  | a :: r, b :: s => by
    unfold cmpP
    have := cmp_neg r s
    by_cases h1 : a.toNat < b.toNat
    · rw [if_pos h1, if_neg (by omega), if_pos h1]; rfl
    · by_cases h2 : b.toNat < a.toNat
      · rw [if_pos h2, if_neg h1, if_pos h2]
      · rw [if_neg h2, if_neg h1, if_neg h1, if_neg h2, this]
  | [], [] => rfl
  | [], _ :: _ => rfl
  | _ :: _, [] => rfl
theorem cmp_zero : ∀ a b : List UInt8, a.length = b.length → (cmpP a b = 0 ↔ a = b)
  | a :: r, b :: s, h => by
    have ih := cmp_zero r s (by simpa using h)
    unfold cmpP
    by_cases h1 : a.toNat < b.toNat
    · rw [if_pos h1]
      constructor
      · intro e; omega
      · intro e; injection e with e1; subst e1; omega
    · by_cases h2 : b.toNat < a.toNat
      · rw [if_neg h1, if_pos h2]
        constructor
        · intro e; omega
        · intro e; injection e with e1; subst e1; omega
      · rw [if_neg h1, if_neg h2]
        have e : a = b := UInt8.toNat_inj.1 (by omega)
        subst e
        constructor
        · intro e; rw [ih.1 e]
        · intro e; injection e with _ e2; exact ih.2 e2
  | [], [], _ => by simp [cmpP]
  | [], _ :: _, h => by simp at h
  | _ :: _, [], h => by simp at h
theorem cmp_trans : ∀ a b c : List UInt8, a.length = b.length → b.length = c.length → cmpP a b ≤ 0 → cmpP b c ≤ 0 → cmpP a c ≤ 0
  | a :: r, b :: s, c :: t, h1, h2, p, q => by
    have ih := cmp_trans r s t (by simpa using h1) (by simpa using h2)
    unfold cmpP at p q ⊢
    by_cases k1 : a.toNat < b.toNat
    · by_cases k2 : b.toNat < c.toNat
      · rw [if_pos (by omega)]; omega
      · by_cases k3 : c.toNat < b.toNat
        · rw [if_neg k2, if_pos k3] at q; omega
        · rw [if_pos (by omega)]; omega
    · by_cases k2 : b.toNat < a.toNat
      · rw [if_neg k1, if_pos k2] at p; omega
      · rw [if_neg k1, if_neg k2] at p
        by_cases k3 : b.toNat < c.toNat
        · rw [if_pos (by omega)]; omega
        · by_cases k4 : c.toNat < b.toNat
          · rw [if_neg k3, if_pos k4] at q; omega
          · rw [if_neg k3, if_neg k4] at q
            rw [if_neg (by omega), if_neg (by omega)]
            exact ih p q
  | [], _, _, _, _, _, _ => by simp [cmpP]
  | _ :: _, [], _, h, _, _, _ => by simp at h
  | _ :: _, _ :: _, [], _, h, _, _ => by simp at h
/-- the first place where two lists are unlike -/
theorem cmp_at : ∀ (a b : List UInt8) (k : Nat), a.length = b.length → k < a.length → a.take k = b.take k → a.getD k 0 ≠ b.getD k 0 → cmpP a b = if (a.getD k 0).toNat < (b.getD k 0).toNat then -1 else 1
  | x :: r, y :: s, 0, _, _, _, hne => by
    simp only [List.getD_cons_zero] at hne ⊢
    have : x.toNat ≠ y.toNat := fun e => hne (UInt8.toNat_inj.1 e)
    unfold cmpP
    split
    · rfl
    · rw [if_pos (by omega)]
  | x :: r, y :: s, k + 1, hl, hk, ht, hne => by
    simp only [List.take_succ_cons, List.cons.injEq] at ht
    obtain ⟨rfl, ht⟩ := ht
    simp only [List.getD_cons_succ] at hne ⊢
    unfold cmpP
    rw [if_neg (by omega), if_neg (by omega)]
    exact cmp_at r s k (by simpa using hl) (by simpa using hk) ht hne
  | [], _, _, _, hk, _, _ => by simp at hk
  | _ :: _, [], _, h, _, _, _ => by simp at h

/-- arrays of numbers, alike or not -/
theorem run_equaln {P : Program} (w : World) (d : Nat) (t e : TypeId) (n : Nat) (k : IntKind) (ht : P.underlying t = some (.array n e)) (he : P.underlying e = some (.int k)) (hs : (P.info? e).map (·.size) = some 1)
    (xs ys : List Int) (hx : xs.length = n) (hy : ys.length = n) : (Op.equalIn (d + 1 + 1) t (.agg (xs.map (Value.int k)).toArray) (.agg (ys.map (Value.int k)).toArray)).run P w = .ok (decide (xs = ys)) w := by
  have hsz : (sizeOf e).run P w = .ok 1 w := by
    cases hq : P.info? e with
    | none => rw [hq] at hs; cases hs
    | some i => rw [hq] at hs; simp at hs; simp [sizeOf, typeInfo, hq, hs]
  unfold Op.equalIn
  simp only [Sem.run_bind, run_underlying ht, Result.andThen_ok, hsz, Nat.mul_one]
  have key : ∀ (l : List Nat), (∀ i ∈ l, i < n) → ∀ (f : Nat → Option Bool × Unit → Sem (ForInStep (Option Bool × Unit))),
      (∀ i, i < n → (f i (none, ())).run P w = .ok (if xs.getD i 0 = ys.getD i 0 then .yield (none, ()) else .done (some false, ())) w) → (forIn l (none, ()) f).run P w = .ok (if ∀ i ∈ l, xs.getD i 0 = ys.getD i 0 then (none, ()) else (some false, ())) w := by
    intro l
    induction l with
    | nil => intro _ f _; simp
    | cons a r ih =>
      intro hl f hf
      simp only [List.forIn_cons, Sem.run_bind]
      rw [hf a (hl a (by simp))]
      by_cases hab : xs.getD a 0 = ys.getD a 0
      · rw [if_pos hab]
        simp only [Result.andThen_ok]
        rw [ih (fun i hi => hl i (by simp [hi])) f hf]
        simp only [List.mem_cons, forall_eq_or_imp, hab, true_and]
      · rw [if_neg hab]
        simp only [Result.andThen_ok, Sem.run_pure, List.mem_cons, forall_eq_or_imp, hab, false_and, if_false]
  rw [Std.Legacy.Range.forIn_eq_forIn_range']
  simp only [Std.Legacy.Range.size, Nat.sub_zero, Nat.add_one_sub_one, Nat.div_one]
  rw [key _ (fun i hi => by simpa using hi) _ (fun i hi => ?_)]
  · have hall : (∀ i ∈ List.range' 0 n, xs.getD i 0 = ys.getD i 0) ↔ xs = ys := by
      constructor
      · intro h
        apply List.ext_getElem (by omega)
        intro i h1 h2
        have := h i (by simp; omega)
        simpa [List.getD_eq_getElem?_getD, h1, h2] using this
      · intro h i _
        rw [h]
    by_cases h : xs = ys
    · rw [if_pos (hall.2 h), decide_eq_true h]
      simp
    · rw [if_neg (fun h2 => h (hall.1 h2)), decide_eq_false h]
      simp
  · have hc : (xs.map (Value.int k)).toArray[i]? = some (.int k (xs.getD i 0)) := by simp [List.getD_eq_getElem?_getD, show i < xs.length by omega]
    have hd : (ys.map (Value.int k)).toArray[i]? = some (.int k (ys.getD i 0)) := by simp [List.getD_eq_getElem?_getD, show i < ys.length by omega]
    simp only [Sem.run_bind, run_part_int w e k he _ i _ hc, run_part_int w e k he _ i _ hd, Result.andThen_ok, run_equalIn_int w d e k k _ _ he]
    generalize xs.getD i 0 = X
    generalize ys.getD i 0 = Y
    by_cases hab : X = Y
    · simp [hab]
    · simp [hab]
theorem dig_eql (a b : List UInt8) (ha : a.length = 32) (hb : b.length = 32) (W : World) : (binOp .eql 41 (.agg (bytesV a).toArray) (.agg (bytesV b).toArray)).run Tryd.prog W = .ok (.bool (decide (a = b))) W := by
  have e : ∀ c : List UInt8, bytesV c = (c.map fun x => (x.toNat : Int)).map (Value.int .u8) := fun c => by simp [bytesV]
  rw [e a, e b, run_eql_struct, run_equaln W 9998 41 5 32 .u8 Tryd.underlying41 Tryd.underlying5 (by kernel_rfl) _ _ (by simpa using ha) (by simpa using hb)]
  have : (decide (a.map (fun x => (x.toNat : Int)) = b.map (fun x => (x.toNat : Int)))) = decide (a = b) := by
    refine decide_eq_decide.2 ⟨fun h => ?_, fun h => by rw [h]⟩
    refine (List.map_inj_right ?_).1 h
    intro x y hxy
    exact UInt8.toNat_inj.1 (by omega)
  rw [this]
  rfl

set_option maxHeartbeats 400000 in
theorem isNaN_any (x : Int) (w : World) : Calls Tryd.prog 68 #[.int .u8 x] w fun e w' => e = .returned (.bool false) ∧ w' = w := by
  go_enter Tryd.func68, Tryd.ntmps68
  go_wp2
  go_ret
  exact ⟨rfl, rfl⟩

set_option maxHeartbeats 400000 in
theorem cmpByte_any (x y : Nat) (hne : x ≠ y) (w : World) : Calls Tryd.prog 53 #[.int .u8 (x : Int), .int .u8 (y : Int)] w fun e w' => e = .returned (.int .i64 (if x < y then -1 else 1)) ∧ w' = w := by
  by_cases h : x < y
  · have g : (x : Int) < (y : Int) := by omega
    rw [if_pos h]
    clear h
    go_enter Tryd.func53, Tryd.ntmps53
    go_wp2_with (go_at_call 68; refine (isNaN_any _ _).mono ?_; rintro e w' ⟨rfl, rfl⟩)
    go_ret
    exact ⟨rfl, rfl⟩
  · have g : ¬ (x : Int) < (y : Int) := by omega
    have g2 : (y : Int) < (x : Int) := by omega
    rw [if_neg h]
    clear h
    go_enter Tryd.func53, Tryd.ntmps53
    go_wp2_with (go_at_call 68; refine (isNaN_any _ _).mono ?_; rintro e w' ⟨rfl, rfl⟩)
    go_ret
    exact ⟨rfl, rfl⟩

theorem first_unlike (a b : List UInt8) (h : a.length = b.length) (k : Nat) (hk : k ≤ a.length) (ht : a.take k = b.take k) (hne : a ≠ b) : k < a.length := by
  rcases Nat.lt_or_ge k a.length with h1 | h1
  · exact h1
  · rw [List.take_of_length_le h1, List.take_of_length_le (by omega)] at ht
    exact absurd ht hne
theorem take_next {a b : List UInt8} {k : Nat} (hl : a.length = b.length) (hk : k < a.length) (h : a.take k = b.take k) (e : a.getD k 0 = b.getD k 0) : a.take (k + 1) = b.take (k + 1) := by
  rw [List.take_succ_eq_append_getElem hk, List.take_succ_eq_append_getElem (by omega), h]
  simp only [List.getD_eq_getElem?_getD, List.getElem?_eq_getElem hk, List.getElem?_eq_getElem (show k < b.length by omega), Option.getD_some] at e
  rw [e]

set_option maxRecDepth 100000 in
set_option maxHeartbeats 1000000 in
theorem compare_any (w : World) (a b : List UInt8) (ha : a.length = 32) (hb : b.length = 32) :
    Calls Tryd.prog 28 #[.agg (bytesV a).toArray, .agg (bytesV b).toArray] w fun e w' => e = .returned (.int .i64 (cmpP a b)) ∧ Below w.heap.size w w' := by
  have hab := dig_eql a b ha hb
  have HA := hid ha
  have HB := hid hb
  have HSA : Hid ((Tryd.prog.info? 41).map (·.size) = some (bytesV a).length) := by rw [bytesV_length, ha]; exact hid (by kernel_rfl)
  have HSB : Hid ((Tryd.prog.info? 41).map (·.size) = some (bytesV b).length) := by rw [bytesV_length, hb]; exact hid (by kernel_rfl)
  have HZ := hid (cmp_zero a b (by omega))
  have HNA := hid (hp_two' w (.cells (bytesV a).toArray 41) (.cells (bytesV b).toArray 41))
  have HBL := hid (below_walk2 w (.cells (bytesV a).toArray 41) (.cells (bytesV b).toArray 41))
  clear ha hb
  go_enter Tryd.func28, Tryd.ntmps28
  go_upto_region 1 with fail
  generalize (w.alloc (.cells (bytesV a).toArray 41)).alloc (.cells (bytesV b).toArray 41) = w2 at HNA HBL ⊢
  by_cases hq : a = b
  · have HE := hid (HZ.out.2 hq)
    rw [decide_eq_true hq] at hab
    clear hq
    go_wp2_with (first
      | (refine ld_row (by rfl) 41 (.tmp 2) (by rfl) w.heap.size (by rfl) _ 41 HNA.out.1 _ Tryd.underlying41 rfl HSA.out ?_)
      | (refine ld_row (by rfl) 41 (.tmp 3) (by rfl) (w.heap.size + 1) (by rfl) _ 41 HNA.out.2 _ Tryd.underlying41 rfl HSB.out ?_))
    go_ret
    exact ⟨by rw [HE.out]; rfl, HBL.out⟩
  · rw [decide_eq_false hq] at hab
    have HNE := hid hq
    clear hq
    go_wp2_with (first
      | (refine ld_row (by rfl) 41 (.tmp 2) (by rfl) w.heap.size (by rfl) _ 41 HNA.out.1 _ Tryd.underlying41 rfl HSA.out ?_)
      | (refine ld_row (by rfl) 41 (.tmp 3) (by rfl) (w.heap.size + 1) (by rfl) _ 41 HNA.out.2 _ Tryd.underlying41 rfl HSB.out ?_))
    clear hab
    go_loopw [5] (fun vi wr => ∃ k q : Nat, k ≤ 32 ∧ vi = .int .i64 k ∧ wr = w2.drewN q ∧ Hid (a.take k = b.take k)) (fun vi _ => 32 - (intOf vi).toNat)
    case atStart => exact ⟨0, 0, by omega, rfl, rfl, rfl⟩
    case round =>
      obtain ⟨k, q, hk, rfl, rfl, HT⟩ := hrel
      have hlt : k < 32 := by have := first_unlike a b (by rw [HA.out, HB.out]) k (by rw [HA.out]; exact hk) HT.out HNE.out; rw [HA.out] at this; exact this
      have g1 : (k : Int) < 32 := by omega
      have c1 := bytes_row_cell HNA.out.1 k (by rw [HA.out]; exact hlt)
      have c2 := bytes_row_cell HNA.out.2 k (by rw [HB.out]; exact hlt)
      obtain ⟨x, HX⟩ : ∃ x : UInt8, Hid (x = a.getD k 0) := ⟨_, rfl⟩
      obtain ⟨y, HY⟩ : ∃ y : UInt8, Hid (y = b.getD k 0) := ⟨_, rfl⟩
      rw [← HX.out] at c1
      rw [← HY.out] at c2
      by_cases hxy : x = y
      · subst hxy
        have HN := hid (take_next (by rw [HA.out, HB.out]) (by rw [HA.out]; exact hlt) HT.out (by rw [← HX.out, ← HY.out]))
        go_wp2
        go_quiet (fail)
        go_wp2
        exact ⟨⟨k + 1, _, by omega, by simp, rfl, HN⟩, by simp [intOf]; omega⟩
      · have hd : ((((x.toNat : Nat) : Int)) == ((y.toNat : Nat) : Int)) = false := by
          simp only [beq_eq_false_iff_ne, ne_eq]
          intro e
          exact hxy (UInt8.toNat_inj.1 (by omega))
        have hnn : x.toNat ≠ y.toNat := fun e => hxy (UInt8.toNat_inj.1 e)
        have HC := hid (cmp_at a b k (by rw [HA.out, HB.out]) (by rw [HA.out]; exact hlt) HT.out (by rw [← HX.out, ← HY.out]; exact hxy))
        rw [← HX.out, ← HY.out] at HC
        obtain ⟨cv, HCV⟩ : ∃ cv : Int, Hid (cv = if x.toNat < y.toNat then -1 else 1) := ⟨_, rfl⟩
        have HCB := hid (cmpByte_any x.toNat y.toNat hnn)
        rw [← HCV.out] at HC HCB
        clear hxy
        go_wp2
        go_quiet (fail)
        go_upto_region 6 with fail
        obtain ⟨W, HW⟩ : ∃ W, Hid (W = (w2.drewN q).drewN nq) := ⟨_, rfl⟩
        have d1 : W.cell? ⟨w.heap.size, k, none⟩ = some (.int .u8 (x.toNat : Nat)) := by rw [HW.out]; exact c1
        have d2 : W.cell? ⟨w.heap.size + 1, k, none⟩ = some (.int .u8 (y.toNat : Nat)) := by rw [HW.out]; exact c2
        have HBW := hid (show Below w.heap.size w W by rw [HW.out]; exact ⟨HBL.out.os, HBL.out.tape, HBL.out.output, HBL.out.size, HBL.out.block⟩)
        rw [← HW.out]
        clear c1 c2 HW
        go_quiet (first | (go_at_call 53; go_must (exact Calls.quiet_of_same (HCB.out _))))
        go_wp2
        go_ret
        refine ⟨by rw [HC.out]; rfl, ?_⟩
        exact ⟨HBW.out.os, HBW.out.tape, HBW.out.output, HBW.out.size, HBW.out.block⟩

end Go.Proofs.YticmdmnjajjpbaaDoor
