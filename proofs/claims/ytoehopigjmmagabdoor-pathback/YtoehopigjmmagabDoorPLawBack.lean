/- PathBack: the way that is told from a path to another one leads there. -/
import Derived.Test.YtoehopigjmmagabDoorPRel
import Derived.Test.YtoehopigjmmagabDoorPLawInside
namespace Go.Proofs.YtoehopigjmmagabDoor
open Go.RowKit

theorem step_up {l : List (List UInt8)} (h : l ≠ []) : stepP l [46, 46] = .ok l.dropLast := by
  unfold stepP; rw [if_neg (by simp), if_pos rfl, if_neg h]
theorem steps_ups : ∀ (i : Nat) (l r : List (List UInt8)), i ≤ l.length → stepsP l (List.replicate i [46, 46] ++ r) = stepsP (l.take (l.length - i)) r
  | 0, l, r, _ => by simp
  | i + 1, l, r, h => by
    have hl : l ≠ [] := by intro e; rw [e] at h; simp at h
    rw [List.replicate_succ, List.cons_append, stepsP, step_up hl]
    show stepsP l.dropLast (List.replicate i [46, 46] ++ r) = _
    rw [steps_ups i l.dropLast r (by simp; omega), List.dropLast_eq_take, List.take_take, List.length_take]
    congr 1
    congr 1
    omega
theorem txt_sum : ∀ (l : List (List UInt8)), (txt l).length ≤ (l.map fun p => p.length + 1).sum
  | [] => by simp [txt]
  | [x] => by rw [txt_one]; simp
  | x :: y :: r => by
    have := txt_sum (y :: r)
    rw [txt_two]
    simp only [List.length_append, List.length_cons, List.map_cons, List.sum_cons] at *
    omega
theorem sum_rep (i : Nat) : ((List.replicate i ([46, 46] : List UInt8)).map fun p => p.length + 1).sum = 3 * i := by
  induction i with
  | zero => rfl
  | succ i ih => rw [List.replicate_succ, List.map_cons, List.sum_cons, ih]; simp; omega
theorem sum_names : ∀ (l : List (List UInt8)), (∀ p ∈ l, nmP p = true) → (l.map fun p => p.length + 1).sum ≤ 65 * l.length
  | [], _ => by simp
  | x :: r, h => by
    have h1 := nmP_len (h x (by simp))
    have h2 := sum_names r (fun p hp => h p (List.mem_cons_of_mem _ hp))
    simp only [List.map_cons, List.sum_cons, List.length_cons]
    omega
theorem relL_4096 {x y : List (List UInt8)} (hx : pathL x) (hy : pathL y) : (txt (relL x y)).length ≤ 4096 := by
  have h1 := txt_sum (relL x y)
  have h2 := sum_names (y.drop (comL x y)) (fun p hp => hy.1 p (List.mem_of_mem_drop hp))
  have h3 : (y.drop (comL x y)).length ≤ 32 := by have := hy.2; simp; omega
  have h4 := hx.2
  unfold relL at h1 ⊢
  rw [List.map_append, List.sum_append, sum_rep] at h1
  omega
theorem relL_slash {x y : List (List UInt8)} (hy : pathL y) : ∀ p ∈ relL x y, (47 : UInt8) ∉ p ∧ p ≠ [] := by
  intro p hp
  unfold relL at hp
  rcases List.mem_append.1 hp with h | h
  · rw [(List.mem_replicate.1 h).2]; decide
  · have := hy.1 p (List.mem_of_mem_drop h)
    exact ⟨nmP_slash this, (nmP_ne this).1⟩
theorem relL_ne {x y : List (List UInt8)} (h : x ≠ y) : relL x y ≠ [] := by
  intro e
  unfold relL at e
  obtain ⟨e1, e2⟩ := List.append_eq_nil_iff.1 e
  have l1 := congrArg List.length e1
  have l2 := congrArg List.length e2
  obtain ⟨c1, c2, c3⟩ := comL_le x y
  simp at l1 l2
  rw [List.take_of_length_le (by omega), List.take_of_length_le (by omega)] at c3
  exact h c3
theorem back_pure {a b : List UInt8} (ha : okP a = true) (hb : okP b = true) : joinP a [relP a b] = .ok b := by
  have hx := (okP_iff a).1 ha
  have hy := (okP_iff b).1 hb
  have fin : walkP (nms a) (relP a b) = .ok (nms b) → joinP a [relP a b] = .ok b := by
    intro h
    unfold joinP
    rw [ha, if_pos rfl]
    have e : walksP (nms a) [relP a b] = .ok (nms b) := by rw [walksP, h]; rfl
    rw [e]
    unfold finP endP
    simp only
    rw [if_neg (by have := hy.2; omega), txt_nms]
  apply fin
  unfold relP
  rw [if_pos ⟨ha, hb⟩]
  by_cases he : a = b
  · subst he
    rw [if_pos rfl]
    unfold walkP
    rw [if_neg (by decide), if_neg (by decide)]
    have e : pcs [46] = [[46]] := by decide
    rw [e, stepsP]
    have e2 : stepP (nms a) [46] = .ok (nms a) := by unfold stepP; rw [if_pos (Or.inr rfl)]
    rw [e2]
    rfl
  · rw [if_neg he]
    have hne : nms a ≠ nms b := fun e => he (by rw [← txt_nms a, e, txt_nms])
    have hL := relL_ne hne
    have hp : pcs (txt (relL (nms a) (nms b))) = relL (nms a) (nms b) := pcs_txt _ hL (fun p hp => (relL_slash hy p hp).1)
    unfold walkP
    rw [if_neg (by have := relL_4096 hx hy; omega), hp, if_neg]
    · obtain ⟨c1, c2, c3⟩ := comL_le (nms a) (nms b)
      unfold relL
      rw [steps_ups _ _ _ (by omega), show (nms a).length - ((nms a).length - comL (nms a) (nms b)) = comL (nms a) (nms b) by omega, c3,
        steps_names (fun p hp => hy.1 p (List.mem_of_mem_drop hp)), List.take_append_drop]
    · intro hh
      cases e : relL (nms a) (nms b) with
      | nil => exact hL e
      | cons q r =>
        rw [e] at hh
        obtain ⟨h1, h2⟩ := relL_slash hy q (by rw [e]; simp)
        cases q with
        | nil => exact h2 rfl
        | cons c t =>
          simp [txt] at hh
          subst hh
          simp at h1
theorem relP_len {a b : List UInt8} : (relP a b).length ≤ 4096 := by
  unfold relP
  split
  · rename_i h
    split
    · simp
    · exact relL_4096 ((okP_iff a).1 h.1) ((okP_iff b).1 h.2)
  · simp

set_option maxRecDepth 100000 in
set_option maxHeartbeats 2000000 in
theorem lawBack_any (a b : ByteArray) (w : World) (ha : (bl a).length ≤ 9223372036854775807) (hb : (bl b).length ≤ 9223372036854775807) :
    Calls Tryd.prog 5 #[.string a, .string b] w fun e w' => e = .returned (.bool true) ∧ Below w.heap.size w w' := by
  have HR := hid (rel_any a b w ha hb)
  have HAW := hid awake_any
  by_cases hok : okP (bl a) = true ∧ okP (bl b) = true
  · have hpn : pN (bl a) (bl b) = 0 := by unfold pN; rw [if_pos hok]
    rw [hpn] at HR
    have HJ := hid (fun W : World => join_any a _ [bl (mk (relP (bl a) (bl b)))] _ ha (strs_one W (mk (relP (bl a) (bl b)))) (by simp))
    rw [bl_mk, back_pure hok.1 hok.2] at HJ
    have HJ2 : Hid (∀ W : World, Calls Tryd.prog 9 #[.string a, .slice (some ⟨W.heap.size, 0, none⟩) 1 1] (W.alloc (.cells #[.string (mk (relP (bl a) (bl b)))] 9)) fun e w' => e = .returned (.tuple #[.string b, .int .i64 0]) ∧ Below (W.alloc (.cells #[.string (mk (relP (bl a) (bl b)))] 9)).heap.size (W.alloc (.cells #[.string (mk (relP (bl a) (bl b)))] 9)) w') := by
      have := HJ.out
      simp only [aS, aN, mk_bl] at this
      exact this
    generalize mk (relP (bl a) (bl b)) = s at *
    clear hok hpn ha hb HJ
    go_enter Tryd.func5, Tryd.ntmps5
    go_wp2_with fail
    refine HR.out.mono ?_
    rintro e w1 ⟨rfl, hb1⟩
    have HB1 := hid hb1
    clear hb1 HR
    go_wp2_with fail
    refine (HJ2.out w1).mono ?_
    rintro e w2 ⟨rfl, hb2⟩
    have HB2 := hid (below_tr HB1.out (below_le (below_tr (below_walk w1 _) (below_le hb2 (by simp))) HB1.out.size))
    clear hb2 HJ2 HB1
    go_wp2_with (go_at_call 10; refine (HAW.out _).mono ?_; rintro e w3 ⟨rfl, hb3⟩)
    go_ret
    exact ⟨rfl, below_tr HB2.out (below_le hb3 HB2.out.size)⟩
  · have hpn : pN (bl a) (bl b) = 45 := by unfold pN; rw [if_neg hok]
    rw [hpn] at HR
    cases oa : okP (bl a) with
    | false =>
      have HA := hid (check_is a 45 (by unfold chN; rw [oa]; rfl) ha)
      clear oa hok hpn ha hb
      go_enter Tryd.func5, Tryd.ntmps5
      go_wp2_with fail
      refine HR.out.mono ?_
      rintro e w1 ⟨rfl, hb1⟩
      have HB1 := hid hb1
      clear hb1 HR
      go_wp2_with (first | (go_at_call 12; refine (HA.out _).mono ?_; rintro e w' ⟨rfl, n, rfl⟩) | (go_at_call 10; refine (HAW.out _).mono ?_; rintro e w3 ⟨rfl, hb3⟩))
      go_ret
      exact ⟨rfl, below_tr HB1.out (below_le (below_d hb3) HB1.out.size)⟩
    | true =>
      have ob : okP (bl b) = false := by
        cases h : okP (bl b) with
        | false => rfl
        | true => exact absurd ⟨oa, h⟩ hok
      have HA := hid (check_is a 0 (by unfold chN; rw [oa]; rfl) ha)
      have HBC := hid (check_is b 45 (by unfold chN; rw [ob]; rfl) hb)
      clear oa ob hok hpn ha hb
      go_enter Tryd.func5, Tryd.ntmps5
      go_wp2_with fail
      refine HR.out.mono ?_
      rintro e w1 ⟨rfl, hb1⟩
      have HB1 := hid hb1
      clear hb1 HR
      go_wp2_with (first | (go_at_call 12; with_reducible refine Calls.mono (HA.out _) ?_; rintro e w' ⟨rfl, n, rfl⟩) | (go_at_call 12; with_reducible refine Calls.mono (HBC.out _) ?_; rintro e w' ⟨rfl, n2, rfl⟩) | (go_at_call 10; refine (HAW.out _).mono ?_; rintro e w3 ⟨rfl, hb3⟩))
      go_ret
      exact ⟨rfl, below_tr HB1.out ⟨hb3.os, hb3.tape, hb3.output, hb3.size, fun k hk => hb3.block k (Nat.lt_of_lt_of_le hk HB1.out.size)⟩⟩

end Go.Proofs.YtoehopigjmmagabDoor
