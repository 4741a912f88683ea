/- Contracts and pure facts that the proof needs, joined. -/
import Derived.Test.YtgldmepmeampeaaG2
import Derived.Test.YtgldmepmeampeaaG1
import Derived.OrdersHeld
import Derived.Deep.RegionHeld3
import Derived.Deep.RegionLaw

/- Where a path stands, and changes applied, plainly: the changes between two trees lead from the one to the other. -/
namespace Go.Proofs.Ytgldmepmeampeaa

/-- where a path stands in a rising row, or would -/
def plP (t : List Ent) (p : List UInt8) : Nat := (t.takeWhile (fun e => decide (cmpL (nms e.1) (nms p) < 0))).length
def thP (t : List Ent) (p : List UInt8) : Bool := (fdP t p).isSome
/-- what stands at a path; the zero entry, if nothing does -/
def stP (t : List Ent) (p : List UInt8) : Ent := (fdP t p).getD zE
structure Plc (t : List Ent) (p : List UInt8) (i : Nat) : Prop where
  le : i ≤ t.length
  lo : ∀ j, j < i → cmpL (nms (t.getD j zE).1) (nms p) < 0
  hi : ∀ j, i ≤ j → j < t.length → ¬ cmpL (nms (t.getD j zE).1) (nms p) < 0
theorem plP_lt {x : Ent} {t : List Ent} {p : List UInt8} (h : cmpL (nms x.1) (nms p) < 0) : plP (x :: t) p = plP t p + 1 := by
  unfold plP
  rw [List.takeWhile_cons, if_pos (by simpa using h)]
  rfl
theorem plP_ge {x : Ent} {t : List Ent} {p : List UInt8} (h : ¬ cmpL (nms x.1) (nms p) < 0) : plP (x :: t) p = 0 := by
  unfold plP
  rw [List.takeWhile_cons, if_neg (by simpa using h)]
  rfl
theorem Plc.eq : ∀ {t : List Ent} {p : List UInt8} {i : Nat}, Plc t p i → i = plP t p
  | [], p, i, h => by have := h.le; simp at this; subst this; rfl
  | x :: t, p, i, h => by
    by_cases hx : cmpL (nms x.1) (nms p) < 0
    · rw [plP_lt hx]
      cases i with
      | zero => exact absurd hx (h.hi 0 (Nat.le_refl _) (by simp))
      | succ i =>
        have : Plc t p i := ⟨by have := h.le; simpa using this, fun j hj => by have := h.lo (j + 1) (by omega); simpa using this, fun j h1 h2 => by have := h.hi (j + 1) (by omega) (by simpa using h2); simpa using this⟩
        rw [← this.eq]
    · rw [plP_ge hx]
      cases i with
      | zero => rfl
      | succ i => exact absurd (h.lo 0 (by omega)) hx
theorem plP_le (t : List Ent) (p : List UInt8) : plP t p ≤ t.length := by
  unfold plP
  exact (List.takeWhile_sublist _).length_le
theorem fdP_cons_ne {x : Ent} {t : List Ent} {p : List UInt8} (h : x.1 ≠ p) : fdP (x :: t) p = fdP t p := by
  unfold fdP
  rw [List.find?_cons, decide_eq_false h]
theorem fdP_cons_eq {x : Ent} {t : List Ent} : fdP (x :: t) x.1 = some x := by
  unfold fdP
  rw [List.find?_cons, decide_eq_true rfl]
theorem cmp_ne {a b : List UInt8} (h : cmpL (nms a) (nms b) < 0) : a ≠ b := fun e => by rw [e, cmpL_self] at h; omega
/-- the place that was found: whether the path stands there -/
theorem Plc.there {t : List Ent} {p : List UInt8} {i : Nat} (_ : Plc t p i) (ht : t.Pairwise ltE) (hi : i < t.length) (h0 : cmpL (nms (t.getD i zE).1) (nms p) = 0) : fdP t p = some (t.getD i zE) := by
  have := fdP_mem ht (getD_mem hi)
  rw [nms_inj (cmpL_zero h0)] at this
  exact this
theorem Plc.lacks {t : List Ent} {p : List UInt8} {i : Nat} (h : Plc t p i) (ht : t.Pairwise ltE) (h0 : i < t.length → cmpL (nms (t.getD i zE).1) (nms p) ≠ 0) : fdP t p = none := by
  rw [fdP_none]
  intro e he hp
  obtain ⟨k, hk, rfl⟩ := List.getElem_of_mem he
  have hg : t.getD k zE = t[k] := by simp [List.getD_eq_getElem?_getD, hk]
  rcases Nat.lt_or_ge k i with h1 | h1
  · exact cmp_ne (h.lo k h1) (by rw [hg]; exact hp)
  · rcases Nat.lt_or_ge i k with h2 | h2
    · have h3 := pair_at ht h2 hk
      unfold ltE at h3
      rw [hg, hp] at h3
      exact h.hi i (Nat.le_refl _) (by omega) h3
    · obtain rfl : k = i := by omega
      exact h0 hk (by rw [hg, hp, cmpL_self])

/-- changes that are made -/
def chgd : List Ent → List Chg → List Ent
  | t, [] => t
  | t, c :: l => t.take (plP t c.1) ++ ((if c.2.2.2.1 = 0 then [] else [c.2.2]) ++ chgd (t.drop (plP t c.1 + (if thP t c.1 then 1 else 0))) l)
/-- may one side of a change be? -/
def sidP (e : Ent) (p : List UInt8) : Bool := decide (e = zE) || (decide (e.1 = p) && mayP e)
def okC (c : Chg) : Bool := !(decide (c.2.1 = zE) && decide (c.2.2 = zE)) && sidP c.2.1 c.1 && sidP c.2.2 c.1
/-- may changes be, behind a path? -/
def mayC : List UInt8 → List Chg → Bool
  | _, [] => true
  | last, c :: l => okC c && decide (cmpL (nms last) (nms c.1) < 0) && mayC c.1 l
/-- what Apply answers -/
def apP (t : List Ent) (l : List Chg) : Except Int (List Ent) :=
  if (chkP t).2 ≠ 0 then .error (chkP t).2 else if mayC [] l = false then .error 1 else if l.any (fun c => decide (stP t c.1 ≠ c.2.1)) = true then .error 8
  else if (chkP (chgd t l)).2 ≠ 0 then .error (chkP (chgd t l)).2 else .ok (chgd t l)
theorem dif_mem : ∀ (n : Nat) (a b : List Ent), a.length + b.length ≤ n → ∀ c ∈ difP a b, ∃ e ∈ a ++ b, c.1 = e.1
  | n, [], [], _, c, hc => by rw [difP] at hc; simp at hc
  | 0, x :: a, b, h, _, _ => by simp at h
  | 0, [], y :: b, h, _, _ => by simp at h
  | n + 1, x :: a, [], h, c, hc => by
    rw [difP, List.mem_cons] at hc
    rcases hc with rfl | hc
    · exact ⟨x, by simp, rfl⟩
    · obtain ⟨e, he, h1⟩ := dif_mem n a [] (by simp at h ⊢; omega) c hc
      exact ⟨e, by simp at he ⊢; exact Or.inr he, h1⟩
  | n + 1, [], y :: b, h, c, hc => by
    rw [difP, List.mem_cons] at hc
    rcases hc with rfl | hc
    · exact ⟨y, by simp, rfl⟩
    · obtain ⟨e, he, h1⟩ := dif_mem n [] b (by simp at h ⊢; omega) c hc
      exact ⟨e, by simp at he ⊢; exact Or.inr he, h1⟩
  | n + 1, x :: a, y :: b, h, c, hc => by
    rw [difP] at hc
    split at hc
    · rw [List.mem_cons] at hc
      rcases hc with rfl | hc
      · exact ⟨x, by simp, rfl⟩
      · obtain ⟨e, he, h1⟩ := dif_mem n a (y :: b) (by simp at h ⊢; omega) c hc
        exact ⟨e, by rw [List.cons_append]; exact List.mem_cons_of_mem _ he, h1⟩
    · split at hc
      · rw [List.mem_append] at hc
        rcases hc with hc | hc
        · split at hc
          · simp at hc
          · rw [List.mem_singleton] at hc
            subst hc
            exact ⟨x, by simp, rfl⟩
        · obtain ⟨e, he, h1⟩ := dif_mem n a b (by simp at h ⊢; omega) c hc
          refine ⟨e, ?_, h1⟩
          rw [List.mem_append] at he ⊢
          exact he.imp (List.mem_cons_of_mem _) (List.mem_cons_of_mem _)
      · rw [List.mem_cons] at hc
        rcases hc with rfl | hc
        · exact ⟨y, by simp, rfl⟩
        · obtain ⟨e, he, h1⟩ := dif_mem n (x :: a) b (by simp at h ⊢; omega) c hc
          refine ⟨e, ?_, h1⟩
          rw [List.mem_append] at he ⊢
          exact he.imp id (List.mem_cons_of_mem _)
/-- all changes lie behind what lies ahead of both -/
theorem dif_behind {a b : List Ent} {p : List UInt8} (ha : ∀ e ∈ a, cmpL (nms p) (nms e.1) < 0) (hb : ∀ e ∈ b, cmpL (nms p) (nms e.1) < 0) : ∀ c ∈ difP a b, cmpL (nms p) (nms c.1) < 0 := by
  intro c hc
  obtain ⟨e, he, h1⟩ := dif_mem _ a b (Nat.le_refl _) c hc
  rw [h1]
  rw [List.mem_append] at he
  exact he.elim (ha e) (hb e)
theorem chgd_skip {x : Ent} {t : List Ent} {l : List Chg} (h : ∀ c ∈ l, cmpL (nms x.1) (nms c.1) < 0) : chgd (x :: t) l = x :: chgd t l := by
  cases l with
  | nil => rfl
  | cons c l =>
    have hc := h c (by simp)
    have e1 : thP (x :: t) c.1 = thP t c.1 := by unfold thP; rw [fdP_cons_ne (cmp_ne hc)]
    rw [chgd, chgd, plP_lt hc, e1, List.take_succ_cons, show plP t c.1 + 1 + (if thP t c.1 = true then 1 else 0) = (plP t c.1 + (if thP t c.1 = true then 1 else 0)) + 1 by omega, List.drop_succ_cons]
    rfl
theorem stP_skip {x : Ent} {t : List Ent} {p : List UInt8} (h : cmpL (nms x.1) (nms p) < 0) : stP (x :: t) p = stP t p := by
  unfold stP
  rw [fdP_cons_ne (cmp_ne h)]
theorem stP_none {t : List Ent} {p : List UInt8} (h : ∀ e ∈ t, cmpL (nms p) (nms e.1) < 0) : fdP t p = none := by
  rw [fdP_none]
  exact fun e he hp => cmp_ne (h e he) hp.symm
theorem pairL {x : Ent} {t : List Ent} (h : (x :: t).Pairwise ltE) : (∀ e ∈ t, cmpL (nms x.1) (nms e.1) < 0) ∧ t.Pairwise ltE := by
  rw [List.pairwise_cons] at h
  exact ⟨fun e he => h.1 e he, h.2⟩
/-- what Diff tells leads from the one to the other, and fits what stands -/
theorem dif_leads : ∀ (n : Nat) (a b : List Ent), a.length + b.length ≤ n → a.Pairwise ltE → b.Pairwise ltE → (∀ e ∈ a, mayP e = true) → (∀ e ∈ b, mayP e = true) →
    chgd a (difP a b) = b ∧ (∀ c ∈ difP a b, stP a c.1 = c.2.1) ∧ ∀ p, (∀ e ∈ a, cmpL (nms p) (nms e.1) < 0) → (∀ e ∈ b, cmpL (nms p) (nms e.1) < 0) → mayC p (difP a b) = true
  | n, [], [], _, _, _, _, _ => by
    rw [difP]
    exact ⟨rfl, fun c hc => by simp at hc, fun _ _ _ => rfl⟩
  | 0, x :: a, b, h, _, _, _, _ => by simp at h
  | 0, [], y :: b, h, _, _, _, _ => by simp at h
  | n + 1, x :: a, [], h, pa, pb, ma, mb => by
    obtain ⟨i1, i2, i3⟩ := dif_leads n a [] (by simp at h ⊢; omega) (pairL pa).2 pb (fun e he => ma e (by simp [he])) mb
    have hx := ma x (by simp)
    rw [difP]
    refine ⟨?_, ?_, ?_⟩
    · have e1 : thP (x :: a) x.1 = true := by unfold thP; rw [fdP_cons_eq]; rfl
      rw [chgd]
      dsimp only
      rw [plP_ge (by rw [cmpL_self]; omega), e1, if_pos (show zE.2.1 = 0 from rfl), if_pos rfl]
      exact i1
    · intro c hc
      rw [List.mem_cons] at hc
      rcases hc with rfl | hc
      · unfold stP
        rw [fdP_cons_eq]
        rfl
      · rw [stP_skip (dif_behind (pairL pa).1 (fun e he => by simp at he) c hc)]
        exact i2 c hc
    · intro p h1 _
      have e1 : okC (x.1, x, zE) = true := by unfold okC sidP; simp [hx, may_zero hx]
      rw [mayC, e1, i3 x.1 (pairL pa).1 (fun e he => by simp at he), decide_eq_true (h1 x (by simp))]
      rfl
  | n + 1, [], y :: b, h, pa, pb, ma, mb => by
    obtain ⟨i1, i2, i3⟩ := dif_leads n [] b (by simp at h ⊢; omega) pa (pairL pb).2 ma (fun e he => mb e (by simp [he]))
    have hy := mb y (by simp)
    rw [difP]
    refine ⟨?_, ?_, ?_⟩
    · rw [chgd]
      dsimp only
      rw [if_neg (may_kind hy)]
      simp only [List.take_nil, List.drop_nil, List.nil_append]
      rw [i1]
      rfl
    · intro c hc
      rw [List.mem_cons] at hc
      rcases hc with rfl | hc
      · rfl
      · exact i2 c hc
    · intro p _ h2
      have e1 : okC (y.1, zE, y) = true := by unfold okC sidP; simp [hy, may_zero hy]
      rw [mayC, e1, i3 y.1 (fun e he => by simp at he) (pairL pb).1, decide_eq_true (h2 y (by simp))]
      rfl
  | n + 1, x :: a, y :: b, h, pa, pb, ma, mb => by
    have hx := ma x (by simp)
    have hy := mb y (by simp)
    have ta : ∀ {p : List UInt8}, cmpL (nms p) (nms x.1) < 0 → ∀ e ∈ x :: a, cmpL (nms p) (nms e.1) < 0 := by
      intro p hp e he
      rw [List.mem_cons] at he
      rcases he with rfl | he
      · exact hp
      · exact cmpL_lt_trans hp ((pairL pa).1 e he)
    have tb : ∀ {p : List UInt8}, cmpL (nms p) (nms y.1) < 0 → ∀ e ∈ y :: b, cmpL (nms p) (nms e.1) < 0 := by
      intro p hp e he
      rw [List.mem_cons] at he
      rcases he with rfl | he
      · exact hp
      · exact cmpL_lt_trans hp ((pairL pb).1 e he)
    rw [difP]
    split
    · rename_i hlt
      obtain ⟨i1, i2, i3⟩ := dif_leads n a (y :: b) (by simp at h ⊢; omega) (pairL pa).2 pb (fun e he => ma e (by simp [he])) mb
      have hbh := dif_behind (pairL pa).1 (tb hlt)
      refine ⟨?_, ?_, ?_⟩
      · have e1 : thP (x :: a) x.1 = true := by unfold thP; rw [fdP_cons_eq]; rfl
        rw [chgd]
        dsimp only
        rw [plP_ge (by rw [cmpL_self]; omega), e1, if_pos (show zE.2.1 = 0 from rfl), if_pos rfl]
        exact i1
      · intro c hc
        rw [List.mem_cons] at hc
        rcases hc with rfl | hc
        · unfold stP
          rw [fdP_cons_eq]
          rfl
        · rw [stP_skip (hbh c hc)]
          exact i2 c hc
      · intro p h1 _
        have e1 : okC (x.1, x, zE) = true := by unfold okC sidP; simp [hx, may_zero hx]
        rw [mayC, e1, i3 x.1 (pairL pa).1 (tb hlt), decide_eq_true (h1 x (by simp))]
        rfl
    · rename_i hlt
      split
      · rename_i heq
        have hp : x.1 = y.1 := nms_inj (cmpL_zero heq)
        obtain ⟨i1, i2, i3⟩ := dif_leads n a b (by simp at h ⊢; omega) (pairL pa).2 (pairL pb).2 (fun e he => ma e (by simp [he])) (fun e he => mb e (by simp [he]))
        have hbh := dif_behind (pairL pa).1 (fun e he => by rw [hp]; exact (pairL pb).1 e he)
        by_cases hxy : x = y
        · subst hxy
          rw [if_pos rfl, List.nil_append]
          refine ⟨by rw [chgd_skip hbh, i1], fun c hc => by rw [stP_skip (hbh c hc)]; exact i2 c hc, fun p h1 h2 => i3 p (fun e he => h1 e (by simp [he])) (fun e he => h2 e (by simp [he]))⟩
        · rw [if_neg hxy, List.singleton_append]
          refine ⟨?_, ?_, ?_⟩
          · have e1 : thP (x :: a) x.1 = true := by unfold thP; rw [fdP_cons_eq]; rfl
            rw [chgd]
            dsimp only
            rw [plP_ge (by rw [cmpL_self]; omega), e1, if_neg (may_kind hy), if_pos rfl]
            simp only [List.take_zero, List.nil_append, Nat.zero_add, List.drop_succ_cons, List.drop_zero, List.singleton_append]
            rw [i1]
          · intro c hc
            rw [List.mem_cons] at hc
            rcases hc with rfl | hc
            · unfold stP
              rw [fdP_cons_eq]
              rfl
            · rw [stP_skip (hbh c hc)]
              exact i2 c hc
          · intro p h1 _
            have e1 : okC (x.1, x, y) = true := by unfold okC sidP; simp [hx, hy, may_zero hx, hp]
            rw [mayC, e1, i3 x.1 (pairL pa).1 (fun e he => by rw [hp]; exact (pairL pb).1 e he), decide_eq_true (h1 x (by simp))]
            rfl
      · rename_i hne
        have hgt : cmpL (nms y.1) (nms x.1) < 0 := by have := cmpL_anti (nms x.1) (nms y.1); omega
        obtain ⟨i1, i2, i3⟩ := dif_leads n (x :: a) b (by simp at h ⊢; omega) pa (pairL pb).2 ma (fun e he => mb e (by simp [he]))
        have hf : fdP (x :: a) y.1 = none := stP_none (ta hgt)
        refine ⟨?_, ?_, ?_⟩
        · have e1 : thP (x :: a) y.1 = false := by unfold thP; rw [hf]; rfl
          rw [chgd]
          dsimp only
          rw [plP_ge (by omega), e1, if_neg (may_kind hy)]
          simp only [List.take_zero, List.nil_append, Nat.zero_add, List.singleton_append, Bool.false_eq_true, if_false, List.drop_zero]
          rw [i1]
        · intro c hc
          rw [List.mem_cons] at hc
          rcases hc with rfl | hc
          · unfold stP
            rw [hf]
            rfl
          · exact i2 c hc
        · intro p _ h2
          have e1 : okC (y.1, zE, y) = true := by unfold okC sidP; simp [hy, may_zero hy]
          rw [mayC, e1, i3 y.1 (ta hgt) (pairL pb).1, decide_eq_true (h2 y (by simp))]
          rfl
theorem ahead_all {t : List Ent} (h : ∀ e ∈ t, mayP e = true) : ∀ e ∈ t, cmpL (nms []) (nms e.1) < 0 := by
  intro e he
  rw [nms_e, cmpL_nil (mayP_nms (h e he))]
  omega
theorem apP_dif {a b : List Ent} (ha : Rgt a) (hb : Rgt b) : apP a (difP a b) = .ok b := by
  obtain ⟨h1, h2, h3⟩ := dif_leads _ a b (Nat.le_refl _) ha.up hb.up ha.may hb.may
  unfold apP
  rw [h1, h3 [] (ahead_all ha.may) (ahead_all hb.may), if_neg (by simpa using rgt_iff.2 ha), if_neg (by simp), if_neg ?_, if_neg (by simpa using rgt_iff.2 hb)]
  rw [List.any_eq_true]
  rintro ⟨c, hc, hd⟩
  simp only [decide_eq_true_eq] at hd
  exact hd (h2 c hc)
/-- no changes just where both are one -/
theorem dif_none {a b : List Ent} (ha : Rgt a) (hb : Rgt b) : difP a b = [] ↔ a = b := by
  obtain ⟨h1, _, _⟩ := dif_leads _ a b (Nat.le_refl _) ha.up hb.up ha.may hb.may
  constructor
  · intro h
    rw [h] at h1
    exact h1
  · rintro rfl
    have : ∀ t : List Ent, difP t t = [] := by
      intro t
      induction t with
      | nil => rw [difP]
      | cons x t ih => rw [difP, cmpL_self, if_neg (by omega), if_pos rfl, if_pos rfl, ih]; rfl
    exact this a

end Go.Proofs.Ytgldmepmeampeaa

/- What place compares by. -/
namespace Go.Proofs.Ytgldmepmeampeaa
open Go.RowKit Go.BigFrame

set_option maxRecDepth 100000 in
set_option maxHeartbeats 1000000 in
theorem placeCmp_any (e : Ent) (p : List UInt8) (w : World) (he : e.1.length ≤ 9223372036854775807) (hp : p.length ≤ 9223372036854775807) :
    Calls Try.prog 95 #[entA e, .string (mk p)] w fun r w' => r = .returned (.int .i64 (cmP e.1 p)) ∧ Below w.heap.size w w' := by
  have HC := hid (compare_any (mk e.1) (mk p) · (by rw [bl_mk]; exact he) (by rw [bl_mk]; exact hp))
  simp only [bl_mk] at HC
  have HB := hid (below_walk w (.cells #[.string (mk e.1), .int .i64 e.2.1, .string (mk e.2.2)] 36))
  unfold entA
  generalize cmP e.1 p = C at *
  generalize pN e.1 p = D at *
  generalize mk e.1 = s1 at *
  generalize mk e.2.2 = s2 at *
  generalize mk p = s3 at *
  clear he hp
  go_enter Try.func95, Try.ntmps95
  go_wp2_with (go_at_call 37; refine (HC.out _).mono ?_; rintro r w1 ⟨rfl, hb1⟩; have HB1 := hid (below_then HB.out hb1); clear hb1)
  go_ret
  exact ⟨rfl, HB1.out⟩

theorem cmP_ok {a b : List UInt8} (ha : okP a = true) (hb : okP b = true) : cmP a b = cmpL (nms a) (nms b) := by unfold cmP; rw [if_pos ⟨ha, hb⟩]

end Go.Proofs.Ytgldmepmeampeaa

/- The program's firstOf. -/
namespace Go.Proofs.Ytgldmepmeampeaa
open Go.RowKit Go.BigFrame

theorem below_dr {B : Nat} {w W : World} (h : Below B w W) : Below B w W.drew := ⟨h.os, h.tape, h.output, h.size, h.block⟩
theorem firP_lt {x y : Ent} {a b : List Ent} (h : cmpL (nms x.1) (nms y.1) < 0) : firP (x :: a) (y :: b) = (x.1, x, zE) := by unfold firP; dsimp only; rw [if_pos h]
theorem firP_eq {x y : Ent} {a b : List Ent} (h : cmpL (nms x.1) (nms y.1) = 0) : firP (x :: a) (y :: b) = (y.1, x, y) := by unfold firP; dsimp only; rw [if_neg (by omega), if_pos h]
theorem firP_gt {x y : Ent} {a b : List Ent} (h : 0 < cmpL (nms x.1) (nms y.1)) : firP (x :: a) (y :: b) = (y.1, zE, y) := by unfold firP; dsimp only; rw [if_neg (by omega), if_neg (by omega)]

set_option maxRecDepth 100000 in
set_option maxHeartbeats 4000000 in
theorem firstOf_any (va vb : Value) (a b : List Ent) (w : World) (ha : Ents w va a) (hb : Ents w vb b) (hma : ∀ e ∈ a, mayP e = true) (hmb : ∀ e ∈ b, mayP e = true) (hne : a ≠ [] ∨ b ≠ []) :
    Calls Try.prog 54 #[va, vb] w fun r w' => r = .returned (chgA (firP a b)) ∧ Below w.heap.size w w' := by
  obtain ⟨ao, ca, rfl⟩ := ha.shape
  obtain ⟨bo, cb, rfl⟩ := hb.shape
  have HU := hid Try.underlying82
  have HI := hid info_chg7
  have HO := hid one_chg7
  match a, b with
  | [], [] => exact absurd rfl (hne.elim id id)
  | [], y :: b =>
    obtain ⟨g2, o2, rfl, hg2, hx2⟩ := hb.at 0 (by simp)
    rw [show (y :: b).getD 0 zE = y from rfl, Nat.zero_mul, Nat.add_zero] at hx2
    obtain ⟨n2, HN2⟩ : ∃ n : Nat, Hid ((y :: b).length = n) := ⟨_, rfl⟩
    rw [HN2.out]
    have p2 : 0 < n2 := by rw [← HN2.out]; simp
    have q2 : (0 : Int) < (n2 : Int) := by omega
    have r2 : ((n2 : Int) == 0) = false := by simp; omega
    have s2 : ¬ ((n2 : Int) = 0) := by omega
    have t2 : ¬ (n2 = 0) := by omega
    have HX2 := hid hx2
    have HG2 := hid hg2
    clear hx2 hg2
    have HFP : Hid (firP [] (y :: b) = (y.1, zE, y)) := rfl
    have HCB0 := hid (Cb.new w zC)
    have HB0 := hid (below_walk w (.cells #[.string ⟨#[]⟩, .string ⟨#[]⟩, .int .i64 0, .string ⟨#[]⟩, .string ⟨#[]⟩, .int .i64 0, .string ⟨#[]⟩] 82))
    clear ha hb hma hmb hne
    go_enter Try.func54, Try.ntmps54
    go_wp2_with fail
    have HCC : Hid (Cb ((w.alloc (.cells #[.string ⟨#[]⟩, .string ⟨#[]⟩, .int .i64 0, .string ⟨#[]⟩, .string ⟨#[]⟩, .int .i64 0, .string ⟨#[]⟩] 82)).alloc (.cells #[.string ⟨#[]⟩, .string ⟨#[]⟩, .int .i64 0, .string ⟨#[]⟩, .string ⟨#[]⟩, .int .i64 0, .string ⟨#[]⟩] 82)) ((w.alloc (.cells #[.string ⟨#[]⟩, .string ⟨#[]⟩, .int .i64 0, .string ⟨#[]⟩, .string ⟨#[]⟩, .int .i64 0, .string ⟨#[]⟩] 82))).heap.size zC) := Cb.new (w.alloc (.cells #[.string ⟨#[]⟩, .string ⟨#[]⟩, .int .i64 0, .string ⟨#[]⟩, .string ⟨#[]⟩, .int .i64 0, .string ⟨#[]⟩] 82)) zC
    have HCB : Hid (Cb ((w.alloc (.cells #[.string ⟨#[]⟩, .string ⟨#[]⟩, .int .i64 0, .string ⟨#[]⟩, .string ⟨#[]⟩, .int .i64 0, .string ⟨#[]⟩] 82)).alloc (.cells #[.string ⟨#[]⟩, .string ⟨#[]⟩, .int .i64 0, .string ⟨#[]⟩, .string ⟨#[]⟩, .int .i64 0, .string ⟨#[]⟩] 82)) w.heap.size zC) := HCB0.out.below (below_walk (w.alloc (.cells #[.string ⟨#[]⟩, .string ⟨#[]⟩, .int .i64 0, .string ⟨#[]⟩, .string ⟨#[]⟩, .int .i64 0, .string ⟨#[]⟩] 82)) (.cells #[.string ⟨#[]⟩, .string ⟨#[]⟩, .int .i64 0, .string ⟨#[]⟩, .string ⟨#[]⟩, .int .i64 0, .string ⟨#[]⟩] 82))
    have HB : Hid (Below w.heap.size w ((w.alloc (.cells #[.string ⟨#[]⟩, .string ⟨#[]⟩, .int .i64 0, .string ⟨#[]⟩, .string ⟨#[]⟩, .int .i64 0, .string ⟨#[]⟩] 82)).alloc (.cells #[.string ⟨#[]⟩, .string ⟨#[]⟩, .int .i64 0, .string ⟨#[]⟩, .string ⟨#[]⟩, .int .i64 0, .string ⟨#[]⟩] 82))) := below_then HB0.out (below_walk (w.alloc (.cells #[.string ⟨#[]⟩, .string ⟨#[]⟩, .int .i64 0, .string ⟨#[]⟩, .string ⟨#[]⟩, .int .i64 0, .string ⟨#[]⟩] 82)) (.cells #[.string ⟨#[]⟩, .string ⟨#[]⟩, .int .i64 0, .string ⟨#[]⟩, .string ⟨#[]⟩, .int .i64 0, .string ⟨#[]⟩] 82))
    have HCL := hid HCB0.out.lt
    clear HCB0
    rw [show (w.alloc (.cells #[.string ⟨#[]⟩, .string ⟨#[]⟩, .int .i64 0, .string ⟨#[]⟩, .string ⟨#[]⟩, .int .i64 0, .string ⟨#[]⟩] 82)).heap.size = w.heap.size + 1 by simp] at HCC
    obtain ⟨C, HC⟩ : ∃ C : Nat, Hid (w.heap.size + 1 = C) := ⟨_, rfl⟩
    rw [HC.out] at HCC ⊢
    have HCW := hid (show w.heap.size < C by rw [← HC.out]; omega)
    generalize (w.alloc (.cells #[.string ⟨#[]⟩, .string ⟨#[]⟩, .int .i64 0, .string ⟨#[]⟩, .string ⟨#[]⟩, .int .i64 0, .string ⟨#[]⟩] 82)).alloc (.cells #[.string ⟨#[]⟩, .string ⟨#[]⟩, .int .i64 0, .string ⟨#[]⟩, .string ⟨#[]⟩, .int .i64 0, .string ⟨#[]⟩] 82) = wz at *
    have HXz := hid (HX2.out.below HG2.out HB.out)
    obtain ⟨y0, y1, y2⟩ := HXz.out
    obtain ⟨c0, c1, c2, c3, c4, c5, c6⟩ := HCC.out.at
    have f0 := HCC.out.fz 0
    have f4 := HCC.out.fz 4
    have f5 := HCC.out.fz 5
    have f6 := HCC.out.fz 6
    have hgc : ¬ g2 = C := by have := HG2.out; have := HCW.out; omega
    have hgc' : ¬ C = g2 := by have := HG2.out; have := HCW.out; omega
    go_region
    have HCC2 : Hid (Cb ((((wz.setCell ⟨C, 0, none⟩ (.string (mk y.1))).setCell ⟨C, 4, none⟩ (.string (mk y.1))).setCell ⟨C, 5, none⟩ (.int .i64 y.2.1)).setCell ⟨C, 6, none⟩ (.string (mk y.2.2))).drew C (y.1, zE, y)) := by unfold Hid Cb; show ((((wz.setCell ⟨C, 0, none⟩ (.string (mk y.1))).setCell ⟨C, 4, none⟩ (.string (mk y.1))).setCell ⟨C, 5, none⟩ (.int .i64 y.2.1)).setCell ⟨C, 6, none⟩ (.string (mk y.2.2))).heap[C]? = _; rw [blk_set (blk_set (blk_set (blk_set HCC.out _) _) _) _]; rfl
    have HCB2 : Hid (Cb ((((wz.setCell ⟨C, 0, none⟩ (.string (mk y.1))).setCell ⟨C, 4, none⟩ (.string (mk y.1))).setCell ⟨C, 5, none⟩ (.int .i64 y.2.1)).setCell ⟨C, 6, none⟩ (.string (mk y.2.2))).drew w.heap.size zC) := ((((HCB.out.other (d := C) (i := 0) (by have := HCW.out; omega) _).other (d := C) (i := 4) (by have := HCW.out; omega) _).other (d := C) (i := 5) (by have := HCW.out; omega) _).other (d := C) (i := 6) (by have := HCW.out; omega) _)
    have HB2 : Hid (Below w.heap.size w ((((wz.setCell ⟨C, 0, none⟩ (.string (mk y.1))).setCell ⟨C, 4, none⟩ (.string (mk y.1))).setCell ⟨C, 5, none⟩ (.int .i64 y.2.1)).setCell ⟨C, 6, none⟩ (.string (mk y.2.2))).drew) := below_dr ((((HB.out.setCell (p := ⟨C, 0, none⟩) (by have := HCW.out; show w.heap.size ≤ C; omega) _).setCell (p := ⟨C, 4, none⟩) (by have := HCW.out; show w.heap.size ≤ C; omega) _).setCell (p := ⟨C, 5, none⟩) (by have := HCW.out; show w.heap.size ≤ C; omega) _).setCell (p := ⟨C, 6, none⟩) (by have := HCW.out; show w.heap.size ≤ C; omega) _)
    clear HXz y0 y1 y2 c0 c1 c2 c3 c4 c5 c6 hgc hgc' f0 f4 f5 f6 HCC HCB HB
    generalize ((((wz.setCell ⟨C, 0, none⟩ (.string (mk y.1))).setCell ⟨C, 4, none⟩ (.string (mk y.1))).setCell ⟨C, 5, none⟩ (.int .i64 y.2.1)).setCell ⟨C, 6, none⟩ (.string (mk y.2.2))).drew = wy at *
    have HCC := HCC2; have HCB := HCB2; have HB := HB2; clear HCC2 HCB2 HB2
    have HR := hid HCC.out.range
    have HT := hid HCB.out.there
    have HF := hid (HCB.out.all (y.1, zE, y))
    have HBF := hid (belowCs (Nat.le_refl _) (chgV (y.1, zE, y)) 0 _ HB.out)
    go_wp2_with (first | (refine wpList_load_mid (by rfl) 82 (.tmp 6) (by rfl) C 0 (by rfl) (chgV (y.1, zE, y)) _ HR.out HU.out rfl (HI.out (y.1, zE, y)) ?_; clear HR) | (refine wpList_store_mid (by rfl) 82 (.tmp 4) (.tmp 49) (by rfl) w.heap.size 0 (chgV (y.1, zE, y)).toArray (by rfl) (by rfl) HT.out (HI.out (y.1, zE, y)) (HO.out (y.1, zE, y)) ?_; clear HT))
    refine ret_row 4 82 rfl w.heap.size rfl (chgV (y.1, zE, y)) 82 HF.out _ Try.underlying82 rfl (HI.out (y.1, zE, y)) rfl ⟨?_, HBF.out⟩
    rw [HFP.out]
    rfl
  | x :: a, [] =>
    obtain ⟨g1, o1, rfl, hg1, hx1⟩ := ha.at 0 (by simp)
    rw [show (x :: a).getD 0 zE = x from rfl, Nat.zero_mul, Nat.add_zero] at hx1
    obtain ⟨n1, HN1⟩ : ∃ n : Nat, Hid ((x :: a).length = n) := ⟨_, rfl⟩
    rw [HN1.out]
    have p1 : 0 < n1 := by rw [← HN1.out]; simp
    have q1 : (0 : Int) < (n1 : Int) := by omega
    have r1 : ((n1 : Int) == 0) = false := by simp; omega
    have s1 : ¬ ((n1 : Int) = 0) := by omega
    have t1 : ¬ (n1 = 0) := by omega
    have HX1 := hid hx1
    have HG1 := hid hg1
    clear hx1 hg1
    have HFP : Hid (firP (x :: a) [] = (x.1, x, zE)) := rfl
    have HCB0 := hid (Cb.new w zC)
    have HB0 := hid (below_walk w (.cells #[.string ⟨#[]⟩, .string ⟨#[]⟩, .int .i64 0, .string ⟨#[]⟩, .string ⟨#[]⟩, .int .i64 0, .string ⟨#[]⟩] 82))
    clear ha hb hma hmb hne
    go_enter Try.func54, Try.ntmps54
    go_wp2_with fail
    have HCC : Hid (Cb ((w.alloc (.cells #[.string ⟨#[]⟩, .string ⟨#[]⟩, .int .i64 0, .string ⟨#[]⟩, .string ⟨#[]⟩, .int .i64 0, .string ⟨#[]⟩] 82)).alloc (.cells #[.string ⟨#[]⟩, .string ⟨#[]⟩, .int .i64 0, .string ⟨#[]⟩, .string ⟨#[]⟩, .int .i64 0, .string ⟨#[]⟩] 82)) ((w.alloc (.cells #[.string ⟨#[]⟩, .string ⟨#[]⟩, .int .i64 0, .string ⟨#[]⟩, .string ⟨#[]⟩, .int .i64 0, .string ⟨#[]⟩] 82))).heap.size zC) := Cb.new (w.alloc (.cells #[.string ⟨#[]⟩, .string ⟨#[]⟩, .int .i64 0, .string ⟨#[]⟩, .string ⟨#[]⟩, .int .i64 0, .string ⟨#[]⟩] 82)) zC
    have HCB : Hid (Cb ((w.alloc (.cells #[.string ⟨#[]⟩, .string ⟨#[]⟩, .int .i64 0, .string ⟨#[]⟩, .string ⟨#[]⟩, .int .i64 0, .string ⟨#[]⟩] 82)).alloc (.cells #[.string ⟨#[]⟩, .string ⟨#[]⟩, .int .i64 0, .string ⟨#[]⟩, .string ⟨#[]⟩, .int .i64 0, .string ⟨#[]⟩] 82)) w.heap.size zC) := HCB0.out.below (below_walk (w.alloc (.cells #[.string ⟨#[]⟩, .string ⟨#[]⟩, .int .i64 0, .string ⟨#[]⟩, .string ⟨#[]⟩, .int .i64 0, .string ⟨#[]⟩] 82)) (.cells #[.string ⟨#[]⟩, .string ⟨#[]⟩, .int .i64 0, .string ⟨#[]⟩, .string ⟨#[]⟩, .int .i64 0, .string ⟨#[]⟩] 82))
    have HB : Hid (Below w.heap.size w ((w.alloc (.cells #[.string ⟨#[]⟩, .string ⟨#[]⟩, .int .i64 0, .string ⟨#[]⟩, .string ⟨#[]⟩, .int .i64 0, .string ⟨#[]⟩] 82)).alloc (.cells #[.string ⟨#[]⟩, .string ⟨#[]⟩, .int .i64 0, .string ⟨#[]⟩, .string ⟨#[]⟩, .int .i64 0, .string ⟨#[]⟩] 82))) := below_then HB0.out (below_walk (w.alloc (.cells #[.string ⟨#[]⟩, .string ⟨#[]⟩, .int .i64 0, .string ⟨#[]⟩, .string ⟨#[]⟩, .int .i64 0, .string ⟨#[]⟩] 82)) (.cells #[.string ⟨#[]⟩, .string ⟨#[]⟩, .int .i64 0, .string ⟨#[]⟩, .string ⟨#[]⟩, .int .i64 0, .string ⟨#[]⟩] 82))
    have HCL := hid HCB0.out.lt
    clear HCB0
    rw [show (w.alloc (.cells #[.string ⟨#[]⟩, .string ⟨#[]⟩, .int .i64 0, .string ⟨#[]⟩, .string ⟨#[]⟩, .int .i64 0, .string ⟨#[]⟩] 82)).heap.size = w.heap.size + 1 by simp] at HCC
    obtain ⟨C, HC⟩ : ∃ C : Nat, Hid (w.heap.size + 1 = C) := ⟨_, rfl⟩
    rw [HC.out] at HCC ⊢
    have HCW := hid (show w.heap.size < C by rw [← HC.out]; omega)
    generalize (w.alloc (.cells #[.string ⟨#[]⟩, .string ⟨#[]⟩, .int .i64 0, .string ⟨#[]⟩, .string ⟨#[]⟩, .int .i64 0, .string ⟨#[]⟩] 82)).alloc (.cells #[.string ⟨#[]⟩, .string ⟨#[]⟩, .int .i64 0, .string ⟨#[]⟩, .string ⟨#[]⟩, .int .i64 0, .string ⟨#[]⟩] 82) = wz at *
    have HXz := hid (HX1.out.below HG1.out HB.out)
    obtain ⟨y0, y1, y2⟩ := HXz.out
    obtain ⟨c0, c1, c2, c3, c4, c5, c6⟩ := HCC.out.at
    have f0 := HCC.out.fz 0
    have f1 := HCC.out.fz 1
    have f2 := HCC.out.fz 2
    have f3 := HCC.out.fz 3
    have hgc : ¬ g1 = C := by have := HG1.out; have := HCW.out; omega
    have hgc' : ¬ C = g1 := by have := HG1.out; have := HCW.out; omega
    go_region
    have HCC2 : Hid (Cb ((((wz.setCell ⟨C, 0, none⟩ (.string (mk x.1))).setCell ⟨C, 1, none⟩ (.string (mk x.1))).setCell ⟨C, 2, none⟩ (.int .i64 x.2.1)).setCell ⟨C, 3, none⟩ (.string (mk x.2.2))).drew C (x.1, x, zE)) := by unfold Hid Cb; show ((((wz.setCell ⟨C, 0, none⟩ (.string (mk x.1))).setCell ⟨C, 1, none⟩ (.string (mk x.1))).setCell ⟨C, 2, none⟩ (.int .i64 x.2.1)).setCell ⟨C, 3, none⟩ (.string (mk x.2.2))).heap[C]? = _; rw [blk_set (blk_set (blk_set (blk_set HCC.out _) _) _) _]; rfl
    have HCB2 : Hid (Cb ((((wz.setCell ⟨C, 0, none⟩ (.string (mk x.1))).setCell ⟨C, 1, none⟩ (.string (mk x.1))).setCell ⟨C, 2, none⟩ (.int .i64 x.2.1)).setCell ⟨C, 3, none⟩ (.string (mk x.2.2))).drew w.heap.size zC) := ((((HCB.out.other (d := C) (i := 0) (by have := HCW.out; omega) _).other (d := C) (i := 1) (by have := HCW.out; omega) _).other (d := C) (i := 2) (by have := HCW.out; omega) _).other (d := C) (i := 3) (by have := HCW.out; omega) _)
    have HB2 : Hid (Below w.heap.size w ((((wz.setCell ⟨C, 0, none⟩ (.string (mk x.1))).setCell ⟨C, 1, none⟩ (.string (mk x.1))).setCell ⟨C, 2, none⟩ (.int .i64 x.2.1)).setCell ⟨C, 3, none⟩ (.string (mk x.2.2))).drew) := below_dr ((((HB.out.setCell (p := ⟨C, 0, none⟩) (by have := HCW.out; show w.heap.size ≤ C; omega) _).setCell (p := ⟨C, 1, none⟩) (by have := HCW.out; show w.heap.size ≤ C; omega) _).setCell (p := ⟨C, 2, none⟩) (by have := HCW.out; show w.heap.size ≤ C; omega) _).setCell (p := ⟨C, 3, none⟩) (by have := HCW.out; show w.heap.size ≤ C; omega) _)
    clear HXz y0 y1 y2 c0 c1 c2 c3 c4 c5 c6 hgc hgc' f0 f1 f2 f3 HCC HCB HB
    generalize ((((wz.setCell ⟨C, 0, none⟩ (.string (mk x.1))).setCell ⟨C, 1, none⟩ (.string (mk x.1))).setCell ⟨C, 2, none⟩ (.int .i64 x.2.1)).setCell ⟨C, 3, none⟩ (.string (mk x.2.2))).drew = wy at *
    have HCC := HCC2; have HCB := HCB2; have HB := HB2; clear HCC2 HCB2 HB2
    have HR := hid HCC.out.range
    have HT := hid HCB.out.there
    have HF := hid (HCB.out.all (x.1, x, zE))
    have HBF := hid (belowCs (Nat.le_refl _) (chgV (x.1, x, zE)) 0 _ HB.out)
    go_wp2_with (first | (refine wpList_load_mid (by rfl) 82 (.tmp 6) (by rfl) C 0 (by rfl) (chgV (x.1, x, zE)) _ HR.out HU.out rfl (HI.out (x.1, x, zE)) ?_; clear HR) | (refine wpList_store_mid (by rfl) 82 (.tmp 4) (.tmp 49) (by rfl) w.heap.size 0 (chgV (x.1, x, zE)).toArray (by rfl) (by rfl) HT.out (HI.out (x.1, x, zE)) (HO.out (x.1, x, zE)) ?_; clear HT))
    refine ret_row 4 82 rfl w.heap.size rfl (chgV (x.1, x, zE)) 82 HF.out _ Try.underlying82 rfl (HI.out (x.1, x, zE)) rfl ⟨?_, HBF.out⟩
    rw [HFP.out]
    rfl
  | x :: a, y :: b =>
    obtain ⟨g1, o1, rfl, hg1, hx1⟩ := ha.at 0 (by simp)
    rw [show (x :: a).getD 0 zE = x from rfl, Nat.zero_mul, Nat.add_zero] at hx1
    obtain ⟨n1, HN1⟩ : ∃ n : Nat, Hid ((x :: a).length = n) := ⟨_, rfl⟩
    rw [HN1.out]
    have p1 : 0 < n1 := by rw [← HN1.out]; simp
    have q1 : (0 : Int) < (n1 : Int) := by omega
    have r1 : ((n1 : Int) == 0) = false := by simp; omega
    have s1 : ¬ ((n1 : Int) = 0) := by omega
    have t1 : ¬ (n1 = 0) := by omega
    have HX1 := hid hx1
    have HG1 := hid hg1
    clear hx1 hg1
    obtain ⟨g2, o2, rfl, hg2, hx2⟩ := hb.at 0 (by simp)
    rw [show (y :: b).getD 0 zE = y from rfl, Nat.zero_mul, Nat.add_zero] at hx2
    obtain ⟨n2, HN2⟩ : ∃ n : Nat, Hid ((y :: b).length = n) := ⟨_, rfl⟩
    rw [HN2.out]
    have p2 : 0 < n2 := by rw [← HN2.out]; simp
    have q2 : (0 : Int) < (n2 : Int) := by omega
    have r2 : ((n2 : Int) == 0) = false := by simp; omega
    have s2 : ¬ ((n2 : Int) = 0) := by omega
    have t2 : ¬ (n2 = 0) := by omega
    have HX2 := hid hx2
    have HG2 := hid hg2
    clear hx2 hg2
    have hox := mayP_ok (hma x (by simp))
    have hoy := mayP_ok (hmb y (by simp))
    have HCM := hid (compare_any (mk x.1) (mk y.1) · (by rw [bl_mk]; have := okP_short hox; omega) (by rw [bl_mk]; have := okP_short hoy; omega))
    simp only [bl_mk, cmP_ok hox hoy] at HCM
    have HCB0 := hid (Cb.new w zC)
    have HB0 := hid (below_walk w (.cells #[.string ⟨#[]⟩, .string ⟨#[]⟩, .int .i64 0, .string ⟨#[]⟩, .string ⟨#[]⟩, .int .i64 0, .string ⟨#[]⟩] 82))
    have HFL := hid (fun h => firP_lt (x := x) (y := y) (a := a) (b := b) h)
    have HFE := hid (fun h => firP_eq (x := x) (y := y) (a := a) (b := b) h)
    have HFG := hid (fun h => firP_gt (x := x) (y := y) (a := a) (b := b) h)
    have HRG := hid (cmpL_range (nms x.1) (nms y.1))
    generalize cmpL (nms x.1) (nms y.1) = K at *
    generalize pN x.1 y.1 = E at *
    clear hox hoy
    clear ha hb hma hmb hne
    go_enter Try.func54, Try.ntmps54
    go_wp2_with fail
    have HB0c := hid (show Cb (w.alloc (.cells #[.string ⟨#[]⟩, .string ⟨#[]⟩, .int .i64 0, .string ⟨#[]⟩, .string ⟨#[]⟩, .int .i64 0, .string ⟨#[]⟩] 82)) w.heap.size zC from HCB0.out)
    clear HCB0
    generalize w.alloc (.cells #[.string ⟨#[]⟩, .string ⟨#[]⟩, .int .i64 0, .string ⟨#[]⟩, .string ⟨#[]⟩, .int .i64 0, .string ⟨#[]⟩] 82) = wa at *
    have HX1a := hid (HX1.out.below HG1.out HB0.out)
    have HG1a := hid (Nat.lt_of_lt_of_le HG1.out HB0.out.size)
    have px1 := fun p : Bel wa => p.cell HX1a.out.1 HG1a.out
    have HX2a := hid (HX2.out.below HG2.out HB0.out)
    have HG2a := hid (Nat.lt_of_lt_of_le HG2.out HB0.out.size)
    have px2 := fun p : Bel wa => p.cell HX2a.out.1 HG2a.out
    have ib : Nonempty (Bel wa) := bel_some wa
    refine wp_region_quiet_bel (by kernel_rfl) (by kernel_rfl) ?_
    repeat (go_big_quiet_step (first | (go_at_call 37; exact bel_of (HCM.out _))))
    refine wpQuiet_nil ?_
    rintro w2 ⟨⟨w2', hb2⟩, hw2⟩
    obtain rfl : w2 = w2' := hw2
    have HCB0 := hid (HB0c.out.below hb2)
    have HB0b := hid (below_then HB0.out hb2)
    clear HB0 HB0c hb2 px1 px2 ib HX1a HX2a HG1a HG2a HCM
    have HB0 := HB0b
    clear HB0b
    rcases HRG.out with hK | hK | hK
    ·
      subst hK
      have HFP := hid (HFL.out (by decide))
      clear HFL HFE HFG
      go_wp2_with fail
      have HCC : Hid (Cb (w2.alloc (.cells #[.string ⟨#[]⟩, .string ⟨#[]⟩, .int .i64 0, .string ⟨#[]⟩, .string ⟨#[]⟩, .int .i64 0, .string ⟨#[]⟩] 82)) (w2).heap.size zC) := Cb.new w2 zC
      have HCB : Hid (Cb (w2.alloc (.cells #[.string ⟨#[]⟩, .string ⟨#[]⟩, .int .i64 0, .string ⟨#[]⟩, .string ⟨#[]⟩, .int .i64 0, .string ⟨#[]⟩] 82)) w.heap.size zC) := HCB0.out.below (below_walk w2 (.cells #[.string ⟨#[]⟩, .string ⟨#[]⟩, .int .i64 0, .string ⟨#[]⟩, .string ⟨#[]⟩, .int .i64 0, .string ⟨#[]⟩] 82))
      have HB : Hid (Below w.heap.size w (w2.alloc (.cells #[.string ⟨#[]⟩, .string ⟨#[]⟩, .int .i64 0, .string ⟨#[]⟩, .string ⟨#[]⟩, .int .i64 0, .string ⟨#[]⟩] 82))) := below_then HB0.out (below_walk w2 (.cells #[.string ⟨#[]⟩, .string ⟨#[]⟩, .int .i64 0, .string ⟨#[]⟩, .string ⟨#[]⟩, .int .i64 0, .string ⟨#[]⟩] 82))
      have HCL := hid HCB0.out.lt
      clear HCB0
      obtain ⟨C, HC⟩ : ∃ C : Nat, Hid (w2.heap.size = C) := ⟨_, rfl⟩
      rw [HC.out] at HCC ⊢
      have HCW := hid (show w.heap.size < C by rw [← HC.out]; exact HCL.out)
      generalize w2.alloc (.cells #[.string ⟨#[]⟩, .string ⟨#[]⟩, .int .i64 0, .string ⟨#[]⟩, .string ⟨#[]⟩, .int .i64 0, .string ⟨#[]⟩] 82) = wz at *
      have HXz := hid (HX1.out.below HG1.out HB.out)
      obtain ⟨y0, y1, y2⟩ := HXz.out
      obtain ⟨c0, c1, c2, c3, c4, c5, c6⟩ := HCC.out.at
      have f0 := HCC.out.fz 0
      have f1 := HCC.out.fz 1
      have f2 := HCC.out.fz 2
      have f3 := HCC.out.fz 3
      have hgc : ¬ g1 = C := by have := HG1.out; have := HCW.out; omega
      have hgc' : ¬ C = g1 := by have := HG1.out; have := HCW.out; omega
      go_region
      have HCC2 : Hid (Cb ((((wz.setCell ⟨C, 0, none⟩ (.string (mk x.1))).setCell ⟨C, 1, none⟩ (.string (mk x.1))).setCell ⟨C, 2, none⟩ (.int .i64 x.2.1)).setCell ⟨C, 3, none⟩ (.string (mk x.2.2))).drew C (x.1, x, zE)) := by unfold Hid Cb; show ((((wz.setCell ⟨C, 0, none⟩ (.string (mk x.1))).setCell ⟨C, 1, none⟩ (.string (mk x.1))).setCell ⟨C, 2, none⟩ (.int .i64 x.2.1)).setCell ⟨C, 3, none⟩ (.string (mk x.2.2))).heap[C]? = _; rw [blk_set (blk_set (blk_set (blk_set HCC.out _) _) _) _]; rfl
      have HCB2 : Hid (Cb ((((wz.setCell ⟨C, 0, none⟩ (.string (mk x.1))).setCell ⟨C, 1, none⟩ (.string (mk x.1))).setCell ⟨C, 2, none⟩ (.int .i64 x.2.1)).setCell ⟨C, 3, none⟩ (.string (mk x.2.2))).drew w.heap.size zC) := ((((HCB.out.other (d := C) (i := 0) (by have := HCW.out; omega) _).other (d := C) (i := 1) (by have := HCW.out; omega) _).other (d := C) (i := 2) (by have := HCW.out; omega) _).other (d := C) (i := 3) (by have := HCW.out; omega) _)
      have HB2 : Hid (Below w.heap.size w ((((wz.setCell ⟨C, 0, none⟩ (.string (mk x.1))).setCell ⟨C, 1, none⟩ (.string (mk x.1))).setCell ⟨C, 2, none⟩ (.int .i64 x.2.1)).setCell ⟨C, 3, none⟩ (.string (mk x.2.2))).drew) := below_dr ((((HB.out.setCell (p := ⟨C, 0, none⟩) (by have := HCW.out; show w.heap.size ≤ C; omega) _).setCell (p := ⟨C, 1, none⟩) (by have := HCW.out; show w.heap.size ≤ C; omega) _).setCell (p := ⟨C, 2, none⟩) (by have := HCW.out; show w.heap.size ≤ C; omega) _).setCell (p := ⟨C, 3, none⟩) (by have := HCW.out; show w.heap.size ≤ C; omega) _)
      clear HXz y0 y1 y2 c0 c1 c2 c3 c4 c5 c6 hgc hgc' f0 f1 f2 f3 HCC HCB HB
      generalize ((((wz.setCell ⟨C, 0, none⟩ (.string (mk x.1))).setCell ⟨C, 1, none⟩ (.string (mk x.1))).setCell ⟨C, 2, none⟩ (.int .i64 x.2.1)).setCell ⟨C, 3, none⟩ (.string (mk x.2.2))).drew = wy at *
      have HCC := HCC2; have HCB := HCB2; have HB := HB2; clear HCC2 HCB2 HB2
      have HR := hid HCC.out.range
      have HT := hid HCB.out.there
      have HF := hid (HCB.out.all (x.1, x, zE))
      have HBF := hid (belowCs (Nat.le_refl _) (chgV (x.1, x, zE)) 0 _ HB.out)
      go_wp2_with (first | (refine wpList_load_mid (by rfl) 82 (.tmp 6) (by rfl) C 0 (by rfl) (chgV (x.1, x, zE)) _ HR.out HU.out rfl (HI.out (x.1, x, zE)) ?_; clear HR) | (refine wpList_store_mid (by rfl) 82 (.tmp 4) (.tmp 49) (by rfl) w.heap.size 0 (chgV (x.1, x, zE)).toArray (by rfl) (by rfl) HT.out (HI.out (x.1, x, zE)) (HO.out (x.1, x, zE)) ?_; clear HT))
      refine ret_row 4 82 rfl w.heap.size rfl (chgV (x.1, x, zE)) 82 HF.out _ Try.underlying82 rfl (HI.out (x.1, x, zE)) rfl ⟨?_, HBF.out⟩
      rw [HFP.out]
      rfl
    ·
      subst hK
      have HFP := hid (HFE.out (by rfl))
      clear HFL HFE HFG
      go_wp2_with fail
      have HCC : Hid (Cb (w2.alloc (.cells #[.string ⟨#[]⟩, .string ⟨#[]⟩, .int .i64 0, .string ⟨#[]⟩, .string ⟨#[]⟩, .int .i64 0, .string ⟨#[]⟩] 82)) (w2).heap.size zC) := Cb.new w2 zC
      have HCB : Hid (Cb (w2.alloc (.cells #[.string ⟨#[]⟩, .string ⟨#[]⟩, .int .i64 0, .string ⟨#[]⟩, .string ⟨#[]⟩, .int .i64 0, .string ⟨#[]⟩] 82)) w.heap.size zC) := HCB0.out.below (below_walk w2 (.cells #[.string ⟨#[]⟩, .string ⟨#[]⟩, .int .i64 0, .string ⟨#[]⟩, .string ⟨#[]⟩, .int .i64 0, .string ⟨#[]⟩] 82))
      have HB : Hid (Below w.heap.size w (w2.alloc (.cells #[.string ⟨#[]⟩, .string ⟨#[]⟩, .int .i64 0, .string ⟨#[]⟩, .string ⟨#[]⟩, .int .i64 0, .string ⟨#[]⟩] 82))) := below_then HB0.out (below_walk w2 (.cells #[.string ⟨#[]⟩, .string ⟨#[]⟩, .int .i64 0, .string ⟨#[]⟩, .string ⟨#[]⟩, .int .i64 0, .string ⟨#[]⟩] 82))
      have HCL := hid HCB0.out.lt
      clear HCB0
      obtain ⟨C, HC⟩ : ∃ C : Nat, Hid (w2.heap.size = C) := ⟨_, rfl⟩
      rw [HC.out] at HCC ⊢
      have HCW := hid (show w.heap.size < C by rw [← HC.out]; exact HCL.out)
      generalize w2.alloc (.cells #[.string ⟨#[]⟩, .string ⟨#[]⟩, .int .i64 0, .string ⟨#[]⟩, .string ⟨#[]⟩, .int .i64 0, .string ⟨#[]⟩] 82) = wz at *
      have HXz := hid (HX1.out.below HG1.out HB.out)
      obtain ⟨y0, y1, y2⟩ := HXz.out
      obtain ⟨c0, c1, c2, c3, c4, c5, c6⟩ := HCC.out.at
      have f0 := HCC.out.fz 0
      have f1 := HCC.out.fz 1
      have f2 := HCC.out.fz 2
      have f3 := HCC.out.fz 3
      have hgc : ¬ g1 = C := by have := HG1.out; have := HCW.out; omega
      have hgc' : ¬ C = g1 := by have := HG1.out; have := HCW.out; omega
      go_region
      have HCC2 : Hid (Cb ((((wz.setCell ⟨C, 0, none⟩ (.string (mk x.1))).setCell ⟨C, 1, none⟩ (.string (mk x.1))).setCell ⟨C, 2, none⟩ (.int .i64 x.2.1)).setCell ⟨C, 3, none⟩ (.string (mk x.2.2))).drew C (x.1, x, zE)) := by unfold Hid Cb; show ((((wz.setCell ⟨C, 0, none⟩ (.string (mk x.1))).setCell ⟨C, 1, none⟩ (.string (mk x.1))).setCell ⟨C, 2, none⟩ (.int .i64 x.2.1)).setCell ⟨C, 3, none⟩ (.string (mk x.2.2))).heap[C]? = _; rw [blk_set (blk_set (blk_set (blk_set HCC.out _) _) _) _]; rfl
      have HCB2 : Hid (Cb ((((wz.setCell ⟨C, 0, none⟩ (.string (mk x.1))).setCell ⟨C, 1, none⟩ (.string (mk x.1))).setCell ⟨C, 2, none⟩ (.int .i64 x.2.1)).setCell ⟨C, 3, none⟩ (.string (mk x.2.2))).drew w.heap.size zC) := ((((HCB.out.other (d := C) (i := 0) (by have := HCW.out; omega) _).other (d := C) (i := 1) (by have := HCW.out; omega) _).other (d := C) (i := 2) (by have := HCW.out; omega) _).other (d := C) (i := 3) (by have := HCW.out; omega) _)
      have HB2 : Hid (Below w.heap.size w ((((wz.setCell ⟨C, 0, none⟩ (.string (mk x.1))).setCell ⟨C, 1, none⟩ (.string (mk x.1))).setCell ⟨C, 2, none⟩ (.int .i64 x.2.1)).setCell ⟨C, 3, none⟩ (.string (mk x.2.2))).drew) := below_dr ((((HB.out.setCell (p := ⟨C, 0, none⟩) (by have := HCW.out; show w.heap.size ≤ C; omega) _).setCell (p := ⟨C, 1, none⟩) (by have := HCW.out; show w.heap.size ≤ C; omega) _).setCell (p := ⟨C, 2, none⟩) (by have := HCW.out; show w.heap.size ≤ C; omega) _).setCell (p := ⟨C, 3, none⟩) (by have := HCW.out; show w.heap.size ≤ C; omega) _)
      clear HXz y0 y1 y2 c0 c1 c2 c3 c4 c5 c6 hgc hgc' f0 f1 f2 f3 HCC HCB HB
      generalize ((((wz.setCell ⟨C, 0, none⟩ (.string (mk x.1))).setCell ⟨C, 1, none⟩ (.string (mk x.1))).setCell ⟨C, 2, none⟩ (.int .i64 x.2.1)).setCell ⟨C, 3, none⟩ (.string (mk x.2.2))).drew = wy at *
      have HCC := HCC2; have HCB := HCB2; have HB := HB2; clear HCC2 HCB2 HB2
      go_wp2_with fail
      have HXz := hid (HX2.out.below HG2.out HB.out)
      obtain ⟨y0, y1, y2⟩ := HXz.out
      obtain ⟨c0, c1, c2, c3, c4, c5, c6⟩ := HCC.out.at
      have f0 := HCC.out.fz 0
      have f4 := HCC.out.fz 4
      have f5 := HCC.out.fz 5
      have f6 := HCC.out.fz 6
      have hgc : ¬ g2 = C := by have := HG2.out; have := HCW.out; omega
      have hgc' : ¬ C = g2 := by have := HG2.out; have := HCW.out; omega
      go_region
      have HCC2 : Hid (Cb ((((wy.setCell ⟨C, 0, none⟩ (.string (mk y.1))).setCell ⟨C, 4, none⟩ (.string (mk y.1))).setCell ⟨C, 5, none⟩ (.int .i64 y.2.1)).setCell ⟨C, 6, none⟩ (.string (mk y.2.2))).drew C (y.1, x, y)) := by unfold Hid Cb; show ((((wy.setCell ⟨C, 0, none⟩ (.string (mk y.1))).setCell ⟨C, 4, none⟩ (.string (mk y.1))).setCell ⟨C, 5, none⟩ (.int .i64 y.2.1)).setCell ⟨C, 6, none⟩ (.string (mk y.2.2))).heap[C]? = _; rw [blk_set (blk_set (blk_set (blk_set HCC.out _) _) _) _]; rfl
      have HCB2 : Hid (Cb ((((wy.setCell ⟨C, 0, none⟩ (.string (mk y.1))).setCell ⟨C, 4, none⟩ (.string (mk y.1))).setCell ⟨C, 5, none⟩ (.int .i64 y.2.1)).setCell ⟨C, 6, none⟩ (.string (mk y.2.2))).drew w.heap.size zC) := ((((HCB.out.other (d := C) (i := 0) (by have := HCW.out; omega) _).other (d := C) (i := 4) (by have := HCW.out; omega) _).other (d := C) (i := 5) (by have := HCW.out; omega) _).other (d := C) (i := 6) (by have := HCW.out; omega) _)
      have HB2 : Hid (Below w.heap.size w ((((wy.setCell ⟨C, 0, none⟩ (.string (mk y.1))).setCell ⟨C, 4, none⟩ (.string (mk y.1))).setCell ⟨C, 5, none⟩ (.int .i64 y.2.1)).setCell ⟨C, 6, none⟩ (.string (mk y.2.2))).drew) := below_dr ((((HB.out.setCell (p := ⟨C, 0, none⟩) (by have := HCW.out; show w.heap.size ≤ C; omega) _).setCell (p := ⟨C, 4, none⟩) (by have := HCW.out; show w.heap.size ≤ C; omega) _).setCell (p := ⟨C, 5, none⟩) (by have := HCW.out; show w.heap.size ≤ C; omega) _).setCell (p := ⟨C, 6, none⟩) (by have := HCW.out; show w.heap.size ≤ C; omega) _)
      clear HXz y0 y1 y2 c0 c1 c2 c3 c4 c5 c6 hgc hgc' f0 f4 f5 f6 HCC HCB HB
      generalize ((((wy.setCell ⟨C, 0, none⟩ (.string (mk y.1))).setCell ⟨C, 4, none⟩ (.string (mk y.1))).setCell ⟨C, 5, none⟩ (.int .i64 y.2.1)).setCell ⟨C, 6, none⟩ (.string (mk y.2.2))).drew = wx at *
      have HCC := HCC2; have HCB := HCB2; have HB := HB2; clear HCC2 HCB2 HB2
      have HR := hid HCC.out.range
      have HT := hid HCB.out.there
      have HF := hid (HCB.out.all (y.1, x, y))
      have HBF := hid (belowCs (Nat.le_refl _) (chgV (y.1, x, y)) 0 _ HB.out)
      go_wp2_with (first | (refine wpList_load_mid (by rfl) 82 (.tmp 6) (by rfl) C 0 (by rfl) (chgV (y.1, x, y)) _ HR.out HU.out rfl (HI.out (y.1, x, y)) ?_; clear HR) | (refine wpList_store_mid (by rfl) 82 (.tmp 4) (.tmp 49) (by rfl) w.heap.size 0 (chgV (y.1, x, y)).toArray (by rfl) (by rfl) HT.out (HI.out (y.1, x, y)) (HO.out (y.1, x, y)) ?_; clear HT))
      refine ret_row 4 82 rfl w.heap.size rfl (chgV (y.1, x, y)) 82 HF.out _ Try.underlying82 rfl (HI.out (y.1, x, y)) rfl ⟨?_, HBF.out⟩
      rw [HFP.out]
      rfl
    ·
      subst hK
      have HFP := hid (HFG.out (by decide))
      clear HFL HFE HFG
      go_wp2_with fail
      have HCC : Hid (Cb (w2.alloc (.cells #[.string ⟨#[]⟩, .string ⟨#[]⟩, .int .i64 0, .string ⟨#[]⟩, .string ⟨#[]⟩, .int .i64 0, .string ⟨#[]⟩] 82)) (w2).heap.size zC) := Cb.new w2 zC
      have HCB : Hid (Cb (w2.alloc (.cells #[.string ⟨#[]⟩, .string ⟨#[]⟩, .int .i64 0, .string ⟨#[]⟩, .string ⟨#[]⟩, .int .i64 0, .string ⟨#[]⟩] 82)) w.heap.size zC) := HCB0.out.below (below_walk w2 (.cells #[.string ⟨#[]⟩, .string ⟨#[]⟩, .int .i64 0, .string ⟨#[]⟩, .string ⟨#[]⟩, .int .i64 0, .string ⟨#[]⟩] 82))
      have HB : Hid (Below w.heap.size w (w2.alloc (.cells #[.string ⟨#[]⟩, .string ⟨#[]⟩, .int .i64 0, .string ⟨#[]⟩, .string ⟨#[]⟩, .int .i64 0, .string ⟨#[]⟩] 82))) := below_then HB0.out (below_walk w2 (.cells #[.string ⟨#[]⟩, .string ⟨#[]⟩, .int .i64 0, .string ⟨#[]⟩, .string ⟨#[]⟩, .int .i64 0, .string ⟨#[]⟩] 82))
      have HCL := hid HCB0.out.lt
      clear HCB0
      obtain ⟨C, HC⟩ : ∃ C : Nat, Hid (w2.heap.size = C) := ⟨_, rfl⟩
      rw [HC.out] at HCC ⊢
      have HCW := hid (show w.heap.size < C by rw [← HC.out]; exact HCL.out)
      generalize w2.alloc (.cells #[.string ⟨#[]⟩, .string ⟨#[]⟩, .int .i64 0, .string ⟨#[]⟩, .string ⟨#[]⟩, .int .i64 0, .string ⟨#[]⟩] 82) = wz at *
      have HXz := hid (HX2.out.below HG2.out HB.out)
      obtain ⟨y0, y1, y2⟩ := HXz.out
      obtain ⟨c0, c1, c2, c3, c4, c5, c6⟩ := HCC.out.at
      have f0 := HCC.out.fz 0
      have f4 := HCC.out.fz 4
      have f5 := HCC.out.fz 5
      have f6 := HCC.out.fz 6
      have hgc : ¬ g2 = C := by have := HG2.out; have := HCW.out; omega
      have hgc' : ¬ C = g2 := by have := HG2.out; have := HCW.out; omega
      go_region
      have HCC2 : Hid (Cb ((((wz.setCell ⟨C, 0, none⟩ (.string (mk y.1))).setCell ⟨C, 4, none⟩ (.string (mk y.1))).setCell ⟨C, 5, none⟩ (.int .i64 y.2.1)).setCell ⟨C, 6, none⟩ (.string (mk y.2.2))).drew C (y.1, zE, y)) := by unfold Hid Cb; show ((((wz.setCell ⟨C, 0, none⟩ (.string (mk y.1))).setCell ⟨C, 4, none⟩ (.string (mk y.1))).setCell ⟨C, 5, none⟩ (.int .i64 y.2.1)).setCell ⟨C, 6, none⟩ (.string (mk y.2.2))).heap[C]? = _; rw [blk_set (blk_set (blk_set (blk_set HCC.out _) _) _) _]; rfl
      have HCB2 : Hid (Cb ((((wz.setCell ⟨C, 0, none⟩ (.string (mk y.1))).setCell ⟨C, 4, none⟩ (.string (mk y.1))).setCell ⟨C, 5, none⟩ (.int .i64 y.2.1)).setCell ⟨C, 6, none⟩ (.string (mk y.2.2))).drew w.heap.size zC) := ((((HCB.out.other (d := C) (i := 0) (by have := HCW.out; omega) _).other (d := C) (i := 4) (by have := HCW.out; omega) _).other (d := C) (i := 5) (by have := HCW.out; omega) _).other (d := C) (i := 6) (by have := HCW.out; omega) _)
      have HB2 : Hid (Below w.heap.size w ((((wz.setCell ⟨C, 0, none⟩ (.string (mk y.1))).setCell ⟨C, 4, none⟩ (.string (mk y.1))).setCell ⟨C, 5, none⟩ (.int .i64 y.2.1)).setCell ⟨C, 6, none⟩ (.string (mk y.2.2))).drew) := below_dr ((((HB.out.setCell (p := ⟨C, 0, none⟩) (by have := HCW.out; show w.heap.size ≤ C; omega) _).setCell (p := ⟨C, 4, none⟩) (by have := HCW.out; show w.heap.size ≤ C; omega) _).setCell (p := ⟨C, 5, none⟩) (by have := HCW.out; show w.heap.size ≤ C; omega) _).setCell (p := ⟨C, 6, none⟩) (by have := HCW.out; show w.heap.size ≤ C; omega) _)
      clear HXz y0 y1 y2 c0 c1 c2 c3 c4 c5 c6 hgc hgc' f0 f4 f5 f6 HCC HCB HB
      generalize ((((wz.setCell ⟨C, 0, none⟩ (.string (mk y.1))).setCell ⟨C, 4, none⟩ (.string (mk y.1))).setCell ⟨C, 5, none⟩ (.int .i64 y.2.1)).setCell ⟨C, 6, none⟩ (.string (mk y.2.2))).drew = wy at *
      have HCC := HCC2; have HCB := HCB2; have HB := HB2; clear HCC2 HCB2 HB2
      have HR := hid HCC.out.range
      have HT := hid HCB.out.there
      have HF := hid (HCB.out.all (y.1, zE, y))
      have HBF := hid (belowCs (Nat.le_refl _) (chgV (y.1, zE, y)) 0 _ HB.out)
      go_wp2_with (first | (refine wpList_load_mid (by rfl) 82 (.tmp 6) (by rfl) C 0 (by rfl) (chgV (y.1, zE, y)) _ HR.out HU.out rfl (HI.out (y.1, zE, y)) ?_; clear HR) | (refine wpList_store_mid (by rfl) 82 (.tmp 4) (.tmp 49) (by rfl) w.heap.size 0 (chgV (y.1, zE, y)).toArray (by rfl) (by rfl) HT.out (HI.out (y.1, zE, y)) (HO.out (y.1, zE, y)) ?_; clear HT))
      refine ret_row 4 82 rfl w.heap.size rfl (chgV (y.1, zE, y)) 82 HF.out _ Try.underlying82 rfl (HI.out (y.1, zE, y)) rfl ⟨?_, HBF.out⟩
      rw [HFP.out]
      rfl

end Go.Proofs.Ytgldmepmeampeaa

/- The program's ownChange. -/
namespace Go.Proofs.Ytgldmepmeampeaa
open Go.RowKit Go.BigFrame

def ShrC (c : Chg) : Prop := c.1.length ≤ 281474976710656 ∧ Shr c.2.1 ∧ Shr c.2.2

set_option maxRecDepth 100000 in
set_option maxHeartbeats 2000000 in
theorem ownChange_any (c : Chg) (w : World) (hs : ShrC c) :
    Calls Try.prog 55 #[chgA c] w fun r w' => r = .returned (chgA c) ∧ Below w.heap.size w w' := by
  have H0 := hid (clone_any (mk c.1) · (by rw [mk_size]; exact hs.1))
  have H1 := hid (ownEntry_any c.2.1 · hs.2.1)
  have H2 := hid (ownEntry_any c.2.2 · hs.2.2)
  unfold entA at H1 H2
  have HB := hid (below_walk2 w (.cells (chgV c).toArray 82) (.cells (chgV zC).toArray 82))
  have HE := hid ((Cb.new w c).below (below_walk (w.alloc (.cells (chgV c).toArray 82)) (.cells (chgV zC).toArray 82)))
  have HN := hid (Cb.new (w.alloc (.cells (chgV c).toArray 82)) zC)
  rw [show (w.alloc (.cells (chgV c).toArray 82)).heap.size = w.heap.size + 1 by simp] at HN
  have HU := hid Try.underlying82
  have HI := hid (info_chg7 c)
  have HO := hid (one_chg7 c)
  clear hs
  unfold chgA
  go_enter Try.func55, Try.ntmps55
  go_wp2_with fail
  change Hid (Below w.heap.size w ((w.alloc (.cells #[.string (mk c.1), .string (mk c.2.1.1), .int .i64 c.2.1.2.1, .string (mk c.2.1.2.2), .string (mk c.2.2.1), .int .i64 c.2.2.2.1, .string (mk c.2.2.2.2)] 82)).alloc (.cells #[.string ⟨#[]⟩, .string ⟨#[]⟩, .int .i64 0, .string ⟨#[]⟩, .string ⟨#[]⟩, .int .i64 0, .string ⟨#[]⟩] 82))) at HB
  change Hid (Cb ((w.alloc (.cells #[.string (mk c.1), .string (mk c.2.1.1), .int .i64 c.2.1.2.1, .string (mk c.2.1.2.2), .string (mk c.2.2.1), .int .i64 c.2.2.2.1, .string (mk c.2.2.2.2)] 82)).alloc (.cells #[.string ⟨#[]⟩, .string ⟨#[]⟩, .int .i64 0, .string ⟨#[]⟩, .string ⟨#[]⟩, .int .i64 0, .string ⟨#[]⟩] 82)) w.heap.size c) at HE
  change Hid (Cb ((w.alloc (.cells #[.string (mk c.1), .string (mk c.2.1.1), .int .i64 c.2.1.2.1, .string (mk c.2.1.2.2), .string (mk c.2.2.1), .int .i64 c.2.2.2.1, .string (mk c.2.2.2.2)] 82)).alloc (.cells #[.string ⟨#[]⟩, .string ⟨#[]⟩, .int .i64 0, .string ⟨#[]⟩, .string ⟨#[]⟩, .int .i64 0, .string ⟨#[]⟩] 82)) (w.heap.size + 1) zC) at HN
  generalize (w.alloc (.cells #[.string (mk c.1), .string (mk c.2.1.1), .int .i64 c.2.1.2.1, .string (mk c.2.1.2.2), .string (mk c.2.2.1), .int .i64 c.2.2.2.1, .string (mk c.2.2.2.2)] 82)).alloc (.cells #[.string ⟨#[]⟩, .string ⟨#[]⟩, .int .i64 0, .string ⟨#[]⟩, .string ⟨#[]⟩, .int .i64 0, .string ⟨#[]⟩] 82) = wz at *
  have HL := hid HE.out.lt
  obtain ⟨x0, x1, x2, x3, x4, x5, x6⟩ := HE.out.at
  have c0 := fun p : Bel wz => p.cell x0 HL.out
  have c1 := fun p : Bel wz => p.cell x1 HL.out
  have c2 := fun p : Bel wz => p.cell x2 HL.out
  have c3 := fun p : Bel wz => p.cell x3 HL.out
  have c4 := fun p : Bel wz => p.cell x4 HL.out
  have c5 := fun p : Bel wz => p.cell x5 HL.out
  have c6 := fun p : Bel wz => p.cell x6 HL.out
  have ib : Nonempty (Bel wz) := bel_some wz
  clear x0 x1 x2 x3 x4 x5 x6
  refine wp_region_bel_tail 10 (by kernel_rfl) (by kernel_rfl) ?_
  simp only [List.take_succ_cons, List.take_zero, List.drop_succ_cons, List.drop_zero]
  repeat (go_big_quiet_step (first | (go_at_call 47; with_reducible exact bel_of (H0.out _)) | (go_at_call 43; with_reducible exact bel_of (H1.out _)) | (go_at_call 43; with_reducible exact bel_of (H2.out _))))
  refine wpQuiet_nil ?_
  rintro w3 ⟨⟨w3', hb3⟩, hw3⟩
  obtain rfl : w3 = w3' := hw3
  have HB3 := hid (below_then HB.out hb3)
  have HN3 := hid (HN.out.below hb3)
  clear hb3 c0 c1 c2 c3 c4 c5 c6 ib HB HN HE HL
  have HT := hid HN3.out.there
  have HF := hid (HN3.out.all c)
  have HBF := hid (belowCs (show w.heap.size ≤ w.heap.size + 1 by omega) (chgV c) 0 _ HB3.out)
  go_wp2_with (refine wpList_store_mid (by rfl) 82 (.tmp 2) (.tmp 12) (by rfl) (w.heap.size + 1) 0 (chgV c).toArray (by rfl) (by rfl) HT.out HI.out HO.out ?_; clear HT)
  exact ret_row 2 82 rfl (w.heap.size + 1) rfl (chgV c) 82 HF.out _ Try.underlying82 rfl HI.out rfl ⟨rfl, HBF.out⟩

end Go.Proofs.Ytgldmepmeampeaa

/- The document's Size and Same. -/
namespace Go.Proofs.Ytgldmepmeampeaa
open Go.RowKit Go.BigFrame

set_option maxRecDepth 100000 in
set_option maxHeartbeats 1000000 in
theorem rsize_any (v : Value) (t : List Ent) (w : World) (h : Ents w v t) (hn : t.length ≤ 4611686018427387904) (hz : szP t ≤ 4611686018427387904) :
    Calls Try.prog 19 #[v] w fun r w' => r = .returned (.int .i64 (szP t : Nat)) ∧ w' = w := by
  obtain ⟨ao, c, rfl⟩ := h.shape
  have H := hid h
  have HZ := hid hz
  clear h hz
  go_enter Try.func19, Try.ntmps19
  go_wp2
  go_loop [3, 4] (fun s i => ∃ k : Nat, i = .int .i64 k ∧ k ≤ t.length ∧ s = .int .i64 (szP (t.take k) : Nat)) (fun _ i => t.length - (intOf i).toNat)
  case atStart => exact ⟨0, rfl, Nat.zero_le _, rfl⟩
  case round =>
    obtain ⟨k, rfl, hk, rfl⟩ := hrel
    by_cases hlt : k < t.length
    · have q2 : (k : Int) < (t.length : Int) := by omega
      obtain ⟨g, o, rfl, hgl, hcell⟩ := H.out.at k hlt
      obtain ⟨e, HE⟩ : ∃ e, Hid (t.getD k zE = e) := ⟨_, rfl⟩
      rw [HE.out] at hcell
      obtain ⟨c0, c1, c2⟩ := hcell
      have HS := hid (show szP (t.take (k + 1)) = szP (t.take k) + e.2.2.length by rw [take_snoc t k hlt, szP_snoc, HE.out])
      have HT := hid (szP_take t (k + 1))
      obtain ⟨S, HSS⟩ : ∃ S : Nat, Hid (szP (t.take k) = S) := ⟨_, rfl⟩
      obtain ⟨M, HMM⟩ : ∃ M : Nat, Hid (szP (t.take (k + 1)) = M) := ⟨_, rfl⟩
      rw [HSS.out, HMM.out] at HS
      rw [HMM.out] at HT
      rw [HSS.out]
      have hdz : (mk e.2.2).size = e.2.2.length := mk_size _
      obtain ⟨D, HDD⟩ : ∃ D : Nat, Hid (e.2.2.length = D) := ⟨_, rfl⟩
      rw [HDD.out] at hdz HS
      have hw1 : IntKind.i64.wrap ((S : Int) + (D : Int)) = (M : Int) := by rw [IntKind.wrap_i64]; have := HS.out; have := HT.out; have := HZ.out; omega
      have hDl : D ≤ 4611686018427387904 := by have := HS.out; have := HT.out; have := HZ.out; omega
      generalize mk e.2.2 = sd at *
      go_wp2
      exact ⟨⟨k + 1, by simp, by omega, by rw [HMM.out]⟩, by simp [intOf]; omega⟩
    · have q2 : ¬ (k : Int) < (t.length : Int) := by omega
      obtain rfl : k = t.length := by omega
      rw [List.take_length]
      go_wp2
      go_ret
      exact ⟨rfl, rfl⟩

theorem ext_getD {a b : List Ent} (h : a.length = b.length) (hs : ∀ j, j < a.length → a.getD j zE = b.getD j zE) : a = b := by
  apply List.ext_getElem h
  intro i h1 h2
  have := hs i h1
  simpa [List.getD_eq_getElem?_getD, h1, h2] using this

set_option maxRecDepth 100000 in
set_option maxHeartbeats 1000000 in
theorem rsame_any (va vb : Value) (a b : List Ent) (w : World) (ha : Ents w va a) (hb : Ents w vb b) (hn : a.length ≤ 4611686018427387904) :
    Calls Try.prog 13 #[va, vb] w fun r w' => r = .returned (.bool (decide (a = b))) ∧ ∃ q, w' = w.drewN q := by
  obtain ⟨ao, ca, rfl⟩ := ha.shape
  obtain ⟨bo, cb, rfl⟩ := hb.shape
  have HA := hid ha
  have HB := hid hb
  by_cases hlen : a.length = b.length
  · have q1 : (a.length : Int) = (b.length : Int) := by omega
    have HL := hid hlen
    clear hlen ha hb
    go_enter Try.func13, Try.ntmps13
    go_wp2
    go_loopw [5] (fun i wr => ∃ k : Nat, i = .int .i64 k ∧ k ≤ a.length ∧ (∀ j, j < k → a.getD j zE = b.getD j zE) ∧ ∃ q, wr = w.drewN q) (fun i _ => a.length - (intOf i).toNat)
    case atStart => exact ⟨0, rfl, Nat.zero_le _, fun j hj => by omega, 0, rfl⟩
    case round =>
      obtain ⟨k, rfl, hk, hs, q, rfl⟩ := hrel
      have HS := hid hs
      clear hs
      by_cases hlt : k < a.length
      · have q2 : (k : Int) < (a.length : Int) := by omega
        have q2b : (k : Int) < (b.length : Int) := by omega
        obtain ⟨g, o, rfl, hgl, hcell⟩ := HA.out.at k hlt
        obtain ⟨g', o', rfl, hgl', hcell'⟩ := HB.out.at k (by have := HL.out; omega)
        obtain ⟨e, HE⟩ : ∃ e, Hid (a.getD k zE = e) := ⟨_, rfl⟩
        obtain ⟨f, HF⟩ : ∃ f, Hid (b.getD k zE = f) := ⟨_, rfl⟩
        rw [HE.out] at hcell
        rw [HF.out] at hcell'
        obtain ⟨c0, c1, c2⟩ := hcell
        obtain ⟨d0, d1, d2⟩ := hcell'
        have hg := entG
        have hne := fun W => neq_ent e f W
        obtain ⟨X, HX⟩ : ∃ X, Hid (decide (e = f) = X) := ⟨_, rfl⟩
        rw [HX.out] at hne
        have HNE := hid (fun (h : X = false) => show decide (a = b) = false from by
          rw [decide_eq_false_iff_not]
          rintro rfl
          rw [← HE.out, ← HF.out, h] at HX
          simpa using HX.out)
        have HEQ := hid (fun (h : X = true) => show ∀ j, j < k + 1 → a.getD j zE = b.getD j zE from by
          intro j hj
          by_cases hjk : j = k
          · subst hjk
            rw [HE.out, HF.out]
            have := HX.out
            rw [h, decide_eq_true_iff] at this
            exact this
          · exact HS.out j (by omega))
        clear HX
        generalize mk e.1 = s1 at *
        generalize mk e.2.2 = s2 at *
        generalize mk f.1 = s3 at *
        generalize mk f.2.2 = s4 at *
        generalize e.2.1 = k1 at *
        generalize f.2.1 = k2 at *
        cases X with
        | true =>
          have HEQ2 := hid (HEQ.out rfl)
          clear HEQ HNE
          go_wp2_with fail
          go_quiet (fail)
          go_wp2
          exact ⟨⟨k + 1, by simp, by omega, HEQ2.out, q + nq, by simp⟩, by simp [intOf]; omega⟩
        | false =>
          have HNE2 := hid (HNE.out rfl)
          clear HEQ HNE
          go_wp2_with fail
          go_quiet (fail)
          go_wp2
          go_ret
          exact ⟨ret_bb HNE2.out.symm, q + nq, by simp⟩
      · have q2 : ¬ (k : Int) < (a.length : Int) := by omega
        obtain rfl : k = a.length := by omega
        have HD := hid (show decide (a = b) = true by rw [decide_eq_true_iff]; exact ext_getD HL.out HS.out)
        go_wp2
        go_ret
        exact ⟨ret_bb HD.out.symm, q, rfl⟩
  · have q1 : ¬ (a.length : Int) = (b.length : Int) := by omega
    have q2 : ((a.length : Int) == (b.length : Int)) = false := by simp; omega
    have HD := hid (show decide (a = b) = false by rw [decide_eq_false_iff_not]; intro h; exact hlen (by rw [h]))
    clear hlen ha hb
    go_enter Try.func13, Try.ntmps13
    go_wp2
    go_ret
    exact ⟨ret_bb HD.out.symm, 0, rfl⟩

end Go.Proofs.Ytgldmepmeampeaa

/- The document's SameChanges. -/
namespace Go.Proofs.Ytgldmepmeampeaa
open Go.RowKit Go.BigFrame

theorem ext_getC {a b : List Chg} (h : a.length = b.length) (hs : ∀ j, j < a.length → a.getD j zC = b.getD j zC) : a = b := by
  apply List.ext_getElem h
  intro i h1 h2
  have := hs i h1
  simpa [List.getD_eq_getElem?_getD, h1, h2] using this
/-- the seven cells of one change -/
theorem Chgs.at7 {w : World} {ao : Option Addr} {n c : Nat} {cs : List Chg} (h : Chgs w (.slice ao n c) cs) (k : Nat) (hk : k < cs.length) (x : Chg) (hx : cs.getD k zC = x) :
    ∃ g o, ao = some ⟨g, o, none⟩ ∧ g < w.heap.size ∧ w.cell? ⟨g, o + k * 7, none⟩ = some (.string (mk x.1)) ∧ w.cell? ⟨g, o + k * 7 + 1, none⟩ = some (.string (mk x.2.1.1)) ∧ w.cell? ⟨g, o + k * 7 + 2, none⟩ = some (.int .i64 x.2.1.2.1) ∧ w.cell? ⟨g, o + k * 7 + 3, none⟩ = some (.string (mk x.2.1.2.2))
      ∧ w.cell? ⟨g, o + k * 7 + 4, none⟩ = some (.string (mk x.2.2.1)) ∧ w.cell? ⟨g, o + k * 7 + 5, none⟩ = some (.int .i64 x.2.2.2.1) ∧ w.cell? ⟨g, o + k * 7 + 6, none⟩ = some (.string (mk x.2.2.2.2)) := by
  obtain ⟨g, o, h1, h2, h3⟩ := h.at k hk
  rw [hx] at h3
  exact ⟨g, o, h1, h2, h3 0 _ rfl, h3 1 _ rfl, h3 2 _ rfl, h3 3 _ rfl, h3 4 _ rfl, h3 5 _ rfl, h3 6 _ rfl⟩

set_option maxRecDepth 100000 in
set_option maxHeartbeats 1000000 in
theorem rsameC_any (va vb : Value) (a b : List Chg) (w : World) (ha : Chgs w va a) (hb : Chgs w vb b) (hn : a.length ≤ 4611686018427387904) :
    Calls Try.prog 24 #[va, vb] w fun r w' => r = .returned (.bool (decide (a = b))) ∧ ∃ q, w' = w.drewN q := by
  obtain ⟨ao, ca, rfl⟩ := ha.shape
  obtain ⟨bo, cb, rfl⟩ := hb.shape
  have HA := hid ha
  have HB := hid hb
  by_cases hlen : a.length = b.length
  · have q1 : (a.length : Int) = (b.length : Int) := by omega
    have HL := hid hlen
    clear hlen ha hb
    go_enter Try.func24, Try.ntmps24
    go_wp2
    go_loopw [5] (fun i wr => ∃ k : Nat, i = .int .i64 k ∧ k ≤ a.length ∧ (∀ j, j < k → a.getD j zC = b.getD j zC) ∧ ∃ q, wr = w.drewN q) (fun i _ => a.length - (intOf i).toNat)
    case atStart => exact ⟨0, rfl, Nat.zero_le _, fun j hj => by omega, 0, rfl⟩
    case round =>
      obtain ⟨k, rfl, hk, hs, q, rfl⟩ := hrel
      have HS := hid hs
      clear hs
      by_cases hlt : k < a.length
      · have q2 : (k : Int) < (a.length : Int) := by omega
        have q2b : (k : Int) < (b.length : Int) := by omega
        obtain ⟨e, HE⟩ : ∃ e, Hid (a.getD k zC = e) := ⟨_, rfl⟩
        obtain ⟨f, HF⟩ : ∃ f, Hid (b.getD k zC = f) := ⟨_, rfl⟩
        obtain ⟨g, o, rfl, hgl, c0, c1, c2, c3, c4, c5, c6⟩ := HA.out.at7 k hlt e HE.out
        obtain ⟨g', o', rfl, hgl', d0, d1, d2, d3, d4, d5, d6⟩ := HB.out.at7 k (by have := HL.out; omega) f HF.out
        have hg := chgG
        have hne := fun W => neq_chg e f W
        unfold chgA at hne
        obtain ⟨X, HX⟩ : ∃ X, Hid (decide (e = f) = X) := ⟨_, rfl⟩
        rw [HX.out] at hne
        have HNE := hid (fun (h : X = false) => show decide (a = b) = false from by
          rw [decide_eq_false_iff_not]
          rintro rfl
          rw [← HE.out, ← HF.out, h] at HX
          simpa using HX.out)
        have HEQ := hid (fun (h : X = true) => show ∀ j, j < k + 1 → a.getD j zC = b.getD j zC from by
          intro j hj
          by_cases hjk : j = k
          · subst hjk
            rw [HE.out, HF.out]
            have := HX.out
            rw [h, decide_eq_true_iff] at this
            exact this
          · exact HS.out j (by omega))
        clear HX
        generalize mk e.1 = s1 at *
        generalize mk e.2.1.1 = s2 at *
        generalize e.2.1.2.1 = s3 at *
        generalize mk e.2.1.2.2 = s4 at *
        generalize mk e.2.2.1 = s5 at *
        generalize e.2.2.2.1 = s6 at *
        generalize mk e.2.2.2.2 = s7 at *
        generalize mk f.1 = r1 at *
        generalize mk f.2.1.1 = r2 at *
        generalize f.2.1.2.1 = r3 at *
        generalize mk f.2.1.2.2 = r4 at *
        generalize mk f.2.2.1 = r5 at *
        generalize f.2.2.2.1 = r6 at *
        generalize mk f.2.2.2.2 = r7 at *
        cases X with
        | true =>
          have HEQ2 := hid (HEQ.out rfl)
          clear HEQ HNE
          go_wp2_with fail
          go_quiet (fail)
          go_wp2
          exact ⟨⟨k + 1, by simp, by omega, HEQ2.out, q + nq, by simp⟩, by simp [intOf]; omega⟩
        | false =>
          have HNE2 := hid (HNE.out rfl)
          clear HEQ HNE
          go_wp2_with fail
          go_quiet (fail)
          go_wp2
          go_ret
          exact ⟨ret_bb HNE2.out.symm, q + nq, by simp⟩
      · have q2 : ¬ (k : Int) < (a.length : Int) := by omega
        obtain rfl : k = a.length := by omega
        have HD := hid (show decide (a = b) = true by rw [decide_eq_true_iff]; exact ext_getC HL.out HS.out)
        go_wp2
        go_ret
        exact ⟨ret_bb HD.out.symm, q, rfl⟩
  · have q1 : ¬ (a.length : Int) = (b.length : Int) := by omega
    have q2 : ((a.length : Int) == (b.length : Int)) = false := by simp; omega
    have HD := hid (show decide (a = b) = false by rw [decide_eq_false_iff_not]; intro h; exact hlen (by rw [h]))
    clear hlen ha hb
    go_enter Try.func24, Try.ntmps24
    go_wp2
    go_ret
    exact ⟨ret_bb HD.out.symm, 0, rfl⟩

end Go.Proofs.Ytgldmepmeampeaa

/- The document's Diff: what it answers, how far it has come, its turns; and its ways where a tree is not right. -/
namespace Go.Proofs.Ytgldmepmeampeaa
open Go.RowKit Go.BigFrame

/-- what Diff answers -/
def dfP (a b : List Ent) : Except Int (List Chg) := if (chkP a).2 ≠ 0 then .error (chkP a).2 else if (chkP b).2 ≠ 0 then .error (chkP b).2 else .ok (difP a b)
def AnsC (w' : World) (base : Nat) (r : Ending) (x : Except Int (List Chg)) : Prop := match x with
  | .ok t => ∃ v, r = .returned (.tuple #[v, .int .i64 0]) ∧ OwnC w' base v t
  | .error e => r = .returned (.tuple #[.slice none 0 0, .int .i64 e])
/-- how far Diff has come -/
structure DfS (w0 : World) (a b a' b' : List Ent) (cs : List Chg) (va vb vo : Value) (wr : World) : Prop where
  ea : Ents w0 va a'
  eb : Ents w0 vb b'
  ma : ∀ e ∈ a', mayP e = true
  mb : ∀ e ∈ b', mayP e = true
  own : OwnC wr w0.heap.size vo cs
  eq : cs ++ difP a' b' = difP a b
  len : cs.length + a'.length + b'.length ≤ 2048
  bel : Below w0.heap.size w0 wr

theorem difP_nil : difP [] [] = [] := by rw [difP]
theorem difP_left (x : Ent) (a : List Ent) : difP (x :: a) [] = (x.1, x, zE) :: difP a [] := by rw [difP]
theorem difP_right (y : Ent) (b : List Ent) : difP [] (y :: b) = (y.1, zE, y) :: difP [] b := by rw [difP]
theorem difP_lt {x y : Ent} (a b : List Ent) (h : ltP x.1 y.1 = true) (hx : okP x.1 = true) (hy : okP y.1 = true) : difP (x :: a) (y :: b) = (x.1, x, zE) :: difP a (y :: b) := by
  rw [difP, if_pos ((ltP_iff hx hy).1 h)]
theorem difP_gt {x y : Ent} (a b : List Ent) (h : ltP y.1 x.1 = true) (hx : okP x.1 = true) (hy : okP y.1 = true) : difP (x :: a) (y :: b) = (y.1, zE, y) :: difP (x :: a) b := by
  have h1 := (ltP_iff hy hx).1 h
  have h2 := cmpL_anti (nms x.1) (nms y.1)
  rw [difP, if_neg (by omega), if_neg (by omega)]
theorem difP_eq {x y : Ent} (a b : List Ent) (h : ltP x.1 y.1 = false) (h' : ltP y.1 x.1 = false) (hx : okP x.1 = true) (hy : okP y.1 = true) : difP (x :: a) (y :: b) = (if x = y then [] else [(x.1, x, y)]) ++ difP a b := by
  have h1 : ¬ cmpL (nms x.1) (nms y.1) < 0 := fun h2 => by rw [(ltP_iff hx hy).2 h2] at h; cases h
  have h2 : ¬ cmpL (nms y.1) (nms x.1) < 0 := fun h3 => by rw [(ltP_iff hy hx).2 h3] at h'; cases h'
  have h3 := cmpL_anti (nms x.1) (nms y.1)
  rw [difP, if_neg h1, if_pos (by omega)]
/-- a turn that adds a change: the rest of both, as the memory holds them, and the list that has grown -/
theorem DfS.more {w0 wr wr' : World} {a b a' b' a2 b2 : List Ent} {cs : List Chg} {va vb vo va2 vb2 vo2 : Value} {c : Chg} (h : DfS w0 a b a' b' cs va vb vo wr) (hd : difP a' b' = c :: difP a2 b2)
    (sa : ∀ e ∈ a2, e ∈ a') (sb : ∀ e ∈ b2, e ∈ b') (hl : a2.length + b2.length + 1 ≤ a'.length + b'.length) (ea : Ents w0 va2 a2) (eb : Ents w0 vb2 b2) (ho : OwnC wr' w0.heap.size vo2 (cs ++ [c])) (hb : Below w0.heap.size w0 wr') :
    DfS w0 a b a2 b2 (cs ++ [c]) va2 vb2 vo2 wr' :=
  ⟨ea, eb, fun e he => h.ma e (sa e he), fun e he => h.mb e (sb e he), ho, by rw [← h.eq, hd, List.append_assoc]; rfl, by have := h.len; simp; omega, hb⟩
/-- a turn that adds none -/
theorem DfS.none {w0 wr wr' : World} {a b a' b' a2 b2 : List Ent} {cs : List Chg} {va vb vo va2 vb2 : Value} (h : DfS w0 a b a' b' cs va vb vo wr) (hd : difP a' b' = difP a2 b2)
    (sa : ∀ e ∈ a2, e ∈ a') (sb : ∀ e ∈ b2, e ∈ b') (hl : a2.length + b2.length ≤ a'.length + b'.length) (ea : Ents w0 va2 a2) (eb : Ents w0 vb2 b2) (ho : OwnC wr' w0.heap.size vo cs) (hb : Below w0.heap.size w0 wr') :
    DfS w0 a b a2 b2 cs va2 vb2 vo wr' :=
  ⟨ea, eb, fun e he => h.ma e (sa e he), fun e he => h.mb e (sb e he), ho, by rw [← h.eq, hd], by have := h.len; omega, hb⟩

set_option maxRecDepth 100000 in
set_option maxHeartbeats 4000000 in
theorem rdiff_bad (va vb : Value) (a b : List Ent) (w : World) (ha : Ents w va a) (hb : Ents w vb b) (hla : Bulk a) (hlb : Bulk b) (hna : a.length ≤ 4611686018427387904) (hnb : b.length ≤ 4611686018427387904) (hbad : ¬ ((chkP a).2 = 0 ∧ (chkP b).2 = 0)) :
    Calls Try.prog 23 #[va, vb] w fun r w' => AnsC w' w.heap.size r (dfP a b) ∧ Below w.heap.size w w' := by
  have H1 := hid (rcheck_any va a w ha hla hna)
  have H2 := hid (fun w2 (hw : Below w.heap.size w w2) => rcheck_any vb b w2 (hb.below hw) hlb hnb)
  have HA := hid ha
  have HB := hid hb
  obtain ⟨ao, ca, rfl⟩ := ha.shape
  obtain ⟨bo, cb, rfl⟩ := hb.shape
  obtain ⟨E1, HE1⟩ : ∃ E : Int, Hid ((chkP a).2 = E) := ⟨_, rfl⟩
  obtain ⟨E2, HE2⟩ : ∃ E : Int, Hid ((chkP b).2 = E) := ⟨_, rfl⟩
  rw [HE1.out] at H1
  rw [HE2.out] at H2
  have HP := hid (show dfP a b = if E1 ≠ 0 then .error E1 else if E2 ≠ 0 then .error E2 else .ok (difP a b) by unfold dfP; rw [HE1.out, HE2.out])
  generalize (chkP a).1 = N1 at *
  generalize (chkP b).1 = N2 at *
  clear ha hb hla hlb
  by_cases h1 : E1 = 0
  · subst h1
    by_cases h2 : E2 = 0
    · subst h2
      exact absurd ⟨HE1.out, HE2.out⟩ hbad
    · rw [if_neg (by simp), if_pos h2] at HP
      have e2 : (E2 == 0) = false := by simpa using h2
      go_enter Try.func23, Try.ntmps23
      go_wp2_with fail
      refine H1.out.mono ?_
      rintro r w1 ⟨rfl, hb1⟩
      have HB1 := hid hb1
      clear hb1 H1
      go_wp2_with fail
      refine (H2.out w1 HB1.out).mono ?_
      rintro r w2 ⟨rfl, hb2⟩
      have HB2 := hid (below_then HB1.out hb2)
      clear hb2 H2 HB1
      go_wp2
      go_ret2
      rw [HP.out]
      exact ⟨rfl, HB2.out⟩
  · rw [if_pos h1] at HP
    have e1 : (E1 == 0) = false := by simpa using h1
    go_enter Try.func23, Try.ntmps23
    go_wp2_with fail
    refine H1.out.mono ?_
    rintro r w1 ⟨rfl, hb1⟩
    have HB1 := hid hb1
    clear hb1 H1
    go_wp2
    go_ret2
    rw [HP.out]
    exact ⟨rfl, HB1.out⟩

end Go.Proofs.Ytgldmepmeampeaa

/- The program's Diff. -/
namespace Go.Proofs.Ytgldmepmeampeaa
open Go.RowKit Go.BigFrame

theorem may_shr {e : Ent} (h : mayP e = true) : Shr e := by
  have h1 := okP_short (mayP_ok h)
  refine ⟨by omega, ?_⟩
  unfold mayP at h
  simp only [Bool.and_eq_true, decide_eq_true_iff] at h
  rcases h.2 with h2 | h2 | h2
  · omega
  · rw [h2.2]; simp
  · omega
theorem zE_shr : Shr zE := ⟨by simp [zE], by simp [zE]⟩
theorem firP_shr {a b : List Ent} (ha : ∀ e ∈ a, mayP e = true) (hb : ∀ e ∈ b, mayP e = true) : ShrC (firP a b) := by
  match a, b with
  | [], [] => exact ⟨by simp [firP], zE_shr, zE_shr⟩
  | x :: a, [] => exact ⟨(may_shr (ha x (by simp))).1, may_shr (ha x (by simp)), zE_shr⟩
  | [], y :: b => exact ⟨(may_shr (hb y (by simp))).1, zE_shr, may_shr (hb y (by simp))⟩
  | x :: a, y :: b =>
    have hx := may_shr (ha x (by simp))
    have hy := may_shr (hb y (by simp))
    unfold firP
    dsimp only
    split
    · exact ⟨hx.1, hx, zE_shr⟩
    · split
      · exact ⟨hy.1, hx, hy⟩
      · exact ⟨hy.1, zE_shr, hy⟩
theorem firP_old {a b : List Ent} (h : (firP a b).2.1.2.1 ≠ 0) : a ≠ [] := by
  rintro rfl
  match b with
  | [] => exact h rfl
  | y :: b => exact h rfl
theorem firP_new {a b : List Ent} (h : (firP a b).2.2.2.1 ≠ 0) : b ≠ [] := by
  rintro rfl
  match a with
  | [] => exact h rfl
  | y :: b => exact h rfl
theorem firP_one {a b : List Ent} (ha : ∀ e ∈ a, mayP e = true) (hb : ∀ e ∈ b, mayP e = true) (h : a ≠ [] ∨ b ≠ []) : (firP a b).2.1.2.1 ≠ 0 ∨ (firP a b).2.2.2.1 ≠ 0 := by
  match a, b with
  | [], [] => exact absurd rfl (h.elim id id)
  | x :: a, [] => exact Or.inl (may_kind (ha x (by simp)))
  | [], y :: b => exact Or.inr (may_kind (hb y (by simp)))
  | x :: a, y :: b =>
    have hx := may_kind (ha x (by simp))
    have hy := may_kind (hb y (by simp))
    unfold firP
    dsimp only
    split
    · exact Or.inl hx
    · split
      · exact Or.inl hx
      · exact Or.inr hy

theorem DfS.go' {w0 wr w3 : World} {a b a' b' : List Ent} {cs : List Chg} {va vb vo : Value} (h : DfS w0 a b a' b' cs va vb vo wr) (hb : Below wr.heap.size wr w3) : DfS w0 a b a' b' cs va vb vo w3 :=
  ⟨h.ea, h.eb, h.ma, h.mb, h.own.below hb, h.eq, h.len, below_then h.bel hb⟩
theorem rgtP_two (a b : List Ent) : rgtP [a, b] = if (chkP a).2 ≠ 0 then (chkP a).2 else (chkP b).2 := by
  unfold rgtP
  by_cases h : (chkP a).2 = 0
  · simp [h, rgtP]
    exact fun h => h.symm
  · simp [h]
/-- the rest of one side, behind its first or whole -/
theorem ents_rest {w0 : World} {ao : Option Addr} {n c : Nat} {a : List Ent} (h : Ents w0 (.slice ao n c) a) (hne : a ≠ []) :
    ∃ a1 m1 c1, Ents w0 (.slice a1 m1 c1) (a.drop 1) ∧ m1 + 1 = n ∧ (1 : Int) ≤ (n : Int) ∧
      ∀ W, (Instr.slice 22 (.slice ao n c) (some (.int .i64 1)) none none).run Try.prog W = .ok (.slice a1 m1 c1) W := by
  have hl : 0 < a.length := List.length_pos_iff.2 hne
  obtain ⟨vx, hvx, hs⟩ := ecut_from h 1 hl
  obtain ⟨a1, c1, e1⟩ := hvx.shape
  obtain ⟨a2, c2, e2⟩ := h.shape
  subst e1
  injection e2 with _ e2 _
  exact ⟨a1, _, c1, hvx, by rw [e2, List.length_drop]; omega, by rw [e2]; omega, hs⟩

set_option maxRecDepth 100000 in
set_option maxHeartbeats 4000000 in
theorem diff_ok (va vb : Value) (a b : List Ent) (w : World) (ha : Ents w va a) (hb : Ents w vb b) (hsa : Short a) (hsb : Short b) (hra : Rgt a) (hrb : Rgt b) :
    Calls Try.prog 22 #[va, vb] w fun r w' => AnsC w' w.heap.size r (.ok (difP a b)) ∧ Below w.heap.size w w' := by
  have HR := hid (right_any _ [a, b] _ (trs_two w va vb a b 22 ha hb) (by simp) (fun x hx => by
    simp only [List.mem_cons, List.not_mem_nil, or_false] at hx
    rcases hx with rfl | rfl
    · exact ⟨hsa, by have := hra.many; omega⟩
    · exact ⟨hsb, by have := hrb.many; omega⟩))
  rw [rgtP_two, if_neg (by simpa using rgt_iff.2 hra), rgt_iff.2 hrb] at HR
  have HB0 := hid (below_walk w (.cells #[va, vb] 22))
  have HS0 := hid (fun w2 (hw : Below w.heap.size w w2) => (⟨ha, hb, hra.may, hrb.may, OwnC.nil _ _, rfl, by have := hra.many; have := hrb.many; simp; omega, hw⟩ : DfS w a b a b [] va vb (.slice none 0 0) w2))
  obtain ⟨ao, ca, rfl⟩ := ha.shape
  obtain ⟨bo, cb, rfl⟩ := hb.shape
  clear ha hb hsa hsb hra hrb
  go_enter Try.func22, Try.ntmps22
  go_wp2_with fail
  refine HR.out.mono ?_
  rintro r w1 ⟨rfl, hb1⟩
  have HB1 := hid (below_then HB0.out hb1)
  clear hb1 HR HB0
  go_wp2
  go_loopw [0, 1, 7] (fun x y o wr => ∃ a' b' cs, DfS w a b a' b' cs x y o wr) (fun x y _ _ => lenV x + lenV y)
  case atStart => exact ⟨a, b, [], HS0.out w1 HB1.out⟩
  case round =>
    obtain ⟨a', b', cs, hst⟩ := hrel
    have HST := hid hst
    obtain ⟨aa, xa, e1⟩ := hst.ea.shape
    obtain ⟨ab, xb, e2⟩ := hst.eb.shape
    obtain ⟨ac, xc, e3⟩ := hst.own.chgs.shape
    subst e1 e2 e3
    clear hst HS0 HB1
    by_cases hend : a' = [] ∧ b' = []
    · obtain ⟨rfl, rfl⟩ := hend
      have HF := hid HST.out.eq
      rw [difP_nil, List.append_nil] at HF
      go_wp2
      go_ret2
      exact ⟨⟨_, rfl, by rw [← HF.out]; exact HST.out.own⟩, HST.out.bel⟩
    · have hne : a' ≠ [] ∨ b' ≠ [] := by
        by_cases h : a' = []
        · exact Or.inr (fun h2 => hend ⟨h, h2⟩)
        · exact Or.inl h
      have HFO := hid (firstOf_any _ _ a' b' wr (HST.out.ea.below HST.out.bel) (HST.out.eb.below HST.out.bel) HST.out.ma HST.out.mb hne)
      have HDS := hid (difP_step HST.out.ma HST.out.mb hne)
      have HSH := hid (firP_shr HST.out.ma HST.out.mb)
      have HON := hid (firP_one HST.out.ma HST.out.mb hne)
      have HOL := hid (firP_old (a := a') (b := b'))
      have HNW := hid (firP_new (a := a') (b := b'))
      generalize firP a' b' = c at *
      obtain ⟨n1, HN1⟩ : ∃ n : Nat, Hid (a'.length = n) := ⟨_, rfl⟩
      obtain ⟨n2, HN2⟩ : ∃ n : Nat, Hid (b'.length = n) := ⟨_, rfl⟩
      obtain ⟨nc, HNC⟩ : ∃ n : Nat, Hid (cs.length = n) := ⟨_, rfl⟩
      rw [HN1.out] at HST HFO ⊢
      rw [HN2.out] at HST HFO ⊢
      rw [HNC.out] at HST ⊢
      have HU := hid Try.underlying82
      have HI := hid (info_chg7 c)
      have HO := hid (one_chg7 c)
      have HOC := hid (ownChange_any c · HSH.out)
      unfold chgA at HFO HOC
      have hg := entG
      have hne := fun W => neq_ent c.2.1 c.2.2 W
      obtain ⟨K1, HK1⟩ : ∃ K, Hid (c.2.1.2.1 = K) := ⟨_, rfl⟩
      obtain ⟨K2, HK2⟩ : ∃ K, Hid (c.2.2.2.1 = K) := ⟨_, rfl⟩
      clear hend
      have HLN := hid (show cs.length + 1 ≤ 1099511627776 by have := HST.out.len; omega)
      rw [HK1.out, HK2.out] at HDS
      rw [HK1.out] at HOL
      rw [HK2.out] at HNW
      rw [HK1.out, HK2.out] at HON
      by_cases hk1 : K1 = 0
      ·
        have hk2 : K2 ≠ 0 := HON.out.resolve_left (fun h => h hk1)
        have hcc : ¬ c.2.1 = c.2.2 := fun h => hk2 (by rw [← HK2.out, ← h, HK1.out, hk1])
        subst hk1
        by_cases hz : 0 < n1
        ·
          obtain ⟨q2, m2, r2, hv2, hm2, hp2, hs2⟩ := ents_rest HST.out.eb (HNW.out hk2)
          have HV2 := hid hv2
          have HM2 := hid hm2
          clear hv2 hm2
          have hn2 : (0 : Int) < (n2 : Int) := by omega
          have e2 : (K2 == 0) = false := by simpa using hk2
          have hn1 : (0 : Int) < (n1 : Int) := by omega
          rw [if_neg hcc] at HDS
          rw [if_pos rfl, if_neg hk2] at HDS
          rw [decide_eq_false hcc] at hne
          clear hcc HOL HNW HON
          go_wp2_with fail
          refine HFO.out.mono ?_
          rintro r w3 ⟨rfl, hb3⟩
          have HST3 := hid (HST.out.go' hb3)
          clear hb3 HST HFO
          have HT := hid (Cb.new w3 zC).there
          have HC4 := hid ((Cb.new w3 zC).all c)
          have HB4 := hid (belowCs (Nat.le_refl _) (chgV c) 0 _ (below_walk w3 (.cells #[.string ⟨#[]⟩, .string ⟨#[]⟩, .int .i64 0, .string ⟨#[]⟩, .string ⟨#[]⟩, .int .i64 0, .string ⟨#[]⟩] 82)))
          change Hid (Cb ((w3.alloc (.cells #[.string ⟨#[]⟩, .string ⟨#[]⟩, .int .i64 0, .string ⟨#[]⟩, .string ⟨#[]⟩, .int .i64 0, .string ⟨#[]⟩] 82)).setCells w3.heap.size 0 (chgV c).toArray.toList) w3.heap.size c) at HC4
          change Hid (Below w3.heap.size w3 ((w3.alloc (.cells #[.string ⟨#[]⟩, .string ⟨#[]⟩, .int .i64 0, .string ⟨#[]⟩, .string ⟨#[]⟩, .int .i64 0, .string ⟨#[]⟩] 82)).setCells w3.heap.size 0 (chgV c).toArray.toList)) at HB4
          go_wp2_with (first | (refine wpList_store_mid (by rfl) 82 (.tmp 8) (.tmp 26) (by rfl) w3.heap.size 0 (chgV c).toArray (by rfl) (by rfl) HT.out HI.out HO.out ?_; clear HT; obtain ⟨w4, hw4⟩ : ∃ w4, w4 = (w3.alloc (.cells #[.string ⟨#[]⟩, .string ⟨#[]⟩, .int .i64 0, .string ⟨#[]⟩, .string ⟨#[]⟩, .int .i64 0, .string ⟨#[]⟩] 82)).setCells w3.heap.size 0 (chgV c).toArray.toList := ⟨_, rfl⟩; rw [← hw4] at HC4 HB4 ⊢; clear hw4; have HST4 := hid (HST3.out.go' HB4.out); obtain ⟨C, HC⟩ : ∃ C : Nat, Hid (w3.heap.size = C) := ⟨_, rfl⟩; rw [HC.out] at HC4 ⊢; clear HB4 HST3; obtain ⟨z0, z1, z2, z3, z4, z5, z6⟩ := HC4.out.at; rw [HK1.out] at z2; rw [HK2.out] at z5; have HRG := hid HC4.out.range) | (refine wpList_load_mid (by rfl) 82 (.tmp 8) (by rfl) C 0 (by rfl) (chgV c) _ HRG.out HU.out rfl HI.out ?_; clear HRG) | (go_at_call 55; refine (HOC.out _).mono ?_; rintro r w5 ⟨rfl, hb5⟩; have HST5 := hid (HST4.out.go' hb5); clear hb5; have HEN := hid (chgs_one w5 c); have HO6 := hid (HST5.out.own.below (below_walk w5 (.cells (chgV c).toArray 82))); have HB6 := hid (HST5.out.bel.alloc HST5.out.bel.size (.cells (chgV c).toArray 82))) | (at_builtin; refine app_chg rfl _ _ rfl w.heap.size _ cs rfl HO6.out [c] _ rfl HEN.out HLN.out HB6.out.size ?_; intro v7 w7 ho7 hg7 _; have HO7 := hid ho7; have HB7 := hid (HB6.out.grown hg7 HB6.out.size (fun j hj => (HO6.out.lt j hj).1)); obtain ⟨a7, c7, h7⟩ := ho7.chgs.shape; generalize (cs ++ [c]).length = n7 at h7; subst h7; clear ho7 hg7))
          exact ⟨⟨_, _, _, HST5.out.more (va2 := .slice aa n1 xa) (vb2 := .slice q2 m2 r2) HDS.out (fun e he => he) (fun e he => List.mem_of_mem_drop he) (by have := HM2.out; have := HN1.out; have := HN2.out; simp only [List.length_drop]; omega) HST5.out.ea HV2.out HO7.out HB7.out⟩, by have := HM2.out; simp [lenV]; omega⟩
        ·
          obtain ⟨q2, m2, r2, hv2, hm2, hp2, hs2⟩ := ents_rest HST.out.eb (HNW.out hk2)
          have HV2 := hid hv2
          have HM2 := hid hm2
          clear hv2 hm2
          have hn2 : (0 : Int) < (n2 : Int) := by omega
          have e2 : (K2 == 0) = false := by simpa using hk2
          have hn1 : ¬ (0 : Int) < (n1 : Int) := by omega
          rw [if_neg hcc] at HDS
          rw [if_pos rfl, if_neg hk2] at HDS
          rw [decide_eq_false hcc] at hne
          clear hcc HOL HNW HON
          go_wp2_with fail
          refine HFO.out.mono ?_
          rintro r w3 ⟨rfl, hb3⟩
          have HST3 := hid (HST.out.go' hb3)
          clear hb3 HST HFO
          have HT := hid (Cb.new w3 zC).there
          have HC4 := hid ((Cb.new w3 zC).all c)
          have HB4 := hid (belowCs (Nat.le_refl _) (chgV c) 0 _ (below_walk w3 (.cells #[.string ⟨#[]⟩, .string ⟨#[]⟩, .int .i64 0, .string ⟨#[]⟩, .string ⟨#[]⟩, .int .i64 0, .string ⟨#[]⟩] 82)))
          change Hid (Cb ((w3.alloc (.cells #[.string ⟨#[]⟩, .string ⟨#[]⟩, .int .i64 0, .string ⟨#[]⟩, .string ⟨#[]⟩, .int .i64 0, .string ⟨#[]⟩] 82)).setCells w3.heap.size 0 (chgV c).toArray.toList) w3.heap.size c) at HC4
          change Hid (Below w3.heap.size w3 ((w3.alloc (.cells #[.string ⟨#[]⟩, .string ⟨#[]⟩, .int .i64 0, .string ⟨#[]⟩, .string ⟨#[]⟩, .int .i64 0, .string ⟨#[]⟩] 82)).setCells w3.heap.size 0 (chgV c).toArray.toList)) at HB4
          go_wp2_with (first | (refine wpList_store_mid (by rfl) 82 (.tmp 8) (.tmp 26) (by rfl) w3.heap.size 0 (chgV c).toArray (by rfl) (by rfl) HT.out HI.out HO.out ?_; clear HT; obtain ⟨w4, hw4⟩ : ∃ w4, w4 = (w3.alloc (.cells #[.string ⟨#[]⟩, .string ⟨#[]⟩, .int .i64 0, .string ⟨#[]⟩, .string ⟨#[]⟩, .int .i64 0, .string ⟨#[]⟩] 82)).setCells w3.heap.size 0 (chgV c).toArray.toList := ⟨_, rfl⟩; rw [← hw4] at HC4 HB4 ⊢; clear hw4; have HST4 := hid (HST3.out.go' HB4.out); obtain ⟨C, HC⟩ : ∃ C : Nat, Hid (w3.heap.size = C) := ⟨_, rfl⟩; rw [HC.out] at HC4 ⊢; clear HB4 HST3; obtain ⟨z0, z1, z2, z3, z4, z5, z6⟩ := HC4.out.at; rw [HK1.out] at z2; rw [HK2.out] at z5; have HRG := hid HC4.out.range) | (refine wpList_load_mid (by rfl) 82 (.tmp 8) (by rfl) C 0 (by rfl) (chgV c) _ HRG.out HU.out rfl HI.out ?_; clear HRG) | (go_at_call 55; refine (HOC.out _).mono ?_; rintro r w5 ⟨rfl, hb5⟩; have HST5 := hid (HST4.out.go' hb5); clear hb5; have HEN := hid (chgs_one w5 c); have HO6 := hid (HST5.out.own.below (below_walk w5 (.cells (chgV c).toArray 82))); have HB6 := hid (HST5.out.bel.alloc HST5.out.bel.size (.cells (chgV c).toArray 82))) | (at_builtin; refine app_chg rfl _ _ rfl w.heap.size _ cs rfl HO6.out [c] _ rfl HEN.out HLN.out HB6.out.size ?_; intro v7 w7 ho7 hg7 _; have HO7 := hid ho7; have HB7 := hid (HB6.out.grown hg7 HB6.out.size (fun j hj => (HO6.out.lt j hj).1)); obtain ⟨a7, c7, h7⟩ := ho7.chgs.shape; generalize (cs ++ [c]).length = n7 at h7; subst h7; clear ho7 hg7))
          exact ⟨⟨_, _, _, HST5.out.more (va2 := .slice aa n1 xa) (vb2 := .slice q2 m2 r2) HDS.out (fun e he => he) (fun e he => List.mem_of_mem_drop he) (by have := HM2.out; have := HN1.out; have := HN2.out; simp only [List.length_drop]; omega) HST5.out.ea HV2.out HO7.out HB7.out⟩, by have := HM2.out; simp [lenV]; omega⟩
      ·
        by_cases hk2 : K2 = 0
        ·
          have hcc : ¬ c.2.1 = c.2.2 := fun h => hk1 (by rw [← HK1.out, h, HK2.out, hk2])
          subst hk2
          obtain ⟨q1, m1, r1, hv1, hm1, hp1, hs1⟩ := ents_rest HST.out.ea (HOL.out hk1)
          have HV1 := hid hv1
          have HM1 := hid hm1
          clear hv1 hm1
          have hn1 : (0 : Int) < (n1 : Int) := by omega
          have e1 : (K1 == 0) = false := by simpa using hk1
          rw [if_neg hcc] at HDS
          rw [if_neg hk1, if_pos rfl] at HDS
          rw [decide_eq_false hcc] at hne
          clear hcc HOL HNW HON
          go_wp2_with fail
          refine HFO.out.mono ?_
          rintro r w3 ⟨rfl, hb3⟩
          have HST3 := hid (HST.out.go' hb3)
          clear hb3 HST HFO
          have HT := hid (Cb.new w3 zC).there
          have HC4 := hid ((Cb.new w3 zC).all c)
          have HB4 := hid (belowCs (Nat.le_refl _) (chgV c) 0 _ (below_walk w3 (.cells #[.string ⟨#[]⟩, .string ⟨#[]⟩, .int .i64 0, .string ⟨#[]⟩, .string ⟨#[]⟩, .int .i64 0, .string ⟨#[]⟩] 82)))
          change Hid (Cb ((w3.alloc (.cells #[.string ⟨#[]⟩, .string ⟨#[]⟩, .int .i64 0, .string ⟨#[]⟩, .string ⟨#[]⟩, .int .i64 0, .string ⟨#[]⟩] 82)).setCells w3.heap.size 0 (chgV c).toArray.toList) w3.heap.size c) at HC4
          change Hid (Below w3.heap.size w3 ((w3.alloc (.cells #[.string ⟨#[]⟩, .string ⟨#[]⟩, .int .i64 0, .string ⟨#[]⟩, .string ⟨#[]⟩, .int .i64 0, .string ⟨#[]⟩] 82)).setCells w3.heap.size 0 (chgV c).toArray.toList)) at HB4
          go_wp2_with (first | (refine wpList_store_mid (by rfl) 82 (.tmp 8) (.tmp 26) (by rfl) w3.heap.size 0 (chgV c).toArray (by rfl) (by rfl) HT.out HI.out HO.out ?_; clear HT; obtain ⟨w4, hw4⟩ : ∃ w4, w4 = (w3.alloc (.cells #[.string ⟨#[]⟩, .string ⟨#[]⟩, .int .i64 0, .string ⟨#[]⟩, .string ⟨#[]⟩, .int .i64 0, .string ⟨#[]⟩] 82)).setCells w3.heap.size 0 (chgV c).toArray.toList := ⟨_, rfl⟩; rw [← hw4] at HC4 HB4 ⊢; clear hw4; have HST4 := hid (HST3.out.go' HB4.out); obtain ⟨C, HC⟩ : ∃ C : Nat, Hid (w3.heap.size = C) := ⟨_, rfl⟩; rw [HC.out] at HC4 ⊢; clear HB4 HST3; obtain ⟨z0, z1, z2, z3, z4, z5, z6⟩ := HC4.out.at; rw [HK1.out] at z2; rw [HK2.out] at z5; have HRG := hid HC4.out.range) | (refine wpList_load_mid (by rfl) 82 (.tmp 8) (by rfl) C 0 (by rfl) (chgV c) _ HRG.out HU.out rfl HI.out ?_; clear HRG) | (go_at_call 55; refine (HOC.out _).mono ?_; rintro r w5 ⟨rfl, hb5⟩; have HST5 := hid (HST4.out.go' hb5); clear hb5; have HEN := hid (chgs_one w5 c); have HO6 := hid (HST5.out.own.below (below_walk w5 (.cells (chgV c).toArray 82))); have HB6 := hid (HST5.out.bel.alloc HST5.out.bel.size (.cells (chgV c).toArray 82))) | (at_builtin; refine app_chg rfl _ _ rfl w.heap.size _ cs rfl HO6.out [c] _ rfl HEN.out HLN.out HB6.out.size ?_; intro v7 w7 ho7 hg7 _; have HO7 := hid ho7; have HB7 := hid (HB6.out.grown hg7 HB6.out.size (fun j hj => (HO6.out.lt j hj).1)); obtain ⟨a7, c7, h7⟩ := ho7.chgs.shape; generalize (cs ++ [c]).length = n7 at h7; subst h7; clear ho7 hg7))
          exact ⟨⟨_, _, _, HST5.out.more (va2 := .slice q1 m1 r1) (vb2 := .slice ab n2 xb) HDS.out (fun e he => List.mem_of_mem_drop he) (fun e he => he) (by have := HM1.out; have := HN1.out; have := HN2.out; simp only [List.length_drop]; omega) HV1.out HST5.out.eb HO7.out HB7.out⟩, by have := HM1.out; simp [lenV]; omega⟩
        ·
          by_cases hcc : c.2.1 = c.2.2
          ·
            obtain ⟨q1, m1, r1, hv1, hm1, hp1, hs1⟩ := ents_rest HST.out.ea (HOL.out hk1)
            have HV1 := hid hv1
            have HM1 := hid hm1
            clear hv1 hm1
            have hn1 : (0 : Int) < (n1 : Int) := by omega
            have e1 : (K1 == 0) = false := by simpa using hk1
            obtain ⟨q2, m2, r2, hv2, hm2, hp2, hs2⟩ := ents_rest HST.out.eb (HNW.out hk2)
            have HV2 := hid hv2
            have HM2 := hid hm2
            clear hv2 hm2
            have hn2 : (0 : Int) < (n2 : Int) := by omega
            have e2 : (K2 == 0) = false := by simpa using hk2
            rw [if_pos hcc] at HDS
            rw [if_neg hk1, if_neg hk2] at HDS
            rw [decide_eq_true hcc] at hne
            simp only [HK1.out, HK2.out] at hne
            clear hcc HOL HNW HON
            go_wp2_with fail
            refine HFO.out.mono ?_
            rintro r w3 ⟨rfl, hb3⟩
            have HST3 := hid (HST.out.go' hb3)
            clear hb3 HST HFO
            have HT := hid (Cb.new w3 zC).there
            have HC4 := hid ((Cb.new w3 zC).all c)
            have HB4 := hid (belowCs (Nat.le_refl _) (chgV c) 0 _ (below_walk w3 (.cells #[.string ⟨#[]⟩, .string ⟨#[]⟩, .int .i64 0, .string ⟨#[]⟩, .string ⟨#[]⟩, .int .i64 0, .string ⟨#[]⟩] 82)))
            change Hid (Cb ((w3.alloc (.cells #[.string ⟨#[]⟩, .string ⟨#[]⟩, .int .i64 0, .string ⟨#[]⟩, .string ⟨#[]⟩, .int .i64 0, .string ⟨#[]⟩] 82)).setCells w3.heap.size 0 (chgV c).toArray.toList) w3.heap.size c) at HC4
            change Hid (Below w3.heap.size w3 ((w3.alloc (.cells #[.string ⟨#[]⟩, .string ⟨#[]⟩, .int .i64 0, .string ⟨#[]⟩, .string ⟨#[]⟩, .int .i64 0, .string ⟨#[]⟩] 82)).setCells w3.heap.size 0 (chgV c).toArray.toList)) at HB4
            go_wp2_with (refine wpList_store_mid (by rfl) 82 (.tmp 8) (.tmp 26) (by rfl) w3.heap.size 0 (chgV c).toArray (by rfl) (by rfl) HT.out HI.out HO.out ?_; clear HT; obtain ⟨w4, hw4⟩ : ∃ w4, w4 = (w3.alloc (.cells #[.string ⟨#[]⟩, .string ⟨#[]⟩, .int .i64 0, .string ⟨#[]⟩, .string ⟨#[]⟩, .int .i64 0, .string ⟨#[]⟩] 82)).setCells w3.heap.size 0 (chgV c).toArray.toList := ⟨_, rfl⟩; rw [← hw4] at HC4 HB4 ⊢; clear hw4; have HST4 := hid (HST3.out.go' HB4.out); obtain ⟨C, HC⟩ : ∃ C : Nat, Hid (w3.heap.size = C) := ⟨_, rfl⟩; rw [HC.out] at HC4 ⊢; clear HB4 HST3; obtain ⟨z0, z1, z2, z3, z4, z5, z6⟩ := HC4.out.at; rw [HK1.out] at z2; rw [HK2.out] at z5)
            exact ⟨⟨_, _, _, HST4.out.none (va2 := .slice q1 m1 r1) (vb2 := .slice q2 m2 r2) HDS.out (fun e he => List.mem_of_mem_drop he) (fun e he => List.mem_of_mem_drop he) (by have := HM1.out; have := HM2.out; have := HN1.out; have := HN2.out; simp only [List.length_drop]; omega) HV1.out HV2.out HST4.out.own HST4.out.bel⟩, by have := HM1.out; have := HM2.out; simp [lenV]; omega⟩
          ·
            obtain ⟨q1, m1, r1, hv1, hm1, hp1, hs1⟩ := ents_rest HST.out.ea (HOL.out hk1)
            have HV1 := hid hv1
            have HM1 := hid hm1
            clear hv1 hm1
            have hn1 : (0 : Int) < (n1 : Int) := by omega
            have e1 : (K1 == 0) = false := by simpa using hk1
            obtain ⟨q2, m2, r2, hv2, hm2, hp2, hs2⟩ := ents_rest HST.out.eb (HNW.out hk2)
            have HV2 := hid hv2
            have HM2 := hid hm2
            clear hv2 hm2
            have hn2 : (0 : Int) < (n2 : Int) := by omega
            have e2 : (K2 == 0) = false := by simpa using hk2
            rw [if_neg hcc] at HDS
            rw [if_neg hk1, if_neg hk2] at HDS
            rw [decide_eq_false hcc] at hne
            simp only [HK1.out, HK2.out] at hne
            clear hcc HOL HNW HON
            go_wp2_with fail
            refine HFO.out.mono ?_
            rintro r w3 ⟨rfl, hb3⟩
            have HST3 := hid (HST.out.go' hb3)
            clear hb3 HST HFO
            have HT := hid (Cb.new w3 zC).there
            have HC4 := hid ((Cb.new w3 zC).all c)
            have HB4 := hid (belowCs (Nat.le_refl _) (chgV c) 0 _ (below_walk w3 (.cells #[.string ⟨#[]⟩, .string ⟨#[]⟩, .int .i64 0, .string ⟨#[]⟩, .string ⟨#[]⟩, .int .i64 0, .string ⟨#[]⟩] 82)))
            change Hid (Cb ((w3.alloc (.cells #[.string ⟨#[]⟩, .string ⟨#[]⟩, .int .i64 0, .string ⟨#[]⟩, .string ⟨#[]⟩, .int .i64 0, .string ⟨#[]⟩] 82)).setCells w3.heap.size 0 (chgV c).toArray.toList) w3.heap.size c) at HC4
            change Hid (Below w3.heap.size w3 ((w3.alloc (.cells #[.string ⟨#[]⟩, .string ⟨#[]⟩, .int .i64 0, .string ⟨#[]⟩, .string ⟨#[]⟩, .int .i64 0, .string ⟨#[]⟩] 82)).setCells w3.heap.size 0 (chgV c).toArray.toList)) at HB4
            go_wp2_with (first | (refine wpList_store_mid (by rfl) 82 (.tmp 8) (.tmp 26) (by rfl) w3.heap.size 0 (chgV c).toArray (by rfl) (by rfl) HT.out HI.out HO.out ?_; clear HT; obtain ⟨w4, hw4⟩ : ∃ w4, w4 = (w3.alloc (.cells #[.string ⟨#[]⟩, .string ⟨#[]⟩, .int .i64 0, .string ⟨#[]⟩, .string ⟨#[]⟩, .int .i64 0, .string ⟨#[]⟩] 82)).setCells w3.heap.size 0 (chgV c).toArray.toList := ⟨_, rfl⟩; rw [← hw4] at HC4 HB4 ⊢; clear hw4; have HST4 := hid (HST3.out.go' HB4.out); obtain ⟨C, HC⟩ : ∃ C : Nat, Hid (w3.heap.size = C) := ⟨_, rfl⟩; rw [HC.out] at HC4 ⊢; clear HB4 HST3; obtain ⟨z0, z1, z2, z3, z4, z5, z6⟩ := HC4.out.at; rw [HK1.out] at z2; rw [HK2.out] at z5; have HRG := hid HC4.out.range) | (refine wpList_load_mid (by rfl) 82 (.tmp 8) (by rfl) C 0 (by rfl) (chgV c) _ HRG.out HU.out rfl HI.out ?_; clear HRG) | (go_at_call 55; refine (HOC.out _).mono ?_; rintro r w5 ⟨rfl, hb5⟩; have HST5 := hid (HST4.out.go' hb5); clear hb5; have HEN := hid (chgs_one w5 c); have HO6 := hid (HST5.out.own.below (below_walk w5 (.cells (chgV c).toArray 82))); have HB6 := hid (HST5.out.bel.alloc HST5.out.bel.size (.cells (chgV c).toArray 82))) | (at_builtin; refine app_chg rfl _ _ rfl w.heap.size _ cs rfl HO6.out [c] _ rfl HEN.out HLN.out HB6.out.size ?_; intro v7 w7 ho7 hg7 _; have HO7 := hid ho7; have HB7 := hid (HB6.out.grown hg7 HB6.out.size (fun j hj => (HO6.out.lt j hj).1)); obtain ⟨a7, c7, h7⟩ := ho7.chgs.shape; generalize (cs ++ [c]).length = n7 at h7; subst h7; clear ho7 hg7))
            exact ⟨⟨_, _, _, HST5.out.more (va2 := .slice q1 m1 r1) (vb2 := .slice q2 m2 r2) HDS.out (fun e he => List.mem_of_mem_drop he) (fun e he => List.mem_of_mem_drop he) (by have := HM1.out; have := HM2.out; have := HN1.out; have := HN2.out; simp only [List.length_drop]; omega) HV1.out HV2.out HO7.out HB7.out⟩, by have := HM1.out; have := HM2.out; simp [lenV]; omega⟩

end Go.Proofs.Ytgldmepmeampeaa

/- A region in which no step can panic. -/
namespace Go.Proofs.Ytgldmepmeampeaa
open Go.RowKit
variable {P : Program}

/-- what must be shown where no step can panic -/
def noPanic (Q : Exit → Act → World → Prop) : Exit → Act → World → Prop := fun e a w => match e with
  | .panic _ => False
  | e => Q e a w
theorem wp_noPanic {c : Code} {Q : Exit → Act → World → Prop} {a : Act} {w : World} (h : c.wp P (noPanic Q) a w) : c.wp P Q a w :=
  Code.wp_mono (fun e a w h => by
    cases e
    all_goals first | exact h | exact h.elim) h

end Go.Proofs.Ytgldmepmeampeaa

/- The document's Sort. -/
namespace Go.Proofs.Ytgldmepmeampeaa
open Go.RowKit Go.BigFrame

/-- no later one ahead of an earlier one -/
def UpE (l : List Ent) : Prop := l.Pairwise (fun a b => ¬ cmpL (nms b.1) (nms a.1) < 0)
theorem cmpL_nlt {a b : List (List UInt8)} : ¬ cmpL b a < 0 ↔ cmpL a b ≤ 0 := by
  have := cmpL_anti a b
  omega
/-- how far two rising rows are joined: o is done, a and b are left -/
structure Mrg (t o a b : List Ent) : Prop where
  perm : (o ++ (a ++ b)).Perm t
  up : UpE o
  ua : UpE a
  ub : UpE b
  oa : ∀ x ∈ o, ∀ y ∈ a, ¬ cmpL (nms y.1) (nms x.1) < 0
  ob : ∀ x ∈ o, ∀ y ∈ b, ¬ cmpL (nms y.1) (nms x.1) < 0
theorem Mrg.stepA {t o a b : List Ent} {x : Ent} (h : Mrg t o (x :: a) b) (hb : ∀ y ∈ b, ¬ cmpL (nms y.1) (nms x.1) < 0) : Mrg t (o ++ [x]) a b := by
  have hu := h.ua
  unfold UpE at hu
  rw [List.pairwise_cons] at hu
  refine ⟨?_, ?_, hu.2, h.ub, ?_, ?_⟩
  · have := h.perm
    rw [List.append_assoc]
    exact this
  · unfold UpE
    rw [List.pairwise_append]
    refine ⟨h.up, List.pairwise_singleton _ _, fun p hp q hq => ?_⟩
    rw [List.mem_singleton] at hq
    subst hq
    exact h.oa p hp q (by simp)
  · intro p hp q hq
    rw [List.mem_append, List.mem_singleton] at hp
    rcases hp with hp | rfl
    · exact h.oa p hp q (by simp [hq])
    · exact hu.1 q hq
  · intro p hp q hq
    rw [List.mem_append, List.mem_singleton] at hp
    rcases hp with hp | rfl
    · exact h.ob p hp q hq
    · exact hb q hq
theorem Mrg.stepB {t o a b : List Ent} {x : Ent} (h : Mrg t o a (x :: b)) (ha : ∀ y ∈ a, ¬ cmpL (nms y.1) (nms x.1) < 0) : Mrg t (o ++ [x]) a b := by
  have hu := h.ub
  unfold UpE at hu
  rw [List.pairwise_cons] at hu
  refine ⟨?_, ?_, h.ua, hu.2, ?_, ?_⟩
  · have := h.perm
    refine List.Perm.trans ?_ this
    rw [List.append_assoc]
    exact List.Perm.append_left o (show (x :: (a ++ b)).Perm (a ++ x :: b) from List.perm_middle.symm)
  · unfold UpE
    rw [List.pairwise_append]
    refine ⟨h.up, List.pairwise_singleton _ _, fun p hp q hq => ?_⟩
    rw [List.mem_singleton] at hq
    subst hq
    exact h.ob p hp q (by simp)
  · intro p hp q hq
    rw [List.mem_append, List.mem_singleton] at hp
    rcases hp with hp | rfl
    · exact h.oa p hp q hq
    · exact ha q hq
  · intro p hp q hq
    rw [List.mem_append, List.mem_singleton] at hp
    rcases hp with hp | rfl
    · exact h.ob p hp q (by simp [hq])
    · exact hu.1 q hq
theorem Mrg.done {t o a b : List Ent} (h : Mrg t o a b) (h0 : a = [] ∨ b = []) : (o ++ a ++ b).Perm t ∧ UpE (o ++ a ++ b) := by
  refine ⟨by rw [List.append_assoc]; exact h.perm, ?_⟩
  unfold UpE
  rw [List.append_assoc, List.pairwise_append]
  rcases h0 with rfl | rfl
  · exact ⟨h.up, h.ub, fun x hx y hy => h.ob x hx y hy⟩
  · rw [List.append_nil]
    exact ⟨h.up, h.ua, fun x hx y hy => h.oa x hx y hy⟩
theorem up_head {x : Ent} {a : List Ent} (h : UpE (x :: a)) : ∀ y ∈ x :: a, ¬ cmpL (nms y.1) (nms x.1) < 0 := by
  intro y hy
  rw [List.mem_cons] at hy
  rcases hy with rfl | hy
  · rw [cmpL_self]; omega
  · unfold UpE at h
    rw [List.pairwise_cons] at h
    exact h.1 y hy
/-- what Sort answers -/
def SortA (w : World) (t : List Ent) (r : Ending) (w' : World) : Prop := ∃ v l, r = .returned v ∧ OwnE w' w.heap.size v l ∧ l.Perm t ∧ UpE l ∧ Below w.heap.size w w'
theorem slice_shape {v : Value} {es : List Ent} {w : World} (h : Ents w v es) : ∃ a n c, v = .slice a n c := by
  obtain ⟨a, c, e⟩ := h.shape
  exact ⟨a, _, c, e⟩

set_option maxRecDepth 100000 in
set_option maxHeartbeats 1000000 in
theorem rsort_small (t : List Ent) (h2 : t.length < 2) (v : Value) (w : World) (h : Ents w v t) : Calls Try.prog 39 #[v] w (SortA w t) := by
  obtain ⟨ao, c, rfl⟩ := h.shape
  have H := hid h
  have q1 : (t.length : Int) < 2 := by omega
  have HU : Hid (UpE t) := by
    unfold UpE
    match t, h2 with
    | [], _ => exact List.Pairwise.nil
    | [x], _ => exact List.pairwise_singleton _ _
  have HLN := hid (show ([] : List Ent).length + t.length ≤ 3298534883328 by simp; omega)
  clear h h2
  go_enter Try.func39, Try.ntmps39
  go_wp2_with (at_builtin; refine app_ent rfl _ _ rfl w.heap.size _ [] rfl (OwnE.nil _ _) t _ rfl H.out HLN.out (Nat.le_refl _) ?_)
  intro v5 w5 ho5 hg5 _
  have HO5 := hid ho5
  have HB5 := hid (gb_below hg5)
  obtain ⟨a5, c5, h5⟩ := ho5.ents.shape
  generalize ([] ++ t).length = n5 at h5
  subst h5
  clear ho5 hg5
  go_wp2
  go_ret
  exact ⟨_, t, rfl, HO5.out, List.Perm.refl _, HU.out, HB5.out⟩

set_option maxRecDepth 100000 in
set_option maxHeartbeats 4000000 in
theorem rsort_any : ∀ (f : Nat) (t : List Ent), t.length ≤ f → t.length ≤ 1099511627776 → (∀ e ∈ t, okP e.1 = true) → ∀ (v : Value) (w : World), Ents w v t →
    Calls Try.prog 39 #[v] w (SortA w t) := by
  intro f
  induction f with
  | zero =>
    intro t hf hn hok v w h
    exact rsort_small t (by omega) v w h
  | succ f ih =>
    intro t hf hn hok v w h
    obtain ⟨ao, c, rfl⟩ := h.shape
    have H := hid h
    have HIH := hid ih
    have HOK := hid hok
    by_cases h2 : t.length < 2
    · exact rsort_small t h2 _ w h
    · have q1 : ¬ (t.length : Int) < 2 := by omega
      obtain ⟨m, HM⟩ : ∃ m : Nat, Hid (m = t.length / 2) := ⟨_, rfl⟩
      have hm1 : 1 ≤ m := by rw [HM.out]; omega
      have hm2 : m < t.length := by rw [HM.out]; omega
      have hq : ((t.length : Nat) : Int).tdiv 2 = (m : Int) := by rw [HM.out]; rfl
      have hwm : IntKind.i64.wrap (m : Int) = (m : Int) := by rw [IntKind.wrap_i64]; omega
      obtain ⟨va, hva, hs1⟩ := ecut_to h m (by omega)
      obtain ⟨vb, hvb, hs2⟩ := ecut_from h m (by omega)
      obtain ⟨aa, na, ca, ea⟩ := slice_shape hva
      obtain ⟨ab, nb, cb', eb⟩ := slice_shape hvb
      subst ea eb
      have HVA := hid hva
      have HVB := hid hvb
      have HTD := hid (List.take_append_drop m t)
      have HS1 := hid hs1
      have HS2 := hid hs2
      clear hva hvb h ih hok h2 hs1 hs2
      go_enter Try.func39, Try.ntmps39
      go_wp2_with fail
      refine wp_noPanic (wp_region_held_drew (S := fun _ => True) (by kernel_rfl) trivial ?_)
      intro hHeld
      refine wpAnyH_take (i := 0) (v := .slice ao t.length c) rfl (by kernel_rfl) (by kernel_rfl) (by kernel_rfl) (fun _ _ _ h => h) (Or.inl ⟨by rfl, fun W _ => by go_simp⟩) hHeld ?_
      simp only [Act.put, List.getElem_toArray, List.getElem_cons_zero, List.setIfInBounds_toArray, List.set_cons_succ, List.set_cons_zero]
      refine wpAnyH_take (i := 1) (v := .slice ao t.length c) rfl (by kernel_rfl) (by kernel_rfl) (by kernel_rfl) (fun _ _ _ h => h) (Or.inl ⟨by rfl, fun W _ => by go_simp⟩) hHeld ?_
      simp only [Act.put, List.getElem_toArray, List.getElem_cons_zero, List.getElem_cons_succ, List.setIfInBounds_toArray, List.set_cons_succ, List.set_cons_zero]
      refine wpAnyH_take (i := 2) (v := .int .i64 (t.length : Int)) rfl (by kernel_rfl) (by kernel_rfl) (by kernel_rfl) (fun _ _ _ h => h) (Or.inl ⟨by rfl, fun W _ => by go_simp⟩) hHeld ?_
      simp only [Act.put, List.getElem_toArray, List.getElem_cons_zero, List.getElem_cons_succ, List.setIfInBounds_toArray, List.set_cons_succ, List.set_cons_zero]
      refine wpAnyH_take (i := 3) (v := .int .i64 (m : Int)) rfl (by kernel_rfl) (by kernel_rfl) (by kernel_rfl) (fun _ _ _ h => h) (Or.inl ⟨by rfl, fun W _ => by have hfact := hwm; go_simp; first | done | simp [hfact]⟩) hHeld ?_
      simp only [Act.put, List.getElem_toArray, List.getElem_cons_zero, List.getElem_cons_succ, List.setIfInBounds_toArray, List.set_cons_succ, List.set_cons_zero]
      refine wpAnyH_take (i := 4) (v := .slice aa na ca) rfl (by kernel_rfl) (by kernel_rfl) (by kernel_rfl) (fun _ _ _ h => h) (Or.inl ⟨by rfl, fun W _ => by have hfact := HS1.out W; go_simp; first | done | simp [hfact]⟩) hHeld ?_
      simp only [Act.put, List.getElem_toArray, List.getElem_cons_zero, List.getElem_cons_succ, List.setIfInBounds_toArray, List.set_cons_succ, List.set_cons_zero]
      refine wpAnyH_take (i := 6) (v := .slice ao t.length c) rfl (by kernel_rfl) (by kernel_rfl) (by kernel_rfl) (fun _ _ _ h => h) (Or.inl ⟨by rfl, fun W _ => by go_simp⟩) hHeld ?_
      simp only [Act.put, List.getElem_toArray, List.getElem_cons_zero, List.getElem_cons_succ, List.setIfInBounds_toArray, List.set_cons_succ, List.set_cons_zero]
      refine wpAnyH_take (i := 7) (v := .slice ao t.length c) rfl (by kernel_rfl) (by kernel_rfl) (by kernel_rfl) (fun _ _ _ h => h) (Or.inl ⟨by rfl, fun W _ => by go_simp⟩) hHeld ?_
      simp only [Act.put, List.getElem_toArray, List.getElem_cons_zero, List.getElem_cons_succ, List.setIfInBounds_toArray, List.set_cons_succ, List.set_cons_zero]
      refine wpAnyH_take (i := 8) (v := .int .i64 (t.length : Int)) rfl (by kernel_rfl) (by kernel_rfl) (by kernel_rfl) (fun _ _ _ h => h) (Or.inl ⟨by rfl, fun W _ => by go_simp⟩) hHeld ?_
      simp only [Act.put, List.getElem_toArray, List.getElem_cons_zero, List.getElem_cons_succ, List.setIfInBounds_toArray, List.set_cons_succ, List.set_cons_zero]
      refine wpAnyH_take (i := 9) (v := .int .i64 (m : Int)) rfl (by kernel_rfl) (by kernel_rfl) (by kernel_rfl) (fun _ _ _ h => h) (Or.inl ⟨by rfl, fun W _ => by have hfact := hwm; go_simp; first | done | simp [hfact]⟩) hHeld ?_
      simp only [Act.put, List.getElem_toArray, List.getElem_cons_zero, List.getElem_cons_succ, List.setIfInBounds_toArray, List.set_cons_succ, List.set_cons_zero]
      refine wpAnyH_take (i := 10) (v := .slice ab nb cb') rfl (by kernel_rfl) (by kernel_rfl) (by kernel_rfl) (fun _ _ _ h => h) (Or.inl ⟨by rfl, fun W _ => by have hfact := HS2.out W; go_simp; first | done | simp [hfact]⟩) hHeld ?_
      simp only [Act.put, List.getElem_toArray, List.getElem_cons_zero, List.getElem_cons_succ, List.setIfInBounds_toArray, List.set_cons_succ, List.set_cons_zero]
      refine wpAnyH_ready (rs := [5]) (by kernel_rfl) (by simp) ?_
      refine AllReadyH.cons rfl (fun K hK => ?_) AllReadyH.nil
      go_simp
      refine (HIH.out (t.take m) (by rw [List.length_take]; omega) (by rw [List.length_take]; omega) (fun e he => HOK.out e (List.mem_of_mem_take he)) _ w.drew (HVA.out.below (w' := w.drew) ⟨rfl, rfl, rfl, Nat.le_refl _, fun _ _ => rfl⟩)).mono ?_
      rintro r w1 ⟨v1, l1, rfl, ho1, hp1, hu1, hb1⟩
      obtain ⟨a1, n1, c1, e1⟩ := slice_shape ho1.ents
      subst e1
      have HO1 := hid ho1
      have HP1 := hid hp1
      have HU1 := hid hu1
      have HB1 : Hid (Below w.heap.size w w1) := ⟨hb1.os, hb1.tape, hb1.output, hb1.size, hb1.block⟩
      clear ho1 hp1 hu1 hb1
      go_wp2_with fail
      refine hK.out _ _ trivial (fun hHeld => ?_)
      clear hK K
      refine wpAnyH_ready (rs := [11]) (by kernel_rfl) (by simp) ?_
      refine AllReadyH.cons rfl (fun K hK => ?_) AllReadyH.nil
      go_simp
      refine (HIH.out (t.drop m) (by rw [List.length_drop]; omega) (by rw [List.length_drop]; omega) (fun e he => HOK.out e (List.mem_of_mem_drop he)) _ _ (HVB.out.below HB1.out)).mono ?_
      rintro r w2 ⟨v2, l2, rfl, ho2, hp2, hu2, hb2⟩
      obtain ⟨a2, n2, c2, e2⟩ := slice_shape ho2.ents
      subst e2
      have HO2 := hid (ho2.le HB1.out.size)
      have HO12 := hid (HO1.out.below hb2)
      have HP2 := hid hp2
      have HU2 := hid hu2
      have HB2 := hid (below_then HB1.out hb2)
      clear ho2 hp2 hu2 hb2 HO1 HB1
      go_wp2_with fail
      refine hK.out _ _ trivial (fun hHeld => ?_)
      clear hK K
      refine wpAnyH_take (i := 12) (v := .slice a1 n1 c1) rfl (by kernel_rfl) (by kernel_rfl) (by kernel_rfl) (fun _ _ _ h => h) (Or.inl ⟨by rfl, fun W _ => by go_simp⟩) hHeld ?_
      simp only [Act.put, List.getElem_toArray, List.getElem_cons_zero, List.getElem_cons_succ, List.setIfInBounds_toArray, List.set_cons_succ, List.set_cons_zero]
      refine wpAnyH_take (i := 13) (v := .slice a2 n2 c2) rfl (by kernel_rfl) (by kernel_rfl) (by kernel_rfl) (fun _ _ _ h => h) (Or.inl ⟨by rfl, fun W _ => by go_simp⟩) hHeld ?_
      simp only [Act.put, List.getElem_toArray, List.getElem_cons_zero, List.getElem_cons_succ, List.setIfInBounds_toArray, List.set_cons_succ, List.set_cons_zero]
      refine wpAnyH_done (by kernel_rfl) ?_ _
      simp only [noPanic]
      clear hHeld
      have HST : Hid (Mrg t [] l1 l2) := by
        refine ⟨?_, List.Pairwise.nil, HU1.out, HU2.out, fun x hx => (by cases hx), fun x hx => (by cases hx)⟩
        rw [List.nil_append]
        have := List.Perm.append HP1.out HP2.out
        rwa [HTD.out] at this
      have HE1 := hid HO12.out.ents
      have HE2 := hid HO2.out.ents
      clear HO12 HO2 HP1 HP2 HU1 HU2 HVA HVB HIH H
      go_wp2_with fail
      go_loopw [3, 4, 5] (fun va vb vo wr => ∃ o a b, Mrg t o a b ∧ OwnE wr w2.heap.size vo o ∧ Ents w2 va a ∧ Ents w2 vb b ∧ Below w2.heap.size w2 wr) (fun va vb _ _ => lenV va + lenV vb)
      case atStart => exact ⟨[], l1, l2, HST.out, OwnE.nil _ _, HE1.out, HE2.out, Below.refl _ _⟩
      case round =>
        obtain ⟨o, a, b, hmg, ho, hea, heb, hbw⟩ := hrel
        have HMG := hid hmg
        have HO := hid ho
        have HEA := hid hea
        have HEB := hid heb
        have HBW := hid hbw
        obtain ⟨aa', ca', ha'⟩ := hea.shape
        obtain ⟨ab', cb2, hb'⟩ := heb.shape
        obtain ⟨ao', no', co', ho'⟩ := slice_shape ho.ents
        have HLO := hid (show o.length + (a.length + b.length) ≤ 1099511627776 by have := hmg.perm.length_eq; simp only [List.length_append] at this; omega)
        clear hmg ho hea heb hbw HST HE1 HE2
        subst ha' hb' ho'
        by_cases hpos : 0 < a.length ∧ 0 < b.length
        · obtain ⟨x, a', rfl⟩ : ∃ x a', a = x :: a' := by
            cases a with
            | nil => simp at hpos
            | cons x a' => exact ⟨x, a', rfl⟩
          obtain ⟨y, b', rfl⟩ : ∃ y b', b = y :: b' := by
            cases b with
            | nil => simp at hpos
            | cons y b' => exact ⟨y, b', rfl⟩
          clear hpos
          obtain ⟨n1', HN1⟩ : ∃ n : Nat, Hid (n = (x :: a').length) := ⟨_, rfl⟩
          obtain ⟨n2', HN2⟩ : ∃ n : Nat, Hid (n = (y :: b').length) := ⟨_, rfl⟩
          have hn1 : 0 < n1' := by rw [HN1.out]; simp
          have hn2 : 0 < n2' := by rw [HN2.out]; simp
          obtain ⟨g1, o1, hg1, hl1, hx⟩ := HEA.out.at 0 (by simp)
          obtain ⟨g2, o2, hg2, hl2, hy⟩ := HEB.out.at 0 (by simp)
          have hx := hx.below hl1 HBW.out
          have hy := hy.below hl2 HBW.out
          rw [Nat.zero_mul, Nat.add_zero] at hx hy
          have HX : Hid (EntAt wr g1 o1 x) := hx
          have HY : Hid (EntAt wr g2 o2 y) := hy
          obtain ⟨va1, hva1, hsa⟩ := ecut_from HEA.out 1 (by simp)
          obtain ⟨vb1, hvb1, hsb⟩ := ecut_from HEB.out 1 (by simp)
          rw [← HN1.out] at hsa ⊢
          rw [← HN2.out] at hsb ⊢
          subst hg1 hg2
          have HSA : Hid (∀ W, (Instr.slice 22 (.slice (some ⟨g1, o1, none⟩) n1' ca') (some (.int .i64 1)) none none).run Try.prog W = .ok va1 W) := hsa
          have HSB : Hid (∀ W, (Instr.slice 22 (.slice (some ⟨g2, o2, none⟩) n2' cb2) (some (.int .i64 1)) none none).run Try.prog W = .ok vb1 W) := hsb
          have HVA1 : Hid (Ents w2 va1 a') := hva1
          have HVB1 : Hid (Ents w2 vb1 b') := hvb1
          obtain ⟨za, ya, hza⟩ := hva1.shape
          obtain ⟨zb, yb, hzb⟩ := hvb1.shape
          rw [show ((x :: a').drop 1) = a' from rfl] at hza
          rw [show ((y :: b').drop 1) = b' from rfl] at hzb
          have hla : a'.length < n1' := by rw [HN1.out]; simp
          have hlb : b'.length < n2' := by rw [HN2.out]; simp
          have hG1 := Nat.lt_of_lt_of_le hl1 HBW.out.size
          have hG2 := Nat.lt_of_lt_of_le hl2 HBW.out.size
          have HG1 := hid hG1
          have HG2 := hid hG2
          have px := fun p : Bel wr => p.cell HX.out.1 HG1.out
          have py := fun p : Bel wr => p.cell HY.out.1 HG2.out
          have ib : Nonempty (Bel wr) := bel_some wr
          have HOX := hid (show okP x.1 = true from HOK.out x (HMG.out.perm.mem_iff.1 (by simp)))
          have HOY := hid (show okP y.1 = true from HOK.out y (HMG.out.perm.mem_iff.1 (by simp)))
          have HLS := hid (fun p : Bel wr => rless_any y.1 x.1 p.out (by have := okP_short HOY.out; omega) (by have := okP_short HOX.out; omega))
          have HLT := hid (ltP_iff HOY.out HOX.out)
          generalize ltP y.1 x.1 = X at *
          clear hx hy hsa hsb hva1 hvb1 hl1 hl2 hG1 hG2
          go_wp2_with fail
          refine wp_region_quiet_bel (by kernel_rfl) (by kernel_rfl) ?_
          repeat (go_big_quiet_step (first | (go_at_call 29; exact bel_of (HLS.out _))))
          refine wpQuiet_nil ?_
          rintro w3 ⟨⟨w3', hb3⟩, hw3⟩
          obtain rfl : w3 = w3' := hw3
          have HB3 := hid (HBW.out.trans (hb3.mono HBW.out.size))
          have HO3 := hid (HO.out.below hb3)
          have HX3 := hid (HX.out.below HG1.out hb3)
          have HY3 := hid (HY.out.below HG2.out hb3)
          clear hb3 px py ib HLS HX HY HO HBW HG1 HG2
          cases X with
          | true =>
            have hlt := HLT.out.1 rfl
            have HM2 := hid (HMG.out.stepB (fun z hz => by
              have h1 := up_head HMG.out.ua z hz
              rw [cmpL_nlt] at h1 ⊢
              exact cmpL_trans _ _ _ (by omega) h1))
            obtain ⟨y0, y1, y2⟩ := HY3.out
            have HEN := hid (ents_one w3 y)
            have HO4 := hid (HO3.out.below (below_walk w3 (.cells #[.string (mk y.1), .int .i64 y.2.1, .string (mk y.2.2)] 36)))
            have HB4 := hid (HB3.out.alloc HB3.out.size (.cells #[.string (mk y.1), .int .i64 y.2.1, .string (mk y.2.2)] 36))
            have HL4 := hid (show o.length + [y].length ≤ 3298534883328 by have := HLO.out; simp at *; omega)
            have hsb := HSB.out
            subst hzb
            clear hlt HLT HMG HX3 HY3
            go_wp2_with (at_builtin; refine app_ent rfl _ _ rfl w2.heap.size _ o rfl HO4.out [y] _ rfl HEN.out HL4.out HB4.out.size ?_)
            intro v5 w5 ho5 hg5 _
            have HO5 := hid ho5
            have HB5 := hid (HB4.out.grown hg5 HB4.out.size (fun j hj => (HO4.out.lt j hj).1))
            obtain ⟨a5, n5, c5, h5⟩ := slice_shape ho5.ents
            subst h5
            clear ho5 hg5 HO4 HB4 HEN y0 y1 y2
            go_wp2
            refine ⟨⟨o ++ [y], x :: a', b', HM2.out, HO5.out, by rw [HN1.out] ; exact HEA.out, HVB1.out, HB5.out⟩, ?_⟩
            simp [lenV]
            omega
          | false =>
            have hlt : ¬ cmpL (nms y.1) (nms x.1) < 0 := fun h => by have := HLT.out.2 h; cases this
            have HM2 := hid (HMG.out.stepA (fun z hz => by
              have h1 := up_head HMG.out.ub z hz
              rw [cmpL_nlt] at h1 hlt ⊢
              exact cmpL_trans _ _ _ hlt h1))
            obtain ⟨y0, y1, y2⟩ := HX3.out
            have HEN := hid (ents_one w3 x)
            have HO4 := hid (HO3.out.below (below_walk w3 (.cells #[.string (mk x.1), .int .i64 x.2.1, .string (mk x.2.2)] 36)))
            have HB4 := hid (HB3.out.alloc HB3.out.size (.cells #[.string (mk x.1), .int .i64 x.2.1, .string (mk x.2.2)] 36))
            have HL4 := hid (show o.length + [x].length ≤ 3298534883328 by have := HLO.out; simp at *; omega)
            have hsa := HSA.out
            subst hza
            clear hlt HLT HMG HX3 HY3
            go_wp2_with (at_builtin; refine app_ent rfl _ _ rfl w2.heap.size _ o rfl HO4.out [x] _ rfl HEN.out HL4.out HB4.out.size ?_)
            intro v5 w5 ho5 hg5 _
            have HO5 := hid ho5
            have HB5 := hid (HB4.out.grown hg5 HB4.out.size (fun j hj => (HO4.out.lt j hj).1))
            obtain ⟨a5, n5, c5, h5⟩ := slice_shape ho5.ents
            subst h5
            clear ho5 hg5 HO4 HB4 HEN y0 y1 y2
            go_wp2
            refine ⟨⟨o ++ [x], a', y :: b', HM2.out, HO5.out, HVA1.out, by rw [HN2.out] ; exact HEB.out, HB5.out⟩, ?_⟩
            simp [lenV]
            omega
        · have HDN := hid (HMG.out.done (by
            cases a with
            | nil => exact Or.inl rfl
            | cons x a' =>
              cases b with
              | nil => exact Or.inr rfl
              | cons y b' => exact absurd ⟨by simp, by simp⟩ hpos))
          have HEA2 := hid (HEA.out.below HBW.out)
          have HEB2 := hid (HEB.out.below HBW.out)
          have HL4 := hid (show o.length + a.length ≤ 3298534883328 by have := HLO.out; omega)
          have HL5 := hid (show (o ++ a).length + b.length ≤ 3298534883328 by have := HLO.out; rw [List.length_append]; omega)
          obtain ⟨n1', HN1⟩ : ∃ n : Nat, Hid (a.length = n) := ⟨_, rfl⟩
          obtain ⟨n2', HN2⟩ : ∃ n : Nat, Hid (b.length = n) := ⟨_, rfl⟩
          have hpos' : ¬ (0 < n1' ∧ 0 < n2') := by rw [HN1.out, HN2.out] at hpos; exact hpos
          rw [HN1.out] at HEA2 HEA ⊢
          rw [HN2.out] at HEB2 HEB ⊢
          have HFIN : Hid (∀ v5 w5, OwnE w5 w2.heap.size v5 (o ++ a) → wr.grownBy w5 (Value.slice ao' no' co').ownBlock → Below w2.heap.size w2 w5 ∧ Ents w5 (.slice ab' n2' cb2) b) := by
            intro v5 w5 _ hg5
            have hb5 := HBW.out.grown hg5 HBW.out.size (fun j hj => (HO.out.lt j hj).1)
            exact ⟨hb5, HEB.out.below hb5⟩
          clear hpos HMG
          by_cases h1 : 0 < n1'
          · have h2 : ¬ 0 < n2' := fun h => hpos' ⟨h1, h⟩
            have e1 : decide (0 < n1') = true := by simpa using h1
            clear hpos'
            go_wp2_with (at_builtin; refine app_ent rfl _ _ rfl w2.heap.size _ o rfl HO.out a _ rfl HEA2.out HL4.out HBW.out.size ?_)
            intro v5 w5 ho5 hg5 _
            obtain ⟨hb5, he5⟩ := HFIN.out v5 w5 ho5 hg5
            have HO5 := hid ho5
            have HB5 := hid hb5
            have HE5 := hid he5
            obtain ⟨a5, n5, c5, h5⟩ := slice_shape ho5.ents
            subst h5
            clear ho5 hg5 hb5 he5 HFIN HO HEA2 HEB2
            go_wp2_with (at_builtin; refine app_ent rfl _ _ rfl w2.heap.size _ (o ++ a) rfl HO5.out b _ rfl HE5.out HL5.out HB5.out.size ?_)
            intro v6 w6 ho6 hg6 _
            have HO6 := hid (ho6.le HB2.out.size)
            have HB6 := hid (below_then HB2.out (HB5.out.grown hg6 HB5.out.size (fun j hj => (HO5.out.lt j hj).1)))
            obtain ⟨a6, n6, c6, h6⟩ := slice_shape ho6.ents
            subst h6
            clear ho6 hg6 HO5 HB5 HE5
            go_wp2
            go_ret
            exact ⟨_, o ++ a ++ b, rfl, by rw [List.append_assoc]; exact HO6.out, HDN.out.1, HDN.out.2, HB6.out⟩
          · have e1 : decide (0 < n1') = false := by simpa using h1
            clear hpos'
            go_wp2_with (at_builtin; refine app_ent rfl _ _ rfl w2.heap.size _ o rfl HO.out a _ rfl HEA2.out HL4.out HBW.out.size ?_)
            intro v5 w5 ho5 hg5 _
            obtain ⟨hb5, he5⟩ := HFIN.out v5 w5 ho5 hg5
            have HO5 := hid ho5
            have HB5 := hid hb5
            have HE5 := hid he5
            obtain ⟨a5, n5, c5, h5⟩ := slice_shape ho5.ents
            subst h5
            clear ho5 hg5 hb5 he5 HFIN HO HEA2 HEB2
            go_wp2_with (at_builtin; refine app_ent rfl _ _ rfl w2.heap.size _ (o ++ a) rfl HO5.out b _ rfl HE5.out HL5.out HB5.out.size ?_)
            intro v6 w6 ho6 hg6 _
            have HO6 := hid (ho6.le HB2.out.size)
            have HB6 := hid (below_then HB2.out (HB5.out.grown hg6 HB5.out.size (fun j hj => (HO5.out.lt j hj).1)))
            obtain ⟨a6, n6, c6, h6⟩ := slice_shape ho6.ents
            subst h6
            clear ho6 hg6 HO5 HB5 HE5
            go_wp2
            go_ret
            exact ⟨_, o ++ a ++ b, rfl, by rw [List.append_assoc]; exact HO6.out, HDN.out.1, HDN.out.2, HB6.out⟩

end Go.Proofs.Ytgldmepmeampeaa

/- The document's Diff of right trees. -/
namespace Go.Proofs.Ytgldmepmeampeaa
open Go.RowKit Go.BigFrame

/-- append(own, a change) as one step of a region that draws its order -/
theorem step_app_chg {ops : Array Oper} {o : Oper} {act : Act} {w : World} {K : Act → World → Prop} {Q : Exit → Act → World → Prop} {E : Prop} (hgd : o.guard = none) (s x : Operand)
    (ho : o.op = .call { callee := .builtin .append, args := #[s, x], argTypes := #[47, 47] })
    (base : Nat) (v : Value) (ts : List Chg) (hs : act.eval s = v) (hown : OwnC w base v ts) (c : Chg) (vx : Value) (hx : act.eval x = vx) (hc : Chgs w vx [c])
    (hlen : ts.length + 1 ≤ 1099511627776) (hbase : base ≤ w.heap.size)
    (h : ∀ a' n' c' w', OwnC w' base (.slice a' n' c') (ts ++ [c]) → w.grownBy w' v.ownBlock → K (act.put o.dst (.slice a' n' c')) w') :
    if Region.wanted o (yielded ops act.tmps) = true then Oper.wp Try.prog o act w K Q else E := by
  have hw : Region.wanted o (yielded ops act.tmps) = true := by simp [Region.wanted, hgd]
  rw [if_pos hw]
  obtain ⟨i0, hi, hz0, hz1, hz2⟩ := info_parts Try.infoChg
  rcases hc with ⟨ao, c', rfl, h0, _⟩ | ⟨g, off, cap, rfl, hlt, h1, h2⟩
  · cases h0
  have hcl : ∀ j u, (chgsV [c])[j]? = some u → w.cell? ((⟨g, off, none⟩ : Addr).add j) = some u := by
    intro j u hj
    rw [show (⟨g, off, none⟩ : Addr).add j = ⟨g, off + j, none⟩ by by_cases h0 : j = 0 <;> simp [Addr.add, h0]]
    exact h2 j u hj
  obtain ⟨v', w', hrun, r1, r2, _⟩ := run_append_own (P := Try.prog) w base 47 o.type 82 i0 (.agg #[.string ⟨#[]⟩, .string ⟨#[]⟩, .int .i64 0, .string ⟨#[]⟩, .string ⟨#[]⟩, .int .i64 0, .string ⟨#[]⟩]) 7 96 Try.underlying47 hi hz0 hz1 hz2 rfl (by decide) v ts.length (chgsV ts) hown ⟨g, off, none⟩ 1 cap (chgsV [c]) (by rw [chgsV_length]; rfl) hcl (chgsV_one [c]) (by unfold maxLen; omega) (by omega) hbase
  unfold Oper.wp
  simp [execOp, ho, resolve, invoke, builtin, hs, hx, hrun, Result.andThen]
  have r3 : OwnC w' base v' (ts ++ [c]) := by unfold OwnC; rw [List.length_append, chgsV_app]; exact r1
  obtain ⟨a', c', e⟩ := r3.chgs.shape
  subst e
  exact h _ _ _ w' r3 r2

theorem DfS.go {w0 wr w3 : World} {a b a' b' : List Ent} {cs : List Chg} {va vb vo : Value} (h : DfS w0 a b a' b' cs va vb vo wr) (hb : Below wr.heap.size wr w3) : DfS w0 a b a' b' cs va vb vo w3 :=
  ⟨h.ea, h.eb, h.ma, h.mb, h.own.below hb, h.eq, h.len, below_then h.bel hb⟩
theorem below_dr0 {B : Nat} {w W : World} (h : Below B w W) : Below B w W.drew := ⟨h.os, h.tape, h.output, h.size, h.block⟩
theorem DfS.drew {w0 wr : World} {a b a' b' : List Ent} {cs : List Chg} {va vb vo : Value} (h : DfS w0 a b a' b' cs va vb vo wr) : DfS w0 a b a' b' cs va vb vo wr.drew :=
  ⟨h.ea, h.eb, h.ma, h.mb, h.own, h.eq, h.len, ⟨h.bel.os, h.bel.tape, h.bel.output, h.bel.size, h.bel.block⟩⟩
theorem DfS.app {w0 w3 W w7 : World} {a b a' b' a2 b2 : List Ent} {cs : List Chg} {va vb vo va2 vb2 v7 : Value} {c : Chg} {o : Obj} (h : DfS w0 a b a' b' cs va vb vo w3) (hd : difP a' b' = c :: difP a2 b2)
    (sa : ∀ e ∈ a2, e ∈ a') (sb : ∀ e ∈ b2, e ∈ b') (hl : a2.length + b2.length + 1 ≤ a'.length + b'.length) (ea : Ents w0 va2 a2) (eb : Ents w0 vb2 b2) (ho : OwnC w7 w0.heap.size v7 (cs ++ [c]))
    (hg : W.grownBy w7 vo.ownBlock) (h1 : W.heap = (w3.alloc o).heap) (h2 : W.os = w3.os) (h3 : W.tape = w3.tape) (h4 : W.output = w3.output) : DfS w0 a b a2 b2 (cs ++ [c]) va2 vb2 v7 w7 := by
  have hb0 := h.bel.alloc h.bel.size o
  have hb : Below w0.heap.size w0 W := ⟨h2.trans h.bel.os, h3.trans h.bel.tape, h4.trans h.bel.output, by rw [h1]; exact hb0.size, fun k hk => by rw [h1]; exact hb0.block k hk⟩
  exact h.more hd sa sb hl ea eb ho (hb.grown hg hb.size (fun j hj => (h.own.lt j hj).1))
theorem ownC_heap {w3 W : World} {base : Nat} {v : Value} {cs : List Chg} {o : Obj} (h : OwnC w3 base v cs) (h1 : W.heap = (w3.alloc o).heap) : OwnC W base v cs := by
  have h2 : OwnC (w3.alloc o) base v cs := h.below (below_walk w3 o)
  unfold OwnC World.ownsRow at h2 ⊢
  rw [h1]
  exact h2
theorem chgs_heap {w3 W : World} {v : Value} {c : Chg} (h1 : W.heap = (w3.alloc (.cells (chgV c).toArray 82)).heap) (hv : v = .slice (some ⟨w3.heap.size, 0, none⟩) 1 1) : Chgs W v [c] := by
  subst hv
  rcases chgs_one w3 c with ⟨_, _, h, h0, _⟩ | ⟨g, off, cap, e, hlt, h2, h3⟩
  · cases h0
  · exact Or.inr ⟨g, off, cap, e, by rw [h1]; exact hlt, h2, fun j u hj => by have := h3 j u hj; simp only [World.cell?] at this ⊢; rw [h1]; exact this⟩
/-- the first of the rest of one side, and what comes behind it -/
theorem ents_head {w0 wr : World} {ao : Option Addr} {n c : Nat} {x : Ent} {a : List Ent} (h : Ents w0 (.slice ao n c) (x :: a)) (hb : Below w0.heap.size w0 wr) :
    ∃ g o a1 c1, ao = some ⟨g, o, none⟩ ∧ g < w0.heap.size ∧ EntAt w0 g o x ∧ g < wr.heap.size ∧ EntAt wr g o x ∧ Ents w0 (.slice a1 a.length c1) a ∧ n = a.length + 1 ∧
      ∀ W, (Instr.slice 22 (.slice ao n c) (some (.int .i64 1)) none none).run Try.prog W = .ok (.slice a1 a.length c1) W := by
  obtain ⟨g, o, he, hgl, hx⟩ := h.at 0 (by simp)
  obtain ⟨vx, hvx, hs⟩ := ecut_from h 1 (by simp)
  obtain ⟨a1, c1, e1⟩ := hvx.shape
  obtain ⟨a2, c2, e2⟩ := h.shape
  rw [show (x :: a).drop 1 = a from rfl] at hvx e1
  subst e1
  rw [Nat.zero_mul, Nat.add_zero, show (x :: a).getD 0 zE = x from rfl] at hx
  have hx' := hx.below hgl hb
  injection e2 with _ e2 _
  exact ⟨g, o, a1, c1, he, hgl, hx, Nat.lt_of_lt_of_le hgl hb.size, hx', hvx, e2.trans (by simp), hs⟩

set_option maxRecDepth 100000 in
set_option maxHeartbeats 4000000 in
theorem rdiff_ok (va vb : Value) (a b : List Ent) (w : World) (ha : Ents w va a) (hb : Ents w vb b) (hla : Bulk a) (hlb : Bulk b) (hra : Rgt a) (hrb : Rgt b) :
    Calls Try.prog 23 #[va, vb] w fun r w' => AnsC w' w.heap.size r (.ok (difP a b)) ∧ Below w.heap.size w w' := by
  have H1 := hid (rcheck_any va a w ha hla (by have := hra.many; omega))
  have H2 := hid (fun w2 (hw : Below w.heap.size w w2) => rcheck_any vb b w2 (hb.below hw) hlb (by have := hrb.many; omega))
  rw [rgt_iff.2 hra] at H1
  rw [rgt_iff.2 hrb] at H2
  have HS0 := hid (fun w2 (hw : Below w.heap.size w w2) => (⟨ha, hb, hra.may, hrb.may, OwnC.nil _ _, rfl, by have := hra.many; have := hrb.many; simp; omega, hw⟩ : DfS w a b a b [] va vb (.slice none 0 0) w2))
  obtain ⟨ao, ca, rfl⟩ := ha.shape
  obtain ⟨bo, cb, rfl⟩ := hb.shape
  generalize (chkP a).1 = N1 at *
  generalize (chkP b).1 = N2 at *
  clear ha hb hla hlb hra hrb
  go_enter Try.func23, Try.ntmps23
  go_wp2_with fail
  refine H1.out.mono ?_
  rintro r w1 ⟨rfl, hb1⟩
  have HB1 := hid hb1
  clear hb1 H1
  go_wp2_with fail
  refine (H2.out w1 HB1.out).mono ?_
  rintro r w2 ⟨rfl, hb2⟩
  have HB2 := hid (below_then HB1.out hb2)
  clear hb2 H2 HB1
  go_wp2
  go_loopw [0, 1, 8] (fun x y o wr => ∃ a' b' cs, DfS w a b a' b' cs x y o wr) (fun x y _ _ => lenV x + lenV y)
  case atStart => exact ⟨a, b, [], HS0.out w2 HB2.out⟩
  case round =>
    obtain ⟨a', b', cs, hst⟩ := hrel
    have HST := hid hst
    obtain ⟨aa, xa, e1⟩ := hst.ea.shape
    obtain ⟨ab, xb, e2⟩ := hst.eb.shape
    obtain ⟨ac, xc, e3⟩ := hst.own.chgs.shape
    subst e1 e2 e3
    clear hst HS0 HB2
    match a', b' with
    | [], [] =>
      have HF := hid HST.out.eq
      rw [difP_nil, List.append_nil] at HF
      go_wp2
      go_ret2
      exact ⟨⟨_, rfl, by rw [← HF.out]; exact HST.out.own⟩, HST.out.bel⟩
    | x :: a', [] =>
      obtain ⟨n1, HN1⟩ : ∃ n : Nat, Hid ((x :: a').length = n) := ⟨_, rfl⟩
      rw [HN1.out] at HST ⊢
      obtain ⟨g1, o1, q1, r1, e1, hg01, hx01, hg1, hx1, hv1, hn1, hs1⟩ := ents_head HST.out.ea HST.out.bel
      subst e1
      have HG01 := hid hg01
      have HX01 := hid hx01
      clear hg01 hx01
      have HG1 := hid hg1
      have HX1 := hid hx1
      have HV1 := hid hv1
      have HM1 := hid hn1
      have p1 : 0 < n1 := by omega
      have p1' : (0 : Int) < (n1 : Int) := by omega
      obtain ⟨m1, HZ1⟩ : ∃ m : Nat, Hid (a'.length = m) := ⟨_, rfl⟩
      rw [HZ1.out] at hs1 HV1
      have HS1 := hid hs1
      clear hg1 hx1 hv1 hn1 hs1
      obtain ⟨nc, HNC⟩ : ∃ n : Nat, Hid (cs.length = n) := ⟨_, rfl⟩
      rw [HNC.out] at HST ⊢
      have HD := hid (difP_left x a')
      have ib : Nonempty (Bel wr) := bel_some wr
      go_wp2_with fail
      refine wp_region_quiet_bel (by kernel_rfl) (by kernel_rfl) ?_
      repeat (go_big_quiet_step (fail))
      refine wpQuiet_nil ?_
      rintro w3 ⟨⟨w3', hb3⟩, hw3⟩
      obtain rfl : w3 = w3' := hw3
      have HST3 := hid (HST.out.go hb3)
      have HX1w3 := hid (HX1.out.below HG1.out hb3)
      have HG1w3 := hid (Nat.lt_of_lt_of_le HG1.out hb3.size)
      clear HX1 HG1
      clear ib hb3 HST
      obtain ⟨c10, c11, c12⟩ := HX1w3.out
      have HLN := hid (show cs.length + 1 ≤ 1099511627776 by have := HST3.out.len; simp at this; omega)
      go_wp2_with fail
      go_region_law ((refine step_app_chg (by rfl) (.tmp 77) (.tmp 86) (by rfl) w.heap.size (.slice ac nc xc) cs (by rfl) (by exact ownC_heap HST3.out.own rfl) (x.1, x, zE) _ (by rfl) (by exact chgs_heap (w3 := w3) rfl rfl) HLN.out (by have := HST3.out.bel.size; simp; omega) ?_; intro a7 n7 c7 w7 ho7 hg7; have HD7 := hid (HST3.out.app (a2 := a') (b2 := []) (va2 := .slice q1 m1 r1) (vb2 := .slice ab 0 xb) HD.out (fun e he => List.mem_cons_of_mem _ he) (fun e he => he) (by simp; try omega) HV1.out HST3.out.eb ho7 hg7 rfl rfl rfl rfl); clear ho7 hg7))
      all_goals
        have hs1 := HS1.out
        clear c10 c11 c12 HST3
        go_wp2
        exact ⟨⟨a', [], _, by simpa using HD7.out⟩, by have := HM1.out; have := HZ1.out; simp [lenV]; omega⟩
    | [], y :: b' =>
      obtain ⟨n2, HN2⟩ : ∃ n : Nat, Hid ((y :: b').length = n) := ⟨_, rfl⟩
      rw [HN2.out] at HST ⊢
      obtain ⟨g2, o2, q2, r2, e2, hg02, hx02, hg2, hx2, hv2, hn2, hs2⟩ := ents_head HST.out.eb HST.out.bel
      subst e2
      have HG02 := hid hg02
      have HX02 := hid hx02
      clear hg02 hx02
      have HG2 := hid hg2
      have HX2 := hid hx2
      have HV2 := hid hv2
      have HM2 := hid hn2
      have p2 : 0 < n2 := by omega
      have p2' : (0 : Int) < (n2 : Int) := by omega
      obtain ⟨m2, HZ2⟩ : ∃ m : Nat, Hid (b'.length = m) := ⟨_, rfl⟩
      rw [HZ2.out] at hs2 HV2
      have HS2 := hid hs2
      clear hg2 hx2 hv2 hn2 hs2
      obtain ⟨nc, HNC⟩ : ∃ n : Nat, Hid (cs.length = n) := ⟨_, rfl⟩
      rw [HNC.out] at HST ⊢
      have HD := hid (difP_right y b')
      have p2n : ¬ ((n2 : Int) = 0) := by omega
      have p2m : ¬ (n2 = 0) := by omega
      have p2o : ((n2 : Int) == 0) = false := by simp; omega
      have ib : Nonempty (Bel wr) := bel_some wr
      go_wp2_with fail
      refine wp_region_quiet_bel (by kernel_rfl) (by kernel_rfl) ?_
      repeat (go_big_quiet_step (fail))
      refine wpQuiet_nil ?_
      rintro w3 ⟨⟨w3', hb3⟩, hw3⟩
      obtain rfl : w3 = w3' := hw3
      have HST3 := hid (HST.out.go hb3)
      have HX2w3 := hid (HX2.out.below HG2.out hb3)
      have HG2w3 := hid (Nat.lt_of_lt_of_le HG2.out hb3.size)
      clear HX2 HG2
      clear ib hb3 HST
      have ib : Nonempty (Bel w3) := bel_some w3
      go_wp2_with fail
      refine wp_region_quiet_bel (by kernel_rfl) (by kernel_rfl) ?_
      repeat (go_big_quiet_step (fail))
      refine wpQuiet_nil ?_
      rintro w4 ⟨⟨w4', hb4⟩, hw4⟩
      obtain rfl : w4 = w4' := hw4
      have HST4 := hid (HST3.out.go hb4)
      have HX2w4 := hid (HX2w3.out.below HG2w3.out hb4)
      have HG2w4 := hid (Nat.lt_of_lt_of_le HG2w3.out hb4.size)
      clear HX2w3 HG2w3
      clear ib hb4 HST3
      obtain ⟨c20, c21, c22⟩ := HX2w4.out
      have HLN := hid (show cs.length + 1 ≤ 1099511627776 by have := HST4.out.len; simp at this; omega)
      go_wp2_with fail
      go_region_law ((refine step_app_chg (by rfl) (.tmp 105) (.tmp 114) (by rfl) w.heap.size (.slice ac nc xc) cs (by rfl) (by exact ownC_heap HST4.out.own rfl) (y.1, zE, y) _ (by rfl) (by exact chgs_heap (w3 := w4) rfl rfl) HLN.out (by have := HST4.out.bel.size; simp; omega) ?_; intro a7 n7 c7 w7 ho7 hg7; have HD7 := hid (HST4.out.app (a2 := []) (b2 := b') (va2 := .slice aa 0 xa) (vb2 := .slice q2 m2 r2) HD.out (fun e he => he) (fun e he => List.mem_cons_of_mem _ he) (by simp; try omega) HST4.out.ea HV2.out ho7 hg7 rfl rfl rfl rfl); clear ho7 hg7))
      all_goals
        have hs2 := HS2.out
        clear c20 c21 c22 HST4
        go_wp2
        exact ⟨⟨[], b', _, by simpa using HD7.out⟩, by have := HM2.out; have := HZ2.out; simp [lenV]; omega⟩
    | x :: a', y :: b' =>
      obtain ⟨n1, HN1⟩ : ∃ n : Nat, Hid ((x :: a').length = n) := ⟨_, rfl⟩
      rw [HN1.out] at HST ⊢
      obtain ⟨g1, o1, q1, r1, e1, hg01, hx01, hg1, hx1, hv1, hn1, hs1⟩ := ents_head HST.out.ea HST.out.bel
      subst e1
      have HG01 := hid hg01
      have HX01 := hid hx01
      clear hg01 hx01
      have HG1 := hid hg1
      have HX1 := hid hx1
      have HV1 := hid hv1
      have HM1 := hid hn1
      have p1 : 0 < n1 := by omega
      have p1' : (0 : Int) < (n1 : Int) := by omega
      obtain ⟨m1, HZ1⟩ : ∃ m : Nat, Hid (a'.length = m) := ⟨_, rfl⟩
      rw [HZ1.out] at hs1 HV1
      have HS1 := hid hs1
      clear hg1 hx1 hv1 hn1 hs1
      obtain ⟨n2, HN2⟩ : ∃ n : Nat, Hid ((y :: b').length = n) := ⟨_, rfl⟩
      rw [HN2.out] at HST ⊢
      obtain ⟨g2, o2, q2, r2, e2, hg02, hx02, hg2, hx2, hv2, hn2, hs2⟩ := ents_head HST.out.eb HST.out.bel
      subst e2
      have HG02 := hid hg02
      have HX02 := hid hx02
      clear hg02 hx02
      have HG2 := hid hg2
      have HX2 := hid hx2
      have HV2 := hid hv2
      have HM2 := hid hn2
      have p2 : 0 < n2 := by omega
      have p2' : (0 : Int) < (n2 : Int) := by omega
      obtain ⟨m2, HZ2⟩ : ∃ m : Nat, Hid (b'.length = m) := ⟨_, rfl⟩
      rw [HZ2.out] at hs2 HV2
      have HS2 := hid hs2
      clear hg2 hx2 hv2 hn2 hs2
      obtain ⟨nc, HNC⟩ : ∃ n : Nat, Hid (cs.length = n) := ⟨_, rfl⟩
      rw [HNC.out] at HST ⊢
      have p1n : ¬ ((n1 : Int) = 0) := by omega
      have p1m : ¬ (n1 = 0) := by omega
      have p1o : ((n1 : Int) == 0) = false := by simp; omega
      have p2n : ¬ ((n2 : Int) = 0) := by omega
      have p2m : ¬ (n2 = 0) := by omega
      have p2o : ((n2 : Int) == 0) = false := by simp; omega
      have hox := mayP_ok (HST.out.ma x (by simp))
      have hoy := mayP_ok (HST.out.mb y (by simp))
      have HLT := hid (fun h => difP_lt a' b' h hox hoy)
      have HGT := hid (fun h => difP_gt a' b' h hox hoy)
      have HEQ := hid (fun h h' => difP_eq a' b' h h' hox hoy)
      have HL1 := hid (fun W : World => rless_any x.1 y.1 W (by have := okP_short hox; omega) (by have := okP_short hoy; omega))
      have HL2 := hid (fun W : World => rless_any y.1 x.1 W (by have := okP_short hoy; omega) (by have := okP_short hox; omega))
      clear hox hoy
      generalize ltP x.1 y.1 = X1 at *
      generalize ltP y.1 x.1 = X2 at *
      have px := fun p : Bel wr => p.cell HX1.out.1 HG1.out
      have py := fun p : Bel wr => p.cell HX2.out.1 HG2.out
      have ib : Nonempty (Bel wr) := bel_some wr
      go_wp2_with fail
      refine wp_region_quiet_bel (by kernel_rfl) (by kernel_rfl) ?_
      repeat (go_big_quiet_step (first | (go_at_call 29; exact bel_of (HL1.out _))))
      refine wpQuiet_nil ?_
      rintro w3 ⟨⟨w3', hb3⟩, hw3⟩
      obtain rfl : w3 = w3' := hw3
      have HST3 := hid (HST.out.go hb3)
      have HX1w3 := hid (HX1.out.below HG1.out hb3)
      have HG1w3 := hid (Nat.lt_of_lt_of_le HG1.out hb3.size)
      clear HX1 HG1
      have HX2w3 := hid (HX2.out.below HG2.out hb3)
      have HG2w3 := hid (Nat.lt_of_lt_of_le HG2.out hb3.size)
      clear HX2 HG2
      clear ib hb3 HST
      clear px py HL1
      cases X1 with
      | true =>
        have HD := hid (HLT.out rfl)
        obtain ⟨c10, c11, c12⟩ := HX1w3.out
        have HLN := hid (show cs.length + 1 ≤ 1099511627776 by have := HST3.out.len; simp at this; omega)
        go_wp2_with fail
        go_region_law ((refine step_app_chg (by rfl) (.tmp 77) (.tmp 86) (by rfl) w.heap.size (.slice ac nc xc) cs (by rfl) (by exact ownC_heap HST3.out.own rfl) (x.1, x, zE) _ (by rfl) (by exact chgs_heap (w3 := w3) rfl rfl) HLN.out (by have := HST3.out.bel.size; simp; omega) ?_; intro a7 n7 c7 w7 ho7 hg7; have HD7 := hid (HST3.out.app (a2 := a') (b2 := (y :: b')) (va2 := .slice q1 m1 r1) (vb2 := .slice (some ⟨g2, o2, none⟩) n2 xb) HD.out (fun e he => List.mem_cons_of_mem _ he) (fun e he => he) (by simp; try omega) HV1.out HST3.out.eb ho7 hg7 rfl rfl rfl rfl); clear ho7 hg7))
        all_goals
          have hs1 := HS1.out
          clear c10 c11 c12 HST3
          go_wp2
          exact ⟨⟨a', y :: b', _, by simpa using HD7.out⟩, by have := HM1.out; have := HZ1.out; simp [lenV]; omega⟩
      | false =>
        have px := fun p : Bel w3 => p.cell HX1w3.out.1 HG1w3.out
        have py := fun p : Bel w3 => p.cell HX2w3.out.1 HG2w3.out
        have ib : Nonempty (Bel w3) := bel_some w3
        go_wp2_with fail
        refine wp_region_quiet_bel (by kernel_rfl) (by kernel_rfl) ?_
        repeat (go_big_quiet_step (first | (go_at_call 29; exact bel_of (HL2.out _))))
        refine wpQuiet_nil ?_
        rintro w4 ⟨⟨w4', hb4⟩, hw4⟩
        obtain rfl : w4 = w4' := hw4
        have HST4 := hid (HST3.out.go hb4)
        have HX1w4 := hid (HX1w3.out.below HG1w3.out hb4)
        have HG1w4 := hid (Nat.lt_of_lt_of_le HG1w3.out hb4.size)
        clear HX1w3 HG1w3
        have HX2w4 := hid (HX2w3.out.below HG2w3.out hb4)
        have HG2w4 := hid (Nat.lt_of_lt_of_le HG2w3.out hb4.size)
        clear HX2w3 HG2w3
        clear ib hb4 HST3
        clear px py HL2
        cases X2 with
        | true =>
          have HD := hid (HGT.out rfl)
          obtain ⟨c20, c21, c22⟩ := HX2w4.out
          have HLN := hid (show cs.length + 1 ≤ 1099511627776 by have := HST4.out.len; simp at this; omega)
          go_wp2_with fail
          go_region_law ((refine step_app_chg (by rfl) (.tmp 105) (.tmp 114) (by rfl) w.heap.size (.slice ac nc xc) cs (by rfl) (by exact ownC_heap HST4.out.own rfl) (y.1, zE, y) _ (by rfl) (by exact chgs_heap (w3 := w4) rfl rfl) HLN.out (by have := HST4.out.bel.size; simp; omega) ?_; intro a7 n7 c7 w7 ho7 hg7; have HD7 := hid (HST4.out.app (a2 := (x :: a')) (b2 := b') (va2 := .slice (some ⟨g1, o1, none⟩) n1 xa) (vb2 := .slice q2 m2 r2) HD.out (fun e he => he) (fun e he => List.mem_cons_of_mem _ he) (by simp; try omega) HST4.out.ea HV2.out ho7 hg7 rfl rfl rfl rfl); clear ho7 hg7))
          all_goals
            have hs2 := HS2.out
            clear c20 c21 c22 HST4
            go_wp2
            exact ⟨⟨x :: a', b', _, by simpa using HD7.out⟩, by have := HM2.out; have := HZ2.out; simp [lenV]; omega⟩
        | false =>
          have HD := hid (HEQ.out (by simp) (by simp))
          have hg := entG
          have hne := fun W => neq_ent x y W
          have px0 := fun p : Bel w4 => p.cell HX1w4.out.1 HG1w4.out
          have px1 := fun p : Bel w4 => p.cell HX1w4.out.2.1 HG1w4.out
          have px2 := fun p : Bel w4 => p.cell HX1w4.out.2.2 HG1w4.out
          have py0 := fun p : Bel w4 => p.cell HX2w4.out.1 HG2w4.out
          have py1 := fun p : Bel w4 => p.cell HX2w4.out.2.1 HG2w4.out
          have py2 := fun p : Bel w4 => p.cell HX2w4.out.2.2 HG2w4.out
          by_cases hxy : x = y
          ·
            rw [if_pos hxy, List.nil_append] at HD
            rw [decide_eq_true hxy] at hne
            clear hxy
            have ib : Nonempty (Bel w4) := bel_some w4
            go_wp2_with fail
            refine wp_region_quiet_bel (by kernel_rfl) (by kernel_rfl) ?_
            repeat (go_big_quiet_step (fail))
            refine wpQuiet_nil ?_
            rintro w5 ⟨⟨w5', hb5⟩, hw5⟩
            obtain rfl : w5 = w5' := hw5
            have HST5 := hid (HST4.out.go hb5)
            have HX1w5 := hid (HX1w4.out.below HG1w4.out hb5)
            have HG1w5 := hid (Nat.lt_of_lt_of_le HG1w4.out hb5.size)
            clear HX1w4 HG1w4
            have HX2w5 := hid (HX2w4.out.below HG2w4.out hb5)
            have HG2w5 := hid (Nat.lt_of_lt_of_le HG2w4.out hb5.size)
            clear HX2w4 HG2w4
            clear ib hb5 HST4
            clear px0 px1 px2 py0 py1 py2 hne hg
            have HD7 := hid (HST5.out.none (a2 := a') (b2 := b') (va2 := .slice q1 m1 r1) (vb2 := .slice q2 m2 r2) HD.out (fun e he => List.mem_cons_of_mem _ he) (fun e he => List.mem_cons_of_mem _ he) (by simp; omega) HV1.out HV2.out HST5.out.own HST5.out.bel)
            have hs1 := HS1.out
            have hs2 := HS2.out
            clear HST5
            have HST7 := HD7
            clear HD7
            have ib : Nonempty (Bel w5) := bel_some w5
            go_wp2_with fail
            refine wp_region_quiet_bel (by kernel_rfl) (by kernel_rfl) ?_
            repeat (go_big_quiet_step (fail))
            refine wpQuiet_nil ?_
            rintro w8 ⟨⟨w8', hb8⟩, hw8⟩
            obtain rfl : w8 = w8' := hw8
            have HST8 := hid (HST7.out.go hb8)
            clear ib hb8 HST7
            go_wp2
            exact ⟨⟨a', b', _, HST8.out⟩, by have := HM1.out; have := HZ1.out; have := HM2.out; have := HZ2.out; simp [lenV]; omega⟩
          ·
            rw [if_neg hxy, List.singleton_append] at HD
            rw [decide_eq_false hxy] at hne
            clear hxy
            have ib : Nonempty (Bel w4) := bel_some w4
            go_wp2_with fail
            refine wp_region_quiet_bel (by kernel_rfl) (by kernel_rfl) ?_
            repeat (go_big_quiet_step (fail))
            refine wpQuiet_nil ?_
            rintro w5 ⟨⟨w5', hb5⟩, hw5⟩
            obtain rfl : w5 = w5' := hw5
            have HST5 := hid (HST4.out.go hb5)
            have HX1w5 := hid (HX1w4.out.below HG1w4.out hb5)
            have HG1w5 := hid (Nat.lt_of_lt_of_le HG1w4.out hb5.size)
            clear HX1w4 HG1w4
            have HX2w5 := hid (HX2w4.out.below HG2w4.out hb5)
            have HG2w5 := hid (Nat.lt_of_lt_of_le HG2w4.out hb5.size)
            clear HX2w4 HG2w4
            clear ib hb5 HST4
            clear px0 px1 px2 py0 py1 py2 hne hg
            have HLN := hid (show cs.length + 1 ≤ 1099511627776 by have := HST5.out.len; simp at this; omega)
            go_wp2_with fail
            refine wp_noPanic (wp_region_held_drew (S := fun W => Below w.heap.size w W) (by kernel_rfl) (below_dr0 HST5.out.bel) ?_)
            intro hHeld
            refine wpAnyH_take (i := 0) (v := .slice ac nc xc) rfl (by kernel_rfl) (by kernel_rfl) (by kernel_rfl) (fun _ _ _ h => h) (Or.inl ⟨by rfl, fun W _ => by go_simp⟩) hHeld ?_
            simp only [Act.put, List.getElem_toArray, List.getElem_cons_zero, List.setIfInBounds_toArray, List.set_cons_succ, List.set_cons_zero]
            refine wpAnyH_take (i := 1) (v := .slice (some ⟨g1, o1, none⟩) n1 xa) rfl (by kernel_rfl) (by kernel_rfl) (by kernel_rfl) (fun _ _ _ h => h) (Or.inl ⟨by rfl, fun W _ => by go_simp⟩) hHeld ?_
            simp only [Act.put, List.getElem_toArray, List.getElem_cons_zero, List.getElem_cons_succ, List.setIfInBounds_toArray, List.set_cons_succ, List.set_cons_zero]
            refine wpAnyH_take (i := 2) (v := .pointer (some ⟨g1, o1, none⟩)) rfl (by kernel_rfl) (by kernel_rfl) (by kernel_rfl) (fun _ _ _ h => h) (Or.inl ⟨by rfl, fun W _ => by go_simp⟩) hHeld ?_
            simp only [Act.put, List.getElem_toArray, List.getElem_cons_zero, List.getElem_cons_succ, List.setIfInBounds_toArray, List.set_cons_succ, List.set_cons_zero]
            refine wpAnyH_take (i := 3) (v := .pointer (some ⟨g1, o1, none⟩)) rfl (by kernel_rfl) (by kernel_rfl) (by kernel_rfl) (fun _ _ _ h => h) (Or.inl ⟨by rfl, fun W _ => by go_simp⟩) hHeld ?_
            simp only [Act.put, List.getElem_toArray, List.getElem_cons_zero, List.getElem_cons_succ, List.setIfInBounds_toArray, List.set_cons_succ, List.set_cons_zero]
            refine wpAnyH_take (i := 4) (v := .string (mk x.1)) rfl (by kernel_rfl) (by kernel_rfl) (by kernel_rfl) (fun _ _ _ h => h) (Or.inl ⟨by rfl, fun W hW => by have hcell := (HX01.out.below HG01.out hW).1; clear hW; go_simp⟩) hHeld ?_
            simp only [Act.put, List.getElem_toArray, List.getElem_cons_zero, List.getElem_cons_succ, List.setIfInBounds_toArray, List.set_cons_succ, List.set_cons_zero]
            refine wpAnyH_take (i := 5) (v := .slice (some ⟨g1, o1, none⟩) n1 xa) rfl (by kernel_rfl) (by kernel_rfl) (by kernel_rfl) (fun _ _ _ h => h) (Or.inl ⟨by rfl, fun W _ => by go_simp⟩) hHeld ?_
            simp only [Act.put, List.getElem_toArray, List.getElem_cons_zero, List.getElem_cons_succ, List.setIfInBounds_toArray, List.set_cons_succ, List.set_cons_zero]
            refine wpAnyH_take (i := 6) (v := .pointer (some ⟨g1, o1, none⟩)) rfl (by kernel_rfl) (by kernel_rfl) (by kernel_rfl) (fun _ _ _ h => h) (Or.inl ⟨by rfl, fun W _ => by go_simp⟩) hHeld ?_
            simp only [Act.put, List.getElem_toArray, List.getElem_cons_zero, List.getElem_cons_succ, List.setIfInBounds_toArray, List.set_cons_succ, List.set_cons_zero]
            refine wpAnyH_take (i := 7) (v := .agg #[.string (mk x.1), .int .i64 x.2.1, .string (mk x.2.2)]) rfl (by kernel_rfl) (by kernel_rfl) (by kernel_rfl) (fun _ _ _ h => h) (Or.inl ⟨by rfl, fun W hW => by obtain ⟨h0, h1, h2⟩ := HX01.out.below HG01.out hW; clear hW; go_simp⟩) hHeld ?_
            simp only [Act.put, List.getElem_toArray, List.getElem_cons_zero, List.getElem_cons_succ, List.setIfInBounds_toArray, List.set_cons_succ, List.set_cons_zero]
            refine wpAnyH_take (i := 8) (v := .slice (some ⟨g2, o2, none⟩) n2 xb) rfl (by kernel_rfl) (by kernel_rfl) (by kernel_rfl) (fun _ _ _ h => h) (Or.inl ⟨by rfl, fun W _ => by go_simp⟩) hHeld ?_
            simp only [Act.put, List.getElem_toArray, List.getElem_cons_zero, List.getElem_cons_succ, List.setIfInBounds_toArray, List.set_cons_succ, List.set_cons_zero]
            refine wpAnyH_take (i := 9) (v := .pointer (some ⟨g2, o2, none⟩)) rfl (by kernel_rfl) (by kernel_rfl) (by kernel_rfl) (fun _ _ _ h => h) (Or.inl ⟨by rfl, fun W _ => by go_simp⟩) hHeld ?_
            simp only [Act.put, List.getElem_toArray, List.getElem_cons_zero, List.getElem_cons_succ, List.setIfInBounds_toArray, List.set_cons_succ, List.set_cons_zero]
            refine wpAnyH_take (i := 10) (v := .agg #[.string (mk y.1), .int .i64 y.2.1, .string (mk y.2.2)]) rfl (by kernel_rfl) (by kernel_rfl) (by kernel_rfl) (fun _ _ _ h => h) (Or.inl ⟨by rfl, fun W hW => by obtain ⟨h0, h1, h2⟩ := HX02.out.below HG02.out hW; clear hW; go_simp⟩) hHeld ?_
            simp only [Act.put, List.getElem_toArray, List.getElem_cons_zero, List.getElem_cons_succ, List.setIfInBounds_toArray, List.set_cons_succ, List.set_cons_zero]
            refine wpAnyH_take (i := 11) (v := .agg #[.string (mk x.1), .string (mk x.1), .int .i64 x.2.1, .string (mk x.2.2), .string (mk y.1), .int .i64 y.2.1, .string (mk y.2.2)]) rfl (by kernel_rfl) (by kernel_rfl) (by kernel_rfl) (fun _ _ _ h => h) (Or.inl ⟨by rfl, fun W _ => by go_simp⟩) hHeld ?_
            simp only [Act.put, List.getElem_toArray, List.getElem_cons_zero, List.getElem_cons_succ, List.setIfInBounds_toArray, List.set_cons_succ, List.set_cons_zero]
            refine wpAnyH_ready (rs := [12]) (by kernel_rfl) (by simp) ?_
            refine AllReadyH.cons rfl (fun K hK => ?_) AllReadyH.nil
            go_simp
            refine hK.out _ _ (below_dr0 (HST5.out.bel.alloc HST5.out.bel.size _)) (fun hHeld => ?_)
            clear hK K
            refine wpAnyH_ready (rs := [13]) (by kernel_rfl) (by simp) ?_
            refine AllReadyH.cons rfl (fun K hK => ?_) AllReadyH.nil
            refine step_app_chg (by rfl) (.tmp 39) (.tmp 51) (by rfl) w.heap.size (.slice ac nc xc) cs (by rfl) (by exact ownC_heap HST5.out.own rfl) (x.1, x, y) _ (by rfl) (by exact chgs_heap (w3 := w5) rfl rfl) HLN.out (by have := HST5.out.bel.size; simp; omega) ?_
            intro a7 n7 c7 w7 ho7 hg7
            have HST7 := hid (HST5.out.app (a2 := a') (b2 := b') (va2 := .slice q1 m1 r1) (vb2 := .slice q2 m2 r2) HD.out (fun e he => List.mem_cons_of_mem _ he) (fun e he => List.mem_cons_of_mem _ he) (by simp; try omega) HV1.out HV2.out ho7 hg7 rfl rfl rfl rfl)
            clear ho7 hg7
            refine hK.out _ _ HST7.out.bel (fun hHeld => ?_)
            clear hK K
            simp only [Act.put, List.getElem_toArray, List.getElem_cons_zero, List.getElem_cons_succ, List.setIfInBounds_toArray, List.set_cons_succ, List.set_cons_zero]
            refine wpAnyH_take (i := 14) (v := .slice a7 n7 c7) rfl (by kernel_rfl) (by kernel_rfl) (by kernel_rfl) (fun _ _ _ h => h) (Or.inl ⟨by rfl, fun W _ => by go_simp⟩) hHeld ?_
            simp only [Act.put, List.getElem_toArray, List.getElem_cons_zero, List.getElem_cons_succ, List.setIfInBounds_toArray, List.set_cons_succ, List.set_cons_zero]
            refine wpAnyH_done (by kernel_rfl) ?_ _
            simp only [noPanic]
            clear hHeld
            have hs1 := HS1.out
            have hs2 := HS2.out
            clear HST5
            have ib : Nonempty (Bel w7) := bel_some w7
            go_wp2_with fail
            refine wp_region_quiet_bel (by kernel_rfl) (by kernel_rfl) ?_
            repeat (go_big_quiet_step (fail))
            refine wpQuiet_nil ?_
            rintro w8 ⟨⟨w8', hb8⟩, hw8⟩
            obtain rfl : w8 = w8' := hw8
            have HST8 := hid (HST7.out.go hb8)
            clear ib hb8 HST7
            go_wp2
            exact ⟨⟨a', b', _, HST8.out⟩, by have := HM1.out; have := HZ1.out; have := HM2.out; have := HZ2.out; simp [lenV]; omega⟩

end Go.Proofs.Ytgldmepmeampeaa

/- TreeDiffs answers true. -/
namespace Go.Proofs.Ytgldmepmeampeaa
open Go.RowKit

set_option maxRecDepth 100000 in
set_option maxHeartbeats 2000000 in
theorem diff_bad (va vb : Value) (a b : List Ent) (w : World) (ha : Ents w va a) (hb : Ents w vb b) (hsa : Short a) (hsb : Short b) (hna : a.length ≤ 4611686018427387904) (hnb : b.length ≤ 4611686018427387904) (E : Int) (hE : rgtP [a, b] = E) (hbad : E ≠ 0) :
    Calls Try.prog 22 #[va, vb] w fun r w' => r = .returned (.tuple #[.slice none 0 0, .int .i64 E]) ∧ Below w.heap.size w w' := by
  have HR := hid (right_any _ [a, b] _ (trs_two w va vb a b 22 ha hb) (by simp) (fun x hx => by
    simp only [List.mem_cons, List.not_mem_nil, or_false] at hx
    rcases hx with rfl | rfl
    · exact ⟨hsa, hna⟩
    · exact ⟨hsb, hnb⟩))
  rw [hE] at HR
  have HB0 := hid (below_walk w (.cells #[va, vb] 22))
  obtain ⟨ao, ca, rfl⟩ := ha.shape
  obtain ⟨bo, cb, rfl⟩ := hb.shape
  have e1 : (E == 0) = false := by simpa using hbad
  clear ha hb hsa hsb hE
  go_enter Try.func22, Try.ntmps22
  go_wp2_with fail
  refine HR.out.mono ?_
  rintro r w1 ⟨rfl, hb1⟩
  have HB1 := hid (below_then HB0.out hb1)
  clear hb1 HR HB0
  go_wp2
  go_ret2
  exact ⟨rfl, HB1.out⟩
theorem ebk_short {es : List Ent} (h : EBk es) : Short es := by intro e he; have := h.bulk e he; constructor <;> omega
/-- Diff, whatever the trees are -/
theorem diff_any (va vb : Value) (a b : List Ent) (w : World) (ha : Ents w va a) (hb : Ents w vb b) (hsa : Short a) (hsb : Short b) (hna : a.length ≤ 4611686018427387904) (hnb : b.length ≤ 4611686018427387904) :
    Calls Try.prog 22 #[va, vb] w fun r w' => AnsC w' w.heap.size r (dfP a b) ∧ Below w.heap.size w w' := by
  by_cases h1 : (chkP a).2 = 0
  · by_cases h2 : (chkP b).2 = 0
    · have := diff_ok va vb a b w ha hb hsa hsb (rgt_iff.1 h1) (rgt_iff.1 h2)
      unfold dfP
      rw [if_neg (by simpa using h1), if_neg (by simpa using h2)]
      exact this
    · unfold dfP
      rw [if_neg (by simpa using h1), if_pos h2]
      exact diff_bad va vb a b w ha hb hsa hsb hna hnb _ (by rw [rgtP_two, if_neg (by simpa using h1)]) h2
  · unfold dfP
    rw [if_pos h1]
    exact diff_bad va vb a b w ha hb hsa hsb hna hnb _ (by rw [rgtP_two, if_pos h1]) h1
theorem rdiff_any (va vb : Value) (a b : List Ent) (w : World) (ha : Ents w va a) (hb : Ents w vb b) (hla : Bulk a) (hlb : Bulk b) (hna : a.length ≤ 4611686018427387904) (hnb : b.length ≤ 4611686018427387904) :
    Calls Try.prog 23 #[va, vb] w fun r w' => AnsC w' w.heap.size r (dfP a b) ∧ Below w.heap.size w w' := by
  by_cases h : (chkP a).2 = 0 ∧ (chkP b).2 = 0
  · have := rdiff_ok va vb a b w ha hb hla hlb (rgt_iff.1 h.1) (rgt_iff.1 h.2)
    unfold dfP
    rw [if_neg (by simpa using h.1), if_neg (by simpa using h.2)]
    exact this
  · exact rdiff_bad va vb a b w ha hb hla hlb hna hnb h
theorem ansC_two {w1 w2 : World} {b1 b2 : Nat} {r1 r2 : Ending} {x : Except Int (List Chg)} (h1 : AnsC w1 b1 r1 x) (h2 : AnsC w2 b2 r2 x) (hb : Below w1.heap.size w1 w2) :
    ∃ (v1 v2 : Value) (l : List Chg) (n : Int), r1 = .returned (.tuple #[v1, .int .i64 n]) ∧ r2 = .returned (.tuple #[v2, .int .i64 n]) ∧ Chgs w2 v1 l ∧ Chgs w2 v2 l ∧ (x = .ok l ∨ l = []) := by
  cases x with
  | ok l =>
    obtain ⟨v1, e1, o1⟩ := h1
    obtain ⟨v2, e2, o2⟩ := h2
    exact ⟨v1, v2, l, 0, e1, e2, o1.chgs.below hb, o2.chgs, Or.inl rfl⟩
  | error e => exact ⟨_, _, [], e, h1, h2, Chgs.nil _, Chgs.nil _, Or.inr rfl⟩
theorem dfP_len {a b : List Ent} {t : List Chg} (h : dfP a b = .ok t) : t.length ≤ 2048 := by
  unfold dfP at h
  split at h
  · cases h
  · rename_i h1
    split at h
    · cases h
    · rename_i h2
      cases h
      have h3 := difP_len _ a b (Nat.le_refl _)
      have h4 := (rgt_iff.1 (by simpa using h1)).many
      have h5 := (rgt_iff.1 (by simpa using h2)).many
      omega

set_option maxRecDepth 100000 in
set_option maxHeartbeats 1000000 in
theorem lawDiffs_any (va vb : Value) (a b : List Ent) (w : World) (ha : Ents w va a) (hb : Ents w vb b) (ka : EBk a) (kb : EBk b) :
    Calls Try.prog 6 #[va, vb] w fun e w' => e = .returned (.bool true) ∧ Below w.heap.size w w' := by
  have H1 := hid (diff_any va vb a b w ha hb (ebk_short ka) (ebk_short kb) (by have := ka.len; omega) (by have := kb.len; omega))
  have H2 := hid (fun w2 (hw : Below w.heap.size w w2) => rdiff_any va vb a b w2 (ha.below hw) (hb.below hw) ka.bulk kb.bulk (by have := ka.len; omega) (by have := kb.len; omega))
  have HAW := hid alive_any
  have HLN := hid (fun t => dfP_len (a := a) (b := b) (t := t))
  obtain ⟨ao, ca, rfl⟩ := ha.shape
  obtain ⟨bo, cb, rfl⟩ := hb.shape
  generalize dfP a b = D at *
  clear ha hb ka kb
  go_enter Try.func6, Try.ntmps6
  go_wp2_with fail
  refine H1.out.mono ?_
  rintro e1 w1 ⟨ha1, hb1⟩
  have HB1 := hid hb1
  have HAS := hid (fun (e2 : Ending) w2 (h2 : AnsC w2 w1.heap.size e2 D) (hb2 : Below w1.heap.size w1 w2) => ansC_two ha1 h2 hb2)
  have H3 := hid (H2.out w1 hb1)
  obtain ⟨v1, v1', l1, n1, he1, _, hc1, _, _⟩ := ansC_two ha1 ha1 (Below.refl _ _)
  obtain ⟨a1, c1, hv1⟩ := hc1.shape
  generalize l1.length = m1 at hv1
  subst hv1
  subst he1
  clear ha1 hb1 H1 H2 hc1
  go_wp2_with fail
  refine H3.out.mono ?_
  rintro e2 w2 ⟨ha2, hb2⟩
  obtain ⟨v1', v2, t, n, he1, he2, hv1, hv2, htl⟩ := HAS.out e2 w2 ha2 hb2
  have hl : t.length ≤ 2048 := by
    rcases htl with h | h
    · exact HLN.out t h
    · rw [h]; simp
  obtain ⟨rfl, rfl⟩ : v1' = .slice a1 m1 c1 ∧ n = n1 := by
    injection he1 with h
    injection h with h
    injection h with h
    injection h with h1 h2
    injection h2 with h2
    injection h2 with _ h2
    exact ⟨h1.symm, h2.symm⟩
  subst he2
  have HB2 := hid (HB1.out.trans (hb2.mono HB1.out.size))
  have HSM := hid (rsameC_any _ _ t t w2 hv1 hv2 (by omega))
  rw [decide_eq_true rfl] at HSM
  obtain ⟨a2, c2, rfl⟩ := hv2.shape
  generalize t.length = m2 at *
  clear ha2 hb2 hv1 hv2 htl hl he1 HAS H3 HB1 HLN
  go_wp2_with (first | (go_at_call 24; refine HSM.out.mono ?_; rintro r w3 ⟨rfl, q3, rfl⟩) | (go_at_call 10; refine (HAW.out _).mono ?_; rintro r w4 ⟨rfl, hb4⟩))
  go_ret
  exact ⟨rfl, below_then (below_n HB2.out _) hb4⟩

end Go.Proofs.Ytgldmepmeampeaa
