/- Contracts and pure facts that the proof needs, joined. -/
import Derived.Test.YtaajbmcejpeoiaaG2
import Derived.Test.YtaajbmcejpeoiaaG1
import Derived.Deep.MidRow
import Derived.OrdersHeld
import Derived.Deep.RegionHeld3
import Derived.Deep.Cut

/- Where a path stands, and changes applied, plainly: the changes between two trees lead from the one to the other. -/
namespace Go.Proofs.Ytaajbmcejpeoiaa

/-- where a path stands in a rising row, or would -/
def plP (t : List Ent) (p : List UInt8) : Nat := (t.takeWhile (fun e => decide (cmpL (nms e.1) (nms p) < 0))).length
def thP (t : List Ent) (p : List UInt8) : Bool := (fdP t p).isSome
/-- what stands at a path; the zero entry, if nothing does -/
def stP (t : List Ent) (p : List UInt8) : Ent := (fdP t p).getD zE
structure Plc (t : List Ent) (p : List UInt8) (i : Nat) : Prop where
  le : i ≤ t.length
  lo : ∀ j, j < i → cmpL (nms (t.getD j zE).1) (nms p) < 0
  hi : ∀ j, i ≤ j → j < t.length → ¬ cmpL (nms (t.getD j zE).1) (nms p) < 0
theorem plP_lt {x : Ent} {t : List Ent} {p : List UInt8} (h : cmpL (nms x.1) (nms p) < 0) : plP (x :: t) p = plP t p + 1 := by
  unfold plP
  rw [List.takeWhile_cons, if_pos (by simpa using h)]
  rfl
theorem plP_ge {x : Ent} {t : List Ent} {p : List UInt8} (h : ¬ cmpL (nms x.1) (nms p) < 0) : plP (x :: t) p = 0 := by
  unfold plP
  rw [List.takeWhile_cons, if_neg (by simpa using h)]
  rfl
theorem Plc.eq : ∀ {t : List Ent} {p : List UInt8} {i : Nat}, Plc t p i → i = plP t p
  | [], p, i, h => by have := h.le; simp at this; subst this; rfl
  | x :: t, p, i, h => by
    by_cases hx : cmpL (nms x.1) (nms p) < 0
    · rw [plP_lt hx]
      cases i with
      | zero => exact absurd hx (h.hi 0 (Nat.le_refl _) (by simp))
      | succ i =>
        have : Plc t p i := ⟨by have := h.le; simpa using this, fun j hj => by have := h.lo (j + 1) (by omega); simpa using this, fun j h1 h2 => by have := h.hi (j + 1) (by omega) (by simpa using h2); simpa using this⟩
        rw [← this.eq]
    · rw [plP_ge hx]
      cases i with
      | zero => rfl
      | succ i => exact absurd (h.lo 0 (by omega)) hx
theorem plP_le (t : List Ent) (p : List UInt8) : plP t p ≤ t.length := by
  unfold plP
  exact (List.takeWhile_sublist _).length_le
theorem fdP_cons_ne {x : Ent} {t : List Ent} {p : List UInt8} (h : x.1 ≠ p) : fdP (x :: t) p = fdP t p := by
  unfold fdP
  rw [List.find?_cons, decide_eq_false h]
theorem fdP_cons_eq {x : Ent} {t : List Ent} : fdP (x :: t) x.1 = some x := by
  unfold fdP
  rw [List.find?_cons, decide_eq_true rfl]
theorem cmp_ne {a b : List UInt8} (h : cmpL (nms a) (nms b) < 0) : a ≠ b := fun e => by rw [e, cmpL_self] at h; omega
/-- the place that was found: whether the path stands there -/
theorem Plc.there {t : List Ent} {p : List UInt8} {i : Nat} (_ : Plc t p i) (ht : t.Pairwise ltE) (hi : i < t.length) (h0 : cmpL (nms (t.getD i zE).1) (nms p) = 0) : fdP t p = some (t.getD i zE) := by
  have := fdP_mem ht (getD_mem hi)
  rw [nms_inj (cmpL_zero h0)] at this
  exact this
theorem Plc.lacks {t : List Ent} {p : List UInt8} {i : Nat} (h : Plc t p i) (ht : t.Pairwise ltE) (h0 : i < t.length → cmpL (nms (t.getD i zE).1) (nms p) ≠ 0) : fdP t p = none := by
  rw [fdP_none]
  intro e he hp
  obtain ⟨k, hk, rfl⟩ := List.getElem_of_mem he
  have hg : t.getD k zE = t[k] := by simp [List.getD_eq_getElem?_getD, hk]
  rcases Nat.lt_or_ge k i with h1 | h1
  · exact cmp_ne (h.lo k h1) (by rw [hg]; exact hp)
  · rcases Nat.lt_or_ge i k with h2 | h2
    · have h3 := pair_at ht h2 hk
      unfold ltE at h3
      rw [hg, hp] at h3
      exact h.hi i (Nat.le_refl _) (by omega) h3
    · obtain rfl : k = i := by omega
      exact h0 hk (by rw [hg, hp, cmpL_self])

/-- changes that are made -/
def chgd : List Ent → List Chg → List Ent
  | t, [] => t
  | t, c :: l => t.take (plP t c.1) ++ ((if c.2.2.2.1 = 0 then [] else [c.2.2]) ++ chgd (t.drop (plP t c.1 + (if thP t c.1 then 1 else 0))) l)
/-- may one side of a change be? -/
def sidP (e : Ent) (p : List UInt8) : Bool := decide (e = zE) || (decide (e.1 = p) && mayP e)
def okC (c : Chg) : Bool := !(decide (c.2.1 = zE) && decide (c.2.2 = zE)) && sidP c.2.1 c.1 && sidP c.2.2 c.1
/-- may changes be, behind a path? -/
def mayC : List UInt8 → List Chg → Bool
  | _, [] => true
  | last, c :: l => okC c && decide (cmpL (nms last) (nms c.1) < 0) && mayC c.1 l
/-- what Apply answers -/
def apP (t : List Ent) (l : List Chg) : Except Int (List Ent) :=
  if (chkP t).2 ≠ 0 then .error (chkP t).2 else if mayC [] l = false then .error 1 else if l.any (fun c => decide (stP t c.1 ≠ c.2.1)) = true then .error 8
  else if (chkP (chgd t l)).2 ≠ 0 then .error (chkP (chgd t l)).2 else .ok (chgd t l)
theorem dif_mem : ∀ (n : Nat) (a b : List Ent), a.length + b.length ≤ n → ∀ c ∈ difP a b, ∃ e ∈ a ++ b, c.1 = e.1
  | n, [], [], _, c, hc => by rw [difP] at hc; simp at hc
  | 0, x :: a, b, h, _, _ => by simp at h
  | 0, [], y :: b, h, _, _ => by simp at h
  | n + 1, x :: a, [], h, c, hc => by
    rw [difP, List.mem_cons] at hc
    rcases hc with rfl | hc
    · exact ⟨x, by simp, rfl⟩
    · obtain ⟨e, he, h1⟩ := dif_mem n a [] (by simp at h ⊢; omega) c hc
      exact ⟨e, by simp at he ⊢; exact Or.inr he, h1⟩
  | n + 1, [], y :: b, h, c, hc => by
    rw [difP, List.mem_cons] at hc
    rcases hc with rfl | hc
    · exact ⟨y, by simp, rfl⟩
    · obtain ⟨e, he, h1⟩ := dif_mem n [] b (by simp at h ⊢; omega) c hc
      exact ⟨e, by simp at he ⊢; exact Or.inr he, h1⟩
  | n + 1, x :: a, y :: b, h, c, hc => by
    rw [difP] at hc
    split at hc
    · rw [List.mem_cons] at hc
      rcases hc with rfl | hc
      · exact ⟨x, by simp, rfl⟩
      · obtain ⟨e, he, h1⟩ := dif_mem n a (y :: b) (by simp at h ⊢; omega) c hc
        exact ⟨e, by rw [List.cons_append]; exact List.mem_cons_of_mem _ he, h1⟩
    · split at hc
      · rw [List.mem_append] at hc
        rcases hc with hc | hc
        · split at hc
          · simp at hc
          · rw [List.mem_singleton] at hc
            subst hc
            exact ⟨x, by simp, rfl⟩
        · obtain ⟨e, he, h1⟩ := dif_mem n a b (by simp at h ⊢; omega) c hc
          refine ⟨e, ?_, h1⟩
          rw [List.mem_append] at he ⊢
          exact he.imp (List.mem_cons_of_mem _) (List.mem_cons_of_mem _)
      · rw [List.mem_cons] at hc
        rcases hc with rfl | hc
        · exact ⟨y, by simp, rfl⟩
        · obtain ⟨e, he, h1⟩ := dif_mem n (x :: a) b (by simp at h ⊢; omega) c hc
          refine ⟨e, ?_, h1⟩
          rw [List.mem_append] at he ⊢
          exact he.imp id (List.mem_cons_of_mem _)
/-- all changes lie behind what lies ahead of both -/
theorem dif_behind {a b : List Ent} {p : List UInt8} (ha : ∀ e ∈ a, cmpL (nms p) (nms e.1) < 0) (hb : ∀ e ∈ b, cmpL (nms p) (nms e.1) < 0) : ∀ c ∈ difP a b, cmpL (nms p) (nms c.1) < 0 := by
  intro c hc
  obtain ⟨e, he, h1⟩ := dif_mem _ a b (Nat.le_refl _) c hc
  rw [h1]
  rw [List.mem_append] at he
  exact he.elim (ha e) (hb e)
theorem chgd_skip {x : Ent} {t : List Ent} {l : List Chg} (h : ∀ c ∈ l, cmpL (nms x.1) (nms c.1) < 0) : chgd (x :: t) l = x :: chgd t l := by
  cases l with
  | nil => rfl
  | cons c l =>
    have hc := h c (by simp)
    have e1 : thP (x :: t) c.1 = thP t c.1 := by unfold thP; rw [fdP_cons_ne (cmp_ne hc)]
    rw [chgd, chgd, plP_lt hc, e1, List.take_succ_cons, show plP t c.1 + 1 + (if thP t c.1 = true then 1 else 0) = (plP t c.1 + (if thP t c.1 = true then 1 else 0)) + 1 by omega, List.drop_succ_cons]
    rfl
theorem stP_skip {x : Ent} {t : List Ent} {p : List UInt8} (h : cmpL (nms x.1) (nms p) < 0) : stP (x :: t) p = stP t p := by
  unfold stP
  rw [fdP_cons_ne (cmp_ne h)]
theorem stP_none {t : List Ent} {p : List UInt8} (h : ∀ e ∈ t, cmpL (nms p) (nms e.1) < 0) : fdP t p = none := by
  rw [fdP_none]
  exact fun e he hp => cmp_ne (h e he) hp.symm
theorem pairL {x : Ent} {t : List Ent} (h : (x :: t).Pairwise ltE) : (∀ e ∈ t, cmpL (nms x.1) (nms e.1) < 0) ∧ t.Pairwise ltE := by
  rw [List.pairwise_cons] at h
  exact ⟨fun e he => h.1 e he, h.2⟩
/-- what Diff tells leads from the one to the other, and fits what stands -/
theorem dif_leads : ∀ (n : Nat) (a b : List Ent), a.length + b.length ≤ n → a.Pairwise ltE → b.Pairwise ltE → (∀ e ∈ a, mayP e = true) → (∀ e ∈ b, mayP e = true) →
    chgd a (difP a b) = b ∧ (∀ c ∈ difP a b, stP a c.1 = c.2.1) ∧ ∀ p, (∀ e ∈ a, cmpL (nms p) (nms e.1) < 0) → (∀ e ∈ b, cmpL (nms p) (nms e.1) < 0) → mayC p (difP a b) = true
  | n, [], [], _, _, _, _, _ => by
    rw [difP]
    exact ⟨rfl, fun c hc => by simp at hc, fun _ _ _ => rfl⟩
  | 0, x :: a, b, h, _, _, _, _ => by simp at h
  | 0, [], y :: b, h, _, _, _, _ => by simp at h
  | n + 1, x :: a, [], h, pa, pb, ma, mb => by
    obtain ⟨i1, i2, i3⟩ := dif_leads n a [] (by simp at h ⊢; omega) (pairL pa).2 pb (fun e he => ma e (by simp [he])) mb
    have hx := ma x (by simp)
    rw [difP]
    refine ⟨?_, ?_, ?_⟩
    · have e1 : thP (x :: a) x.1 = true := by unfold thP; rw [fdP_cons_eq]; rfl
      rw [chgd]
      dsimp only
      rw [plP_ge (by rw [cmpL_self]; omega), e1, if_pos (show zE.2.1 = 0 from rfl), if_pos rfl]
      exact i1
    · intro c hc
      rw [List.mem_cons] at hc
      rcases hc with rfl | hc
      · unfold stP
        rw [fdP_cons_eq]
        rfl
      · rw [stP_skip (dif_behind (pairL pa).1 (fun e he => by simp at he) c hc)]
        exact i2 c hc
    · intro p h1 _
      have e1 : okC (x.1, x, zE) = true := by unfold okC sidP; simp [hx, may_zero hx]
      rw [mayC, e1, i3 x.1 (pairL pa).1 (fun e he => by simp at he), decide_eq_true (h1 x (by simp))]
      rfl
  | n + 1, [], y :: b, h, pa, pb, ma, mb => by
    obtain ⟨i1, i2, i3⟩ := dif_leads n [] b (by simp at h ⊢; omega) pa (pairL pb).2 ma (fun e he => mb e (by simp [he]))
    have hy := mb y (by simp)
    rw [difP]
    refine ⟨?_, ?_, ?_⟩
    · rw [chgd]
      dsimp only
      rw [if_neg (may_kind hy)]
      simp only [List.take_nil, List.drop_nil, List.nil_append]
      rw [i1]
      rfl
    · intro c hc
      rw [List.mem_cons] at hc
      rcases hc with rfl | hc
      · rfl
      · exact i2 c hc
    · intro p _ h2
      have e1 : okC (y.1, zE, y) = true := by unfold okC sidP; simp [hy, may_zero hy]
      rw [mayC, e1, i3 y.1 (fun e he => by simp at he) (pairL pb).1, decide_eq_true (h2 y (by simp))]
      rfl
  | n + 1, x :: a, y :: b, h, pa, pb, ma, mb => by
    have hx := ma x (by simp)
    have hy := mb y (by simp)
    have ta : ∀ {p : List UInt8}, cmpL (nms p) (nms x.1) < 0 → ∀ e ∈ x :: a, cmpL (nms p) (nms e.1) < 0 := by
      intro p hp e he
      rw [List.mem_cons] at he
      rcases he with rfl | he
      · exact hp
      · exact cmpL_lt_trans hp ((pairL pa).1 e he)
    have tb : ∀ {p : List UInt8}, cmpL (nms p) (nms y.1) < 0 → ∀ e ∈ y :: b, cmpL (nms p) (nms e.1) < 0 := by
      intro p hp e he
      rw [List.mem_cons] at he
      rcases he with rfl | he
      · exact hp
      · exact cmpL_lt_trans hp ((pairL pb).1 e he)
    rw [difP]
    split
    · rename_i hlt
      obtain ⟨i1, i2, i3⟩ := dif_leads n a (y :: b) (by simp at h ⊢; omega) (pairL pa).2 pb (fun e he => ma e (by simp [he])) mb
      have hbh := dif_behind (pairL pa).1 (tb hlt)
      refine ⟨?_, ?_, ?_⟩
      · have e1 : thP (x :: a) x.1 = true := by unfold thP; rw [fdP_cons_eq]; rfl
        rw [chgd]
        dsimp only
        rw [plP_ge (by rw [cmpL_self]; omega), e1, if_pos (show zE.2.1 = 0 from rfl), if_pos rfl]
        exact i1
      · intro c hc
        rw [List.mem_cons] at hc
        rcases hc with rfl | hc
        · unfold stP
          rw [fdP_cons_eq]
          rfl
        · rw [stP_skip (hbh c hc)]
          exact i2 c hc
      · intro p h1 _
        have e1 : okC (x.1, x, zE) = true := by unfold okC sidP; simp [hx, may_zero hx]
        rw [mayC, e1, i3 x.1 (pairL pa).1 (tb hlt), decide_eq_true (h1 x (by simp))]
        rfl
    · rename_i hlt
      split
      · rename_i heq
        have hp : x.1 = y.1 := nms_inj (cmpL_zero heq)
        obtain ⟨i1, i2, i3⟩ := dif_leads n a b (by simp at h ⊢; omega) (pairL pa).2 (pairL pb).2 (fun e he => ma e (by simp [he])) (fun e he => mb e (by simp [he]))
        have hbh := dif_behind (pairL pa).1 (fun e he => by rw [hp]; exact (pairL pb).1 e he)
        by_cases hxy : x = y
        · subst hxy
          rw [if_pos rfl, List.nil_append]
          refine ⟨by rw [chgd_skip hbh, i1], fun c hc => by rw [stP_skip (hbh c hc)]; exact i2 c hc, fun p h1 h2 => i3 p (fun e he => h1 e (by simp [he])) (fun e he => h2 e (by simp [he]))⟩
        · rw [if_neg hxy, List.singleton_append]
          refine ⟨?_, ?_, ?_⟩
          · have e1 : thP (x :: a) x.1 = true := by unfold thP; rw [fdP_cons_eq]; rfl
            rw [chgd]
            dsimp only
            rw [plP_ge (by rw [cmpL_self]; omega), e1, if_neg (may_kind hy), if_pos rfl]
            simp only [List.take_zero, List.nil_append, Nat.zero_add, List.drop_succ_cons, List.drop_zero, List.singleton_append]
            rw [i1]
          · intro c hc
            rw [List.mem_cons] at hc
            rcases hc with rfl | hc
            · unfold stP
              rw [fdP_cons_eq]
              rfl
            · rw [stP_skip (hbh c hc)]
              exact i2 c hc
          · intro p h1 _
            have e1 : okC (x.1, x, y) = true := by unfold okC sidP; simp [hx, hy, may_zero hx, hp]
            rw [mayC, e1, i3 x.1 (pairL pa).1 (fun e he => by rw [hp]; exact (pairL pb).1 e he), decide_eq_true (h1 x (by simp))]
            rfl
      · rename_i hne
        have hgt : cmpL (nms y.1) (nms x.1) < 0 := by have := cmpL_anti (nms x.1) (nms y.1); omega
        obtain ⟨i1, i2, i3⟩ := dif_leads n (x :: a) b (by simp at h ⊢; omega) pa (pairL pb).2 ma (fun e he => mb e (by simp [he]))
        have hf : fdP (x :: a) y.1 = none := stP_none (ta hgt)
        refine ⟨?_, ?_, ?_⟩
        · have e1 : thP (x :: a) y.1 = false := by unfold thP; rw [hf]; rfl
          rw [chgd]
          dsimp only
          rw [plP_ge (by omega), e1, if_neg (may_kind hy)]
          simp only [List.take_zero, List.nil_append, Nat.zero_add, List.singleton_append, Bool.false_eq_true, if_false, List.drop_zero]
          rw [i1]
        · intro c hc
          rw [List.mem_cons] at hc
          rcases hc with rfl | hc
          · unfold stP
            rw [hf]
            rfl
          · exact i2 c hc
        · intro p _ h2
          have e1 : okC (y.1, zE, y) = true := by unfold okC sidP; simp [hy, may_zero hy]
          rw [mayC, e1, i3 y.1 (ta hgt) (pairL pb).1, decide_eq_true (h2 y (by simp))]
          rfl
theorem ahead_all {t : List Ent} (h : ∀ e ∈ t, mayP e = true) : ∀ e ∈ t, cmpL (nms []) (nms e.1) < 0 := by
  intro e he
  rw [nms_e, cmpL_nil (mayP_nms (h e he))]
  omega
theorem apP_dif {a b : List Ent} (ha : Rgt a) (hb : Rgt b) : apP a (difP a b) = .ok b := by
  obtain ⟨h1, h2, h3⟩ := dif_leads _ a b (Nat.le_refl _) ha.up hb.up ha.may hb.may
  unfold apP
  rw [h1, h3 [] (ahead_all ha.may) (ahead_all hb.may), if_neg (by simpa using rgt_iff.2 ha), if_neg (by simp), if_neg ?_, if_neg (by simpa using rgt_iff.2 hb)]
  rw [List.any_eq_true]
  rintro ⟨c, hc, hd⟩
  simp only [decide_eq_true_eq] at hd
  exact hd (h2 c hc)
/-- no changes just where both are one -/
theorem dif_none {a b : List Ent} (ha : Rgt a) (hb : Rgt b) : difP a b = [] ↔ a = b := by
  obtain ⟨h1, _, _⟩ := dif_leads _ a b (Nat.le_refl _) ha.up hb.up ha.may hb.may
  constructor
  · intro h
    rw [h] at h1
    exact h1
  · rintro rfl
    have : ∀ t : List Ent, difP t t = [] := by
      intro t
      induction t with
      | nil => rw [difP]
      | cons x t ih => rw [difP, cmpL_self, if_neg (by omega), if_pos rfl, if_pos rfl, ih]; rfl
    exact this a

end Go.Proofs.Ytaajbmcejpeoiaa

/- What place compares by. -/
namespace Go.Proofs.Ytaajbmcejpeoiaa
open Go.RowKit Go.BigFrame

set_option maxRecDepth 100000 in
set_option maxHeartbeats 1000000 in
theorem placeCmp_any (e : Ent) (p : List UInt8) (w : World) (he : e.1.length ≤ 9223372036854775807) (hp : p.length ≤ 9223372036854775807) :
    Calls Try.prog 60 #[entA e, .string (mk p)] w fun r w' => r = .returned (.int .i64 (cmP e.1 p)) ∧ Below w.heap.size w w' := by
  have HC := hid (compare_any (mk e.1) (mk p) · (by rw [bl_mk]; exact he) (by rw [bl_mk]; exact hp))
  simp only [bl_mk] at HC
  have HB := hid (below_walk w (.cells #[.string (mk e.1), .int .i64 e.2.1, .string (mk e.2.2)] 25))
  unfold entA
  generalize cmP e.1 p = C at *
  generalize pN e.1 p = D at *
  generalize mk e.1 = s1 at *
  generalize mk e.2.2 = s2 at *
  generalize mk p = s3 at *
  clear he hp
  go_enter Try.func60, Try.ntmps60
  go_wp2_with (go_at_call 57; refine (HC.out _).mono ?_; rintro r w1 ⟨rfl, hb1⟩; have HB1 := hid (below_then HB.out hb1); clear hb1)
  go_ret
  exact ⟨rfl, HB1.out⟩

theorem cmP_ok {a b : List UInt8} (ha : okP a = true) (hb : okP b = true) : cmP a b = cmpL (nms a) (nms b) := by unfold cmP; rw [if_pos ⟨ha, hb⟩]

end Go.Proofs.Ytaajbmcejpeoiaa

/- Where a path stands: the program's place. -/
namespace Go.Proofs.Ytaajbmcejpeoiaa
open Go.RowKit Go.BigFrame

set_option maxRecDepth 100000 in
set_option maxHeartbeats 2000000 in
theorem search_any (v : Value) (t : List Ent) (p : List UInt8) (w : World) (h : Ents w v t) (hup : t.Pairwise ltE) (hok : ∀ e ∈ t, okP e.1 = true) (hp : okP p = true) (hn : t.length ≤ 1024) :
    Calls Try.prog 59 #[v, .string (mk p), .func (.func 60) #[] #[]] w
      fun r w' => r = .returned (.tuple #[.int .i64 (plP t p), .bool (thP t p)]) ∧ Below w.heap.size w w' := by
  obtain ⟨ao, c, rfl⟩ := h.shape
  have H := hid h
  have HUP := hid hup
  have HOK := hid hok
  have HC := hid (fun (e : Ent) (he : e ∈ t) (W : World) => placeCmp_any e p W (by have := okP_short (hok e he); omega) (by have := okP_short hp; omega))
  have HP := hid hp
  clear h hup hok hp
  go_enter Try.func59, Try.ntmps59
  go_wp2
  go_loopw [9, 10] (fun x y wr => ∃ i j : Nat, x = .int .i64 i ∧ y = .int .i64 j ∧ i ≤ j ∧ j ≤ t.length ∧ (∀ k, k < i → cmpL (nms (t.getD k zE).1) (nms p) < 0) ∧ (∀ k, j ≤ k → k < t.length → ¬ cmpL (nms (t.getD k zE).1) (nms p) < 0) ∧ Below w.heap.size w wr) (fun x y _ => (intOf y).toNat - (intOf x).toNat)
  case atStart => exact ⟨0, t.length, rfl, rfl, Nat.zero_le _, Nat.le_refl _, fun k hk => by omega, fun k h1 h2 => by omega, Below.refl _ _⟩
  case round =>
    obtain ⟨i, j, rfl, rfl, hij, hjn, hlo, hhi, hb⟩ := hrel
    have HLO := hid hlo
    have HHI := hid hhi
    have HB := hid hb
    clear hlo hhi hb
    by_cases hlt : i < j
    · have q1 : (i : Int) < (j : Int) := by omega
      obtain ⟨m, HM⟩ : ∃ m : Nat, Hid (m = (i + j) / 2) := ⟨_, rfl⟩
      have hm1 : i ≤ m := by rw [HM.out]; omega
      have hm2 : m < j := by rw [HM.out]; omega
      have hm3 : m < t.length := by omega
      obtain ⟨g, o, rfl, hgl, hx⟩ := (H.out.below HB.out).at m hm3
      obtain ⟨x, HX⟩ : ∃ x, Hid (t.getD m zE = x) := ⟨_, rfl⟩
      rw [HX.out] at hx
      have hmem : x ∈ t := by rw [← HX.out]; exact getD_mem hm3
      have HCX := hid (fun W : World => HC.out x hmem W)
      have HCO := hid (cmP_ok (HOK.out x hmem) HP.out)
      have hw1 : IntKind.i64.wrap ((i : Int) + (j : Int)) = ((i + j : Nat) : Int) := by rw [IntKind.wrap_i64]; omega
      have hq : ((i : Int) + (j : Int)) / 2 = (m : Int) := by rw [HM.out]; omega
      have hw2 : IntKind.i64.wrap ((m : Int) + 1) = ((m + 1 : Nat) : Int) := by rw [IntKind.wrap_i64]; omega
      have q2 : (m : Int) < (t.length : Int) := by omega
      have HLO2 := hid (fun (h : cmpL (nms x.1) (nms p) < 0) k (hk : k < m + 1) => show cmpL (nms (t.getD k zE).1) (nms p) < 0 from by
        rcases Nat.lt_or_ge k m with h1 | h1
        · have h2 := pair_at HUP.out h1 hm3
          unfold ltE at h2
          rw [HX.out] at h2
          exact cmpL_lt_trans h2 h
        · obtain rfl : k = m := by omega
          rw [HX.out]
          exact h)
      have HHI2 := hid (fun (h : ¬ cmpL (nms x.1) (nms p) < 0) k (h1 : m ≤ k) (h2 : k < t.length) => show ¬ cmpL (nms (t.getD k zE).1) (nms p) < 0 from by
        intro h3
        rcases Nat.lt_or_ge m k with h4 | h4
        · have h5 := pair_at HUP.out h4 h2
          unfold ltE at h5
          rw [HX.out] at h5
          exact h (cmpL_lt_trans h5 h3)
        · obtain rfl : k = m := by omega
          rw [HX.out] at h3
          exact h h3)
      obtain ⟨x0, x1, x2⟩ := hx
      clear HC hmem
      unfold entA at HCX
      rw [← HCO.out] at HLO2 HHI2
      generalize cmP x.1 p = K at *
      by_cases hK : K < 0
      · have HLO3 := hid (HLO2.out hK)
        clear HLO2 HHI2
        go_wp2_with (go_at_call 60; refine (HCX.out _).mono ?_; rintro r w1 ⟨rfl, hb1⟩; have HB1 := hid (HB.out.trans (hb1.mono HB.out.size)); clear hb1)
        exact ⟨⟨m + 1, j, by simp, rfl, by omega, hjn, HLO3.out, (fun k a b => Int.not_lt.2 (by simpa using HHI.out k a b)), HB1.out⟩, by simp [intOf]; omega⟩
      · have HHI3 := hid (HHI2.out hK)
        clear HLO2 HHI2
        go_wp2_with (go_at_call 60; refine (HCX.out _).mono ?_; rintro r w1 ⟨rfl, hb1⟩; have HB1 := hid (HB.out.trans (hb1.mono HB.out.size)); clear hb1)
        exact ⟨⟨i, m, rfl, rfl, hm1, by omega, HLO.out, (fun k a b => Int.not_lt.2 (by simpa using HHI3.out k a b)), HB1.out⟩, by simp [intOf]; omega⟩
    · have q1 : ¬ (i : Int) < (j : Int) := by omega
      obtain rfl : i = j := by omega
      have HPL : Hid (Plc t p i) := ⟨hjn, HLO.out, HHI.out⟩
      have HPE := hid HPL.out.eq
      by_cases hin : i < t.length
      · have q3 : (i : Int) < (t.length : Int) := by omega
        obtain ⟨g, o, rfl, hgl, hx⟩ := (H.out.below HB.out).at i hin
        obtain ⟨x, HX⟩ : ∃ x, Hid (t.getD i zE = x) := ⟨_, rfl⟩
        rw [HX.out] at hx
        have hmem : x ∈ t := by rw [← HX.out]; exact getD_mem hin
        have HCX := hid (fun W : World => HC.out x hmem W)
        have HTH := hid (show decide (cmP x.1 p = 0) = thP t p from by
          rw [cmP_ok (HOK.out x hmem) HP.out]
          unfold thP
          by_cases h0 : cmpL (nms x.1) (nms p) = 0
          · rw [decide_eq_true h0, HPL.out.there HUP.out hin (by rw [HX.out]; exact h0)]; rfl
          · rw [decide_eq_false h0, HPL.out.lacks HUP.out (fun _ => by rw [HX.out]; exact h0)]; rfl)
        obtain ⟨x0, x1, x2⟩ := hx
        clear HC hmem
        unfold entA at HCX
        generalize cmP x.1 p = K at *
        go_wp2_with (go_at_call 60; refine (HCX.out _).mono ?_; rintro r w1 ⟨rfl, hb1⟩; have HB1 := hid (HB.out.trans (hb1.mono HB.out.size)); clear hb1)
        go_ret2
        refine ⟨?_, HB1.out⟩
        rw [← HPE.out, ← HTH.out]
        first | rfl | simp
      · have q3 : ¬ (i : Int) < (t.length : Int) := by omega
        have HTH := hid (show thP t p = false from by unfold thP; rw [HPL.out.lacks HUP.out (fun h => absurd h hin)]; rfl)
        go_wp2
        go_ret2
        refine ⟨?_, HB.out⟩
        rw [← HPE.out, HTH.out]
        rfl

set_option maxRecDepth 100000 in
set_option maxHeartbeats 1000000 in
theorem place_any (v : Value) (t : List Ent) (p : List UInt8) (w : World) (h : Ents w v t) (hup : t.Pairwise ltE) (hok : ∀ e ∈ t, okP e.1 = true) (hp : okP p = true) (hn : t.length ≤ 1024) :
    Calls Try.prog 36 #[v, .string (mk p)] w fun r w' => r = .returned (.tuple #[.int .i64 (plP t p), .bool (thP t p)]) ∧ Below w.heap.size w w' := by
  have HS := hid (search_any v t p w h hup hok hp hn)
  obtain ⟨ao, c, rfl⟩ := h.shape
  generalize plP t p = I at *
  generalize thP t p = B at *
  clear h hup hok hp
  go_enter Try.func36, Try.ntmps36
  go_wp2_with (go_at_call 59; refine HS.out.mono ?_; rintro r w1 ⟨rfl, hb1⟩)
  go_ret2
  exact ⟨rfl, hb1⟩

theorem plP_th {t : List Ent} {p : List UInt8} (hup : t.Pairwise ltE) (h : thP t p = true) : plP t p < t.length ∧ t.getD (plP t p) zE = stP t p := by
  unfold thP at h
  obtain ⟨e, he⟩ := Option.isSome_iff_exists.1 h
  obtain ⟨h1, h2⟩ := fdP_some he
  obtain ⟨k, hk, rfl⟩ := List.getElem_of_mem h1
  have hg : t.getD k zE = t[k] := by simp [List.getD_eq_getElem?_getD, hk]
  have : Plc t p k := ⟨Nat.le_of_lt hk, fun j hj => by
      have := pair_at hup hj hk
      unfold ltE at this
      rw [hg, h2] at this
      exact this, fun j h3 h4 h5 => by
      rcases Nat.lt_or_ge k j with h6 | h6
      · have := pair_at hup h6 h4
        unfold ltE at this
        rw [hg, h2] at this
        have := cmpL_lt_trans this h5
        rw [cmpL_self] at this
        omega
      · obtain rfl : j = k := by omega
        rw [hg, h2, cmpL_self] at h5
        omega⟩
  rw [← this.eq]
  refine ⟨hk, ?_⟩
  unfold stP
  rw [he, hg]
  rfl

set_option maxRecDepth 100000 in
set_option maxHeartbeats 1000000 in
theorem standing_any (v : Value) (t : List Ent) (p : List UInt8) (w : World) (h : Ents w v t) (hup : t.Pairwise ltE) (hok : ∀ e ∈ t, okP e.1 = true) (hp : okP p = true) (hn : t.length ≤ 1024) :
    Calls Try.prog 22 #[v, .string (mk p)] w fun r w' => r = .returned (entA (stP t p)) ∧ Below w.heap.size w w' := by
  have HB0 := hid (below_walk w (.cells #[.string ⟨#[]⟩, .int .i64 0, .string ⟨#[]⟩] 25))
  have HN0 := hid (hp_new w (.cells #[.string ⟨#[]⟩, .int .i64 0, .string ⟨#[]⟩] 25))
  have HS := hid (place_any v t p (w.alloc (.cells #[.string ⟨#[]⟩, .int .i64 0, .string ⟨#[]⟩] 25)) (h.below HB0.out) hup hok hp hn)
  have HT := hid (fun h => plP_th (t := t) (p := p) hup h)
  have HF := hid (show thP t p = false → stP t p = zE from fun h => by
    unfold thP at h
    unfold stP
    rw [Option.isSome_eq_false_iff, Option.isNone_iff_eq_none] at h
    rw [h]; rfl)
  have H := hid h
  obtain ⟨ao, c, rfl⟩ := h.shape
  generalize plP t p = I at *
  generalize thP t p = B at *
  clear h hup hok hp
  have HU := hid Try.underlying25
  cases B with
  | true =>
    obtain ⟨hI, hst⟩ := HT.out rfl
    obtain ⟨g, o, rfl, hgl, hx⟩ := H.out.at I hI
    rw [hst] at hx
    obtain ⟨e, HE⟩ : ∃ e, Hid (stP t p = e) := ⟨_, rfl⟩
    rw [HE.out] at hx ⊢
    have HX := hid hx
    have HG := hid hgl
    have q1 : (I : Int) < (t.length : Int) := by omega
    unfold entA
    clear HT HF hst hx hgl
    go_enter Try.func22, Try.ntmps22
    go_wp2_with fail
    refine HS.out.mono ?_
    rintro r w1 ⟨rfl, hb1⟩
    have HB1 := hid (below_then HB0.out hb1)
    have HN1 := hid ((hb1.block w.heap.size (by simp)).trans HN0.out)
    obtain ⟨x0, x1, x2⟩ := HX.out.below HG.out HB1.out
    clear hb1 HS HB0 HN0
    have g0 := row_cell HN1.out 0
    have g1 := row_cell HN1.out 1
    have g2 := row_cell HN1.out 2
    have f0 := row_fz HN1.out 0
    have f1 := row_fz HN1.out 1
    have f2 := row_fz HN1.out 2
    simp at g0 g1 g2
    go_wp2
    refine ret_row 4 25 rfl w.heap.size rfl [.string (mk e.1), .int .i64 e.2.1, .string (mk e.2.2)] 25 (by rw [blk_set (blk_set (blk_set HN1.out _) _) _]; rfl) _ Try.underlying25 rfl (by kernel_rfl) rfl ⟨rfl, ?_⟩
    exact ((HB1.out.setCell (by simp) _).setCell (by simp) _).setCell (by simp) _
  | false =>
    rw [HF.out rfl]
    unfold entA
    clear HT HF
    go_enter Try.func22, Try.ntmps22
    go_wp2_with fail
    refine HS.out.mono ?_
    rintro r w1 ⟨rfl, hb1⟩
    have HB1 := hid (below_then HB0.out hb1)
    have HN1 := hid ((hb1.block w.heap.size (by simp)).trans HN0.out)
    clear hb1 HS HB0 HN0
    have g0 := row_cell HN1.out 0
    have g1 := row_cell HN1.out 1
    have g2 := row_cell HN1.out 2
    have f0 := row_fz HN1.out 0
    have f1 := row_fz HN1.out 1
    have f2 := row_fz HN1.out 2
    simp at g0 g1 g2
    go_wp2
    refine ret_row 4 25 rfl w.heap.size rfl [.string ⟨#[]⟩, .int .i64 0, .string ⟨#[]⟩] 25 (by rw [blk_set (blk_set (blk_set HN1.out _) _) _]; rfl) _ Try.underlying25 rfl (by kernel_rfl) rfl ⟨rfl, ?_⟩
    exact ((HB1.out.setCell (by simp) _).setCell (by simp) _).setCell (by simp) _

end Go.Proofs.Ytaajbmcejpeoiaa

/- The program's isDirectory, below and Find. -/
namespace Go.Proofs.Ytaajbmcejpeoiaa
open Go.RowKit Go.BigFrame

theorem dirP_st {t : List Ent} {p : List UInt8} (h : p ≠ []) : dirP t p = decide ((stP t p).2.1 = 2) := by
  unfold dirP stP
  rw [decide_eq_false h, Bool.false_or]
  cases fdP t p with
  | none => rfl
  | some e => rfl

theorem field_kind (s1 s2 : ByteArray) (K : Int) (W : World) : (Instr.field 25 (.agg #[.string s1, .int .i64 K, .string s2]) 1).run Try.prog W = .ok (.int .i64 K) W := by kernel_rfl

set_option maxRecDepth 100000 in
set_option maxHeartbeats 1000000 in
theorem isDir_any (v : Value) (t : List Ent) (p : List UInt8) (w : World) (h : Ents w v t) (hup : t.Pairwise ltE) (hok : ∀ e ∈ t, okP e.1 = true) (hp : okP p = true) (hn : t.length ≤ 1024) :
    Calls Try.prog 35 #[v, .string (mk p)] w fun r w' => r = .returned (.bool (dirP t p)) ∧ Below w.heap.size w w' := by
  have HS := hid (standing_any v t p w h hup hok hp hn)
  obtain ⟨ao, c, rfl⟩ := h.shape
  unfold entA at HS
  by_cases h0 : p = []
  · have HD := hid (show dirP t p = true from by unfold dirP; rw [decide_eq_true h0]; rfl)
    have e1 : (mk p).toList = [] := by rw [h0]; exact bl_mk []
    clear h hup hok hp h0 HS
    generalize mk p = s at *
    go_enter Try.func35, Try.ntmps35
    go_wp2
    go_ret
    exact ⟨ret_bb HD.out.symm, Below.refl _ _⟩
  · have HD := hid (dirP_st (t := t) h0)
    have e1 : ¬ (mk p).toList = [] := fun h => h0 ((bl_mk p).symm.trans h)
    have e2 : ((mk p).toList == []) = false := by simpa using e1
    have e3 : (mk p).toList.isEmpty = false := by simpa using e1
    obtain ⟨K, HK⟩ : ∃ K : Int, Hid ((stP t p).2.1 = K) := ⟨_, rfl⟩
    rw [HK.out] at HS HD
    clear h hup hok hp h0 HK
    generalize mk (stP t p).1 = s1 at *
    generalize mk (stP t p).2.2 = s2 at *
    generalize mk p = s at *
    have hfk := fun W => field_kind s1 s2 K W
    by_cases hk : K = 2
    · subst hk
      go_enter Try.func35, Try.ntmps35
      go_wp2_with (go_at_call 22; refine HS.out.mono ?_; rintro r w1 ⟨rfl, hb1⟩; have HB1 := hid hb1; clear hb1)
      go_ret
      exact ⟨ret_bb (by rw [HD.out]; rfl), HB1.out⟩
    · have e4 : (K == 2) = false := by simpa using hk
      have HD2 := hid (HD.out.trans (decide_eq_false hk))
      go_enter Try.func35, Try.ntmps35
      go_wp2_with (go_at_call 22; refine HS.out.mono ?_; rintro r w1 ⟨rfl, hb1⟩; have HB1 := hid hb1; clear hb1)
      go_ret
      exact ⟨ret_bb (by rw [HD2.out]), HB1.out⟩

/-- does a path lie below a directory? -/
def lyP (d q : List UInt8) : Bool := decide (d = []) || (d ++ [47]).isPrefixOf q
/-- f tells which paths lie below a directory -/
def Lies (w : World) (f : Value) (d : List UInt8) : Prop :=
  (d = [] ∧ f = .func (.func 62) #[] #[]) ∨ (d ≠ [] ∧ ∃ B, f = .func (.func 63) #[] #[.pointer (some ⟨B, 0, none⟩)] ∧ B < w.heap.size ∧ w.cell? ⟨B, 0, none⟩ = some (.string (mk (d ++ [47]))))
theorem Lies.two {w : World} {f : Value} {d : List UInt8} (h : Lies w f d) (hd : d ≠ []) : ∃ B, f = .func (.func 63) #[] #[.pointer (some ⟨B, 0, none⟩)] ∧ B < w.heap.size ∧ w.cell? ⟨B, 0, none⟩ = some (.string (mk (d ++ [47]))) := by
  rcases h with h | h
  · exact absurd h.1 hd
  · exact h.2
theorem Lies.below {w w' : World} {f : Value} {d : List UInt8} (h : Lies w f d) (hb : Below w.heap.size w w') : Lies w' f d := by
  rcases h with h | ⟨h0, B, h1, h2, h3⟩
  · exact Or.inl h
  · exact Or.inr ⟨h0, B, h1, Nat.lt_of_lt_of_le h2 hb.size, (hb.cell (p := ⟨B, 0, none⟩) h2).trans h3⟩

set_option maxRecDepth 100000 in
set_option maxHeartbeats 1000000 in
theorem below_fn (d : List UInt8) (w : World) (hd : d.length ≤ 4611686018427387904) :
    Calls Try.prog 39 #[.string (mk d)] w fun r w' => ∃ f, r = .returned f ∧ Lies w' f d ∧ Below w.heap.size w w' := by
  by_cases h0 : d = []
  · have HL := hid (show Lies w (.func (.func 62) #[] #[]) d from Or.inl ⟨h0, rfl⟩)
    have e1 : (mk d).toList = [] := by rw [h0]; exact bl_mk []
    clear h0
    generalize mk d = s at *
    go_enter Try.func39, Try.ntmps39
    go_wp2
    go_ret
    exact ⟨_, rfl, HL.out, Below.refl _ _⟩
  · have e1 : ¬ (mk d).toList = [] := fun h => h0 ((bl_mk d).symm.trans h)
    have e2 : ((mk d).toList == []) = false := by simpa using e1
    have e3 : (mk d).toList.isEmpty = false := by simpa using e1
    have hadd := fun W => str_add d [47] (by simp; omega) W
    have HL := hid (show ∀ W : World, W.cell? ⟨w.heap.size, 0, none⟩ = some (.string (mk (d ++ [47]))) → w.heap.size < W.heap.size → Lies W (.func (.func 63) #[] #[.pointer (some ⟨w.heap.size, 0, none⟩)]) d from fun W h1 h2 => Or.inr ⟨h0, _, rfl, h2, h1⟩)
    have HB := hid (below_walk w (.cells #[.string (mk (d ++ [47]))] 9))
    have HN := hid (hp_new w (.cells #[.string (mk (d ++ [47]))] 9))
    change ∀ W, (Op.stringOp .add (mk d) ⟨#[47]⟩).run Try.prog W = .ok (.string (mk (d ++ [47]))) W at hadd
    clear h0
    generalize mk (d ++ [47]) = s2 at *
    generalize mk d = s at *
    go_enter Try.func39, Try.ntmps39
    go_wp2
    go_ret
    exact ⟨_, rfl, HL.out _ (by rw [row_cell HN.out 0]; rfl) (hp_lt HN.out), HB.out⟩

set_option maxRecDepth 100000 in
set_option maxHeartbeats 1000000 in
theorem lies_one (q : List UInt8) (w : World) : Calls Try.prog 62 #[.string (mk q)] w fun r w' => r = .returned (.bool true) ∧ w' = w := by
  generalize mk q = s
  go_enter Try.func62, Try.ntmps62
  go_wp2
  go_ret
  exact ⟨rfl, rfl⟩

set_option maxRecDepth 100000 in
set_option maxHeartbeats 1000000 in
theorem lies_two (B : Nat) (d q : List UInt8) (w : World) (h : w.cell? ⟨B, 0, none⟩ = some (.string (mk (d ++ [47])))) :
    Calls Try.prog 63 #[.string (mk q), .pointer (some ⟨B, 0, none⟩)] w fun r w' => r = .returned (.bool ((d ++ [47]).isPrefixOf q)) ∧ w' = w := by
  have HP := hid (pre_any (mk q) (mk (d ++ [47])) w)
  rw [bl_mk, bl_mk] at HP
  generalize mk (d ++ [47]) = s2 at *
  generalize mk q = s at *
  go_enter Try.func63, Try.ntmps63
  go_wp2_with (go_at_call 64; refine HP.out.mono ?_; rintro r w1 ⟨rfl, rfl⟩)
  go_ret
  exact ⟨rfl, rfl⟩

end Go.Proofs.Ytaajbmcejpeoiaa

/- Entries that may be are not long. -/
namespace Go.Proofs.Ytaajbmcejpeoiaa
open Go.RowKit

theorem may_short {t : List Ent} (h : ∀ e ∈ t, mayP e = true) : Short t := by
  intro e he
  have h1 := okP_short (mayP_ok (h e he))
  have h2 := h e he
  unfold mayP at h2
  simp only [Bool.and_eq_true, decide_eq_true_iff] at h2
  refine ⟨by omega, ?_⟩
  rcases h2.2 with h3 | h3 | h3
  · omega
  · rw [h3.2]; simp
  · omega
theorem may_shr' {e : Ent} (h : mayP e = true) : Shr e := by
  have h1 := okP_short (mayP_ok h)
  refine ⟨by omega, ?_⟩
  unfold mayP at h
  simp only [Bool.and_eq_true, decide_eq_true_iff] at h
  rcases h.2 with h2 | h2 | h2
  · omega
  · rw [h2.2]; simp
  · omega

end Go.Proofs.Ytaajbmcejpeoiaa

/- The program's Remove. -/
namespace Go.Proofs.Ytaajbmcejpeoiaa
open Go.RowKit Go.BigFrame

/-- what Remove leaves -/
def keepP (p : List UInt8) (e : Ent) : Bool := decide (e.1 ≠ p) && !lyP p e.1
def rmP (t : List Ent) (p : List UInt8) : Except Int (List Ent) :=
  if (chkP t).2 ≠ 0 then .error (chkP t).2 else if okP p = false then .error 45 else if thP t p = false then .error 8 else .ok (t.filter (keepP p))
theorem keep_no {p : List UInt8} {e : Ent} (h : e.1 = p) : keepP p e = false := by unfold keepP; rw [decide_eq_false (by simpa using h)]; rfl
theorem keep_is {p : List UInt8} {e : Ent} (h : e.1 ≠ p) : keepP p e = !lyP p e.1 := by unfold keepP; rw [decide_eq_true h]; rfl
theorem th_ne {t : List Ent} {p : List UInt8} (hm : ∀ e ∈ t, mayP e = true) (h : thP t p = true) : p ≠ [] := by
  unfold thP at h
  obtain ⟨e, he⟩ := Option.isSome_iff_exists.1 h
  obtain ⟨h1, h2⟩ := fdP_some he
  rw [← h2]
  exact mayP_ne (hm e h1)

set_option maxRecDepth 100000 in
set_option maxHeartbeats 4000000 in
theorem remove_any (v : Value) (t : List Ent) (p : List UInt8) (w : World) (h : Ents w v t) (hs : Short t) (hn : t.length ≤ 4611686018427387904) (hpl : p.length ≤ 4611686018427387904) :
    Calls Try.prog 16 #[v, .string (mk p)] w fun r w' => AnsE w' w.heap.size r (rmP t p) ∧ Below w.heap.size w w' := by
  obtain ⟨E0, HE0⟩ : ∃ E : Int, Hid ((chkP t).2 = E) := ⟨_, rfl⟩
  have HR := hid (right_one v t w h hs hn E0 HE0.out)
  have HET := hid h
  obtain ⟨ao, c, rfl⟩ := h.shape
  clear h hs
  by_cases h0 : E0 = 0
  · subst h0
    have HRT := hid (rgt_iff.1 HE0.out)
    cases hok : okP p with
    | false =>
      have HAP := hid (show rmP t p = .error 45 from by unfold rmP; rw [if_neg (by simpa using HE0.out), if_pos hok])
      have HC := hid (check_is (mk p) 45 (by rw [bl_mk]; unfold chN; rw [hok]; rfl) (by rw [bl_mk]; omega))
      clear hok
      go_enter Try.func16, Try.ntmps16
      go_wp2_with fail
      refine HR.out.mono ?_
      rintro r w1 ⟨rfl, hb1⟩
      have HB1 := hid hb1
      clear hb1 HR
      go_wp2_with (go_at_call 21; refine (HC.out _).mono ?_; rintro r w2 ⟨rfl, n2, rfl⟩)
      go_ret2
      rw [HAP.out]
      exact ⟨rfl, below_n HB1.out n2⟩
    | true =>
      have HC := hid (check_is (mk p) 0 (by rw [bl_mk]; unfold chN; rw [hok]; rfl) (by rw [bl_mk]; omega))
      have HPL := hid (fun W (hW : Below w.heap.size w W) => place_any _ t p W (HET.out.below hW) HRT.out.up (fun e he => mayP_ok (HRT.out.may e he)) hok HRT.out.many)
      have HBF := hid (fun W : World => below_fn p W hpl)
      have HOK := hid hok
      generalize plP t p = I at *
      cases hth : thP t p with
      | false =>
        have HAP := hid (show rmP t p = .error 8 from by unfold rmP; rw [if_neg (by simpa using HE0.out), if_neg (by rw [HOK.out]; simp), if_pos hth])
        rw [hth] at HPL
        clear hok hth
        go_enter Try.func16, Try.ntmps16
        go_wp2_with fail
        refine HR.out.mono ?_
        rintro r w1 ⟨rfl, hb1⟩
        have HB1 := hid hb1
        clear hb1 HR
        go_wp2_with (first | (go_at_call 21; refine (HC.out _).mono ?_; rintro r w2 ⟨rfl, n2, rfl⟩; have HB2 := hid (below_n HB1.out n2); generalize w1.drewN n2 = w2 at *) | (go_at_call 36; refine (HPL.out _ HB2.out).mono ?_; rintro r w3 ⟨rfl, hb3⟩; have HB3 := hid (below_then HB2.out hb3); clear hb3))
        go_ret2
        rw [HAP.out]
        exact ⟨rfl, HB3.out⟩
      | true =>
        have HAP := hid (show rmP t p = .ok (t.filter (keepP p)) from by unfold rmP; rw [if_neg (by simpa using HE0.out), if_neg (by rw [HOK.out]; simp), if_neg (by rw [hth]; simp)])
        have HPN := hid (th_ne HRT.out.may hth)
        rw [hth] at HPL
        clear hok hth
        go_enter Try.func16, Try.ntmps16
        go_wp2_with fail
        refine HR.out.mono ?_
        rintro r w1 ⟨rfl, hb1⟩
        have HB1 := hid hb1
        clear hb1 HR
        go_wp2_with (first | (go_at_call 21; refine (HC.out _).mono ?_; rintro r w2 ⟨rfl, n2, rfl⟩; have HB2 := hid (below_n HB1.out n2); generalize w1.drewN n2 = w2 at *) | (go_at_call 36; refine (HPL.out _ HB2.out).mono ?_; rintro r w3 ⟨rfl, hb3⟩; have HB3 := hid (below_then HB2.out hb3); clear hb3) | (go_at_call 39; refine (HBF.out _).mono ?_; rintro r w4 ⟨f, rfl, hf, hb4⟩; have HB4 := hid (below_then HB3.out hb4); have HLF := hid hf; obtain ⟨B, hfe, hBl, hBc⟩ := hf.two HPN.out; subst hfe; have HBL := hid hBl; have HBC := hid hBc; clear hf hb4 hBl hBc HBF))
        have HE4 := hid (HET.out.below HB4.out)
        clear HB1 HB2 HB3 HET HLF
        go_loopw [11, 37] (fun x i wr => ∃ k : Nat, i = .int .i64 k ∧ k ≤ t.length ∧ OwnE wr w4.heap.size x ((t.take k).filter (keepP p)) ∧ Below w4.heap.size w4 wr) (fun _ i _ => t.length - (intOf i).toNat)
        case atStart => exact ⟨0, rfl, Nat.zero_le _, OwnE.nil _ _, Below.refl _ _⟩
        case round =>
          obtain ⟨k, rfl, hk, ho, hb⟩ := hrel
          have HO := hid ho
          have HB := hid hb
          obtain ⟨al, xl, e2⟩ := ho.ents.shape
          generalize ((t.take k).filter (keepP p)).length = nl at e2
          subst e2
          clear ho hb
          by_cases hlt : k < t.length
          · have q1 : (k : Int) < (t.length : Int) := by omega
            have hw1 : IntKind.i64.wrap ((k : Int) + 1) = ((k + 1 : Nat) : Int) := by rw [IntKind.wrap_i64]; omega
            obtain ⟨g, o, rfl, hgl, hat⟩ := (HE4.out.below HB.out).at k hlt
            obtain ⟨e, HED⟩ : ∃ e, Hid (t.getD k zE = e) := ⟨_, rfl⟩
            rw [HED.out] at hat
            have HTK := hid (take_snoc t k hlt)
            rw [HED.out] at HTK
            have HCW := hid ((HB.out.cell (p := ⟨B, 0, none⟩) HBL.out).trans HBC.out)
            have HEB := hid (Eb.new wr e)
            have HBE := hid (HB.out.alloc HB.out.size (.cells #[.string (mk e.1), .int .i64 e.2.1, .string (mk e.2.2)] 25))
            have HOE := hid (HO.out.below (below_walk wr (.cells #[.string (mk e.1), .int .i64 e.2.1, .string (mk e.2.2)] 25)))
            have HCE := hid (((below_walk wr (.cells #[.string (mk e.1), .int .i64 e.2.1, .string (mk e.2.2)] 25)).cell (p := ⟨B, 0, none⟩) (Nat.lt_of_lt_of_le HBL.out HB.out.size)).trans HCW.out)
            obtain ⟨d0, d1, d2⟩ := hat
            have HLT := hid (fun W (hW : W.cell? ⟨B, 0, none⟩ = some (.string (mk (p ++ [47])))) => lies_two B p e.1 W hW)
            by_cases hx : e.1 = p
            · have e1 : (mk e.1).toList = (mk p).toList := by rw [hx]
              have HF := hid (show (t.take (k + 1)).filter (keepP p) = (t.take k).filter (keepP p) from by rw [HTK.out, List.filter_append]; simp [keep_no hx])
              clear hx
              go_wp2
              exact ⟨⟨k + 1, by simp, by omega, by rw [HF.out]; exact HOE.out, HBE.out⟩, by simp [intOf]; omega⟩
            · have e1 : ¬ (mk e.1).toList = (mk p).toList := fun h => hx ((bl_mk e.1).symm.trans (h.trans (bl_mk p)))
              have e2 : ((mk e.1).toList == (mk p).toList) = false := by simpa using e1
              have HKP := hid (show keepP p e = !((p ++ [47]).isPrefixOf e.1) from by rw [keep_is hx]; unfold lyP; rw [decide_eq_false HPN.out]; rfl)
              clear hx
              generalize (p ++ [47]).isPrefixOf e.1 = X at *
              cases X with
              | true =>
                have HF := hid (show (t.take (k + 1)).filter (keepP p) = (t.take k).filter (keepP p) from by rw [HTK.out, List.filter_append]; simp [HKP.out])
                go_wp2_with (go_at_call 63; refine (HLT.out _ HCE.out).mono ?_; rintro r w5 ⟨rfl, rfl⟩)
                exact ⟨⟨k + 1, by simp, by omega, by rw [HF.out]; exact HOE.out, HBE.out⟩, by simp [intOf]; omega⟩
              | false =>
                have HF := hid (show (t.take (k + 1)).filter (keepP p) = (t.take k).filter (keepP p) ++ [e] from by rw [HTK.out, List.filter_append]; simp [HKP.out])
                have HLA := hid (show ((t.take k).filter (keepP p)).length + [e].length ≤ 3298534883328 by have h1 := List.length_filter_le (keepP p) (t.take k); rw [List.length_take] at h1; have := HRT.out.many; simp only [List.length_cons, List.length_nil]; omega)
                have HEN := hid (ents_one (wr.alloc (.cells #[.string (mk e.1), .int .i64 e.2.1, .string (mk e.2.2)] 25)) e)
                have HOA := hid (HOE.out.below (below_walk (wr.alloc (.cells #[.string (mk e.1), .int .i64 e.2.1, .string (mk e.2.2)] 25)) (.cells #[.string (mk e.1), .int .i64 e.2.1, .string (mk e.2.2)] 25)))
                have HBA := hid (HBE.out.alloc HBE.out.size (.cells #[.string (mk e.1), .int .i64 e.2.1, .string (mk e.2.2)] 25))
                rw [show (wr.alloc (.cells #[.string (mk e.1), .int .i64 e.2.1, .string (mk e.2.2)] 25)).heap.size = wr.heap.size + 1 by simp] at HEN
                go_wp2_with (first | (go_at_call 63; refine (HLT.out _ HCE.out).mono ?_; rintro r w5 ⟨rfl, rfl⟩) | (at_builtin; refine app_ent rfl _ _ rfl w4.heap.size _ _ rfl HOA.out [e] _ rfl HEN.out HLA.out HBA.out.size ?_; intro vA wA hoA hgA _; have HOB := hid hoA; have HBB := hid (HBA.out.grown hgA HBA.out.size (fun j hj => (HOA.out.lt j hj).1)); obtain ⟨aA, nA, cA, eA⟩ : ∃ a n c, vA = .slice a n c := by {obtain ⟨a, c, e⟩ := hoA.ents.shape; exact ⟨a, _, c, e⟩}; subst eA; clear hoA hgA))
                exact ⟨⟨k + 1, by simp, by omega, by rw [HF.out]; exact HOB.out, HBB.out⟩, by simp [intOf]; omega⟩
          · have q1 : ¬ (k : Int) < (t.length : Int) := by omega
            obtain rfl : k = t.length := by omega
            rw [List.take_length] at HO
            have HOW := hid (own_any _ (t.filter (keepP p)) wr HO.out.ents (by have h1 := List.length_filter_le (keepP p) t; have := HRT.out.many; omega) (fun e he => may_shr' (HRT.out.may e (List.mem_filter.1 he).1)))
            go_wp2_with fail
            refine HOW.out.mono ?_
            rintro r w7 ⟨v7, rfl, ho7, hb7⟩
            have HB7 := hid (below_then (below_then HB4.out HB.out) hb7)
            have HO7 := hid (ho7.le (below_then HB4.out HB.out).size)
            obtain ⟨a7, n7, c7, e7⟩ : ∃ a n c, v7 = .slice a n c := by obtain ⟨a, c, e⟩ := ho7.ents.shape; exact ⟨a, _, c, e⟩
            subst e7
            clear ho7 hb7
            go_wp2
            go_ret2
            rw [HAP.out]
            exact ⟨⟨_, rfl, HO7.out⟩, HB7.out⟩
  · have HAP := hid (show rmP t p = .error E0 from by unfold rmP; rw [HE0.out, if_pos h0])
    have e1 : (E0 == 0) = false := by simpa using h0
    clear h0
    go_enter Try.func16, Try.ntmps16
    go_wp2_with fail
    refine HR.out.mono ?_
    rintro r w1 ⟨rfl, hb1⟩
    have HB1 := hid hb1
    clear hb1 HR
    go_wp2
    go_ret2
    rw [HAP.out]
    exact ⟨rfl, HB1.out⟩

end Go.Proofs.Ytaajbmcejpeoiaa

/- An answer of a whole struct that lies in a variable, and a value beside it. -/
namespace Go.Proofs.Ytaajbmcejpeoiaa
open Go.RowKit

theorem results_cell2 {fn : Func} {p q : Tmp} {ty : TypeId} (h : fn.results = #[.cell p ty, .tmp q]) (tmps : Array Value) (P : Program) (w : World) :
    (results fn tmps).run P w = ((asAddr (tmps.getD p undef)).run P w).andThen fun a w₁ => ((loadVar ty a).run P w₁).andThen fun v w₂ => .ok (.tuple #[v, tmps.getD q undef]) w₂ := by
  simp only [results, h]
  simp [Sem.run_bind, Result.andThen]
/-- the answer is a whole row that lies in a variable, and a number -/
theorem ret_row2 {P : Program} {fn : Func} {R : Ending → World → Prop} {a : Act} {w : World} (p q : Tmp) (ty : TypeId) (h : fn.results = #[.cell p ty, .tmp q]) (g : Nat) (hp : a.tmps.getD p undef = .pointer (some ⟨g, 0, none⟩))
    (cs : List Value) (t : TypeId) (hb : w.heap[g]? = some (.cells cs.toArray t (0, 0))) (d : TypeDesc) (hu : P.underlying ty = some d) (hd : d.isRow = true) (hi : (P.info? ty).map (·.size) = some cs.length)
    (v : Value) (hq : a.tmps.getD q undef = v) (hdf : a.defers = []) (hR : R (.returned (.tuple #[.agg cs.toArray, v])) w) : bodyPost P fn R .ret a w := by
  refine bodyPost_ret (v := .tuple #[.agg cs.toArray, v]) ?_ hdf hR
  rw [results_cell2 h, hp, hq]
  have := run_loadVar_mid (P := P) w g 0 ty cs d (fun j v hv => by rw [Nat.zero_add, cell_of_row w g j cs.toArray t (0, 0) hb]; simpa using hv) hu hd hi
  simp [asAddr, this]

end Go.Proofs.Ytaajbmcejpeoiaa

/- A region in which no step can panic. -/
namespace Go.Proofs.Ytaajbmcejpeoiaa
open Go.RowKit
variable {P : Program}

/-- what must be shown where no step can panic -/
def noPanic (Q : Exit → Act → World → Prop) : Exit → Act → World → Prop := fun e a w => match e with
  | .panic _ => False
  | e => Q e a w
theorem wp_noPanic {c : Code} {Q : Exit → Act → World → Prop} {a : Act} {w : World} (h : c.wp P (noPanic Q) a w) : c.wp P Q a w :=
  Code.wp_mono (fun e a w h => by
    cases e
    all_goals first | exact h | exact h.elim) h

end Go.Proofs.Ytaajbmcejpeoiaa

/- The program's Find. -/
namespace Go.Proofs.Ytaajbmcejpeoiaa
open Go.RowKit Go.BigFrame

/-- what stands at a path, of whatever entries -/
def fnP (t : List Ent) (p : List UInt8) : Ent := if (chkP t).2 = 0 ∧ okP p = true then stP t p else zE
theorem st_shr {t : List Ent} {p : List UInt8} (h : ∀ e ∈ t, mayP e = true) : Shr (stP t p) := by
  unfold stP
  cases hf : fdP t p with
  | none => exact ⟨by simp [zE], by simp [zE]⟩
  | some e => exact may_shr' (h e (fdP_some hf).1)
theorem ebz (w : World) : Eb (w.alloc (.cells #[.string ⟨#[]⟩, .int .i64 0, .string ⟨#[]⟩] 25)) w.heap.size zE := hp_new _ _

theorem eb_other {w : World} {g d i : Nat} {e : Ent} (h : Eb w g e) (hd : g ≠ d) (v : Value) : Eb (w.setCell ⟨d, i, none⟩ v) g e := (Below.heap_setCell w _ v g (by simpa using hd)).trans h

set_option maxRecDepth 100000 in
set_option maxHeartbeats 4000000 in
theorem find_any (v : Value) (t : List Ent) (p : List UInt8) (w : World) (h : Ents w v t) (hs : Short t) (hn : t.length ≤ 4611686018427387904) (hpl : p.length ≤ 4611686018427387904) :
    Calls Try.prog 7 #[v, .string (mk p)] w fun r w' => r = .returned (.tuple #[entA (fnP t p), .bool (decide ((fnP t p).2.1 ≠ 0))]) ∧ Below w.heap.size w w' := by
  obtain ⟨E0, HE0⟩ : ∃ E : Int, Hid ((chkP t).2 = E) := ⟨_, rfl⟩
  have HB0 := hid (below_walk w (.cells #[.string ⟨#[]⟩, .int .i64 0, .string ⟨#[]⟩] 25))
  have HN0 := hid (ebz w)
  have HR := hid (right_one v t (w.alloc (.cells #[.string ⟨#[]⟩, .int .i64 0, .string ⟨#[]⟩] 25)) (h.below HB0.out) hs hn E0 HE0.out)
  have HSZ := hid (show (w.alloc (.cells #[.string ⟨#[]⟩, .int .i64 0, .string ⟨#[]⟩] 25)).heap.size = w.heap.size + 1 by simp)
  rw [HSZ.out] at HR
  have HET := hid h
  obtain ⟨ao, c, rfl⟩ := h.shape
  clear h hs
  by_cases h0 : E0 = 0 ∧ okP p = true
  · obtain ⟨h0, hok⟩ := h0
    subst h0
    have HRT := hid (rgt_iff.1 HE0.out)
    have HFN := hid (show fnP t p = stP t p from by unfold fnP; rw [if_pos ⟨HE0.out, hok⟩])
    have HC := hid (check_is (mk p) 0 (by rw [bl_mk]; unfold chN; rw [hok]; rfl) (by rw [bl_mk]; omega))
    have HST := hid (fun W (hW : Below w.heap.size w W) => standing_any _ t p W (HET.out.below hW) HRT.out.up (fun e he => mayP_ok (HRT.out.may e he)) hok HRT.out.many)
    have HSH := hid (st_shr (p := p) HRT.out.may)
    rw [HFN.out]
    clear hok HFN
    generalize stP t p = e at *
    have HOE := hid (fun W : World => ownEntry_any e W HSH.out)
    unfold entA at HST HOE ⊢
    obtain ⟨K, HK⟩ : ∃ K : Int, Hid (e.2.1 = K) := ⟨_, rfl⟩
    go_enter Try.func7, Try.ntmps7
    go_wp2_with fail
    refine HR.out.mono ?_
    rintro r w1 ⟨rfl, hb1⟩
    rw [← HSZ.out] at hb1
    have HB1 := hid (below_then HB0.out hb1)
    have HN1 := hid (HN0.out.below hb1)
    clear hb1 HR HB0 HN0
    go_wp2_with (first | (go_at_call 21; refine (HC.out _).mono ?_; rintro r w2 ⟨rfl, n2, rfl⟩; have HB2 := hid (below_n HB1.out n2); have HN2 := hid (show Eb (w1.drewN n2) w.heap.size zE from HN1.out); generalize w1.drewN n2 = w2 at *; clear HC) | (go_at_call 22; refine (HST.out _ HB2.out).mono ?_; rintro r w3 ⟨rfl, hb3⟩; have HB3 := hid (below_then HB2.out hb3); have HN3 := hid (HN2.out.below hb3); clear hb3 HST))
    have HD4 := hid (Eb.new w3 e)
    have HB4 := hid (below_then HB3.out (below_walk w3 (.cells #[.string (mk e.1), .int .i64 e.2.1, .string (mk e.2.2)] 25)))
    have HN4 := hid (HN3.out.below (below_walk w3 (.cells #[.string (mk e.1), .int .i64 e.2.1, .string (mk e.2.2)] 25)))
    have HDW := hid (show w.heap.size < w3.heap.size from hp_lt HN3.out)
    obtain ⟨D, HD⟩ : ∃ D : Nat, Hid (w3.heap.size = D) := ⟨_, rfl⟩
    rw [HD.out] at HD4 HDW ⊢
    generalize w3.alloc (.cells #[.string (mk e.1), .int .i64 e.2.1, .string (mk e.2.2)] 25) = wz at *
    refine wp_noPanic (wp_region_held_drew (S := fun W => Eb W D e) (by kernel_rfl) HD4.out ?_)
    intro hHeld
    refine wpAnyH_take (i := 0) (v := .agg #[.string (mk e.1), .int .i64 e.2.1, .string (mk e.2.2)]) rfl (by kernel_rfl) (by kernel_rfl) (by kernel_rfl) (fun _ _ _ h => h) (Or.inl ⟨by rfl, fun W hW => by obtain ⟨h0, h1, h2⟩ := hW.at; clear hW; go_simp⟩) hHeld ?_
    simp only [Act.put, List.getElem_toArray, List.getElem_cons_zero, List.setIfInBounds_toArray, List.set_cons_succ, List.set_cons_zero]
    refine wpAnyH_take (i := 2) (v := .pointer (some ⟨D, 1, none⟩)) rfl (by kernel_rfl) (by kernel_rfl) (by kernel_rfl) (fun _ _ _ h => h) (Or.inl ⟨by rfl, fun W _ => by go_simp⟩) hHeld ?_
    simp only [Act.put, List.getElem_toArray, List.getElem_cons_zero, List.getElem_cons_succ, List.setIfInBounds_toArray, List.set_cons_succ, List.set_cons_zero]
    refine wpAnyH_take (i := 3) (v := .int .i64 e.2.1) rfl (by kernel_rfl) (by kernel_rfl) (by kernel_rfl) (fun _ _ _ h => h) (Or.inl ⟨by rfl, fun W hW => by have hcell := hW.at.2.1; clear hW; go_simp⟩) hHeld ?_
    simp only [Act.put, List.getElem_toArray, List.getElem_cons_zero, List.getElem_cons_succ, List.setIfInBounds_toArray, List.set_cons_succ, List.set_cons_zero]
    refine wpAnyH_take (i := 4) (v := .bool (e.2.1 != 0)) rfl (by kernel_rfl) (by kernel_rfl) (by kernel_rfl) (fun _ _ _ h => h) (Or.inl ⟨by rfl, fun W _ => by go_simp⟩) hHeld ?_
    simp only [Act.put, List.getElem_toArray, List.getElem_cons_zero, List.getElem_cons_succ, List.setIfInBounds_toArray, List.set_cons_succ, List.set_cons_zero]
    refine wpAnyH_ready (rs := [1]) (by kernel_rfl) (by simp) ?_
    refine AllReadyH.cons rfl (fun K hK => ?_) AllReadyH.nil
    go_simp
    refine (HOE.out _).mono ?_
    rintro r w4 ⟨rfl, hb4⟩
    have HB5 := hid (below_then HB4.out ⟨hb4.os, hb4.tape, hb4.output, hb4.size, hb4.block⟩)
    have HN5 := hid (HN4.out.below ⟨hb4.os, hb4.tape, hb4.output, hb4.size, hb4.block⟩)
    have HD5 := hid (HD4.out.below ⟨hb4.os, hb4.tape, hb4.output, hb4.size, hb4.block⟩)
    clear hb4
    go_wp2_with fail
    refine hK.out _ _ HD5.out (fun hHeld => ?_)
    clear hK K
    refine wpAnyH_ready (rs := [5]) (by kernel_rfl) (by simp) ?_
    refine AllReadyH.cons rfl (fun K hK => ?_) AllReadyH.nil
    obtain ⟨g0, g1, g2⟩ := HN5.out.at
    have f0 := HN5.out.fz 0
    have f1 := HN5.out.fz 1
    have f2 := HN5.out.fz 2
    go_simp
    refine hK.out _ _ (eb_other (eb_other (eb_other HD5.out (by have := HDW.out; omega) _) (by have := HDW.out; omega) _) (by have := HDW.out; omega) _) (fun hHeld => ?_)
    clear hK K g0 g1 g2 f0 f1 f2
    refine wpAnyH_take (i := 6) (v := .bool (e.2.1 != 0)) rfl (by kernel_rfl) (by kernel_rfl) (by kernel_rfl) (fun _ _ _ h => h) (Or.inl ⟨by rfl, fun W _ => by go_simp⟩) hHeld ?_
    simp only [Act.put, List.getElem_toArray, List.getElem_cons_zero, List.getElem_cons_succ, List.setIfInBounds_toArray, List.set_cons_succ, List.set_cons_zero]
    refine wpAnyH_done (by kernel_rfl) ?_ _
    simp only [noPanic]
    clear hHeld
    go_wp2_with fail
    refine ret_row2 4 5 25 rfl w.heap.size rfl [.string (mk e.1), .int .i64 e.2.1, .string (mk e.2.2)] 25 (by rw [blk_set (blk_set (blk_set HN5.out _) _) _]; rfl) _ Try.underlying25 rfl (by kernel_rfl) (.bool (e.2.1 != 0)) rfl rfl ⟨?_, ?_⟩
    · by_cases hk : e.2.1 = 0 <;> simp [hk]
    · exact ((HB5.out.setCell (by simp) _).setCell (by simp) _).setCell (by simp) _
  · have HFN := hid (show fnP t p = zE from by unfold fnP; rw [HE0.out, if_neg h0])
    rw [HFN.out]
    unfold entA
    have fin : ∀ w2 : World, Below w.heap.size w w2 → Eb w2 w.heap.size zE → Below w.heap.size w (((w2.setCell ⟨w.heap.size, 0, none⟩ (.string ⟨#[]⟩)).setCell ⟨w.heap.size, 1, none⟩ (.int .i64 0)).setCell ⟨w.heap.size, 2, none⟩ (.string ⟨#[]⟩)) := fun w2 hb _ => ((hb.setCell (p := ⟨w.heap.size, 0, none⟩) (Nat.le_refl _) _).setCell (p := ⟨w.heap.size, 1, none⟩) (Nat.le_refl _) _).setCell (p := ⟨w.heap.size, 2, none⟩) (Nat.le_refl _) _
    have HFI := hid fin
    clear fin
    by_cases h1 : E0 = 0
    · subst h1
      have hok : okP p = false := by cases hx : okP p with
        | false => rfl
        | true => exact absurd ⟨rfl, hx⟩ h0
      have HC := hid (check_is (mk p) 45 (by rw [bl_mk]; unfold chN; rw [hok]; rfl) (by rw [bl_mk]; omega))
      clear h0 hok
      go_enter Try.func7, Try.ntmps7
      go_wp2_with fail
      refine HR.out.mono ?_
      rintro r w1 ⟨rfl, hb1⟩
      rw [← HSZ.out] at hb1
      have HB1 := hid (below_then HB0.out hb1)
      have HN1 := hid (HN0.out.below hb1)
      clear hb1 HR HB0 HN0
      go_wp2_with (go_at_call 21; refine (HC.out _).mono ?_; rintro r w2 ⟨rfl, n2, rfl⟩; have HB2 := hid (below_n HB1.out n2); have HN2 := hid (show Eb (w1.drewN n2) w.heap.size zE from HN1.out); generalize w1.drewN n2 = w2 at *; clear HC; obtain ⟨g0, g1, g2⟩ := HN2.out.at; have f0 := HN2.out.fz 0; have f1 := HN2.out.fz 1; have f2 := HN2.out.fz 2)
      exact ret_row2 4 5 25 rfl w.heap.size rfl [.string ⟨#[]⟩, .int .i64 0, .string ⟨#[]⟩] 25 (by rw [blk_set (blk_set (blk_set HN2.out _) _) _]; rfl) _ Try.underlying25 rfl (by kernel_rfl) (.bool false) rfl rfl ⟨rfl, HFI.out w2 HB2.out HN2.out⟩
    · have e1 : (E0 == 0) = false := by simpa using h1
      clear h0
      go_enter Try.func7, Try.ntmps7
      go_wp2_with fail
      refine HR.out.mono ?_
      rintro r w1 ⟨rfl, hb1⟩
      rw [← HSZ.out] at hb1
      have HB2 := hid (below_then HB0.out hb1)
      have HN2 := hid (HN0.out.below hb1)
      clear hb1 HR HB0 HN0
      obtain ⟨g0, g1, g2⟩ := HN2.out.at
      have f0 := HN2.out.fz 0
      have f1 := HN2.out.fz 1
      have f2 := HN2.out.fz 2
      go_wp2
      exact ret_row2 4 5 25 rfl w.heap.size rfl [.string ⟨#[]⟩, .int .i64 0, .string ⟨#[]⟩] 25 (by rw [blk_set (blk_set (blk_set HN2.out _) _) _]; rfl) _ Try.underlying25 rfl (by kernel_rfl) (.bool false) rfl rfl ⟨rfl, HFI.out w1 HB2.out HN2.out⟩

end Go.Proofs.Ytaajbmcejpeoiaa

/- The program's Put. -/
namespace Go.Proofs.Ytaajbmcejpeoiaa
open Go.RowKit Go.BigFrame

/-- a tree with an entry put in -/
def puL (t : List Ent) (e : Ent) : List Ent := t.take (plP t e.1) ++ ([e] ++ t.drop (plP t e.1 + (if thP t e.1 then 1 else 0)))
def putP (t : List Ent) (e : Ent) : Except Int (List Ent) :=
  if (chkP t).2 ≠ 0 then .error (chkP t).2 else if mayP e = false then .error 50 else if dirP t (spD e.1) = false then .error 52
  else if thP t e.1 = true ∧ decide ((stP t e.1).2.1 = 2) ≠ decide (e.2.1 = 2) then .error 9 else fitP (puL t e)
theorem trs_three {w W : World} {v1 v2 v3 : Value} {t1 t2 t3 : List Ent} {T : TypeId} {g : Nat} (h1 : Ents w v1 t1) (h2 : Ents w v2 t2) (h3 : Ents w v3 t3) (hW : W.heap = (w.alloc (.cells #[v1, v2, v3] T)).heap) (hg : g = w.heap.size) : Trs W (.slice (some ⟨g, 0, none⟩) 3 3) [t1, t2, t3] := by
  subst hg
  have hc : ∀ a : Addr, W.cell? a = (w.alloc (.cells #[v1, v2, v3] T)).cell? a := fun a => by simp only [World.cell?, hW]
  have he : ∀ {v : Value} {t : List Ent}, Ents w v t → Ents W v t := by
    intro v t h
    have h' := h.alloc (.cells #[v1, v2, v3] T)
    rcases h' with h' | ⟨g, o, c, hv, hlt, hl, hcc⟩
    · exact Or.inl h'
    · exact Or.inr ⟨g, o, c, hv, by rw [hW]; exact hlt, hl, fun j hj => by have := hcc j hj; unfold EntAt at this ⊢; rw [hc, hc, hc]; exact this⟩
  refine ⟨w.heap.size, 3, rfl, by rw [hW]; simp, fun j hj => ?_⟩
  have hj : j = 0 ∨ j = 1 ∨ j = 2 := by simp at hj; omega
  rcases hj with rfl | rfl | rfl
  · exact ⟨v1, by rw [hc]; simp, he h1⟩
  · exact ⟨v2, by rw [hc]; simp, he h2⟩
  · exact ⟨v3, by rw [hc]; simp, he h3⟩
theorem ansE_shape {w : World} {b : Nat} {r : Ending} {x : Except Int (List Ent)} (h : AnsE w b r x) : ∃ (ao : Option Addr) (n c : Nat) (E : Int), r = .returned (.tuple #[.slice ao n c, .int .i64 E]) := by
  cases x with
  | ok l =>
    obtain ⟨v, e, ho⟩ := h
    obtain ⟨a, c, ev⟩ := ho.ents.shape
    exact ⟨a, _, c, 0, by rw [e, ev]⟩
  | error E => exact ⟨none, 0, 0, E, h⟩
theorem ansE_le {w : World} {b b' : Nat} {r : Ending} {x : Except Int (List Ent)} (h : AnsE w b r x) (hb : b' ≤ b) : AnsE w b' r x := by
  cases x with
  | ok l => obtain ⟨v, e, ho⟩ := h; exact ⟨v, e, ho.le hb⟩
  | error E => exact h
theorem sz_le {t : List Ent} (h : ∀ e ∈ t, mayP e = true) : szP t ≤ t.length * 65536 := by
  induction t with
  | nil => simp [szP]
  | cons x t ih =>
    have h1 := ih (fun e he => h e (by simp [he]))
    have h2 := h x (by simp)
    unfold mayP at h2
    simp only [Bool.and_eq_true, decide_eq_true_iff] at h2
    have h3 : x.2.2.length ≤ 65536 := by
      rcases h2.2 with h3 | h3 | h3
      · exact h3.2
      · rw [h3.2]; simp
      · omega
    have h4 : szP (x :: t) = x.2.2.length + szP t := by simp [szP]
    rw [h4, List.length_cons]
    omega
theorem puL_may {t : List Ent} {e : Ent} (h : ∀ x ∈ t, mayP x = true) (he : mayP e = true) : ∀ x ∈ puL t e, mayP x = true := by
  intro x hx
  unfold puL at hx
  rw [List.mem_append, List.mem_append, List.mem_singleton] at hx
  rcases hx with hx | rfl | hx
  · exact h x (List.mem_of_mem_take hx)
  · exact he
  · exact h x (List.mem_of_mem_drop hx)
theorem puL_len (t : List Ent) (e : Ent) : (puL t e).length ≤ t.length + 1 := by
  unfold puL
  have h2 := plP_le t e.1
  rw [List.length_append, List.length_append, List.length_take, List.length_drop]
  simp only [List.length_cons, List.length_nil]
  omega

set_option maxRecDepth 100000 in
set_option maxHeartbeats 4000000 in
theorem put_any (v : Value) (t : List Ent) (e : Ent) (w : World) (h : Ents w v t) (hs : Short t) (hn : t.length ≤ 4611686018427387904) (hel : e.1.length ≤ 4611686018427387904) :
    Calls Try.prog 15 #[v, entA e] w fun r w' => AnsE w' w.heap.size r (putP t e) ∧ Below w.heap.size w w' := by
  obtain ⟨E0, HE0⟩ : ∃ E : Int, Hid ((chkP t).2 = E) := ⟨_, rfl⟩
  have HB0 := hid (below_walk w (.cells #[.string (mk e.1), .int .i64 e.2.1, .string (mk e.2.2)] 25))
  have HN0 := hid (Eb.new w e)
  have HR := hid (right_one v t (w.alloc (.cells #[.string (mk e.1), .int .i64 e.2.1, .string (mk e.2.2)] 25)) (h.below HB0.out) hs hn E0 HE0.out)
  have HSZ := hid (show (w.alloc (.cells #[.string (mk e.1), .int .i64 e.2.1, .string (mk e.2.2)] 25)).heap.size = w.heap.size + 1 by simp)
  rw [HSZ.out] at HR
  have HET := hid h
  have HM := hid (fun W : World => may_any e W (by omega))
  have HPA := hid (fun W : World => parent_any e.1 W (by omega))
  obtain ⟨ao, c, rfl⟩ := h.shape
  unfold entA at HM ⊢
  clear h hs
  by_cases h0 : E0 = 0
  ·
    subst h0
    have HRT := hid (rgt_iff.1 HE0.out)
    cases hmy : mayP e with
    | false =>
      have HAP := hid (show putP t e = .error 50 from by unfold putP; rw [if_neg (by simpa using HE0.out), if_pos hmy])
      rw [hmy] at HM
      clear hmy
      go_enter Try.func15, Try.ntmps15
      go_wp2_with fail
      refine HR.out.mono ?_
      rintro r w1 ⟨rfl, hb1⟩
      rw [← HSZ.out] at hb1
      have HB1 := hid (below_then HB0.out hb1)
      have HN1 := hid (HN0.out.below hb1)
      clear hb1 HR HB0 HN0
      obtain ⟨e0, e1, e2⟩ := HN1.out.at
      go_wp2_with (first | (go_at_call 34; refine (HM.out _).mono ?_; rintro r w2 ⟨rfl, hb2⟩; have HB2 := hid (below_then HB1.out hb2); have HN2 := hid (HN1.out.below hb2); clear hb2; clear e0 e1 e2; obtain ⟨e0, e1, e2⟩ := HN2.out.at))
      go_ret2
      rw [HAP.out]
      exact ⟨rfl, HB2.out⟩
    | true =>
      rw [hmy] at HM
      have HMY := hid hmy
      have hok := mayP_ok hmy
      have HID := hid (fun W (hW : Below w.heap.size w W) => isDir_any _ t (spD e.1) W (HET.out.below hW) HRT.out.up (fun x hx => mayP_ok (HRT.out.may x hx)) (okP_spD hok) HRT.out.many)
      have HPL := hid (fun W (hW : Below w.heap.size w W) => place_any _ t e.1 W (HET.out.below hW) HRT.out.up (fun x hx => mayP_ok (HRT.out.may x hx)) hok HRT.out.many)
      have HAP0 := hid (show putP t e = if dirP t (spD e.1) = false then .error 52 else if thP t e.1 = true ∧ decide ((stP t e.1).2.1 = 2) ≠ decide (e.2.1 = 2) then .error 9 else fitP (puL t e) from by unfold putP; rw [if_neg (by simpa using HE0.out), if_neg (by rw [hmy]; simp)])
      clear hmy hok
      cases hdr : dirP t (spD e.1) with
      | false =>
        have HAP := hid (HAP0.out.trans (if_pos hdr))
        rw [hdr] at HID
        clear hdr HAP0
        generalize mk (spD e.1) = sd at *
        go_enter Try.func15, Try.ntmps15
        go_wp2_with fail
        refine HR.out.mono ?_
        rintro r w1 ⟨rfl, hb1⟩
        rw [← HSZ.out] at hb1
        have HB1 := hid (below_then HB0.out hb1)
        have HN1 := hid (HN0.out.below hb1)
        clear hb1 HR HB0 HN0
        obtain ⟨e0, e1, e2⟩ := HN1.out.at
        go_wp2_with (first | (go_at_call 34; refine (HM.out _).mono ?_; rintro r w2 ⟨rfl, hb2⟩; have HB2 := hid (below_then HB1.out hb2); have HN2 := hid (HN1.out.below hb2); clear hb2; clear e0 e1 e2; obtain ⟨e0, e1, e2⟩ := HN2.out.at) | (go_at_call 26; refine (HPA.out _).mono ?_; rintro r w3 ⟨rfl, n3, rfl⟩; have HB3 := hid (below_n HB2.out n3); have HN3 := hid (show Eb (w2.drewN n3) w.heap.size e from HN2.out); generalize w2.drewN n3 = w3 at *; clear e0 e1 e2; obtain ⟨e0, e1, e2⟩ := HN3.out.at) | (go_at_call 35; refine (HID.out _ HB3.out).mono ?_; rintro r w4 ⟨rfl, hb4⟩; have HB4 := hid (below_then HB3.out hb4); have HN4 := hid (HN3.out.below hb4); clear hb4; clear e0 e1 e2; obtain ⟨e0, e1, e2⟩ := HN4.out.at))
        go_ret2
        rw [HAP.out]
        exact ⟨rfl, HB4.out⟩
      | true =>
        rw [if_neg (by rw [hdr]; simp)] at HAP0
        rw [hdr] at HID
        clear hdr
        have HCC := hid (fun (ts : List (List Ent)) (W : World) (u : Value) (hu : Trs W u ts) (hl : ts.length ≤ 3) (hf : ts.flatten.length ≤ 1048576) => concat_any u ts W hu (by omega) (by omega))
        have HFT := hid (fun (W : World) (u : Value) (hu : Ents W u (puL t e)) => fit_any u (puL t e) W hu (by have := puL_len t e; have := HRT.out.many; omega) (fun x hx => may_shr' (puL_may HRT.out.may HMY.out x hx)) (by have h1 := sz_le (puL_may HRT.out.may HMY.out); have := puL_len t e; have := HRT.out.many; omega))
        have HPL0 := hid (plP_le t e.1)
        have HTH := hid (plP_th (t := t) (p := e.1) HRT.out.up)
        obtain ⟨v1, hv1, hs1⟩ := ecut_to HET.out (plP t e.1) (plP_le _ _)
        have HV1 := hid hv1
        obtain ⟨q1, m1, r1, ev1⟩ : ∃ a n c, v1 = .slice a n c := by obtain ⟨a, c, ev⟩ := hv1.shape; exact ⟨a, _, c, ev⟩
        subst ev1
        have HPU := hid (show puL t e = t.take (plP t e.1) ++ ([e] ++ t.drop (plP t e.1 + (if thP t e.1 then 1 else 0))) from rfl)
        obtain ⟨I, HII⟩ : ∃ I : Nat, Hid (plP t e.1 = I) := ⟨_, rfl⟩
        rw [HII.out] at HPL HTH HPL0 hs1 HV1 HPU
        have HS1 := hid hs1
        have HLT := hid HRT.out.many
        clear hv1
        generalize mk (spD e.1) = sd at *
        cases hth : thP t e.1 with
        | false =>
          obtain ⟨v2, hv2, hs2⟩ := ecut_from HET.out I HPL0.out
          have HV2 := hid hv2
          obtain ⟨q2, m2, r2, ev2⟩ : ∃ a n c, v2 = .slice a n c := by obtain ⟨a, c, ev⟩ := hv2.shape; exact ⟨a, _, c, ev⟩
          subst ev2
          rw [hth] at HPL HPU
          have HAP := hid (HAP0.out.trans (if_neg (fun h9 => by rw [hth] at h9; exact absurd h9.1 (by simp))))
          rw [if_neg (by simp), Nat.add_zero] at HPU
          clear hv2 hth HAP0 HTH
          go_enter Try.func15, Try.ntmps15
          go_wp2_with fail
          refine HR.out.mono ?_
          rintro r w1 ⟨rfl, hb1⟩
          rw [← HSZ.out] at hb1
          have HB1 := hid (below_then HB0.out hb1)
          have HN1 := hid (HN0.out.below hb1)
          clear hb1 HR HB0 HN0
          obtain ⟨e0, e1, e2⟩ := HN1.out.at
          go_wp2_with (first | (go_at_call 34; refine (HM.out _).mono ?_; rintro r w2 ⟨rfl, hb2⟩; have HB2 := hid (below_then HB1.out hb2); have HN2 := hid (HN1.out.below hb2); clear hb2; clear e0 e1 e2; obtain ⟨e0, e1, e2⟩ := HN2.out.at) | (go_at_call 26; refine (HPA.out _).mono ?_; rintro r w3 ⟨rfl, n3, rfl⟩; have HB3 := hid (below_n HB2.out n3); have HN3 := hid (show Eb (w2.drewN n3) w.heap.size e from HN2.out); generalize w2.drewN n3 = w3 at *; clear e0 e1 e2; obtain ⟨e0, e1, e2⟩ := HN3.out.at) | (go_at_call 35; refine (HID.out _ HB3.out).mono ?_; rintro r w4 ⟨rfl, hb4⟩; have HB4 := hid (below_then HB3.out hb4); have HN4 := hid (HN3.out.below hb4); clear hb4; clear e0 e1 e2; obtain ⟨e0, e1, e2⟩ := HN4.out.at) | (go_at_call 36; refine (HPL.out _ HB4.out).mono ?_; rintro r w5 ⟨rfl, hb5⟩; have HB5 := hid (below_then HB4.out hb5); have HN5 := hid (HN4.out.below hb5); clear hb5; clear e0 e1 e2; obtain ⟨e0, e1, e2⟩ := HN5.out.at))
          have HEz := HN5
          have HBz := HB5
          clear HN5 HB5
          have HEy := hid (HEz.out.below (below_walk w5 (.cells #[.string (mk e.1), .int .i64 e.2.1, .string (mk e.2.2)] 25)))
          have HBy := hid (below_then HBz.out (below_walk w5 (.cells #[.string (mk e.1), .int .i64 e.2.1, .string (mk e.2.2)] 25)))
          have HO1 := hid (ents_one w5 e)
          have HVA := hid (HV1.out.below HBy.out)
          have HVB := hid (HV2.out.below HBy.out)
          clear e0 e1 e2
          go_wp2_with fail
          refine wp_noPanic (wp_region_held_drew (S := fun W => Eb W w.heap.size e) (by kernel_rfl) HEz.out ?_)
          intro hHeld
          refine wpAnyH_take (i := 0) (v := .slice ao t.length c) rfl (by kernel_rfl) (by kernel_rfl) (by kernel_rfl) (fun _ _ _ h => h) (Or.inl ⟨by rfl, fun W _ => by go_simp⟩) hHeld ?_
          simp only [Act.put, List.getElem_toArray, List.getElem_cons_zero, List.setIfInBounds_toArray, List.set_cons_succ, List.set_cons_zero]
          refine wpAnyH_take (i := 1) (v := .int .i64 (I : Int)) rfl (by kernel_rfl) (by kernel_rfl) (by kernel_rfl) (fun _ _ _ h => h) (Or.inl ⟨by rfl, fun W _ => by go_simp⟩) hHeld ?_
          simp only [Act.put, List.getElem_toArray, List.getElem_cons_zero, List.getElem_cons_succ, List.setIfInBounds_toArray, List.set_cons_succ, List.set_cons_zero]
          refine wpAnyH_take (i := 2) (v := .slice q1 m1 r1) rfl (by kernel_rfl) (by kernel_rfl) (by kernel_rfl) (fun _ _ _ h => h) (Or.inl ⟨by rfl, fun W _ => by have hfact := HS1.out W; go_simp; first | done | simp [hfact]⟩) hHeld ?_
          simp only [Act.put, List.getElem_toArray, List.getElem_cons_zero, List.getElem_cons_succ, List.setIfInBounds_toArray, List.set_cons_succ, List.set_cons_zero]
          refine wpAnyH_take (i := 3) (v := .agg #[.string (mk e.1), .int .i64 e.2.1, .string (mk e.2.2)]) rfl (by kernel_rfl) (by kernel_rfl) (by kernel_rfl) (fun _ _ _ h => h) (Or.inl ⟨by rfl, fun W hW => by obtain ⟨h0, h1, h2⟩ := hW.at; clear hW; go_simp⟩) hHeld ?_
          simp only [Act.put, List.getElem_toArray, List.getElem_cons_zero, List.getElem_cons_succ, List.setIfInBounds_toArray, List.set_cons_succ, List.set_cons_zero]
          refine wpAnyH_take (i := 5) (v := .slice q2 m2 r2) rfl (by kernel_rfl) (by kernel_rfl) (by kernel_rfl) (fun _ _ _ h => h) (Or.inl ⟨by rfl, fun W _ => by go_simp⟩) hHeld ?_
          simp only [Act.put, List.getElem_toArray, List.getElem_cons_zero, List.getElem_cons_succ, List.setIfInBounds_toArray, List.set_cons_succ, List.set_cons_zero]
          refine wpAnyH_ready (rs := [4]) (by kernel_rfl) (by simp) ?_
          refine AllReadyH.cons rfl (fun K hK => ?_) AllReadyH.nil
          go_simp
          refine hK.out _ _ (show Eb _ w.heap.size e from HEy.out) (fun hHeld => ?_)
          clear hK K
          refine wpAnyH_ready (rs := [6]) (by kernel_rfl) (by simp) ?_
          refine AllReadyH.cons rfl (fun K hK => ?_) AllReadyH.nil
          go_simp
          have HEx := hid (HEy.out.below (below_walk (w5.alloc (.cells #[.string (mk e.1), .int .i64 e.2.1, .string (mk e.2.2)] 25)) (.cells #[.slice q1 m1 r1, .slice (some ⟨w5.heap.size, 0, none⟩) 1 1, .slice q2 m2 r2] 22)))
          have HBx := hid (below_then HBy.out (below_walk (w5.alloc (.cells #[.string (mk e.1), .int .i64 e.2.1, .string (mk e.2.2)] 25)) (.cells #[.slice q1 m1 r1, .slice (some ⟨w5.heap.size, 0, none⟩) 1 1, .slice q2 m2 r2] 22)))
          refine hK.out _ _ (show Eb _ w.heap.size e from HEx.out) (fun hHeld => ?_)
          clear hK K
          refine wpAnyH_ready (rs := [7]) (by kernel_rfl) (by simp) ?_
          refine AllReadyH.cons rfl (fun K hK => ?_) AllReadyH.nil
          go_simp
          refine (HCC.out [t.take I, [e], t.drop (I)] ((w5.alloc (.cells #[.string (mk e.1), .int .i64 e.2.1, .string (mk e.2.2)] 25)).alloc (.cells #[.slice q1 m1 r1, .slice (some ⟨w5.heap.size, 0, none⟩) 1 1, .slice q2 m2 r2] 22)).drew _ (trs_three (g := w5.heap.size + 1) HVA.out HO1.out HVB.out rfl (by simp)) (by simp) (by have := HLT.out; simp [List.length_take, List.length_drop]; omega)).mono ?_
          rintro r w7 ⟨v7, rfl, ho7, hb7⟩
          have hfl : [t.take I, [e], t.drop (I)].flatten = puL t e := by rw [HPU.out]; simp
          rw [hfl] at ho7
          have HO7 := hid ho7.ents
          obtain ⟨a7, n7, c7, ev7⟩ : ∃ a n c, v7 = .slice a n c := by obtain ⟨a, c, ev⟩ := ho7.ents.shape; exact ⟨a, _, c, ev⟩
          subst ev7
          have HB7 := hid (below_then HBx.out ⟨hb7.os, hb7.tape, hb7.output, hb7.size, hb7.block⟩)
          have HE7 := hid (HEx.out.below ⟨hb7.os, hb7.tape, hb7.output, hb7.size, hb7.block⟩)
          clear ho7 hb7 hfl
          go_wp2_with fail
          refine hK.out _ _ HE7.out (fun hHeld => ?_)
          clear hK K
          refine wpAnyH_ready (rs := [8]) (by kernel_rfl) (by simp) ?_
          refine AllReadyH.cons rfl (fun K hK => ?_) AllReadyH.nil
          go_simp
          refine (HFT.out _ _ HO7.out).mono ?_
          rintro r w8 ⟨ha8, hb8⟩
          obtain ⟨a8, n8, c8, E8, er8⟩ := ansE_shape ha8
          subst er8
          have HA8 := hid ha8
          have HB8 := hid (below_then HB7.out hb8)
          have HE8 := hid (HE7.out.below hb8)
          clear ha8 hb8
          go_wp2_with fail
          refine hK.out _ _ HE8.out (fun hHeld => ?_)
          clear hK K
          refine wpAnyH_take (i := 9) (v := .slice a8 n8 c8) rfl (by kernel_rfl) (by kernel_rfl) (by kernel_rfl) (fun _ _ _ h => h) (Or.inl ⟨by rfl, fun W _ => by go_simp⟩) hHeld ?_
          simp only [Act.put, List.getElem_toArray, List.getElem_cons_zero, List.getElem_cons_succ, List.setIfInBounds_toArray, List.set_cons_succ, List.set_cons_zero]
          refine wpAnyH_take (i := 10) (v := .int .i64 E8) rfl (by kernel_rfl) (by kernel_rfl) (by kernel_rfl) (fun _ _ _ h => h) (Or.inl ⟨by rfl, fun W _ => by go_simp⟩) hHeld ?_
          simp only [Act.put, List.getElem_toArray, List.getElem_cons_zero, List.getElem_cons_succ, List.setIfInBounds_toArray, List.set_cons_succ, List.set_cons_zero]
          refine wpAnyH_take (i := 11) (v := .slice a8 n8 c8) rfl (by kernel_rfl) (by kernel_rfl) (by kernel_rfl) (fun _ _ _ h => h) (Or.inl ⟨by rfl, fun W _ => by go_simp⟩) hHeld ?_
          simp only [Act.put, List.getElem_toArray, List.getElem_cons_zero, List.getElem_cons_succ, List.setIfInBounds_toArray, List.set_cons_succ, List.set_cons_zero]
          refine wpAnyH_take (i := 12) (v := .int .i64 E8) rfl (by kernel_rfl) (by kernel_rfl) (by kernel_rfl) (fun _ _ _ h => h) (Or.inl ⟨by rfl, fun W _ => by go_simp⟩) hHeld ?_
          simp only [Act.put, List.getElem_toArray, List.getElem_cons_zero, List.getElem_cons_succ, List.setIfInBounds_toArray, List.set_cons_succ, List.set_cons_zero]
          refine wpAnyH_done (by kernel_rfl) ?_ _
          simp only [noPanic]
          clear hHeld
          go_wp2_with fail
          go_ret2
          rw [HAP.out]
          exact ⟨ansE_le HA8.out HB7.out.size, HB8.out⟩
        | true =>
          obtain ⟨hI, hsI⟩ := HTH.out hth
          rw [hth] at HPL HPU HAP0
          rw [if_pos rfl] at HPU
          obtain ⟨v2, hv2, hs2⟩ := ecut_from HET.out I HPL0.out
          obtain ⟨v3, hv3, hs3⟩ := ecut_from HET.out (I + 1) (by omega)
          have HV2 := hid hv3
          obtain ⟨q3, m3, r3, ev2⟩ : ∃ a n c, v2 = .slice a n c := by obtain ⟨a, c, ev⟩ := hv2.shape; exact ⟨a, _, c, ev⟩
          subst ev2
          obtain ⟨q2, m2, r2, ev3⟩ : ∃ a n c, v3 = .slice a n c := by obtain ⟨a, c, ev⟩ := hv3.shape; exact ⟨a, _, c, ev⟩
          subst ev3
          rw [show ((I + 1 : Nat) : Int) = (I : Int) + 1 from by omega] at hs3
          have hw2 : IntKind.i64.wrap ((I : Int) + 1) = (I : Int) + 1 := by rw [IntKind.wrap_i64]; have := HLT.out; omega
          have q4 : (I : Int) < (t.length : Int) := by omega
          obtain ⟨g, o, rfl, hgl, hat⟩ := HET.out.at I hI
          rw [hsI] at hat
          have HAT := hid hat
          have HGL := hid hgl
          obtain ⟨K1, HK1⟩ : ∃ K : Int, Hid ((stP t e.1).2.1 = K) := ⟨_, rfl⟩
          obtain ⟨K2, HK2⟩ : ∃ K : Int, Hid (e.2.1 = K) := ⟨_, rfl⟩
          rw [HK1.out, HK2.out] at HAP0
          clear hv2 hv3 hth HTH hat hgl hsI
          by_cases hk1 : K1 = 2
          ·
            have z1 : (K1 == 2) = true := by rw [hk1]; rfl
            by_cases hk2 : K2 = 2
            ·
              have z2 : (K2 == 2) = true := by rw [hk2]; rfl
              have HAP := hid (HAP0.out.trans (if_neg (fun h9 => h9.2 (by simp [hk1, hk2]))))
              clear HAP0
              subst hk1
              have hk2b := hk2
              go_enter Try.func15, Try.ntmps15
              go_wp2_with fail
              refine HR.out.mono ?_
              rintro r w1 ⟨rfl, hb1⟩
              rw [← HSZ.out] at hb1
              have HB1 := hid (below_then HB0.out hb1)
              have HN1 := hid (HN0.out.below hb1)
              clear hb1 HR HB0 HN0
              obtain ⟨e0, e1, e2⟩ := HN1.out.at
              go_wp2_with (first | (go_at_call 34; refine (HM.out _).mono ?_; rintro r w2 ⟨rfl, hb2⟩; have HB2 := hid (below_then HB1.out hb2); have HN2 := hid (HN1.out.below hb2); clear hb2; clear e0 e1 e2; obtain ⟨e0, e1, e2⟩ := HN2.out.at) | (go_at_call 26; refine (HPA.out _).mono ?_; rintro r w3 ⟨rfl, n3, rfl⟩; have HB3 := hid (below_n HB2.out n3); have HN3 := hid (show Eb (w2.drewN n3) w.heap.size e from HN2.out); generalize w2.drewN n3 = w3 at *; clear e0 e1 e2; obtain ⟨e0, e1, e2⟩ := HN3.out.at) | (go_at_call 35; refine (HID.out _ HB3.out).mono ?_; rintro r w4 ⟨rfl, hb4⟩; have HB4 := hid (below_then HB3.out hb4); have HN4 := hid (HN3.out.below hb4); clear hb4; clear e0 e1 e2; obtain ⟨e0, e1, e2⟩ := HN4.out.at) | (go_at_call 36; refine (HPL.out _ HB4.out).mono ?_; rintro r w5 ⟨rfl, hb5⟩; have HB5 := hid (below_then HB4.out hb5); have HN5 := hid (HN4.out.below hb5); clear hb5; clear e0 e1 e2; obtain ⟨e0, e1, e2⟩ := HN5.out.at))
              have HLB := hid (hp_lt HN5.out)
              have k1 := (HAT.out.below HGL.out HB5.out).2.1
              rw [HK1.out] at k1
              rw [HK2.out] at e1
              have x1 := fun p : Bel w5 => p.cell k1 (Nat.lt_of_lt_of_le HGL.out HB5.out.size)
              have x2 := fun p : Bel w5 => p.cell e1 HLB.out
              have ib : Nonempty (Bel w5) := bel_some w5
              clear k1
              refine wp_region_quiet_bel (by kernel_rfl) (by kernel_rfl) ?_
              repeat (go_big_quiet_step (fail))
              refine wpQuiet_nil ?_
              rintro w6 ⟨⟨w6', hb6⟩, hw6⟩
              obtain rfl : w6 = w6' := hw6
              have HB6 := hid (below_then HB5.out hb6)
              have HN6 := hid (HN5.out.below hb6)
              clear hb6 x1 x2 ib e0 e1 e2 HB5 HN5
              obtain ⟨e0, e1, e2⟩ := HN6.out.at
              have HEz := HN6
              have HBz := HB6
              clear HN6 HB6
              have HEy := hid (HEz.out.below (below_walk w6 (.cells #[.string (mk e.1), .int .i64 e.2.1, .string (mk e.2.2)] 25)))
              have HBy := hid (below_then HBz.out (below_walk w6 (.cells #[.string (mk e.1), .int .i64 e.2.1, .string (mk e.2.2)] 25)))
              have HO1 := hid (ents_one w6 e)
              have HVA := hid (HV1.out.below HBy.out)
              have HVB := hid (HV2.out.below HBy.out)
              clear e0 e1 e2
              go_wp2_with fail
              refine wp_noPanic (wp_region_held_drew (S := fun W => Eb W w.heap.size e) (by kernel_rfl) HEz.out ?_)
              intro hHeld
              refine wpAnyH_take (i := 0) (v := .slice (some ⟨g, o, none⟩) t.length c) rfl (by kernel_rfl) (by kernel_rfl) (by kernel_rfl) (fun _ _ _ h => h) (Or.inl ⟨by rfl, fun W _ => by go_simp⟩) hHeld ?_
              simp only [Act.put, List.getElem_toArray, List.getElem_cons_zero, List.setIfInBounds_toArray, List.set_cons_succ, List.set_cons_zero]
              refine wpAnyH_take (i := 1) (v := .int .i64 (I : Int)) rfl (by kernel_rfl) (by kernel_rfl) (by kernel_rfl) (fun _ _ _ h => h) (Or.inl ⟨by rfl, fun W _ => by go_simp⟩) hHeld ?_
              simp only [Act.put, List.getElem_toArray, List.getElem_cons_zero, List.getElem_cons_succ, List.setIfInBounds_toArray, List.set_cons_succ, List.set_cons_zero]
              refine wpAnyH_take (i := 2) (v := .slice q1 m1 r1) rfl (by kernel_rfl) (by kernel_rfl) (by kernel_rfl) (fun _ _ _ h => h) (Or.inl ⟨by rfl, fun W _ => by have hfact := HS1.out W; go_simp; first | done | simp [hfact]⟩) hHeld ?_
              simp only [Act.put, List.getElem_toArray, List.getElem_cons_zero, List.getElem_cons_succ, List.setIfInBounds_toArray, List.set_cons_succ, List.set_cons_zero]
              refine wpAnyH_take (i := 3) (v := .agg #[.string (mk e.1), .int .i64 e.2.1, .string (mk e.2.2)]) rfl (by kernel_rfl) (by kernel_rfl) (by kernel_rfl) (fun _ _ _ h => h) (Or.inl ⟨by rfl, fun W hW => by obtain ⟨h0, h1, h2⟩ := hW.at; clear hW; go_simp⟩) hHeld ?_
              simp only [Act.put, List.getElem_toArray, List.getElem_cons_zero, List.getElem_cons_succ, List.setIfInBounds_toArray, List.set_cons_succ, List.set_cons_zero]
              refine wpAnyH_take (i := 5) (v := .slice q2 m2 r2) rfl (by kernel_rfl) (by kernel_rfl) (by kernel_rfl) (fun _ _ _ h => h) (Or.inl ⟨by rfl, fun W _ => by go_simp⟩) hHeld ?_
              simp only [Act.put, List.getElem_toArray, List.getElem_cons_zero, List.getElem_cons_succ, List.setIfInBounds_toArray, List.set_cons_succ, List.set_cons_zero]
              refine wpAnyH_ready (rs := [4]) (by kernel_rfl) (by simp) ?_
              refine AllReadyH.cons rfl (fun K hK => ?_) AllReadyH.nil
              go_simp
              refine hK.out _ _ (show Eb _ w.heap.size e from HEy.out) (fun hHeld => ?_)
              clear hK K
              refine wpAnyH_ready (rs := [6]) (by kernel_rfl) (by simp) ?_
              refine AllReadyH.cons rfl (fun K hK => ?_) AllReadyH.nil
              go_simp
              have HEx := hid (HEy.out.below (below_walk (w6.alloc (.cells #[.string (mk e.1), .int .i64 e.2.1, .string (mk e.2.2)] 25)) (.cells #[.slice q1 m1 r1, .slice (some ⟨w6.heap.size, 0, none⟩) 1 1, .slice q2 m2 r2] 22)))
              have HBx := hid (below_then HBy.out (below_walk (w6.alloc (.cells #[.string (mk e.1), .int .i64 e.2.1, .string (mk e.2.2)] 25)) (.cells #[.slice q1 m1 r1, .slice (some ⟨w6.heap.size, 0, none⟩) 1 1, .slice q2 m2 r2] 22)))
              refine hK.out _ _ (show Eb _ w.heap.size e from HEx.out) (fun hHeld => ?_)
              clear hK K
              refine wpAnyH_ready (rs := [7]) (by kernel_rfl) (by simp) ?_
              refine AllReadyH.cons rfl (fun K hK => ?_) AllReadyH.nil
              go_simp
              refine (HCC.out [t.take I, [e], t.drop (I + 1)] ((w6.alloc (.cells #[.string (mk e.1), .int .i64 e.2.1, .string (mk e.2.2)] 25)).alloc (.cells #[.slice q1 m1 r1, .slice (some ⟨w6.heap.size, 0, none⟩) 1 1, .slice q2 m2 r2] 22)).drew _ (trs_three (g := w6.heap.size + 1) HVA.out HO1.out HVB.out rfl (by simp)) (by simp) (by have := HLT.out; simp [List.length_take, List.length_drop]; omega)).mono ?_
              rintro r w7 ⟨v7, rfl, ho7, hb7⟩
              have hfl : [t.take I, [e], t.drop (I + 1)].flatten = puL t e := by rw [HPU.out]; simp
              rw [hfl] at ho7
              have HO7 := hid ho7.ents
              obtain ⟨a7, n7, c7, ev7⟩ : ∃ a n c, v7 = .slice a n c := by obtain ⟨a, c, ev⟩ := ho7.ents.shape; exact ⟨a, _, c, ev⟩
              subst ev7
              have HB7 := hid (below_then HBx.out ⟨hb7.os, hb7.tape, hb7.output, hb7.size, hb7.block⟩)
              have HE7 := hid (HEx.out.below ⟨hb7.os, hb7.tape, hb7.output, hb7.size, hb7.block⟩)
              clear ho7 hb7 hfl
              go_wp2_with fail
              refine hK.out _ _ HE7.out (fun hHeld => ?_)
              clear hK K
              refine wpAnyH_ready (rs := [8]) (by kernel_rfl) (by simp) ?_
              refine AllReadyH.cons rfl (fun K hK => ?_) AllReadyH.nil
              go_simp
              refine (HFT.out _ _ HO7.out).mono ?_
              rintro r w8 ⟨ha8, hb8⟩
              obtain ⟨a8, n8, c8, E8, er8⟩ := ansE_shape ha8
              subst er8
              have HA8 := hid ha8
              have HB8 := hid (below_then HB7.out hb8)
              have HE8 := hid (HE7.out.below hb8)
              clear ha8 hb8
              go_wp2_with fail
              refine hK.out _ _ HE8.out (fun hHeld => ?_)
              clear hK K
              refine wpAnyH_take (i := 9) (v := .slice a8 n8 c8) rfl (by kernel_rfl) (by kernel_rfl) (by kernel_rfl) (fun _ _ _ h => h) (Or.inl ⟨by rfl, fun W _ => by go_simp⟩) hHeld ?_
              simp only [Act.put, List.getElem_toArray, List.getElem_cons_zero, List.getElem_cons_succ, List.setIfInBounds_toArray, List.set_cons_succ, List.set_cons_zero]
              refine wpAnyH_take (i := 10) (v := .int .i64 E8) rfl (by kernel_rfl) (by kernel_rfl) (by kernel_rfl) (fun _ _ _ h => h) (Or.inl ⟨by rfl, fun W _ => by go_simp⟩) hHeld ?_
              simp only [Act.put, List.getElem_toArray, List.getElem_cons_zero, List.getElem_cons_succ, List.setIfInBounds_toArray, List.set_cons_succ, List.set_cons_zero]
              refine wpAnyH_take (i := 11) (v := .slice a8 n8 c8) rfl (by kernel_rfl) (by kernel_rfl) (by kernel_rfl) (fun _ _ _ h => h) (Or.inl ⟨by rfl, fun W _ => by go_simp⟩) hHeld ?_
              simp only [Act.put, List.getElem_toArray, List.getElem_cons_zero, List.getElem_cons_succ, List.setIfInBounds_toArray, List.set_cons_succ, List.set_cons_zero]
              refine wpAnyH_take (i := 12) (v := .int .i64 E8) rfl (by kernel_rfl) (by kernel_rfl) (by kernel_rfl) (fun _ _ _ h => h) (Or.inl ⟨by rfl, fun W _ => by go_simp⟩) hHeld ?_
              simp only [Act.put, List.getElem_toArray, List.getElem_cons_zero, List.getElem_cons_succ, List.setIfInBounds_toArray, List.set_cons_succ, List.set_cons_zero]
              refine wpAnyH_done (by kernel_rfl) ?_ _
              simp only [noPanic]
              clear hHeld
              go_wp2_with fail
              go_ret2
              rw [HAP.out]
              exact ⟨ansE_le HA8.out HB7.out.size, HB8.out⟩
            ·
              have z2 : (K2 == 2) = false := by simpa using hk2
              have HAP := hid (HAP0.out.trans (if_pos ⟨rfl, by simp [hk1, hk2]⟩))
              clear HAP0
              subst hk1
              go_enter Try.func15, Try.ntmps15
              go_wp2_with fail
              refine HR.out.mono ?_
              rintro r w1 ⟨rfl, hb1⟩
              rw [← HSZ.out] at hb1
              have HB1 := hid (below_then HB0.out hb1)
              have HN1 := hid (HN0.out.below hb1)
              clear hb1 HR HB0 HN0
              obtain ⟨e0, e1, e2⟩ := HN1.out.at
              go_wp2_with (first | (go_at_call 34; refine (HM.out _).mono ?_; rintro r w2 ⟨rfl, hb2⟩; have HB2 := hid (below_then HB1.out hb2); have HN2 := hid (HN1.out.below hb2); clear hb2; clear e0 e1 e2; obtain ⟨e0, e1, e2⟩ := HN2.out.at) | (go_at_call 26; refine (HPA.out _).mono ?_; rintro r w3 ⟨rfl, n3, rfl⟩; have HB3 := hid (below_n HB2.out n3); have HN3 := hid (show Eb (w2.drewN n3) w.heap.size e from HN2.out); generalize w2.drewN n3 = w3 at *; clear e0 e1 e2; obtain ⟨e0, e1, e2⟩ := HN3.out.at) | (go_at_call 35; refine (HID.out _ HB3.out).mono ?_; rintro r w4 ⟨rfl, hb4⟩; have HB4 := hid (below_then HB3.out hb4); have HN4 := hid (HN3.out.below hb4); clear hb4; clear e0 e1 e2; obtain ⟨e0, e1, e2⟩ := HN4.out.at) | (go_at_call 36; refine (HPL.out _ HB4.out).mono ?_; rintro r w5 ⟨rfl, hb5⟩; have HB5 := hid (below_then HB4.out hb5); have HN5 := hid (HN4.out.below hb5); clear hb5; clear e0 e1 e2; obtain ⟨e0, e1, e2⟩ := HN5.out.at))
              have HLB := hid (hp_lt HN5.out)
              have k1 := (HAT.out.below HGL.out HB5.out).2.1
              rw [HK1.out] at k1
              rw [HK2.out] at e1
              have x1 := fun p : Bel w5 => p.cell k1 (Nat.lt_of_lt_of_le HGL.out HB5.out.size)
              have x2 := fun p : Bel w5 => p.cell e1 HLB.out
              have ib : Nonempty (Bel w5) := bel_some w5
              clear k1
              refine wp_region_quiet_bel (by kernel_rfl) (by kernel_rfl) ?_
              repeat (go_big_quiet_step (fail))
              refine wpQuiet_nil ?_
              rintro w6 ⟨⟨w6', hb6⟩, hw6⟩
              obtain rfl : w6 = w6' := hw6
              have HB6 := hid (below_then HB5.out hb6)
              have HN6 := hid (HN5.out.below hb6)
              clear hb6 x1 x2 ib e0 e1 e2 HB5 HN5
              obtain ⟨e0, e1, e2⟩ := HN6.out.at
              go_wp2
              go_ret2
              rw [HAP.out]
              exact ⟨rfl, HB6.out⟩
          ·
            have z1 : (K1 == 2) = false := by simpa using hk1
            by_cases hk2 : K2 = 2
            ·
              have z2 : (K2 == 2) = true := by rw [hk2]; rfl
              have HAP := hid (HAP0.out.trans (if_pos ⟨rfl, by simp [hk1, hk2]⟩))
              clear HAP0
              clear hk1
              have hk2b := hk2
              go_enter Try.func15, Try.ntmps15
              go_wp2_with fail
              refine HR.out.mono ?_
              rintro r w1 ⟨rfl, hb1⟩
              rw [← HSZ.out] at hb1
              have HB1 := hid (below_then HB0.out hb1)
              have HN1 := hid (HN0.out.below hb1)
              clear hb1 HR HB0 HN0
              obtain ⟨e0, e1, e2⟩ := HN1.out.at
              go_wp2_with (first | (go_at_call 34; refine (HM.out _).mono ?_; rintro r w2 ⟨rfl, hb2⟩; have HB2 := hid (below_then HB1.out hb2); have HN2 := hid (HN1.out.below hb2); clear hb2; clear e0 e1 e2; obtain ⟨e0, e1, e2⟩ := HN2.out.at) | (go_at_call 26; refine (HPA.out _).mono ?_; rintro r w3 ⟨rfl, n3, rfl⟩; have HB3 := hid (below_n HB2.out n3); have HN3 := hid (show Eb (w2.drewN n3) w.heap.size e from HN2.out); generalize w2.drewN n3 = w3 at *; clear e0 e1 e2; obtain ⟨e0, e1, e2⟩ := HN3.out.at) | (go_at_call 35; refine (HID.out _ HB3.out).mono ?_; rintro r w4 ⟨rfl, hb4⟩; have HB4 := hid (below_then HB3.out hb4); have HN4 := hid (HN3.out.below hb4); clear hb4; clear e0 e1 e2; obtain ⟨e0, e1, e2⟩ := HN4.out.at) | (go_at_call 36; refine (HPL.out _ HB4.out).mono ?_; rintro r w5 ⟨rfl, hb5⟩; have HB5 := hid (below_then HB4.out hb5); have HN5 := hid (HN4.out.below hb5); clear hb5; clear e0 e1 e2; obtain ⟨e0, e1, e2⟩ := HN5.out.at))
              have HLB := hid (hp_lt HN5.out)
              have k1 := (HAT.out.below HGL.out HB5.out).2.1
              rw [HK1.out] at k1
              rw [HK2.out] at e1
              have x1 := fun p : Bel w5 => p.cell k1 (Nat.lt_of_lt_of_le HGL.out HB5.out.size)
              have x2 := fun p : Bel w5 => p.cell e1 HLB.out
              have ib : Nonempty (Bel w5) := bel_some w5
              clear k1
              refine wp_region_quiet_bel (by kernel_rfl) (by kernel_rfl) ?_
              repeat (go_big_quiet_step (fail))
              refine wpQuiet_nil ?_
              rintro w6 ⟨⟨w6', hb6⟩, hw6⟩
              obtain rfl : w6 = w6' := hw6
              have HB6 := hid (below_then HB5.out hb6)
              have HN6 := hid (HN5.out.below hb6)
              clear hb6 x1 x2 ib e0 e1 e2 HB5 HN5
              obtain ⟨e0, e1, e2⟩ := HN6.out.at
              go_wp2
              go_ret2
              rw [HAP.out]
              exact ⟨rfl, HB6.out⟩
            ·
              have z2 : (K2 == 2) = false := by simpa using hk2
              have HAP := hid (HAP0.out.trans (if_neg (fun h9 => h9.2 (by simp [hk1, hk2]))))
              clear HAP0
              clear hk1
              go_enter Try.func15, Try.ntmps15
              go_wp2_with fail
              refine HR.out.mono ?_
              rintro r w1 ⟨rfl, hb1⟩
              rw [← HSZ.out] at hb1
              have HB1 := hid (below_then HB0.out hb1)
              have HN1 := hid (HN0.out.below hb1)
              clear hb1 HR HB0 HN0
              obtain ⟨e0, e1, e2⟩ := HN1.out.at
              go_wp2_with (first | (go_at_call 34; refine (HM.out _).mono ?_; rintro r w2 ⟨rfl, hb2⟩; have HB2 := hid (below_then HB1.out hb2); have HN2 := hid (HN1.out.below hb2); clear hb2; clear e0 e1 e2; obtain ⟨e0, e1, e2⟩ := HN2.out.at) | (go_at_call 26; refine (HPA.out _).mono ?_; rintro r w3 ⟨rfl, n3, rfl⟩; have HB3 := hid (below_n HB2.out n3); have HN3 := hid (show Eb (w2.drewN n3) w.heap.size e from HN2.out); generalize w2.drewN n3 = w3 at *; clear e0 e1 e2; obtain ⟨e0, e1, e2⟩ := HN3.out.at) | (go_at_call 35; refine (HID.out _ HB3.out).mono ?_; rintro r w4 ⟨rfl, hb4⟩; have HB4 := hid (below_then HB3.out hb4); have HN4 := hid (HN3.out.below hb4); clear hb4; clear e0 e1 e2; obtain ⟨e0, e1, e2⟩ := HN4.out.at) | (go_at_call 36; refine (HPL.out _ HB4.out).mono ?_; rintro r w5 ⟨rfl, hb5⟩; have HB5 := hid (below_then HB4.out hb5); have HN5 := hid (HN4.out.below hb5); clear hb5; clear e0 e1 e2; obtain ⟨e0, e1, e2⟩ := HN5.out.at))
              have HLB := hid (hp_lt HN5.out)
              have k1 := (HAT.out.below HGL.out HB5.out).2.1
              rw [HK1.out] at k1
              rw [HK2.out] at e1
              have x1 := fun p : Bel w5 => p.cell k1 (Nat.lt_of_lt_of_le HGL.out HB5.out.size)
              have x2 := fun p : Bel w5 => p.cell e1 HLB.out
              have ib : Nonempty (Bel w5) := bel_some w5
              clear k1
              refine wp_region_quiet_bel (by kernel_rfl) (by kernel_rfl) ?_
              repeat (go_big_quiet_step (fail))
              refine wpQuiet_nil ?_
              rintro w6 ⟨⟨w6', hb6⟩, hw6⟩
              obtain rfl : w6 = w6' := hw6
              have HB6 := hid (below_then HB5.out hb6)
              have HN6 := hid (HN5.out.below hb6)
              clear hb6 x1 x2 ib e0 e1 e2 HB5 HN5
              obtain ⟨e0, e1, e2⟩ := HN6.out.at
              have HEz := HN6
              have HBz := HB6
              clear HN6 HB6
              have HEy := hid (HEz.out.below (below_walk w6 (.cells #[.string (mk e.1), .int .i64 e.2.1, .string (mk e.2.2)] 25)))
              have HBy := hid (below_then HBz.out (below_walk w6 (.cells #[.string (mk e.1), .int .i64 e.2.1, .string (mk e.2.2)] 25)))
              have HO1 := hid (ents_one w6 e)
              have HVA := hid (HV1.out.below HBy.out)
              have HVB := hid (HV2.out.below HBy.out)
              clear e0 e1 e2
              go_wp2_with fail
              refine wp_noPanic (wp_region_held_drew (S := fun W => Eb W w.heap.size e) (by kernel_rfl) HEz.out ?_)
              intro hHeld
              refine wpAnyH_take (i := 0) (v := .slice (some ⟨g, o, none⟩) t.length c) rfl (by kernel_rfl) (by kernel_rfl) (by kernel_rfl) (fun _ _ _ h => h) (Or.inl ⟨by rfl, fun W _ => by go_simp⟩) hHeld ?_
              simp only [Act.put, List.getElem_toArray, List.getElem_cons_zero, List.setIfInBounds_toArray, List.set_cons_succ, List.set_cons_zero]
              refine wpAnyH_take (i := 1) (v := .int .i64 (I : Int)) rfl (by kernel_rfl) (by kernel_rfl) (by kernel_rfl) (fun _ _ _ h => h) (Or.inl ⟨by rfl, fun W _ => by go_simp⟩) hHeld ?_
              simp only [Act.put, List.getElem_toArray, List.getElem_cons_zero, List.getElem_cons_succ, List.setIfInBounds_toArray, List.set_cons_succ, List.set_cons_zero]
              refine wpAnyH_take (i := 2) (v := .slice q1 m1 r1) rfl (by kernel_rfl) (by kernel_rfl) (by kernel_rfl) (fun _ _ _ h => h) (Or.inl ⟨by rfl, fun W _ => by have hfact := HS1.out W; go_simp; first | done | simp [hfact]⟩) hHeld ?_
              simp only [Act.put, List.getElem_toArray, List.getElem_cons_zero, List.getElem_cons_succ, List.setIfInBounds_toArray, List.set_cons_succ, List.set_cons_zero]
              refine wpAnyH_take (i := 3) (v := .agg #[.string (mk e.1), .int .i64 e.2.1, .string (mk e.2.2)]) rfl (by kernel_rfl) (by kernel_rfl) (by kernel_rfl) (fun _ _ _ h => h) (Or.inl ⟨by rfl, fun W hW => by obtain ⟨h0, h1, h2⟩ := hW.at; clear hW; go_simp⟩) hHeld ?_
              simp only [Act.put, List.getElem_toArray, List.getElem_cons_zero, List.getElem_cons_succ, List.setIfInBounds_toArray, List.set_cons_succ, List.set_cons_zero]
              refine wpAnyH_take (i := 5) (v := .slice q2 m2 r2) rfl (by kernel_rfl) (by kernel_rfl) (by kernel_rfl) (fun _ _ _ h => h) (Or.inl ⟨by rfl, fun W _ => by go_simp⟩) hHeld ?_
              simp only [Act.put, List.getElem_toArray, List.getElem_cons_zero, List.getElem_cons_succ, List.setIfInBounds_toArray, List.set_cons_succ, List.set_cons_zero]
              refine wpAnyH_ready (rs := [4]) (by kernel_rfl) (by simp) ?_
              refine AllReadyH.cons rfl (fun K hK => ?_) AllReadyH.nil
              go_simp
              refine hK.out _ _ (show Eb _ w.heap.size e from HEy.out) (fun hHeld => ?_)
              clear hK K
              refine wpAnyH_ready (rs := [6]) (by kernel_rfl) (by simp) ?_
              refine AllReadyH.cons rfl (fun K hK => ?_) AllReadyH.nil
              go_simp
              have HEx := hid (HEy.out.below (below_walk (w6.alloc (.cells #[.string (mk e.1), .int .i64 e.2.1, .string (mk e.2.2)] 25)) (.cells #[.slice q1 m1 r1, .slice (some ⟨w6.heap.size, 0, none⟩) 1 1, .slice q2 m2 r2] 22)))
              have HBx := hid (below_then HBy.out (below_walk (w6.alloc (.cells #[.string (mk e.1), .int .i64 e.2.1, .string (mk e.2.2)] 25)) (.cells #[.slice q1 m1 r1, .slice (some ⟨w6.heap.size, 0, none⟩) 1 1, .slice q2 m2 r2] 22)))
              refine hK.out _ _ (show Eb _ w.heap.size e from HEx.out) (fun hHeld => ?_)
              clear hK K
              refine wpAnyH_ready (rs := [7]) (by kernel_rfl) (by simp) ?_
              refine AllReadyH.cons rfl (fun K hK => ?_) AllReadyH.nil
              go_simp
              refine (HCC.out [t.take I, [e], t.drop (I + 1)] ((w6.alloc (.cells #[.string (mk e.1), .int .i64 e.2.1, .string (mk e.2.2)] 25)).alloc (.cells #[.slice q1 m1 r1, .slice (some ⟨w6.heap.size, 0, none⟩) 1 1, .slice q2 m2 r2] 22)).drew _ (trs_three (g := w6.heap.size + 1) HVA.out HO1.out HVB.out rfl (by simp)) (by simp) (by have := HLT.out; simp [List.length_take, List.length_drop]; omega)).mono ?_
              rintro r w7 ⟨v7, rfl, ho7, hb7⟩
              have hfl : [t.take I, [e], t.drop (I + 1)].flatten = puL t e := by rw [HPU.out]; simp
              rw [hfl] at ho7
              have HO7 := hid ho7.ents
              obtain ⟨a7, n7, c7, ev7⟩ : ∃ a n c, v7 = .slice a n c := by obtain ⟨a, c, ev⟩ := ho7.ents.shape; exact ⟨a, _, c, ev⟩
              subst ev7
              have HB7 := hid (below_then HBx.out ⟨hb7.os, hb7.tape, hb7.output, hb7.size, hb7.block⟩)
              have HE7 := hid (HEx.out.below ⟨hb7.os, hb7.tape, hb7.output, hb7.size, hb7.block⟩)
              clear ho7 hb7 hfl
              go_wp2_with fail
              refine hK.out _ _ HE7.out (fun hHeld => ?_)
              clear hK K
              refine wpAnyH_ready (rs := [8]) (by kernel_rfl) (by simp) ?_
              refine AllReadyH.cons rfl (fun K hK => ?_) AllReadyH.nil
              go_simp
              refine (HFT.out _ _ HO7.out).mono ?_
              rintro r w8 ⟨ha8, hb8⟩
              obtain ⟨a8, n8, c8, E8, er8⟩ := ansE_shape ha8
              subst er8
              have HA8 := hid ha8
              have HB8 := hid (below_then HB7.out hb8)
              have HE8 := hid (HE7.out.below hb8)
              clear ha8 hb8
              go_wp2_with fail
              refine hK.out _ _ HE8.out (fun hHeld => ?_)
              clear hK K
              refine wpAnyH_take (i := 9) (v := .slice a8 n8 c8) rfl (by kernel_rfl) (by kernel_rfl) (by kernel_rfl) (fun _ _ _ h => h) (Or.inl ⟨by rfl, fun W _ => by go_simp⟩) hHeld ?_
              simp only [Act.put, List.getElem_toArray, List.getElem_cons_zero, List.getElem_cons_succ, List.setIfInBounds_toArray, List.set_cons_succ, List.set_cons_zero]
              refine wpAnyH_take (i := 10) (v := .int .i64 E8) rfl (by kernel_rfl) (by kernel_rfl) (by kernel_rfl) (fun _ _ _ h => h) (Or.inl ⟨by rfl, fun W _ => by go_simp⟩) hHeld ?_
              simp only [Act.put, List.getElem_toArray, List.getElem_cons_zero, List.getElem_cons_succ, List.setIfInBounds_toArray, List.set_cons_succ, List.set_cons_zero]
              refine wpAnyH_take (i := 11) (v := .slice a8 n8 c8) rfl (by kernel_rfl) (by kernel_rfl) (by kernel_rfl) (fun _ _ _ h => h) (Or.inl ⟨by rfl, fun W _ => by go_simp⟩) hHeld ?_
              simp only [Act.put, List.getElem_toArray, List.getElem_cons_zero, List.getElem_cons_succ, List.setIfInBounds_toArray, List.set_cons_succ, List.set_cons_zero]
              refine wpAnyH_take (i := 12) (v := .int .i64 E8) rfl (by kernel_rfl) (by kernel_rfl) (by kernel_rfl) (fun _ _ _ h => h) (Or.inl ⟨by rfl, fun W _ => by go_simp⟩) hHeld ?_
              simp only [Act.put, List.getElem_toArray, List.getElem_cons_zero, List.getElem_cons_succ, List.setIfInBounds_toArray, List.set_cons_succ, List.set_cons_zero]
              refine wpAnyH_done (by kernel_rfl) ?_ _
              simp only [noPanic]
              clear hHeld
              go_wp2_with fail
              go_ret2
              rw [HAP.out]
              exact ⟨ansE_le HA8.out HB7.out.size, HB8.out⟩
  · have HAP := hid (show putP t e = .error E0 from by unfold putP; rw [HE0.out, if_pos h0])
    have x1 : (E0 == 0) = false := by simpa using h0
    clear h0
    go_enter Try.func15, Try.ntmps15
    go_wp2_with fail
    refine HR.out.mono ?_
    rintro r w1 ⟨rfl, hb1⟩
    rw [← HSZ.out] at hb1
    have HB1 := hid (below_then HB0.out hb1)
    clear hb1 HR
    go_wp2
    go_ret2
    rw [HAP.out]
    exact ⟨rfl, HB1.out⟩

end Go.Proofs.Ytaajbmcejpeoiaa

/- Changes applied as the document does it, plainly: in place or at the end, then sorted. -/
namespace Go.Proofs.Ytaajbmcejpeoiaa

/-- what becomes of an entry -/
def sbE (cs : List Chg) (e : Ent) : Ent := match cs.find? (fun c => decide (c.1 = e.1)) with
  | some c => c.2.2
  | none => e
/-- entries behind changes, in place or at the end -/
def outL (t : List Ent) (cs : List Chg) : List Ent := t.map (sbE cs) ++ (cs.filter (fun c => !thP t c.1)).map (·.2.2)
def leftL (t : List Ent) (cs : List Chg) : List Ent := (outL t cs).filter (fun e => decide (e ≠ zE))
theorem outL_nil (t : List Ent) : outL t [] = t := by
  unfold outL
  rw [show sbE [] = id from rfl]
  simp
theorem sbE_snoc (cs : List Chg) (c : Chg) (e : Ent) : sbE (cs ++ [c]) e = match cs.find? (fun c => decide (c.1 = e.1)) with
    | some d => d.2.2
    | none => if c.1 = e.1 then c.2.2 else e := by
  unfold sbE
  rw [List.find?_append]
  cases cs.find? (fun c => decide (c.1 = e.1)) with
  | some d => rfl
  | none =>
    rw [Option.none_or, List.find?_cons]
    by_cases h : c.1 = e.1
    · rw [decide_eq_true h, if_pos h]
    · rw [decide_eq_false h, if_neg h]
      rfl
theorem outL_new {t : List Ent} {cs : List Chg} {c : Chg} (h : fiP t c.1 = none) : outL t (cs ++ [c]) = outL t cs ++ [c.2.2] := by
  have h0 := fiP_none.1 h
  have hth : thP t c.1 = false := by unfold thP; rw [fdP_none.2 h0]; rfl
  unfold outL
  rw [List.filter_append, List.map_append, ← List.append_assoc]
  congr 1
  · congr 1
    refine List.map_congr_left (fun e he => ?_)
    rw [sbE_snoc]
    unfold sbE
    rw [if_neg (fun h1 => h0 e he h1.symm)]
  · simp [hth]
theorem outL_set {t : List Ent} {cs : List Chg} {c : Chg} {i : Nat} (hup : t.Pairwise ltE) (h : fiP t c.1 = some i) (hc : ∀ d ∈ cs, d.1 ≠ c.1) : outL t (cs ++ [c]) = (outL t cs).set i c.2.2 := by
  obtain ⟨hi, hp, _⟩ := fiP_some.1 h
  have hth : thP t c.1 = true := by unfold thP; rw [fdP_fiP, h]; rfl
  unfold outL
  rw [List.filter_append, List.map_append, List.set_append_left _ _ (by simpa using hi)]
  congr 1
  · apply List.ext_getElem (by simp)
    intro j h1 h2
    have hj : j < t.length := by simpa using h1
    rw [List.getElem_set, List.getElem_map, List.getElem_map, sbE_snoc]
    by_cases hij : i = j
    · subst hij
      have hpi : t[i].1 = c.1 := by rw [← hp]; simp [List.getD_eq_getElem?_getD, hj]
      have hf : cs.find? (fun d => decide (d.1 = t[i].1)) = none := by
        rw [List.find?_eq_none]
        intro d hd
        simpa [hpi] using hc d hd
      rw [hf, if_pos rfl]
      show (if c.1 = t[i].1 then c.2.2 else t[i]) = c.2.2
      rw [if_pos hpi.symm]
    · rw [if_neg hij]
      have hne : ¬ c.1 = t[j].1 := by
        intro e
        have hpi : t[i].1 = c.1 := by rw [← hp]; simp [List.getD_eq_getElem?_getD, hi]
        rcases Nat.lt_or_ge i j with h3 | h3
        · exact ltE_ne (List.pairwise_iff_getElem.1 hup i j hi hj h3) (by rw [hpi, e])
        · exact ltE_ne (List.pairwise_iff_getElem.1 hup j i hj hi (by omega)) (by rw [hpi, e])
      unfold sbE
      rw [if_neg hne]
  · simp [hth]
theorem mayC_pair : ∀ {cs : List Chg} {L : List UInt8}, mayC L cs = true → (∀ c ∈ cs, okC c = true ∧ cmpL (nms L) (nms c.1) < 0) ∧ cs.Pairwise (fun c d => cmpL (nms c.1) (nms d.1) < 0)
  | [], _, _ => ⟨fun c hc => (by cases hc), List.Pairwise.nil⟩
  | c :: cs, L, h => by
    rw [mayC, Bool.and_eq_true, Bool.and_eq_true, decide_eq_true_eq] at h
    obtain ⟨h1, h2⟩ := mayC_pair h.2
    refine ⟨fun d hd => ?_, List.pairwise_cons.2 ⟨fun d hd => (h1 d hd).2, h2⟩⟩
    rw [List.mem_cons] at hd
    rcases hd with rfl | hd
    · exact ⟨h.1.1, h.1.2⟩
    · exact ⟨(h1 d hd).1, cmpL_lt_trans h.1.2 (h1 d hd).2⟩
theorem take_lt : ∀ {t : List Ent} {p : List UInt8}, ∀ e ∈ t.take (plP t p), cmpL (nms e.1) (nms p) < 0
  | [], _, e, he => by simp at he
  | x :: t, p, e, he => by
    by_cases hx : cmpL (nms x.1) (nms p) < 0
    · rw [plP_lt hx, List.take_succ_cons, List.mem_cons] at he
      rcases he with rfl | he
      · exact hx
      · exact take_lt e he
    · rw [plP_ge hx] at he
      simp at he
theorem drop_ge : ∀ {t : List Ent} {p : List UInt8}, t.Pairwise ltE → ∀ e ∈ t.drop (plP t p), ¬ cmpL (nms e.1) (nms p) < 0
  | [], _, _, e, he => by simp at he
  | x :: t, p, hup, e, he => by
    by_cases hx : cmpL (nms x.1) (nms p) < 0
    · rw [plP_lt hx, List.drop_succ_cons] at he
      exact drop_ge (pairL hup).2 e he
    · rw [plP_ge hx, List.drop_zero, List.mem_cons] at he
      rcases he with rfl | he
      · exact hx
      · intro h
        exact hx (cmpL_lt_trans ((pairL hup).1 e he) h)
theorem rest_gt {t : List Ent} {p : List UInt8} (hup : t.Pairwise ltE) : ∀ e ∈ t.drop (plP t p + (if thP t p then 1 else 0)), cmpL (nms p) (nms e.1) < 0 := by
  intro e he
  have he0 : e ∈ t.drop (plP t p) := by
    rw [← List.drop_drop] at he
    exact List.mem_of_mem_drop he
  have h1 := drop_ge hup e he0
  have h2 := cmpL_anti (nms e.1) (nms p)
  have h3 := cmpL_range (nms e.1) (nms p)
  by_cases h0 : cmpL (nms e.1) (nms p) = 0
  · exfalso
    have hp : e.1 = p := nms_inj (cmpL_zero h0)
    have hem := List.mem_of_mem_drop he
    have hth : thP t p = true := by unfold thP; rw [← hp, fdP_mem hup hem]; rfl
    rw [hth, if_pos rfl, ← List.drop_drop] at he
    have hpw : (t.drop (plP t p)).Pairwise ltE := hup.sublist (List.drop_sublist _ _)
    cases hd : t.drop (plP t p) with
    | nil => rw [hd] at he; simp at he
    | cons x r =>
      rw [hd] at he hpw
      have hx : ¬ cmpL (nms x.1) (nms p) < 0 := drop_ge hup x (by rw [hd]; simp)
      have hlt := (pairL hpw).1 e (by simpa using he)
      rw [hp] at hlt
      exact hx hlt
  · omega
theorem mem_split {t : List Ent} {p : List UInt8} {e : Ent} (hup : t.Pairwise ltE) (he : e ∈ t) (hp : e.1 ≠ p) : e ∈ t.take (plP t p) ∨ e ∈ t.drop (plP t p + (if thP t p then 1 else 0)) := by
  rw [← List.take_append_drop (plP t p) t, List.mem_append] at he
  rcases he with he | he
  · exact Or.inl he
  · refine Or.inr ?_
    by_cases hth : thP t p = true
    · rw [if_pos hth, ← List.drop_drop]
      cases hd : t.drop (plP t p) with
      | nil => rw [hd] at he; cases he
      | cons x r =>
        rw [hd] at he
        rw [List.mem_cons] at he
        rcases he with rfl | he
        · exfalso
          unfold thP at hth
          obtain ⟨y, hy⟩ := Option.isSome_iff_exists.1 hth
          obtain ⟨hy1, hy2⟩ := fdP_some hy
          have hpw : (e :: r).Pairwise ltE := by rw [← hd]; exact hup.sublist (List.drop_sublist _ _)
          have hge : ¬ cmpL (nms e.1) (nms p) < 0 := drop_ge hup e (by rw [hd]; simp)
          rw [← List.take_append_drop (plP t p) t, List.mem_append, hd, List.mem_cons] at hy1
          rcases hy1 with hy1 | rfl | hy1
          · have := take_lt y hy1
            rw [hy2, cmpL_self] at this
            omega
          · exact hp hy2
          · have := (pairL hpw).1 y hy1
            rw [hy2] at this
            exact hge this
        · simpa using he
    · rw [if_neg hth, Nat.add_zero]
      exact he
theorem mem_chgd : ∀ {cs : List Chg} {t : List Ent} {L : List UInt8} {e : Ent}, mayC L cs = true → t.Pairwise ltE → (e ∈ chgd t cs ↔ (e ∈ t ∧ ∀ c ∈ cs, c.1 ≠ e.1) ∨ ∃ c ∈ cs, e = c.2.2 ∧ c.2.2.2.1 ≠ 0)
  | [], t, L, e, _, _ => by simp [chgd]
  | c :: cs, t, L, e, h, hup => by
    obtain ⟨h1, h2⟩ := mayC_pair h
    rw [List.pairwise_cons] at h2
    rw [mayC, Bool.and_eq_true, Bool.and_eq_true] at h
    have ih := mem_chgd (e := e) h.2 (hup.sublist (List.drop_sublist (plP t c.1 + (if thP t c.1 then 1 else 0)) t))
    rw [chgd, List.mem_append, List.mem_append, ih]
    constructor
    · rintro (h3 | h3 | ⟨h3, h4⟩ | ⟨d, hd, h3⟩)
      · refine Or.inl ⟨List.mem_of_mem_take h3, fun d hd => ?_⟩
        have h4 := take_lt e h3
        rw [List.mem_cons] at hd
        rcases hd with rfl | hd
        · exact fun h5 => cmp_ne h4 h5.symm
        · exact fun h5 => cmp_ne (cmpL_lt_trans h4 (h2.1 d hd)) h5.symm
      · split at h3
        · cases h3
        · rename_i hk
          rw [List.mem_singleton] at h3
          exact Or.inr ⟨c, by simp, h3, hk⟩
      · refine Or.inl ⟨List.mem_of_mem_drop h3, fun d hd => ?_⟩
        rw [List.mem_cons] at hd
        rcases hd with rfl | hd
        · exact cmp_ne (rest_gt hup e h3)
        · exact h4 d hd
      · exact Or.inr ⟨d, by simp [hd], h3⟩
    · rintro (⟨h3, h4⟩ | ⟨d, hd, h3, h4⟩)
      · rcases mem_split hup h3 (fun h5 => h4 c (by simp) h5.symm) with h5 | h5
        · exact Or.inl h5
        · exact Or.inr (Or.inr (Or.inl ⟨h5, fun d hd => h4 d (by simp [hd])⟩))
      · rw [List.mem_cons] at hd
        rcases hd with rfl | hd
        · exact Or.inr (Or.inl (by rw [if_neg h4]; simp [h3]))
        · exact Or.inr (Or.inr (Or.inr ⟨d, hd, h3, h4⟩))
theorem okC_side {c : Chg} (h : okC c = true) : c.2.2 = zE ∨ (c.2.2.1 = c.1 ∧ mayP c.2.2 = true) := by
  unfold okC sidP at h
  simp only [Bool.and_eq_true, Bool.or_eq_true, decide_eq_true_eq] at h
  exact h.2
theorem chgd_up : ∀ {cs : List Chg} {t : List Ent} {L : List UInt8}, mayC L cs = true → t.Pairwise ltE → (chgd t cs).Pairwise ltE
  | [], t, L, _, hup => hup
  | c :: cs, t, L, h, hup => by
    obtain ⟨h1, h2⟩ := mayC_pair h
    rw [List.pairwise_cons] at h2
    have hc := (h1 c (by simp)).1
    rw [mayC, Bool.and_eq_true, Bool.and_eq_true] at h
    have hup2 := hup.sublist (List.drop_sublist (plP t c.1 + (if thP t c.1 then 1 else 0)) t)
    have ih := chgd_up h.2 hup2
    have hgt : ∀ e ∈ chgd (t.drop (plP t c.1 + (if thP t c.1 then 1 else 0))) cs, cmpL (nms c.1) (nms e.1) < 0 := by
      intro e he
      rcases (mem_chgd h.2 hup2).1 he with ⟨h3, _⟩ | ⟨d, hd, rfl, hk⟩
      · exact rest_gt hup e h3
      · rcases okC_side (h1 d (by simp [hd])).1 with h4 | h4
        · rw [h4] at hk; exact absurd rfl hk
        · rw [h4.1]; exact h2.1 d hd
    rw [chgd, List.pairwise_append]
    refine ⟨hup.sublist (List.take_sublist _ _), ?_, ?_⟩
    · split
      · exact ih
      · rename_i hk
        rw [List.singleton_append, List.pairwise_cons]
        refine ⟨fun e he => ?_, ih⟩
        rcases okC_side hc with h4 | h4
        · rw [h4] at hk; exact absurd rfl hk
        · show cmpL (nms c.2.2.1) (nms e.1) < 0
          rw [h4.1]
          exact hgt e he
    · intro x hx y hy
      have h3 := take_lt x hx
      rw [List.mem_append] at hy
      rcases hy with hy | hy
      · split at hy
        · cases hy
        · rename_i hk
          rw [List.mem_singleton] at hy
          subst hy
          rcases okC_side hc with h4 | h4
          · rw [h4] at hk; exact absurd rfl hk
          · show cmpL (nms x.1) (nms c.2.2.1) < 0
            rw [h4.1]
            exact h3
      · exact cmpL_lt_trans h3 (hgt y hy)
theorem chg_uniq : ∀ {cs : List Chg}, cs.Pairwise (fun c d => cmpL (nms c.1) (nms d.1) < 0) → ∀ {a b : Chg}, a ∈ cs → b ∈ cs → a.1 = b.1 → a = b
  | [], _, _, _, h, _, _ => by cases h
  | c :: cs, h, a, b, ha, hb, hab => by
    rw [List.pairwise_cons] at h
    rw [List.mem_cons] at ha hb
    rcases ha with rfl | ha <;> rcases hb with rfl | hb
    · rfl
    · exact absurd hab (cmp_ne (h.1 b hb))
    · exact absurd hab.symm (cmp_ne (h.1 a ha))
    · exact chg_uniq h.2 ha hb hab
theorem mem_left {t : List Ent} {cs : List Chg} {e : Ent} (h : mayC [] cs = true) (hup : t.Pairwise ltE) (hm : ∀ e ∈ t, mayP e = true) : e ∈ leftL t cs ↔ e ∈ chgd t cs := by
  obtain ⟨h1, h2⟩ := mayC_pair h
  rw [mem_chgd h hup]
  unfold leftL outL
  rw [List.mem_filter, List.mem_append, List.mem_map, List.mem_map, decide_eq_true_eq]
  constructor
  · rintro ⟨⟨x, hx, rfl⟩ | ⟨c, hc, rfl⟩, hz⟩
    · unfold sbE at hz ⊢
      cases hf : cs.find? (fun c => decide (c.1 = x.1)) with
      | none =>
        rw [List.find?_eq_none] at hf
        exact Or.inl ⟨hx, fun c hc => by simpa using hf c hc⟩
      | some c =>
        rw [hf] at hz
        have hc := List.mem_of_find?_eq_some hf
        rcases okC_side (h1 c hc).1 with h3 | h3
        · exact absurd h3 hz
        · exact Or.inr ⟨c, hc, rfl, may_kind h3.2⟩
    · rw [List.mem_filter] at hc
      rcases okC_side (h1 c hc.1).1 with h3 | h3
      · exact absurd h3 hz
      · exact Or.inr ⟨c, hc.1, rfl, may_kind h3.2⟩
  · rintro (⟨he, hn⟩ | ⟨c, hc, rfl, hk⟩)
    · refine ⟨Or.inl ⟨e, he, ?_⟩, may_zero (hm e he)⟩
      unfold sbE
      rw [List.find?_eq_none.2 (fun c hc => by simpa using hn c hc)]
    · refine ⟨?_, fun h3 => hk (by rw [h3]; rfl)⟩
      by_cases hth : thP t c.1 = true
      · unfold thP at hth
        obtain ⟨y, hy⟩ := Option.isSome_iff_exists.1 hth
        obtain ⟨hy1, hy2⟩ := fdP_some hy
        refine Or.inl ⟨y, hy1, ?_⟩
        unfold sbE
        cases hf : cs.find? (fun d => decide (d.1 = y.1)) with
        | none =>
          rw [List.find?_eq_none] at hf
          exact absurd (by simpa using hy2.symm) (hf c hc)
        | some d =>
          have hd := List.mem_of_find?_eq_some hf
          have hd2 : d.1 = y.1 := by simpa using List.find?_some hf
          rw [chg_uniq h2 hd hc (hd2.trans hy2)]
      · exact Or.inr ⟨c, by rw [List.mem_filter]; exact ⟨hc, by simpa using hth⟩, rfl⟩
theorem sub_paths (f : Ent → Ent) : ∀ (t : List Ent), (∀ e ∈ t, f e = zE ∨ (f e).1 = e.1) → (((t.map f).filter (fun e => decide (e ≠ zE))).map (·.1)).Sublist (t.map (·.1))
  | [], _ => List.Sublist.slnil
  | x :: t, h => by
    have ih := sub_paths f t (fun e he => h e (by simp [he]))
    rw [List.map_cons, List.filter_cons]
    by_cases hz : f x = zE
    · rw [if_neg (by simpa using hz), List.map_cons]
      exact ih.cons _
    · rw [if_pos (by simpa using hz), List.map_cons, List.map_cons, (h x (by simp)).resolve_left hz]
      exact ih.cons_cons _
theorem sub_news : ∀ (cs : List Chg), (∀ c ∈ cs, c.2.2 = zE ∨ c.2.2.1 = c.1) → (((cs.map (·.2.2)).filter (fun e => decide (e ≠ zE))).map (·.1)).Sublist (cs.map (·.1))
  | [], _ => List.Sublist.slnil
  | c :: cs, h => by
    have ih := sub_news cs (fun e he => h e (by simp [he]))
    rw [List.map_cons, List.filter_cons]
    by_cases hz : c.2.2 = zE
    · rw [if_neg (by simpa using hz), List.map_cons]
      exact ih.cons _
    · rw [if_pos (by simpa using hz), List.map_cons, List.map_cons, (h c (by simp)).resolve_left hz]
      exact ih.cons_cons _
theorem left_nodup {t : List Ent} {cs : List Chg} (h : mayC [] cs = true) (hup : t.Pairwise ltE) : ((leftL t cs).map (·.1)).Nodup := by
  obtain ⟨h1, h2⟩ := mayC_pair h
  have hs : ((leftL t cs).map (·.1)).Sublist (t.map (·.1) ++ (cs.filter (fun c => !thP t c.1)).map (·.1)) := by
    unfold leftL outL
    rw [List.filter_append, List.map_append]
    refine List.Sublist.append (sub_paths _ t (fun e _ => ?_)) (sub_news _ (fun c hc => ?_))
    · unfold sbE
      cases hf : cs.find? (fun c => decide (c.1 = e.1)) with
      | none => exact Or.inr rfl
      | some c =>
        have hc2 : c.1 = e.1 := by simpa using List.find?_some hf
        exact (okC_side (h1 c (List.mem_of_find?_eq_some hf)).1).imp id (fun h3 => h3.1.trans hc2)
    · exact (okC_side (h1 c (List.mem_filter.1 hc).1).1).imp id (·.1)
  refine List.Nodup.sublist hs ?_
  rw [List.nodup_append]
  refine ⟨pair_nodup hup, ?_, ?_⟩
  · have h3 : ((cs.filter (fun c => !thP t c.1)).map (·.1)).Pairwise (fun a b => cmpL (nms a) (nms b) < 0) := by
      rw [List.pairwise_map]
      exact h2.sublist List.filter_sublist
    exact h3.imp (fun h4 => cmp_ne h4)
  · intro a ha b hb hab
    subst hab
    rw [List.mem_map] at ha hb
    obtain ⟨e, he, rfl⟩ := ha
    obtain ⟨c, hc, hce⟩ := hb
    rw [List.mem_filter] at hc
    have : thP t c.1 = true := by unfold thP; rw [hce, fdP_mem hup he]; rfl
    rw [this] at hc
    simp at hc
/-- what the document sorts is what the program makes -/
theorem left_sorted {t l : List Ent} {cs : List Chg} (h : mayC [] cs = true) (hup : t.Pairwise ltE) (hm : ∀ e ∈ t, mayP e = true) (hp : l.Perm (leftL t cs)) (hu : l.Pairwise (fun a b => ¬ cmpL (nms b.1) (nms a.1) < 0)) : l = chgd t cs := by
  have hnd : (l.map (·.1)).Nodup := (hp.map (·.1)).nodup_iff.2 (left_nodup h hup)
  have hlt : l.Pairwise ltE := by
    have h1 : l.Pairwise (fun a b => a.1 ≠ b.1) := List.pairwise_map.1 hnd
    refine (hu.and h1).imp ?_
    rintro a b ⟨h2, h3⟩
    have h4 := cmpL_anti (nms a.1) (nms b.1)
    have h5 := cmpL_range (nms a.1) (nms b.1)
    have h6 : cmpL (nms a.1) (nms b.1) ≠ 0 := fun h7 => h3 (nms_inj (cmpL_zero h7))
    unfold ltE
    omega
  exact pair_ext hlt (chgd_up h hup) (fun e => by rw [hp.mem_iff]; exact mem_left h hup hm)

end Go.Proofs.Ytaajbmcejpeoiaa

/- What was put is found, what was removed is not, and all else is as it was: plainly. -/
namespace Go.Proofs.Ytaajbmcejpeoiaa

theorem fd_iff {t : List Ent} (h : t.Pairwise ltE) {q : List UInt8} {e : Ent} : fdP t q = some e ↔ e ∈ t ∧ e.1 = q := by
  constructor
  · exact fun h1 => fdP_some h1
  · rintro ⟨h1, rfl⟩
    exact fdP_mem h h1
theorem fd_same {a b : List Ent} (_ : a.Pairwise ltE) (hb : b.Pairwise ltE) {q : List UInt8} (h : ∀ e, e.1 = q → (e ∈ a ↔ e ∈ b)) : fdP a q = fdP b q := by
  cases hx : fdP a q with
  | some e =>
    obtain ⟨h1, h2⟩ := fdP_some hx
    rw [(fd_iff hb).2 ⟨(h e h2).1 h1, h2⟩]
  | none =>
    symm
    rw [fdP_none] at hx ⊢
    exact fun e he hq => hx e ((h e hq).2 he) hq
theorem mem_puL {t : List Ent} {x e : Ent} (hup : t.Pairwise ltE) : e ∈ puL t x ↔ e = x ∨ (e ∈ t ∧ e.1 ≠ x.1) := by
  unfold puL
  rw [List.mem_append, List.mem_append, List.mem_singleton]
  constructor
  · rintro (h | h | h)
    · exact Or.inr ⟨List.mem_of_mem_take h, cmp_ne (take_lt e h)⟩
    · exact Or.inl h
    · exact Or.inr ⟨List.mem_of_mem_drop h, fun h1 => cmp_ne (rest_gt hup e h) h1.symm⟩
  · rintro (h | ⟨h1, h2⟩)
    · exact Or.inr (Or.inl h)
    · rcases mem_split hup h1 h2 with h3 | h3
      · exact Or.inl h3
      · exact Or.inr (Or.inr h3)
theorem puL_up {t : List Ent} {x : Ent} (hup : t.Pairwise ltE) : (puL t x).Pairwise ltE := by
  unfold puL
  rw [List.pairwise_append]
  refine ⟨hup.sublist (List.take_sublist _ _), ?_, ?_⟩
  · rw [List.singleton_append, List.pairwise_cons]
    exact ⟨fun e he => rest_gt hup e he, hup.sublist (List.drop_sublist _ _)⟩
  · intro a ha b hb
    have h1 := take_lt a ha
    rw [List.mem_append, List.mem_singleton] at hb
    rcases hb with rfl | hb
    · exact h1
    · exact cmpL_lt_trans h1 (rest_gt hup b hb)
theorem spD_ne {x : Ent} (h : mayP x = true) : spD x.1 ≠ x.1 := by
  intro h1
  have h2 := spD_lt (mayP_ok h) (mayP_ne h)
  rw [h1, cmpL_self] at h2
  omega
/-- what Put answers is a right tree that has the entry, and all else as it was -/
theorem putP_ok {t a : List Ent} {x : Ent} (h : putP t x = .ok a) : Rgt t ∧ Rgt a ∧ fnP a x.1 = x ∧ ∀ q, q ≠ x.1 → fnP a q = fnP t q := by
  unfold putP at h
  split at h
  · cases h
  · rename_i h0
    have hc : (chkP t).2 = 0 := by simpa using h0
    have hr := rgt_iff.1 hc
    split at h
    · cases h
    · rename_i h1
      have hm : mayP x = true := by simpa using h1
      split at h
      · cases h
      · rename_i h2
        have hd : dirP t (spD x.1) = true := by simpa using h2
        split at h
        · cases h
        · rename_i h3
          unfold fitP at h
          split at h
          · cases h
          · rename_i h4
            split at h
            · cases h
            · rename_i h5
              cases h
              have hup := puL_up (x := x) hr.up
              have hra : Rgt (puL t x) := by
                refine ⟨⟨puL_may hr.may hm, hup, fun e he => ?_⟩, by omega, by omega⟩
                have key : ∀ d ∈ t, d.2.1 = 2 → ∃ d' ∈ puL t x, d'.1 = d.1 ∧ d'.2.1 = 2 := by
                  intro d hdt hk
                  by_cases hdx : d.1 = x.1
                  · refine ⟨x, (mem_puL hr.up).2 (Or.inl rfl), hdx.symm, ?_⟩
                    have hf : fdP t x.1 = some d := (fd_iff hr.up).2 ⟨hdt, hdx⟩
                    have hth : thP t x.1 = true := by unfold thP; rw [hf]; rfl
                    have hst : stP t x.1 = d := by unfold stP; rw [hf]; rfl
                    have h6 : decide (d.2.1 = 2) = decide (x.2.1 = 2) := by
                      by_cases h7 : decide (d.2.1 = 2) = decide (x.2.1 = 2)
                      · exact h7
                      · exact absurd ⟨hth, by rw [hst]; exact h7⟩ h3
                    rw [decide_eq_true hk] at h6
                    simpa using h6.symm
                  · exact ⟨d, (mem_puL hr.up).2 (Or.inr ⟨hdt, hdx⟩), rfl, hk⟩
                rcases (mem_puL hr.up).1 he with rfl | ⟨het, _⟩
                · rcases (dirP_of hr.up).1 hd with h6 | ⟨d, h6, h7, h8⟩
                  · exact Or.inl h6
                  · obtain ⟨d', h9, h10, h11⟩ := key d h6 h8
                    exact Or.inr ⟨d', h9, h10.trans h7, h11⟩
                · rcases hr.dir e het with h6 | ⟨d, h6, h7, h8⟩
                  · exact Or.inl h6
                  · obtain ⟨d', h9, h10, h11⟩ := key d h6 h8
                    exact Or.inr ⟨d', h9, h10.trans h7, h11⟩
              refine ⟨hr, hra, ?_, fun q hq => ?_⟩
              · unfold fnP stP
                rw [if_pos ⟨rgt_iff.2 hra, mayP_ok hm⟩, (fd_iff hup).2 ⟨(mem_puL hr.up).2 (Or.inl rfl), rfl⟩]
                rfl
              · unfold fnP
                rw [rgt_iff.2 hra, hc]
                unfold stP
                rw [fd_same hup hr.up (fun e he => by
                  rw [mem_puL hr.up]
                  constructor
                  · rintro (h6 | h6)
                    · exact absurd (by rw [← he, h6]) hq
                    · exact h6.1
                  · exact fun h6 => Or.inr ⟨h6, by rw [he]; exact hq⟩)]
theorem spD_pre {p : List UInt8} (h : okP p = true) (h0 : p ≠ []) (h1 : spD p ≠ []) : ∃ x, p = spD p ++ 47 :: x := by
  obtain ⟨x, hx⟩ := nms_last h h0
  refine ⟨x, ?_⟩
  have h2 : nms (spD p) ≠ [] := fun h3 => h1 (nms_nil.1 h3)
  have h3 := txt_app h2 (r := [x]) (by simp)
  rw [← hx, txt_nms, txt_nms, txt_one] at h3
  exact h3
theorem ly_up {p : List UInt8} {e : Ent} (hm : mayP e = true) (hp : p ≠ []) (h1 : spD e.1 ≠ []) (h : spD e.1 = p ∨ lyP p (spD e.1) = true) : lyP p e.1 = true := by
  obtain ⟨x, hx⟩ := spD_pre (mayP_ok hm) (mayP_ne hm) h1
  unfold lyP at h ⊢
  rw [decide_eq_false hp, Bool.false_or] at h ⊢
  rw [List.isPrefixOf_iff_prefix] at h ⊢
  rcases h with h | h
  · refine ⟨x, ?_⟩
    rw [hx, h]
    simp
  · refine h.trans ⟨47 :: x, ?_⟩
    exact hx.symm
theorem sz_filter (f : Ent → Bool) : ∀ t : List Ent, szP (t.filter f) ≤ szP t
  | [] => Nat.le_refl _
  | x :: t => by
    have ih := sz_filter f t
    have h4 : szP (x :: t) = x.2.2.length + szP t := by simp [szP]
    rw [List.filter_cons]
    split
    · have h5 : szP (x :: t.filter f) = x.2.2.length + szP (t.filter f) := by simp [szP]
      omega
    · omega
/-- what Remove answers is a right tree without the path and what lies below it, and all else as it was -/
theorem rmP_ok {t b : List Ent} {p : List UInt8} (h : rmP t p = .ok b) : Rgt t ∧ Rgt b ∧ p ≠ [] ∧ ∀ q, fnP b q = if q = p ∨ lyP p q = true then zE else fnP t q := by
  unfold rmP at h
  split at h
  · cases h
  · rename_i h0
    have hc : (chkP t).2 = 0 := by simpa using h0
    have hr := rgt_iff.1 hc
    split at h
    · cases h
    · split at h
      · cases h
      · rename_i h2
        have hth : thP t p = true := by simpa using h2
        have hp := th_ne hr.may hth
        cases h
        have hup : (t.filter (keepP p)).Pairwise ltE := hr.up.sublist List.filter_sublist
        have hk : ∀ e : Ent, keepP p e = true ↔ e.1 ≠ p ∧ lyP p e.1 = false := by
          intro e
          unfold keepP
          rw [Bool.and_eq_true, decide_eq_true_eq, Bool.not_eq_true']
        have hrb : Rgt (t.filter (keepP p)) := by
          refine ⟨⟨fun e he => hr.may e (List.mem_filter.1 he).1, hup, fun e he => ?_⟩, Nat.le_trans (List.length_filter_le _ _) hr.many, Nat.le_trans (sz_filter _ t) hr.big⟩
          obtain ⟨he1, he2⟩ := List.mem_filter.1 he
          rw [hk] at he2
          by_cases h3 : spD e.1 = []
          · exact Or.inl h3
          · rcases hr.dir e he1 with h4 | ⟨d, h4, h5, h6⟩
            · exact absurd h4 h3
            · refine Or.inr ⟨d, List.mem_filter.2 ⟨h4, ?_⟩, h5, h6⟩
              rw [hk, h5]
              refine ⟨fun h7 => ?_, ?_⟩
              · have := ly_up (hr.may e he1) hp h3 (Or.inl h7)
                rw [this] at he2
                exact absurd he2.2 (by simp)
              · cases h7 : lyP p (spD e.1) with
                | false => rfl
                | true =>
                  have := ly_up (hr.may e he1) hp h3 (Or.inr h7)
                  rw [this] at he2
                  exact absurd he2.2 (by simp)
        refine ⟨hr, hrb, hp, fun q => ?_⟩
        unfold fnP
        rw [rgt_iff.2 hrb, hc]
        by_cases hq : q = p ∨ lyP p q = true
        · rw [if_pos hq]
          split
          · unfold stP
            rw [fdP_none.2 (fun e he h3 => ?_)]
            · rfl
            · have h4 := (hk e).1 (List.mem_filter.1 he).2
              rw [h3] at h4
              rcases hq with h5 | h5
              · exact h4.1 h5
              · rw [h5] at h4; exact absurd h4.2 (by simp)
          · rfl
        · rw [if_neg hq]
          unfold stP
          rw [fd_same hup hr.up (fun e he => by
            rw [List.mem_filter, hk, he]
            constructor
            · exact fun h3 => h3.1
            · exact fun h3 => ⟨h3, fun h4 => hq (Or.inl h4), by cases h5 : lyP p q with
                | false => rfl
                | true => exact absurd (Or.inr h5) hq⟩)]
/-- how the law tells what lies under a path -/
theorem under_is {p q : List UInt8} (hp : p ≠ []) : lyP p q = true ↔ p.length < q.length ∧ q.take p.length = p ∧ q.getD p.length 0 = 47 := by
  unfold lyP
  rw [decide_eq_false hp, Bool.false_or, List.isPrefixOf_iff_prefix]
  constructor
  · rintro ⟨r, rfl⟩
    refine ⟨by simp, by simp, ?_⟩
    simp [List.getD_eq_getElem?_getD]
  · rintro ⟨h1, h2, h3⟩
    refine ⟨q.drop (p.length + 1), ?_⟩
    have h4 : q = q.take p.length ++ q.drop p.length := (List.take_append_drop _ _).symm
    have h5 : q.drop p.length = q[p.length] :: q.drop (p.length + 1) := List.drop_eq_getElem_cons h1
    have h6 : q[p.length] = 47 := by
      rw [List.getD_eq_getElem?_getD, List.getElem?_eq_getElem h1] at h3
      exact h3
    rw [h5, h6, h2] at h4
    rw [List.append_assoc]
    exact h4.symm

end Go.Proofs.Ytaajbmcejpeoiaa

/- alive: a file in a directory that lacks. -/
namespace Go.Proofs.Ytaajbmcejpeoiaa
open Go.RowKit

def al0 : Ent := ([97, 47, 98], 1, [120])
def alT : List Ent := [([97], 2, []), al0]
theorem al_lack : lackL [al0] = [[97]] := by decide +kernel
theorem al_make : mkP [al0] = .ok alT := by
  have h1 : [al0].all mayP = true := by decide +kernel
  have h2 : ([al0].map (·.1)).Nodup := by simp
  have h3 : wrongP [al0] = false := by decide +kernel
  have h5 : szP [al0] = 1 := by decide +kernel
  have h6 : alT.Pairwise ltE := by
    unfold alT
    rw [List.pairwise_cons]
    refine ⟨fun b hb => ?_, List.pairwise_singleton _ _⟩
    rw [List.mem_singleton] at hb
    subst hb
    unfold ltE
    decide +kernel
  have h7 : (([al0] ++ [[97]].map dirE).map (·.1)).Nodup := by decide +kernel
  have h8 : alT = sortE ([al0] ++ [[97]].map dirE) := by
    refine sortE_uniq h6 h7 (fun e => ?_)
    unfold alT dirE
    simp
    exact Or.comm
  unfold mkP
  rw [h1, if_neg (show ¬ (true = false) by simp), if_neg (fun h => h h2), h3, if_neg (show ¬ (false = true) by simp), al_lack, h5, ← h8]
  rfl
theorem al_check : chkP alT = (0, 0) := by decide +kernel
theorem al_size : szP alT = 1 := by decide +kernel
theorem al_tre : Tre [al0] := ⟨by simp, fun e he => by rw [List.mem_singleton] at he; subst he; exact ⟨by decide, by decide⟩, by decide +kernel⟩
theorem al_short : Short alT := fun e he => by
  unfold alT at he
  simp only [List.mem_cons, List.not_mem_nil, or_false] at he
  rcases he with rfl | rfl
  · exact ⟨by simp, by simp⟩
  · exact ⟨by decide, by decide⟩

set_option maxRecDepth 100000 in
set_option maxHeartbeats 2000000 in
theorem alive_any (w : World) : Calls Try.prog 14 #[] w fun r w' => r = .returned (.bool true) ∧ Below w.heap.size w w' := by
  have HMK := hid (make_any _ [al0] _ (ents_one w al0) al_tre)
  rw [al_make] at HMK
  have HBA := hid (below_walk w (.cells #[.string ⟨#[97, 47, 98]⟩, .int .i64 1, .string ⟨#[120]⟩] 25))
  go_enter Try.func14, Try.ntmps14
  go_wp2_with fail
  refine HMK.out.mono ?_
  rintro r w2 ⟨⟨v2, rfl, ho2⟩, hb2⟩
  have HO2 := hid ho2
  have HB2 := hid (below_then HBA.out hb2)
  have HC2 := hid (tcheck_any v2 alT w2 ho2.ents al_short (by decide))
  rw [al_check] at HC2
  obtain ⟨a2, c2, h2⟩ := ho2.ents.shape
  subst h2
  clear ho2 hb2 HMK
  go_wp2_with fail
  refine HC2.out.mono ?_
  rintro r w3 ⟨rfl, hb3⟩
  have HEN := hid (HO2.out.ents.below hb3)
  have HB3 := hid (below_then HB2.out hb3)
  have HS3 := hid (size_any _ alT w3 HEN.out al_short (by decide) (by decide +kernel))
  rw [al_check, al_size] at HS3
  obtain ⟨g, o, rfl, hgl, x0, x1, x2⟩ := HEN.out.at 0 (by decide)
  clear hb3 HC2
  have e0 : w3.cell? ⟨g, o, none⟩ = some (.string ⟨#[97]⟩) := x0
  have e1 : w3.cell? ⟨g, o + 1, none⟩ = some (.int .i64 2) := x1
  have e2 : w3.cell? ⟨g, o + 2, none⟩ = some (.string ⟨#[]⟩) := x2
  have hl : alT.length = 2 := rfl
  rw [hl] at HS3 ⊢
  have hg := entG
  have heq : ∀ W, (binOp .eql 25 (.agg #[.string ⟨#[97]⟩, .int .i64 2, .string ⟨#[]⟩]) (.agg #[.string ⟨#[97]⟩, .int .i64 2, .string ⟨#[]⟩])).run Try.prog W = .ok (.bool true) W := fun W => by
    have := eql_ent ([97], 2, []) ([97], 2, []) W
    rw [decide_eq_true rfl] at this
    exact this
  clear x0 x1 x2 hl
  go_wp2_with (go_at_call 12; refine HS3.out.mono ?_; rintro r w4 ⟨rfl, hb4⟩)
  go_ret
  exact ⟨rfl, below_then HB3.out hb4⟩

end Go.Proofs.Ytaajbmcejpeoiaa

/- The beginning of a text, cut; and its bytes. -/
namespace Go.Proofs.Ytaajbmcejpeoiaa
open Go.RowKit

theorem text_to (q : List UInt8) (k : Nat) (hk : k ≤ q.length) (W : World) : (Instr.slice 9 (.string (mk q)) none (some (.int .i64 (k : Int))) none).run Try.prog W = .ok (.string (mk (q.take k))) W := by
  have h1 : (mk q).size = q.length := mk_size q
  have h2 : (k : Int) ≤ ((mk q).size : Int) := by rw [h1]; omega
  have h3 : (mk q).extract 0 k = mk (q.take k) := by
    apply ByteArray.ext
    simp [ByteArray.data_extract, mk]
  go_simp
  first | done | simp [h3] | exact h3
theorem text_at (q : List UInt8) (k : Nat) (hk : k < q.length) (W : World) : (Instr.index 9 (.string (mk q)) (.int .i64 (k : Int))).run Try.prog W = .ok (.int .u8 ((q.getD k 0).toNat : Nat)) W := by
  have := bl_at (mk q) k (by rw [bl_mk]; exact hk) W
  rw [bl_mk] at this
  exact this

end Go.Proofs.Ytaajbmcejpeoiaa

/- TreePuts answers true. -/
namespace Go.Proofs.Ytaajbmcejpeoiaa
open Go.RowKit Go.BigFrame

theorem u8_47 {C : UInt8} (h : (C.toNat : Int) = 47) : C = 47 := by
  apply UInt8.toNat_inj.1
  show C.toNat = 47
  omega
theorem putP_err {t : List Ent} {x : Ent} {E : Int} (h : putP t x = .error E) : E ≠ 0 := by
  unfold putP at h
  split at h
  · rename_i h0; cases h; exact h0
  · split at h
    · cases h; decide
    · split at h
      · cases h; decide
      · split at h
        · cases h; decide
        · unfold fitP at h
          split at h
          · cases h; decide
          · split at h
            · cases h; decide
            · cases h
theorem putP_may {t a : List Ent} {x : Ent} (h : putP t x = .ok a) : mayP x = true := by
  unfold putP at h
  split at h
  · cases h
  · split at h
    · cases h
    · rename_i h1
      simpa using h1
theorem put_two {W : World} {base : Nat} {t : List Ent} {x : Ent} {r : Ending} (h : AnsE W base r (putP t x)) : ∃ v E, r = .returned (.tuple #[v, .int .i64 E]) ∧ Hid ((E ≠ 0 ∧ v = .slice none 0 0) ∨ ∃ a, putP t x = .ok a ∧ E = 0 ∧ OwnE W base v a) := by
  cases hp : putP t x with
  | error E =>
    rw [hp] at h
    exact ⟨_, _, h, Or.inl ⟨putP_err hp, rfl⟩⟩
  | ok a =>
    rw [hp] at h
    obtain ⟨v, hr, ho⟩ := h
    exact ⟨v, 0, hr, Or.inr ⟨a, rfl, rfl, ho⟩⟩
theorem rmP_err {t : List Ent} {p : List UInt8} {E : Int} (h : rmP t p = .error E) : E ≠ 0 := by
  unfold rmP at h
  split at h
  · rename_i h0; cases h; exact h0
  · split at h
    · cases h; decide
    · split at h
      · cases h; decide
      · cases h

set_option maxRecDepth 100000 in
set_option maxHeartbeats 4000000 in
theorem lawPuts_any (v : Value) (t : List Ent) (x : Ent) (p q : List UInt8) (w : World) (h : Ents w v t) (hs : Short t) (hn : t.length ≤ 140737488355327) (hx : x.1.length ≤ 4611686018427387904) (hp : p.length ≤ 4611686018427387904) (hq : q.length ≤ 4611686018427387904) :
    Calls Try.prog 4 #[.agg #[v, .string (mk x.1), .int .i64 x.2.1, .string (mk x.2.2), .string (mk p), .string (mk q)]] w fun e w' => e = .returned (.bool true) ∧ Below w.heap.size w w' := by
  have HET := hid h
  have HAW := hid alive_any
  have HPUT := hid (fun W (hW : Below w.heap.size w W) => put_any v t x W (h.below hW) hs (by omega) hx)
  have HREM := hid (fun W (hW : Below w.heap.size w W) => remove_any v t p W (h.below hW) hs (by omega) hp)
  have HFT := hid (fun W (hW : Below w.heap.size w W) => find_any v t q W (h.below hW) hs (by omega) hq)
  have HFA := hid (fun (a : List Ent) (ha : Rgt a) (va : Value) (z : List UInt8) (hz : z.length ≤ 4611686018427387904) W (hW : Ents W va a) => find_any va a z W hW (may_short ha.may) (by have := ha.many; omega) hz)
  have HLX := hid hx
  have HLQ := hid hq
  have hg := entG
  obtain ⟨ao, c, rfl⟩ := h.shape
  unfold entA at HPUT HFT HFA
  clear h hs hx hp hq
  have HB0 := hid (below_walk w (.cells #[.slice ao t.length c, .string (mk x.1), .int .i64 x.2.1, .string (mk x.2.2), .string (mk p), .string (mk q)] 39))
  have HN0 := hid (hp_new w (.cells #[.slice ao t.length c, .string (mk x.1), .int .i64 x.2.1, .string (mk x.2.2), .string (mk p), .string (mk q)] 39))
  go_enter Try.func4, Try.ntmps4
  go_wp2_with fail
  go_region
  have HX1 : Hid (Eb ((w.alloc (.cells #[.slice ao t.length c, .string (mk x.1), .int .i64 x.2.1, .string (mk x.2.2), .string (mk p), .string (mk q)] 39)).alloc (.cells #[.string (mk x.1), .int .i64 x.2.1, .string (mk x.2.2)] 25)).drew (w.heap.size + 1) x) := by have h9 := Eb.new (w.alloc (.cells #[.slice ao t.length c, .string (mk x.1), .int .i64 x.2.1, .string (mk x.2.2), .string (mk p), .string (mk q)] 39)) x; rw [show (w.alloc (.cells #[.slice ao t.length c, .string (mk x.1), .int .i64 x.2.1, .string (mk x.2.2), .string (mk p), .string (mk q)] 39)).heap.size = w.heap.size + 1 by simp] at h9; exact h9
  have HB1 : Hid (Below w.heap.size w ((w.alloc (.cells #[.slice ao t.length c, .string (mk x.1), .int .i64 x.2.1, .string (mk x.2.2), .string (mk p), .string (mk q)] 39)).alloc (.cells #[.string (mk x.1), .int .i64 x.2.1, .string (mk x.2.2)] 25)).drew) := below_then (below_walk w (.cells #[.slice ao t.length c, .string (mk x.1), .int .i64 x.2.1, .string (mk x.2.2), .string (mk p), .string (mk q)] 39)) (below_ad (w.alloc (.cells #[.slice ao t.length c, .string (mk x.1), .int .i64 x.2.1, .string (mk x.2.2), .string (mk p), .string (mk q)] 39)) (.cells #[.string (mk x.1), .int .i64 x.2.1, .string (mk x.2.2)] 25))
  generalize ((w.alloc (.cells #[.slice ao t.length c, .string (mk x.1), .int .i64 x.2.1, .string (mk x.2.2), .string (mk p), .string (mk q)] 39)).alloc (.cells #[.string (mk x.1), .int .i64 x.2.1, .string (mk x.2.2)] 25)).drew = w1 at *
  obtain ⟨X, HX⟩ : ∃ X : Nat, Hid (w.heap.size + 1 = X) := ⟨_, rfl⟩
  rw [HX.out] at HX1 ⊢
  clear HB0 HN0
  go_wp2_with fail
  refine (HAW.out _).mono ?_
  rintro r w2 ⟨rfl, hb2⟩
  have HB2 := hid (below_then HB1.out hb2)
  have HX2 := hid (HX1.out.below hb2)
  obtain ⟨e0, e1, e2⟩ := HX2.out.at
  clear hb2 HB1 HX1 HAW
  go_wp2_with fail
  refine (HPUT.out w2 HB2.out).mono ?_
  rintro r w3 ⟨ha3, hb3⟩
  have HB3 := hid (below_then HB2.out hb3)
  have HX3 := hid (HX2.out.below hb3)
  clear e0 e1 e2 hb3 HB2 HX2 HPUT
  obtain ⟨v7, E7, rfl, HP7⟩ := put_two ha3
  clear ha3
  go_upto_if 39 with fail
  go_cut [2] from 22 (fun s2 wx => s2 = .bool false ∧ Below w.heap.size w wx)
  case first =>
    as_aux_lemma =>
      clear HREM
      rcases HP7.out with ⟨hE, hv⟩ | ⟨a, hpu, hE, hoa⟩
      · subst hv
        have y9 : (E7 == 0) = false := by simpa using hE
        clear HX3 HP7 HFT HFA
        as_aux_lemma =>
          go_wp2
          go_meet
          case rel => exact ⟨rfl, HB3.out⟩
      · subst hE
        clear HP7
        obtain ⟨e0, e1, e2⟩ := HX3.out.at
        obtain ⟨hrt, hra, hfx, hfo⟩ := putP_ok hpu
        have hmx := putP_may hpu
        have HEA := hid hoa.ents
        obtain ⟨aa, na, ca, eva⟩ : ∃ a n c, v7 = .slice a n c := by obtain ⟨a, c, ev⟩ := hoa.ents.shape; exact ⟨a, _, c, ev⟩
        subst eva
        have HF4 := hid (HFA.out a hra _ x.1 HLX.out w3 HEA.out)
        rw [hfx, decide_eq_true (may_kind hmx)] at HF4
        have HFQ := hid (HFA.out a hra (.slice aa na ca) q HLQ.out)
        have HFO := hid (hfo q)
        obtain ⟨s1, HS1⟩ : ∃ s, Hid (fnP t q = s) := ⟨_, rfl⟩
        obtain ⟨s2, HS2⟩ : ∃ s, Hid (fnP a q = s) := ⟨_, rfl⟩
        have HFT2 := hid HFT.out
        rw [HS1.out] at HFT2 HFO
        rw [HS2.out] at HFQ HFO
        obtain ⟨b1, HBo1⟩ : ∃ b : Bool, Hid (decide (s1.2.1 ≠ 0) = b) := ⟨_, rfl⟩
        obtain ⟨b2, HBo2⟩ : ∃ b : Bool, Hid (decide (s2.2.1 ≠ 0) = b) := ⟨_, rfl⟩
        rw [HBo1.out] at HFT2
        rw [HBo2.out] at HFQ
        clear hpu hoa hrt hra hfx hfo hmx
        go_wp2_with fail
        refine HF4.out.mono ?_
        rintro r w4 ⟨rfl, hb4⟩
        have HB5 := hid (below_then (below_then HB3.out hb4) (below_walk w4 (.cells #[.string (mk x.1), .int .i64 x.2.1, .string (mk x.2.2)] 25)))
        have HX5 := hid ((HX3.out.below hb4).below (below_walk w4 (.cells #[.string (mk x.1), .int .i64 x.2.1, .string (mk x.2.2)] 25)))
        have HY5 := hid (Eb.new w4 x)
        have HEA5 := hid ((HEA.out.below hb4).below (below_walk w4 (.cells #[.string (mk x.1), .int .i64 x.2.1, .string (mk x.2.2)] 25)))
        clear hb4 HB3 HX3 HEA HF4 e0 e1 e2
        go_wp2_with fail
        obtain ⟨D1, HD1⟩ : ∃ D : Nat, Hid (w4.heap.size = D) := ⟨_, rfl⟩
        rw [HD1.out] at HY5 ⊢
        generalize w4.alloc (.cells #[.string (mk x.1), .int .i64 x.2.1, .string (mk x.2.2)] 25) = w5 at *
        refine (HFT2.out w5 HB5.out).mono ?_
        rintro r w6 ⟨rfl, hb6⟩
        have HB7 := hid (below_then (below_then HB5.out hb6) (below_walk w6 (.cells #[.string (mk s1.1), .int .i64 s1.2.1, .string (mk s1.2.2)] 25)))
        have HX7 := hid ((HX5.out.below hb6).below (below_walk w6 (.cells #[.string (mk s1.1), .int .i64 s1.2.1, .string (mk s1.2.2)] 25)))
        have HY7 := hid ((HY5.out.below hb6).below (below_walk w6 (.cells #[.string (mk s1.1), .int .i64 s1.2.1, .string (mk s1.2.2)] 25)))
        have HEA7 := hid ((HEA5.out.below hb6).below (below_walk w6 (.cells #[.string (mk s1.1), .int .i64 s1.2.1, .string (mk s1.2.2)] 25)))
        have HZ7 := hid (Eb.new w6 s1)
        clear hb6 HB5 HX5 HY5 HEA5 HFT2
        go_wp2_with fail
        obtain ⟨D2, HD2⟩ : ∃ D : Nat, Hid (w6.heap.size = D) := ⟨_, rfl⟩
        rw [HD2.out] at HZ7 ⊢
        generalize w6.alloc (.cells #[.string (mk s1.1), .int .i64 s1.2.1, .string (mk s1.2.2)] 25) = w7 at *
        refine (HFQ.out w7 HEA7.out).mono ?_
        rintro r w8 ⟨rfl, hb8⟩
        have HB9 := hid (below_then (below_then HB7.out hb8) (below_walk w8 (.cells #[.string (mk s2.1), .int .i64 s2.2.1, .string (mk s2.2.2)] 25)))
        have HX9 := hid ((HX7.out.below hb8).below (below_walk w8 (.cells #[.string (mk s2.1), .int .i64 s2.2.1, .string (mk s2.2.2)] 25)))
        have HY9 := hid ((HY7.out.below hb8).below (below_walk w8 (.cells #[.string (mk s2.1), .int .i64 s2.2.1, .string (mk s2.2.2)] 25)))
        have HZ9 := hid ((HZ7.out.below hb8).below (below_walk w8 (.cells #[.string (mk s2.1), .int .i64 s2.2.1, .string (mk s2.2.2)] 25)))
        have HW9 := hid (Eb.new w8 s2)
        obtain ⟨x0, x1, x2⟩ := HX9.out.at
        obtain ⟨y0, y1, y2⟩ := HY9.out.at
        obtain ⟨z0, z1, z2⟩ := HZ9.out.at
        obtain ⟨u0, u1, u2⟩ := HW9.out.at
        have n1 : ∀ W, (binOp .neq 25 (.agg #[.string (mk x.1), .int .i64 x.2.1, .string (mk x.2.2)]) (.agg #[.string (mk x.1), .int .i64 x.2.1, .string (mk x.2.2)])).run Try.prog W = .ok (.bool false) W := fun W => by rw [neq_ent x x W, decide_eq_true rfl]; rfl
        clear hb8 HB7 HX7 HY7 HZ7 HEA7 HFQ
        by_cases hqx : q = x.1
        · have t1 : (mk q).toList = (mk x.1).toList := by rw [hqx]
          clear hqx HFO
          as_aux_lemma =>
            go_wp2_with fail
            go_meet
            case rel => exact ⟨rfl, HB9.out⟩
        · have t1 : ¬ (mk q).toList = (mk x.1).toList := fun h9 => hqx ((bl_mk q).symm.trans (h9.trans (bl_mk x.1)))
          have t2 : ((mk q).toList == (mk x.1).toList) = false := by simpa using t1
          have hss := HFO.out hqx
          subst hss
          have hbb : b1 = b2 := HBo1.out.symm.trans HBo2.out
          subst hbb
          have n2 : ∀ W, (binOp .neq 25 (.agg #[.string (mk s2.1), .int .i64 s2.2.1, .string (mk s2.2.2)]) (.agg #[.string (mk s2.1), .int .i64 s2.2.1, .string (mk s2.2.2)])).run Try.prog W = .ok (.bool false) W := fun W => by rw [neq_ent s2 s2 W, decide_eq_true rfl]; rfl
          clear hqx HFO
          as_aux_lemma =>
            go_wp2_with fail
            go_meet
            case rel => exact ⟨rfl, HB9.out⟩
  case rest =>
    as_aux_lemma =>
      obtain ⟨rfl, hbc⟩ := hcut
      have HBC := hid hbc
      clear hbc HP7 HX3 HB3
      go_wp2_with fail
      refine (HREM.out wc HBC.out).mono ?_
      rintro r wa ⟨haa, hba⟩
      have HBa := hid (below_then HBC.out hba)
      clear hba HREM HBC
      cases hrm : rmP t p with
      | error E9 =>
        rw [hrm] at haa
        have hE := rmP_err hrm
        have y8 : (E9 == 0) = false := by simpa using hE
        obtain rfl : r = .returned (.tuple #[.slice none 0 0, .int .i64 E9]) := haa
        clear hrm hE
        go_wp2
        go_ret
        exact ⟨rfl, HBa.out⟩
      | ok b =>
        rw [hrm] at haa
        obtain ⟨vb, rfl, hob⟩ := haa
        obtain ⟨_, hrb, hpn, hfq⟩ := rmP_ok hrm
        have HEB := hid hob.ents
        obtain ⟨ab, nb, cb, evb⟩ : ∃ a n c, vb = .slice a n c := by obtain ⟨a, c, ev⟩ := hob.ents.shape; exact ⟨a, _, c, ev⟩
        subst evb
        have HFB := hid (HFA.out b hrb (.slice ab nb cb) q HLQ.out)
        rw [hfq q] at HFB
        have HUN := hid (under_is (q := q) hpn)
        have HTO := hid (text_to q p.length)
        have HAT := hid (text_at q p.length)
        obtain ⟨z, HZ⟩ : ∃ s, Hid (fnP t q = s) := ⟨_, rfl⟩
        rw [HZ.out] at HFT HFB
        obtain ⟨bz, HBZ⟩ : ∃ s : Bool, Hid (decide (z.2.1 ≠ 0) = s) := ⟨_, rfl⟩
        rw [HBZ.out] at HFT
        clear hrm hob hrb hpn hfq HFA
        go_upto_region 14 with fail
        go_cut [17] from 22 (fun s17 wx => s17 = .bool (decide (q = p ∨ lyP p q = true)) ∧ wx = wa)
        case first =>
          as_aux_lemma =>
            have lp : (mk p).size = p.length := mk_size p
            have lq : (mk q).size = q.length := mk_size q
            obtain ⟨C, HC⟩ : ∃ C, Hid (q.getD p.length 0 = C) := ⟨_, rfl⟩
            rw [HC.out] at HUN HAT
            clear HBa HFT HFB HEB HZ HBZ HET
            by_cases hqp : q = p
            · have hU : q = p ∨ lyP p q = true := Or.inl hqp
              have t5 : (mk q).toList = (mk p).toList := by rw [hqp]
              clear hqp
              have HU := hid (show true = decide (q = p ∨ lyP p q = true) from (decide_eq_true hU).symm)
              clear hU HUN HTO HAT HC
              as_aux_lemma =>
                go_wp2
                go_meet
                case rel => exact ⟨congrArg Value.bool HU.out, rfl⟩
            · have t5 : ¬ (mk q).toList = (mk p).toList := fun h9 => hqp ((bl_mk q).symm.trans (h9.trans (bl_mk p)))
              have t6 : ((mk q).toList == (mk p).toList) = false := by simpa using t5
              by_cases hl : p.length < q.length
              · have k5 : (p.length : Int) < (q.length : Int) := by omega
                have sl := HTO.out (by omega)
                have ix := HAT.out hl
                by_cases htk : q.take p.length = p
                · have t7 : (mk (q.take p.length)).toList = (mk p).toList := by rw [htk]
                  by_cases hC : C = 47
                  · have hU : q = p ∨ lyP p q = true := Or.inr (HUN.out.2 ⟨hl, htk, hC⟩)
                    subst hC
                    clear hqp hl htk
                    have HU := hid (show true = decide (q = p ∨ lyP p q = true) from (decide_eq_true hU).symm)
                    clear hU HUN HTO HAT HC
                    as_aux_lemma =>
                      go_wp2
                      go_meet
                      case rel => exact ⟨congrArg Value.bool HU.out, rfl⟩
                  · have hU : ¬ (q = p ∨ lyP p q = true) := fun h9 => h9.elim hqp (fun h8 => hC (HUN.out.1 h8).2.2)
                    have c5 : ¬ ((C.toNat : Int) = 47) := fun h9 => hC (u8_47 h9)
                    have c6 : ((C.toNat : Int) == 47) = false := by simpa using c5
                    clear hqp hl htk hC
                    have HU := hid (show false = decide (q = p ∨ lyP p q = true) from (decide_eq_false hU).symm)
                    clear hU HUN HTO HAT HC
                    as_aux_lemma =>
                      go_wp2
                      go_meet
                      case rel => exact ⟨congrArg Value.bool HU.out, rfl⟩
                · have t7 : ¬ (mk (q.take p.length)).toList = (mk p).toList := fun h9 => htk ((bl_mk _).symm.trans (h9.trans (bl_mk p)))
                  have t8 : ((mk (q.take p.length)).toList == (mk p).toList) = false := by simpa using t7
                  have hU : ¬ (q = p ∨ lyP p q = true) := fun h9 => h9.elim hqp (fun h8 => htk (HUN.out.1 h8).2.1)
                  clear hqp hl htk
                  have HU := hid (show false = decide (q = p ∨ lyP p q = true) from (decide_eq_false hU).symm)
                  clear hU HUN HTO HAT HC
                  as_aux_lemma =>
                    go_wp2
                    go_meet
                    case rel => exact ⟨congrArg Value.bool HU.out, rfl⟩
              · have k5 : ¬ (p.length : Int) < (q.length : Int) := by omega
                have hU : ¬ (q = p ∨ lyP p q = true) := fun h9 => h9.elim hqp (fun h8 => hl (HUN.out.1 h8).1)
                clear hqp hl
                have HU := hid (show false = decide (q = p ∨ lyP p q = true) from (decide_eq_false hU).symm)
                clear hU HUN HTO HAT HC
                as_aux_lemma =>
                  go_wp2
                  go_meet
                  case rel => exact ⟨congrArg Value.bool HU.out, rfl⟩
        case rest =>
          as_aux_lemma =>
            obtain ⟨rfl, rfl⟩ := hcut
            clear HUN HTO HAT
            by_cases hU : q = p ∨ lyP p q = true
            · rw [if_pos hU, show decide (zE.2.1 ≠ 0) = false from rfl] at HFB
              rw [decide_eq_true hU]
              clear hU
              go_wp2_with fail
              refine (HFT.out wc HBa.out).mono ?_
              rintro r wb ⟨rfl, hbb⟩
              have HBc := hid (below_then (below_then HBa.out hbb) (below_walk wb (.cells #[.string (mk z.1), .int .i64 z.2.1, .string (mk z.2.2)] 25)))
              have HEc := hid ((HEB.out.below hbb).below (below_walk wb (.cells #[.string (mk z.1), .int .i64 z.2.1, .string (mk z.2.2)] 25)))
              have HZc := hid (Eb.new wb z)
              clear hbb HBa HEB HFT
              go_wp2_with fail
              obtain ⟨D5, HD5⟩ : ∃ D : Nat, Hid (wb.heap.size = D) := ⟨_, rfl⟩
              rw [HD5.out] at HZc ⊢
              generalize wb.alloc (.cells #[.string (mk z.1), .int .i64 z.2.1, .string (mk z.2.2)] 25) = wd at *
              refine (HFB.out wd HEc.out).mono ?_
              rintro r we ⟨rfl, hbd⟩
              have HBe := hid (below_then (below_then HBc.out hbd) (below_walk we (.cells #[.string (mk zE.1), .int .i64 zE.2.1, .string (mk zE.2.2)] 25)))
              have HZe := hid ((HZc.out.below hbd).below (below_walk we (.cells #[.string (mk zE.1), .int .i64 zE.2.1, .string (mk zE.2.2)] 25)))
              have HWe := hid (Eb.new we zE)
              obtain ⟨z0, z1, z2⟩ := HZe.out.at
              obtain ⟨u0, u1, u2⟩ := HWe.out.at
              clear hbd HBc HEc HZc HFB
              as_aux_lemma =>
                go_wp2
                go_ret
                exact ⟨rfl, HBe.out⟩
            · rw [if_neg hU, HBZ.out] at HFB
              rw [decide_eq_false hU]
              have n5 : ∀ W, (binOp .eql 25 (.agg #[.string (mk z.1), .int .i64 z.2.1, .string (mk z.2.2)]) (.agg #[.string (mk z.1), .int .i64 z.2.1, .string (mk z.2.2)])).run Try.prog W = .ok (.bool true) W := fun W => by rw [eql_ent z z W, decide_eq_true rfl]
              clear hU
              go_wp2_with fail
              refine (HFT.out wc HBa.out).mono ?_
              rintro r wb ⟨rfl, hbb⟩
              have HBc := hid (below_then (below_then HBa.out hbb) (below_walk wb (.cells #[.string (mk z.1), .int .i64 z.2.1, .string (mk z.2.2)] 25)))
              have HEc := hid ((HEB.out.below hbb).below (below_walk wb (.cells #[.string (mk z.1), .int .i64 z.2.1, .string (mk z.2.2)] 25)))
              have HZc := hid (Eb.new wb z)
              clear hbb HBa HEB HFT
              go_wp2_with fail
              obtain ⟨D5, HD5⟩ : ∃ D : Nat, Hid (wb.heap.size = D) := ⟨_, rfl⟩
              rw [HD5.out] at HZc ⊢
              generalize wb.alloc (.cells #[.string (mk z.1), .int .i64 z.2.1, .string (mk z.2.2)] 25) = wd at *
              refine (HFB.out wd HEc.out).mono ?_
              rintro r we ⟨rfl, hbd⟩
              have HBe := hid (below_then (below_then HBc.out hbd) (below_walk we (.cells #[.string (mk z.1), .int .i64 z.2.1, .string (mk z.2.2)] 25)))
              have HZe := hid ((HZc.out.below hbd).below (below_walk we (.cells #[.string (mk z.1), .int .i64 z.2.1, .string (mk z.2.2)] 25)))
              have HWe := hid (Eb.new we z)
              obtain ⟨z0, z1, z2⟩ := HZe.out.at
              obtain ⟨u0, u1, u2⟩ := HWe.out.at
              clear hbd HBc HEc HZc HFB
              as_aux_lemma =>
                go_wp2
                go_ret
                exact ⟨rfl, HBe.out⟩

end Go.Proofs.Ytaajbmcejpeoiaa
