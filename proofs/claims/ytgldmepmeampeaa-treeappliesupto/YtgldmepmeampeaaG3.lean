/- Contracts and pure facts that the proof needs, joined. -/
import Derived.Test.YtgldmepmeampeaaG2
import Derived.Test.YtgldmepmeampeaaG1
import Derived.Laws.StructEq
import Derived.Deep.MidRow
import Derived.OrdersHeld
import Derived.Deep.RegionHeld3

/- Changes applied as the document does it, plainly: in place or at the end, then sorted. -/
namespace Go.Proofs.Ytgldmepmeampeaa

/-- what becomes of an entry -/
def sbE (cs : List Chg) (e : Ent) : Ent := match cs.find? (fun c => decide (c.1 = e.1)) with
  | some c => c.2.2
  | none => e
/-- entries behind changes, in place or at the end -/
def outL (t : List Ent) (cs : List Chg) : List Ent := t.map (sbE cs) ++ (cs.filter (fun c => !thP t c.1)).map (·.2.2)
def leftL (t : List Ent) (cs : List Chg) : List Ent := (outL t cs).filter (fun e => decide (e ≠ zE))
theorem outL_nil (t : List Ent) : outL t [] = t := by
  unfold outL
  rw [show sbE [] = id from rfl]
  simp
theorem sbE_snoc (cs : List Chg) (c : Chg) (e : Ent) : sbE (cs ++ [c]) e = match cs.find? (fun c => decide (c.1 = e.1)) with
    | some d => d.2.2
    | none => if c.1 = e.1 then c.2.2 else e := by
  unfold sbE
  rw [List.find?_append]
  cases cs.find? (fun c => decide (c.1 = e.1)) with
  | some d => rfl
  | none =>
    rw [Option.none_or, List.find?_cons]
    by_cases h : c.1 = e.1
    · rw [decide_eq_true h, if_pos h]
    · rw [decide_eq_false h, if_neg h]
      rfl
theorem outL_new {t : List Ent} {cs : List Chg} {c : Chg} (h : fiP t c.1 = none) : outL t (cs ++ [c]) = outL t cs ++ [c.2.2] := by
  have h0 := fiP_none.1 h
  have hth : thP t c.1 = false := by unfold thP; rw [fdP_none.2 h0]; rfl
  unfold outL
  rw [List.filter_append, List.map_append, ← List.append_assoc]
  congr 1
  · congr 1
    refine List.map_congr_left (fun e he => ?_)
    rw [sbE_snoc]
    unfold sbE
    rw [if_neg (fun h1 => h0 e he h1.symm)]
  · simp [hth]
theorem outL_set {t : List Ent} {cs : List Chg} {c : Chg} {i : Nat} (hup : t.Pairwise ltE) (h : fiP t c.1 = some i) (hc : ∀ d ∈ cs, d.1 ≠ c.1) : outL t (cs ++ [c]) = (outL t cs).set i c.2.2 := by
  obtain ⟨hi, hp, _⟩ := fiP_some.1 h
  have hth : thP t c.1 = true := by unfold thP; rw [fdP_fiP, h]; rfl
  unfold outL
  rw [List.filter_append, List.map_append, List.set_append_left _ _ (by simpa using hi)]
  congr 1
  · apply List.ext_getElem (by simp)
    intro j h1 h2
    have hj : j < t.length := by simpa using h1
    rw [List.getElem_set, List.getElem_map, List.getElem_map, sbE_snoc]
    by_cases hij : i = j
    · subst hij
      have hpi : t[i].1 = c.1 := by rw [← hp]; simp [List.getD_eq_getElem?_getD, hj]
      have hf : cs.find? (fun d => decide (d.1 = t[i].1)) = none := by
        rw [List.find?_eq_none]
        intro d hd
        simpa [hpi] using hc d hd
      rw [hf, if_pos rfl]
      show (if c.1 = t[i].1 then c.2.2 else t[i]) = c.2.2
      rw [if_pos hpi.symm]
    · rw [if_neg hij]
      have hne : ¬ c.1 = t[j].1 := by
        intro e
        have hpi : t[i].1 = c.1 := by rw [← hp]; simp [List.getD_eq_getElem?_getD, hi]
        rcases Nat.lt_or_ge i j with h3 | h3
        · exact ltE_ne (List.pairwise_iff_getElem.1 hup i j hi hj h3) (by rw [hpi, e])
        · exact ltE_ne (List.pairwise_iff_getElem.1 hup j i hj hi (by omega)) (by rw [hpi, e])
      unfold sbE
      rw [if_neg hne]
  · simp [hth]
theorem mayC_pair : ∀ {cs : List Chg} {L : List UInt8}, mayC L cs = true → (∀ c ∈ cs, okC c = true ∧ cmpL (nms L) (nms c.1) < 0) ∧ cs.Pairwise (fun c d => cmpL (nms c.1) (nms d.1) < 0)
  | [], _, _ => ⟨fun c hc => (by cases hc), List.Pairwise.nil⟩
  | c :: cs, L, h => by
    rw [mayC, Bool.and_eq_true, Bool.and_eq_true, decide_eq_true_eq] at h
    obtain ⟨h1, h2⟩ := mayC_pair h.2
    refine ⟨fun d hd => ?_, List.pairwise_cons.2 ⟨fun d hd => (h1 d hd).2, h2⟩⟩
    rw [List.mem_cons] at hd
    rcases hd with rfl | hd
    · exact ⟨h.1.1, h.1.2⟩
    · exact ⟨(h1 d hd).1, cmpL_lt_trans h.1.2 (h1 d hd).2⟩
theorem take_lt : ∀ {t : List Ent} {p : List UInt8}, ∀ e ∈ t.take (plP t p), cmpL (nms e.1) (nms p) < 0
  | [], _, e, he => by simp at he
  | x :: t, p, e, he => by
    by_cases hx : cmpL (nms x.1) (nms p) < 0
    · rw [plP_lt hx, List.take_succ_cons, List.mem_cons] at he
      rcases he with rfl | he
      · exact hx
      · exact take_lt e he
    · rw [plP_ge hx] at he
      simp at he
theorem drop_ge : ∀ {t : List Ent} {p : List UInt8}, t.Pairwise ltE → ∀ e ∈ t.drop (plP t p), ¬ cmpL (nms e.1) (nms p) < 0
  | [], _, _, e, he => by simp at he
  | x :: t, p, hup, e, he => by
    by_cases hx : cmpL (nms x.1) (nms p) < 0
    · rw [plP_lt hx, List.drop_succ_cons] at he
      exact drop_ge (pairL hup).2 e he
    · rw [plP_ge hx, List.drop_zero, List.mem_cons] at he
      rcases he with rfl | he
      · exact hx
      · intro h
        exact hx (cmpL_lt_trans ((pairL hup).1 e he) h)
theorem rest_gt {t : List Ent} {p : List UInt8} (hup : t.Pairwise ltE) : ∀ e ∈ t.drop (plP t p + (if thP t p then 1 else 0)), cmpL (nms p) (nms e.1) < 0 := by
  intro e he
  have he0 : e ∈ t.drop (plP t p) := by
    rw [← List.drop_drop] at he
    exact List.mem_of_mem_drop he
  have h1 := drop_ge hup e he0
  have h2 := cmpL_anti (nms e.1) (nms p)
  have h3 := cmpL_range (nms e.1) (nms p)
  by_cases h0 : cmpL (nms e.1) (nms p) = 0
  · exfalso
    have hp : e.1 = p := nms_inj (cmpL_zero h0)
    have hem := List.mem_of_mem_drop he
    have hth : thP t p = true := by unfold thP; rw [← hp, fdP_mem hup hem]; rfl
    rw [hth, if_pos rfl, ← List.drop_drop] at he
    have hpw : (t.drop (plP t p)).Pairwise ltE := hup.sublist (List.drop_sublist _ _)
    cases hd : t.drop (plP t p) with
    | nil => rw [hd] at he; simp at he
    | cons x r =>
      rw [hd] at he hpw
      have hx : ¬ cmpL (nms x.1) (nms p) < 0 := drop_ge hup x (by rw [hd]; simp)
      have hlt := (pairL hpw).1 e (by simpa using he)
      rw [hp] at hlt
      exact hx hlt
  · omega
theorem mem_split {t : List Ent} {p : List UInt8} {e : Ent} (hup : t.Pairwise ltE) (he : e ∈ t) (hp : e.1 ≠ p) : e ∈ t.take (plP t p) ∨ e ∈ t.drop (plP t p + (if thP t p then 1 else 0)) := by
  rw [← List.take_append_drop (plP t p) t, List.mem_append] at he
  rcases he with he | he
  · exact Or.inl he
  · refine Or.inr ?_
    by_cases hth : thP t p = true
    · rw [if_pos hth, ← List.drop_drop]
      cases hd : t.drop (plP t p) with
      | nil => rw [hd] at he; cases he
      | cons x r =>
        rw [hd] at he
        rw [List.mem_cons] at he
        rcases he with rfl | he
        · exfalso
          unfold thP at hth
          obtain ⟨y, hy⟩ := Option.isSome_iff_exists.1 hth
          obtain ⟨hy1, hy2⟩ := fdP_some hy
          have hpw : (e :: r).Pairwise ltE := by rw [← hd]; exact hup.sublist (List.drop_sublist _ _)
          have hge : ¬ cmpL (nms e.1) (nms p) < 0 := drop_ge hup e (by rw [hd]; simp)
          rw [← List.take_append_drop (plP t p) t, List.mem_append, hd, List.mem_cons] at hy1
          rcases hy1 with hy1 | rfl | hy1
          · have := take_lt y hy1
            rw [hy2, cmpL_self] at this
            omega
          · exact hp hy2
          · have := (pairL hpw).1 y hy1
            rw [hy2] at this
            exact hge this
        · simpa using he
    · rw [if_neg hth, Nat.add_zero]
      exact he
theorem mem_chgd : ∀ {cs : List Chg} {t : List Ent} {L : List UInt8} {e : Ent}, mayC L cs = true → t.Pairwise ltE → (e ∈ chgd t cs ↔ (e ∈ t ∧ ∀ c ∈ cs, c.1 ≠ e.1) ∨ ∃ c ∈ cs, e = c.2.2 ∧ c.2.2.2.1 ≠ 0)
  | [], t, L, e, _, _ => by simp [chgd]
  | c :: cs, t, L, e, h, hup => by
    obtain ⟨h1, h2⟩ := mayC_pair h
    rw [List.pairwise_cons] at h2
    rw [mayC, Bool.and_eq_true, Bool.and_eq_true] at h
    have ih := mem_chgd (e := e) h.2 (hup.sublist (List.drop_sublist (plP t c.1 + (if thP t c.1 then 1 else 0)) t))
    rw [chgd, List.mem_append, List.mem_append, ih]
    constructor
    · rintro (h3 | h3 | ⟨h3, h4⟩ | ⟨d, hd, h3⟩)
      · refine Or.inl ⟨List.mem_of_mem_take h3, fun d hd => ?_⟩
        have h4 := take_lt e h3
        rw [List.mem_cons] at hd
        rcases hd with rfl | hd
        · exact fun h5 => cmp_ne h4 h5.symm
        · exact fun h5 => cmp_ne (cmpL_lt_trans h4 (h2.1 d hd)) h5.symm
      · split at h3
        · cases h3
        · rename_i hk
          rw [List.mem_singleton] at h3
          exact Or.inr ⟨c, by simp, h3, hk⟩
      · refine Or.inl ⟨List.mem_of_mem_drop h3, fun d hd => ?_⟩
        rw [List.mem_cons] at hd
        rcases hd with rfl | hd
        · exact cmp_ne (rest_gt hup e h3)
        · exact h4 d hd
      · exact Or.inr ⟨d, by simp [hd], h3⟩
    · rintro (⟨h3, h4⟩ | ⟨d, hd, h3, h4⟩)
      · rcases mem_split hup h3 (fun h5 => h4 c (by simp) h5.symm) with h5 | h5
        · exact Or.inl h5
        · exact Or.inr (Or.inr (Or.inl ⟨h5, fun d hd => h4 d (by simp [hd])⟩))
      · rw [List.mem_cons] at hd
        rcases hd with rfl | hd
        · exact Or.inr (Or.inl (by rw [if_neg h4]; simp [h3]))
        · exact Or.inr (Or.inr (Or.inr ⟨d, hd, h3, h4⟩))
theorem okC_side {c : Chg} (h : okC c = true) : c.2.2 = zE ∨ (c.2.2.1 = c.1 ∧ mayP c.2.2 = true) := by
  unfold okC sidP at h
  simp only [Bool.and_eq_true, Bool.or_eq_true, decide_eq_true_eq] at h
  exact h.2
theorem chgd_up : ∀ {cs : List Chg} {t : List Ent} {L : List UInt8}, mayC L cs = true → t.Pairwise ltE → (chgd t cs).Pairwise ltE
  | [], t, L, _, hup => hup
  | c :: cs, t, L, h, hup => by
    obtain ⟨h1, h2⟩ := mayC_pair h
    rw [List.pairwise_cons] at h2
    have hc := (h1 c (by simp)).1
    rw [mayC, Bool.and_eq_true, Bool.and_eq_true] at h
    have hup2 := hup.sublist (List.drop_sublist (plP t c.1 + (if thP t c.1 then 1 else 0)) t)
    have ih := chgd_up h.2 hup2
    have hgt : ∀ e ∈ chgd (t.drop (plP t c.1 + (if thP t c.1 then 1 else 0))) cs, cmpL (nms c.1) (nms e.1) < 0 := by
      intro e he
      rcases (mem_chgd h.2 hup2).1 he with ⟨h3, _⟩ | ⟨d, hd, rfl, hk⟩
      · exact rest_gt hup e h3
      · rcases okC_side (h1 d (by simp [hd])).1 with h4 | h4
        · rw [h4] at hk; exact absurd rfl hk
        · rw [h4.1]; exact h2.1 d hd
    rw [chgd, List.pairwise_append]
    refine ⟨hup.sublist (List.take_sublist _ _), ?_, ?_⟩
    · split
      · exact ih
      · rename_i hk
        rw [List.singleton_append, List.pairwise_cons]
        refine ⟨fun e he => ?_, ih⟩
        rcases okC_side hc with h4 | h4
        · rw [h4] at hk; exact absurd rfl hk
        · show cmpL (nms c.2.2.1) (nms e.1) < 0
          rw [h4.1]
          exact hgt e he
    · intro x hx y hy
      have h3 := take_lt x hx
      rw [List.mem_append] at hy
      rcases hy with hy | hy
      · split at hy
        · cases hy
        · rename_i hk
          rw [List.mem_singleton] at hy
          subst hy
          rcases okC_side hc with h4 | h4
          · rw [h4] at hk; exact absurd rfl hk
          · show cmpL (nms x.1) (nms c.2.2.1) < 0
            rw [h4.1]
            exact h3
      · exact cmpL_lt_trans h3 (hgt y hy)
theorem chg_uniq : ∀ {cs : List Chg}, cs.Pairwise (fun c d => cmpL (nms c.1) (nms d.1) < 0) → ∀ {a b : Chg}, a ∈ cs → b ∈ cs → a.1 = b.1 → a = b
  | [], _, _, _, h, _, _ => by cases h
  | c :: cs, h, a, b, ha, hb, hab => by
    rw [List.pairwise_cons] at h
    rw [List.mem_cons] at ha hb
    rcases ha with rfl | ha <;> rcases hb with rfl | hb
    · rfl
    · exact absurd hab (cmp_ne (h.1 b hb))
    · exact absurd hab.symm (cmp_ne (h.1 a ha))
    · exact chg_uniq h.2 ha hb hab
theorem mem_left {t : List Ent} {cs : List Chg} {e : Ent} (h : mayC [] cs = true) (hup : t.Pairwise ltE) (hm : ∀ e ∈ t, mayP e = true) : e ∈ leftL t cs ↔ e ∈ chgd t cs := by
  obtain ⟨h1, h2⟩ := mayC_pair h
  rw [mem_chgd h hup]
  unfold leftL outL
  rw [List.mem_filter, List.mem_append, List.mem_map, List.mem_map, decide_eq_true_eq]
  constructor
  · rintro ⟨⟨x, hx, rfl⟩ | ⟨c, hc, rfl⟩, hz⟩
    · unfold sbE at hz ⊢
      cases hf : cs.find? (fun c => decide (c.1 = x.1)) with
      | none =>
        rw [List.find?_eq_none] at hf
        exact Or.inl ⟨hx, fun c hc => by simpa using hf c hc⟩
      | some c =>
        rw [hf] at hz
        have hc := List.mem_of_find?_eq_some hf
        rcases okC_side (h1 c hc).1 with h3 | h3
        · exact absurd h3 hz
        · exact Or.inr ⟨c, hc, rfl, may_kind h3.2⟩
    · rw [List.mem_filter] at hc
      rcases okC_side (h1 c hc.1).1 with h3 | h3
      · exact absurd h3 hz
      · exact Or.inr ⟨c, hc.1, rfl, may_kind h3.2⟩
  · rintro (⟨he, hn⟩ | ⟨c, hc, rfl, hk⟩)
    · refine ⟨Or.inl ⟨e, he, ?_⟩, may_zero (hm e he)⟩
      unfold sbE
      rw [List.find?_eq_none.2 (fun c hc => by simpa using hn c hc)]
    · refine ⟨?_, fun h3 => hk (by rw [h3]; rfl)⟩
      by_cases hth : thP t c.1 = true
      · unfold thP at hth
        obtain ⟨y, hy⟩ := Option.isSome_iff_exists.1 hth
        obtain ⟨hy1, hy2⟩ := fdP_some hy
        refine Or.inl ⟨y, hy1, ?_⟩
        unfold sbE
        cases hf : cs.find? (fun d => decide (d.1 = y.1)) with
        | none =>
          rw [List.find?_eq_none] at hf
          exact absurd (by simpa using hy2.symm) (hf c hc)
        | some d =>
          have hd := List.mem_of_find?_eq_some hf
          have hd2 : d.1 = y.1 := by simpa using List.find?_some hf
          rw [chg_uniq h2 hd hc (hd2.trans hy2)]
      · exact Or.inr ⟨c, by rw [List.mem_filter]; exact ⟨hc, by simpa using hth⟩, rfl⟩
theorem sub_paths (f : Ent → Ent) : ∀ (t : List Ent), (∀ e ∈ t, f e = zE ∨ (f e).1 = e.1) → (((t.map f).filter (fun e => decide (e ≠ zE))).map (·.1)).Sublist (t.map (·.1))
  | [], _ => List.Sublist.slnil
  | x :: t, h => by
    have ih := sub_paths f t (fun e he => h e (by simp [he]))
    rw [List.map_cons, List.filter_cons]
    by_cases hz : f x = zE
    · rw [if_neg (by simpa using hz), List.map_cons]
      exact ih.cons _
    · rw [if_pos (by simpa using hz), List.map_cons, List.map_cons, (h x (by simp)).resolve_left hz]
      exact ih.cons_cons _
theorem sub_news : ∀ (cs : List Chg), (∀ c ∈ cs, c.2.2 = zE ∨ c.2.2.1 = c.1) → (((cs.map (·.2.2)).filter (fun e => decide (e ≠ zE))).map (·.1)).Sublist (cs.map (·.1))
  | [], _ => List.Sublist.slnil
  | c :: cs, h => by
    have ih := sub_news cs (fun e he => h e (by simp [he]))
    rw [List.map_cons, List.filter_cons]
    by_cases hz : c.2.2 = zE
    · rw [if_neg (by simpa using hz), List.map_cons]
      exact ih.cons _
    · rw [if_pos (by simpa using hz), List.map_cons, List.map_cons, (h c (by simp)).resolve_left hz]
      exact ih.cons_cons _
theorem left_nodup {t : List Ent} {cs : List Chg} (h : mayC [] cs = true) (hup : t.Pairwise ltE) : ((leftL t cs).map (·.1)).Nodup := by
  obtain ⟨h1, h2⟩ := mayC_pair h
  have hs : ((leftL t cs).map (·.1)).Sublist (t.map (·.1) ++ (cs.filter (fun c => !thP t c.1)).map (·.1)) := by
    unfold leftL outL
    rw [List.filter_append, List.map_append]
    refine List.Sublist.append (sub_paths _ t (fun e _ => ?_)) (sub_news _ (fun c hc => ?_))
    · unfold sbE
      cases hf : cs.find? (fun c => decide (c.1 = e.1)) with
      | none => exact Or.inr rfl
      | some c =>
        have hc2 : c.1 = e.1 := by simpa using List.find?_some hf
        exact (okC_side (h1 c (List.mem_of_find?_eq_some hf)).1).imp id (fun h3 => h3.1.trans hc2)
    · exact (okC_side (h1 c (List.mem_filter.1 hc).1).1).imp id (·.1)
  refine List.Nodup.sublist hs ?_
  rw [List.nodup_append]
  refine ⟨pair_nodup hup, ?_, ?_⟩
  · have h3 : ((cs.filter (fun c => !thP t c.1)).map (·.1)).Pairwise (fun a b => cmpL (nms a) (nms b) < 0) := by
      rw [List.pairwise_map]
      exact h2.sublist List.filter_sublist
    exact h3.imp (fun h4 => cmp_ne h4)
  · intro a ha b hb hab
    subst hab
    rw [List.mem_map] at ha hb
    obtain ⟨e, he, rfl⟩ := ha
    obtain ⟨c, hc, hce⟩ := hb
    rw [List.mem_filter] at hc
    have : thP t c.1 = true := by unfold thP; rw [hce, fdP_mem hup he]; rfl
    rw [this] at hc
    simp at hc
/-- what the document sorts is what the program makes -/
theorem left_sorted {t l : List Ent} {cs : List Chg} (h : mayC [] cs = true) (hup : t.Pairwise ltE) (hm : ∀ e ∈ t, mayP e = true) (hp : l.Perm (leftL t cs)) (hu : l.Pairwise (fun a b => ¬ cmpL (nms b.1) (nms a.1) < 0)) : l = chgd t cs := by
  have hnd : (l.map (·.1)).Nodup := (hp.map (·.1)).nodup_iff.2 (left_nodup h hup)
  have hlt : l.Pairwise ltE := by
    have h1 : l.Pairwise (fun a b => a.1 ≠ b.1) := List.pairwise_map.1 hnd
    refine (hu.and h1).imp ?_
    rintro a b ⟨h2, h3⟩
    have h4 := cmpL_anti (nms a.1) (nms b.1)
    have h5 := cmpL_range (nms a.1) (nms b.1)
    have h6 : cmpL (nms a.1) (nms b.1) ≠ 0 := fun h7 => h3 (nms_inj (cmpL_zero h7))
    unfold ltE
    omega
  exact pair_ext hlt (chgd_up h hup) (fun e => by rw [hp.mem_iff]; exact mem_left h hup hm)

end Go.Proofs.Ytgldmepmeampeaa

/- What place compares by. -/
namespace Go.Proofs.Ytgldmepmeampeaa
open Go.RowKit Go.BigFrame

set_option maxRecDepth 100000 in
set_option maxHeartbeats 1000000 in
theorem placeCmp_any (e : Ent) (p : List UInt8) (w : World) (he : e.1.length ≤ 9223372036854775807) (hp : p.length ≤ 9223372036854775807) :
    Calls Try.prog 95 #[entA e, .string (mk p)] w fun r w' => r = .returned (.int .i64 (cmP e.1 p)) ∧ Below w.heap.size w w' := by
  have HC := hid (compare_any (mk e.1) (mk p) · (by rw [bl_mk]; exact he) (by rw [bl_mk]; exact hp))
  simp only [bl_mk] at HC
  have HB := hid (below_walk w (.cells #[.string (mk e.1), .int .i64 e.2.1, .string (mk e.2.2)] 36))
  unfold entA
  generalize cmP e.1 p = C at *
  generalize pN e.1 p = D at *
  generalize mk e.1 = s1 at *
  generalize mk e.2.2 = s2 at *
  generalize mk p = s3 at *
  clear he hp
  go_enter Try.func95, Try.ntmps95
  go_wp2_with (go_at_call 37; refine (HC.out _).mono ?_; rintro r w1 ⟨rfl, hb1⟩; have HB1 := hid (below_then HB.out hb1); clear hb1)
  go_ret
  exact ⟨rfl, HB1.out⟩

theorem cmP_ok {a b : List UInt8} (ha : okP a = true) (hb : okP b = true) : cmP a b = cmpL (nms a) (nms b) := by unfold cmP; rw [if_pos ⟨ha, hb⟩]

end Go.Proofs.Ytgldmepmeampeaa

/- Where a path stands: the program's place. -/
namespace Go.Proofs.Ytgldmepmeampeaa
open Go.RowKit Go.BigFrame

set_option maxRecDepth 100000 in
set_option maxHeartbeats 2000000 in
theorem search_any (v : Value) (t : List Ent) (p : List UInt8) (w : World) (h : Ents w v t) (hup : t.Pairwise ltE) (hok : ∀ e ∈ t, okP e.1 = true) (hp : okP p = true) (hn : t.length ≤ 1024) :
    Calls Try.prog 94 #[v, .string (mk p), .func (.func 95) #[] #[]] w
      fun r w' => r = .returned (.tuple #[.int .i64 (plP t p), .bool (thP t p)]) ∧ Below w.heap.size w w' := by
  obtain ⟨ao, c, rfl⟩ := h.shape
  have H := hid h
  have HUP := hid hup
  have HOK := hid hok
  have HC := hid (fun (e : Ent) (he : e ∈ t) (W : World) => placeCmp_any e p W (by have := okP_short (hok e he); omega) (by have := okP_short hp; omega))
  have HP := hid hp
  clear h hup hok hp
  go_enter Try.func94, Try.ntmps94
  go_wp2
  go_loopw [9, 10] (fun x y wr => ∃ i j : Nat, x = .int .i64 i ∧ y = .int .i64 j ∧ i ≤ j ∧ j ≤ t.length ∧ (∀ k, k < i → cmpL (nms (t.getD k zE).1) (nms p) < 0) ∧ (∀ k, j ≤ k → k < t.length → ¬ cmpL (nms (t.getD k zE).1) (nms p) < 0) ∧ Below w.heap.size w wr) (fun x y _ => (intOf y).toNat - (intOf x).toNat)
  case atStart => exact ⟨0, t.length, rfl, rfl, Nat.zero_le _, Nat.le_refl _, fun k hk => by omega, fun k h1 h2 => by omega, Below.refl _ _⟩
  case round =>
    obtain ⟨i, j, rfl, rfl, hij, hjn, hlo, hhi, hb⟩ := hrel
    have HLO := hid hlo
    have HHI := hid hhi
    have HB := hid hb
    clear hlo hhi hb
    by_cases hlt : i < j
    · have q1 : (i : Int) < (j : Int) := by omega
      obtain ⟨m, HM⟩ : ∃ m : Nat, Hid (m = (i + j) / 2) := ⟨_, rfl⟩
      have hm1 : i ≤ m := by rw [HM.out]; omega
      have hm2 : m < j := by rw [HM.out]; omega
      have hm3 : m < t.length := by omega
      obtain ⟨g, o, rfl, hgl, hx⟩ := (H.out.below HB.out).at m hm3
      obtain ⟨x, HX⟩ : ∃ x, Hid (t.getD m zE = x) := ⟨_, rfl⟩
      rw [HX.out] at hx
      have hmem : x ∈ t := by rw [← HX.out]; exact getD_mem hm3
      have HCX := hid (fun W : World => HC.out x hmem W)
      have HCO := hid (cmP_ok (HOK.out x hmem) HP.out)
      have hw1 : IntKind.i64.wrap ((i : Int) + (j : Int)) = ((i + j : Nat) : Int) := by rw [IntKind.wrap_i64]; omega
      have hq : ((i : Int) + (j : Int)) / 2 = (m : Int) := by rw [HM.out]; omega
      have hw2 : IntKind.i64.wrap ((m : Int) + 1) = ((m + 1 : Nat) : Int) := by rw [IntKind.wrap_i64]; omega
      have q2 : (m : Int) < (t.length : Int) := by omega
      have HLO2 := hid (fun (h : cmpL (nms x.1) (nms p) < 0) k (hk : k < m + 1) => show cmpL (nms (t.getD k zE).1) (nms p) < 0 from by
        rcases Nat.lt_or_ge k m with h1 | h1
        · have h2 := pair_at HUP.out h1 hm3
          unfold ltE at h2
          rw [HX.out] at h2
          exact cmpL_lt_trans h2 h
        · obtain rfl : k = m := by omega
          rw [HX.out]
          exact h)
      have HHI2 := hid (fun (h : ¬ cmpL (nms x.1) (nms p) < 0) k (h1 : m ≤ k) (h2 : k < t.length) => show ¬ cmpL (nms (t.getD k zE).1) (nms p) < 0 from by
        intro h3
        rcases Nat.lt_or_ge m k with h4 | h4
        · have h5 := pair_at HUP.out h4 h2
          unfold ltE at h5
          rw [HX.out] at h5
          exact h (cmpL_lt_trans h5 h3)
        · obtain rfl : k = m := by omega
          rw [HX.out] at h3
          exact h h3)
      obtain ⟨x0, x1, x2⟩ := hx
      clear HC hmem
      unfold entA at HCX
      rw [← HCO.out] at HLO2 HHI2
      generalize cmP x.1 p = K at *
      by_cases hK : K < 0
      · have HLO3 := hid (HLO2.out hK)
        clear HLO2 HHI2
        go_wp2_with (go_at_call 95; refine (HCX.out _).mono ?_; rintro r w1 ⟨rfl, hb1⟩; have HB1 := hid (HB.out.trans (hb1.mono HB.out.size)); clear hb1)
        exact ⟨⟨m + 1, j, by simp, rfl, by omega, hjn, HLO3.out, (fun k a b => Int.not_lt.2 (by simpa using HHI.out k a b)), HB1.out⟩, by simp [intOf]; omega⟩
      · have HHI3 := hid (HHI2.out hK)
        clear HLO2 HHI2
        go_wp2_with (go_at_call 95; refine (HCX.out _).mono ?_; rintro r w1 ⟨rfl, hb1⟩; have HB1 := hid (HB.out.trans (hb1.mono HB.out.size)); clear hb1)
        exact ⟨⟨i, m, rfl, rfl, hm1, by omega, HLO.out, (fun k a b => Int.not_lt.2 (by simpa using HHI3.out k a b)), HB1.out⟩, by simp [intOf]; omega⟩
    · have q1 : ¬ (i : Int) < (j : Int) := by omega
      obtain rfl : i = j := by omega
      have HPL : Hid (Plc t p i) := ⟨hjn, HLO.out, HHI.out⟩
      have HPE := hid HPL.out.eq
      by_cases hin : i < t.length
      · have q3 : (i : Int) < (t.length : Int) := by omega
        obtain ⟨g, o, rfl, hgl, hx⟩ := (H.out.below HB.out).at i hin
        obtain ⟨x, HX⟩ : ∃ x, Hid (t.getD i zE = x) := ⟨_, rfl⟩
        rw [HX.out] at hx
        have hmem : x ∈ t := by rw [← HX.out]; exact getD_mem hin
        have HCX := hid (fun W : World => HC.out x hmem W)
        have HTH := hid (show decide (cmP x.1 p = 0) = thP t p from by
          rw [cmP_ok (HOK.out x hmem) HP.out]
          unfold thP
          by_cases h0 : cmpL (nms x.1) (nms p) = 0
          · rw [decide_eq_true h0, HPL.out.there HUP.out hin (by rw [HX.out]; exact h0)]; rfl
          · rw [decide_eq_false h0, HPL.out.lacks HUP.out (fun _ => by rw [HX.out]; exact h0)]; rfl)
        obtain ⟨x0, x1, x2⟩ := hx
        clear HC hmem
        unfold entA at HCX
        generalize cmP x.1 p = K at *
        go_wp2_with (go_at_call 95; refine (HCX.out _).mono ?_; rintro r w1 ⟨rfl, hb1⟩; have HB1 := hid (HB.out.trans (hb1.mono HB.out.size)); clear hb1)
        go_ret2
        refine ⟨?_, HB1.out⟩
        rw [← HPE.out, ← HTH.out]
        first | rfl | simp
      · have q3 : ¬ (i : Int) < (t.length : Int) := by omega
        have HTH := hid (show thP t p = false from by unfold thP; rw [HPL.out.lacks HUP.out (fun h => absurd h hin)]; rfl)
        go_wp2
        go_ret2
        refine ⟨?_, HB.out⟩
        rw [← HPE.out, HTH.out]
        rfl

set_option maxRecDepth 100000 in
set_option maxHeartbeats 1000000 in
theorem place_any (v : Value) (t : List Ent) (p : List UInt8) (w : World) (h : Ents w v t) (hup : t.Pairwise ltE) (hok : ∀ e ∈ t, okP e.1 = true) (hp : okP p = true) (hn : t.length ≤ 1024) :
    Calls Try.prog 70 #[v, .string (mk p)] w fun r w' => r = .returned (.tuple #[.int .i64 (plP t p), .bool (thP t p)]) ∧ Below w.heap.size w w' := by
  have HS := hid (search_any v t p w h hup hok hp hn)
  obtain ⟨ao, c, rfl⟩ := h.shape
  generalize plP t p = I at *
  generalize thP t p = B at *
  clear h hup hok hp
  go_enter Try.func70, Try.ntmps70
  go_wp2_with (go_at_call 94; refine HS.out.mono ?_; rintro r w1 ⟨rfl, hb1⟩)
  go_ret2
  exact ⟨rfl, hb1⟩

theorem plP_th {t : List Ent} {p : List UInt8} (hup : t.Pairwise ltE) (h : thP t p = true) : plP t p < t.length ∧ t.getD (plP t p) zE = stP t p := by
  unfold thP at h
  obtain ⟨e, he⟩ := Option.isSome_iff_exists.1 h
  obtain ⟨h1, h2⟩ := fdP_some he
  obtain ⟨k, hk, rfl⟩ := List.getElem_of_mem h1
  have hg : t.getD k zE = t[k] := by simp [List.getD_eq_getElem?_getD, hk]
  have : Plc t p k := ⟨Nat.le_of_lt hk, fun j hj => by
      have := pair_at hup hj hk
      unfold ltE at this
      rw [hg, h2] at this
      exact this, fun j h3 h4 h5 => by
      rcases Nat.lt_or_ge k j with h6 | h6
      · have := pair_at hup h6 h4
        unfold ltE at this
        rw [hg, h2] at this
        have := cmpL_lt_trans this h5
        rw [cmpL_self] at this
        omega
      · obtain rfl : j = k := by omega
        rw [hg, h2, cmpL_self] at h5
        omega⟩
  rw [← this.eq]
  refine ⟨hk, ?_⟩
  unfold stP
  rw [he, hg]
  rfl

set_option maxRecDepth 100000 in
set_option maxHeartbeats 1000000 in
theorem standing_any (v : Value) (t : List Ent) (p : List UInt8) (w : World) (h : Ents w v t) (hup : t.Pairwise ltE) (hok : ∀ e ∈ t, okP e.1 = true) (hp : okP p = true) (hn : t.length ≤ 1024) :
    Calls Try.prog 42 #[v, .string (mk p)] w fun r w' => r = .returned (entA (stP t p)) ∧ Below w.heap.size w w' := by
  have HB0 := hid (below_walk w (.cells #[.string ⟨#[]⟩, .int .i64 0, .string ⟨#[]⟩] 36))
  have HN0 := hid (hp_new w (.cells #[.string ⟨#[]⟩, .int .i64 0, .string ⟨#[]⟩] 36))
  have HS := hid (place_any v t p (w.alloc (.cells #[.string ⟨#[]⟩, .int .i64 0, .string ⟨#[]⟩] 36)) (h.below HB0.out) hup hok hp hn)
  have HT := hid (fun h => plP_th (t := t) (p := p) hup h)
  have HF := hid (show thP t p = false → stP t p = zE from fun h => by
    unfold thP at h
    unfold stP
    rw [Option.isSome_eq_false_iff, Option.isNone_iff_eq_none] at h
    rw [h]; rfl)
  have H := hid h
  obtain ⟨ao, c, rfl⟩ := h.shape
  generalize plP t p = I at *
  generalize thP t p = B at *
  clear h hup hok hp
  have HU := hid Try.underlying36
  cases B with
  | true =>
    obtain ⟨hI, hst⟩ := HT.out rfl
    obtain ⟨g, o, rfl, hgl, hx⟩ := H.out.at I hI
    rw [hst] at hx
    obtain ⟨e, HE⟩ : ∃ e, Hid (stP t p = e) := ⟨_, rfl⟩
    rw [HE.out] at hx ⊢
    have HX := hid hx
    have HG := hid hgl
    have q1 : (I : Int) < (t.length : Int) := by omega
    unfold entA
    clear HT HF hst hx hgl
    go_enter Try.func42, Try.ntmps42
    go_wp2_with fail
    refine HS.out.mono ?_
    rintro r w1 ⟨rfl, hb1⟩
    have HB1 := hid (below_then HB0.out hb1)
    have HN1 := hid ((hb1.block w.heap.size (by simp)).trans HN0.out)
    obtain ⟨x0, x1, x2⟩ := HX.out.below HG.out HB1.out
    clear hb1 HS HB0 HN0
    have g0 := row_cell HN1.out 0
    have g1 := row_cell HN1.out 1
    have g2 := row_cell HN1.out 2
    have f0 := row_fz HN1.out 0
    have f1 := row_fz HN1.out 1
    have f2 := row_fz HN1.out 2
    simp at g0 g1 g2
    go_wp2
    refine ret_row 4 36 rfl w.heap.size rfl [.string (mk e.1), .int .i64 e.2.1, .string (mk e.2.2)] 36 (by rw [blk_set (blk_set (blk_set HN1.out _) _) _]; rfl) _ Try.underlying36 rfl (by kernel_rfl) rfl ⟨rfl, ?_⟩
    exact ((HB1.out.setCell (by simp) _).setCell (by simp) _).setCell (by simp) _
  | false =>
    rw [HF.out rfl]
    unfold entA
    clear HT HF
    go_enter Try.func42, Try.ntmps42
    go_wp2_with fail
    refine HS.out.mono ?_
    rintro r w1 ⟨rfl, hb1⟩
    have HB1 := hid (below_then HB0.out hb1)
    have HN1 := hid ((hb1.block w.heap.size (by simp)).trans HN0.out)
    clear hb1 HS HB0 HN0
    have g0 := row_cell HN1.out 0
    have g1 := row_cell HN1.out 1
    have g2 := row_cell HN1.out 2
    have f0 := row_fz HN1.out 0
    have f1 := row_fz HN1.out 1
    have f2 := row_fz HN1.out 2
    simp at g0 g1 g2
    go_wp2
    refine ret_row 4 36 rfl w.heap.size rfl [.string ⟨#[]⟩, .int .i64 0, .string ⟨#[]⟩] 36 (by rw [blk_set (blk_set (blk_set HN1.out _) _) _]; rfl) _ Try.underlying36 rfl (by kernel_rfl) rfl ⟨rfl, ?_⟩
    exact ((HB1.out.setCell (by simp) _).setCell (by simp) _).setCell (by simp) _

end Go.Proofs.Ytgldmepmeampeaa

/- Entries are compared. -/
namespace Go.Proofs.Ytgldmepmeampeaa
open Go.RowKit

theorem entG : Try.prog.eqGuardType Try.prog.depth 36 = false := by kernel_rfl
theorem eq_run (s1 s2 d1 d2 : ByteArray) (k1 k2 : Int) (w : World) : (Op.equalIn 10000 36 (.agg #[.string s1, .int .i64 k1, .string d1]) (.agg #[.string s2, .int .i64 k2, .string d2])).run Try.prog w = .ok (s1.toList == s2.toList && k1 == k2 && d1.toList == d2.toList) w := by
  have hS : Try.prog.underlying 36 = some (.struct (Try.prog.fieldsOf 36)) := by kernel_rfl
  have hp : Try.prog.stoodInHeld 36 = false := by kernel_rfl
  have u3 := Try.underlying3
  have a3 := Try.isAgg3
  have z3 := Try.sizeOf3
  have u9 := Try.underlying9
  have a9 := Try.isAgg9
  have z9 := Try.sizeOf9
  rw [show (10000 : Nat) = 9999 + 1 from rfl, run_equalIn_agg w 9999 36 _ _ hS hp]
  simp only [Program.fieldsOf, Try.underlying36]
  go_simp
  by_cases h1 : s1.toList = s2.toList <;> by_cases h2 : k1 = k2 <;> by_cases h3 : d1.toList = d2.toList <;> simp [h1, h2, h3]
theorem eqb_ent (a b : Ent) : ((mk a.1).toList == (mk b.1).toList && a.2.1 == b.2.1 && (mk a.2.2).toList == (mk b.2.2).toList) = decide (a = b) := by
  have e1 : ∀ l, (mk l).toList = l := bl_mk
  rw [e1, e1, e1, e1, Bool.eq_iff_iff]
  obtain ⟨p, k, d⟩ := a
  obtain ⟨p', k', d'⟩ := b
  simp [and_assoc]
theorem eql_ent (a b : Ent) (w : World) : (binOp .eql 36 (.agg #[.string (mk a.1), .int .i64 a.2.1, .string (mk a.2.2)]) (.agg #[.string (mk b.1), .int .i64 b.2.1, .string (mk b.2.2)])).run Try.prog w = .ok (.bool (decide (a = b))) w := by
  rw [run_eql_struct, eq_run, eqb_ent]
  rfl
theorem neq_ent (a b : Ent) (w : World) : (binOp .neq 36 (.agg #[.string (mk a.1), .int .i64 a.2.1, .string (mk a.2.2)]) (.agg #[.string (mk b.1), .int .i64 b.2.1, .string (mk b.2.2)])).run Try.prog w = .ok (.bool (!decide (a = b))) w := by
  rw [run_neq_struct, eq_run, eqb_ent]
  rfl

end Go.Proofs.Ytgldmepmeampeaa

/- Changes are compared. -/
namespace Go.Proofs.Ytgldmepmeampeaa
open Go.RowKit

theorem chgG : Try.prog.eqGuardType Try.prog.depth 82 = false := by kernel_rfl
theorem eqc_run (p q s1 s2 d1 d2 s3 s4 d3 d4 : ByteArray) (k1 k2 k3 k4 : Int) (w : World) : (Op.equalIn 10000 82 (.agg #[.string p, .string s1, .int .i64 k1, .string d1, .string s3, .int .i64 k3, .string d3]) (.agg #[.string q, .string s2, .int .i64 k2, .string d2, .string s4, .int .i64 k4, .string d4])).run Try.prog w
    = .ok (p.toList == q.toList && (s1.toList == s2.toList && k1 == k2 && d1.toList == d2.toList) && (s3.toList == s4.toList && k3 == k4 && d3.toList == d4.toList)) w := by
  have hS : Try.prog.underlying 82 = some (.struct (Try.prog.fieldsOf 82)) := by kernel_rfl
  have hp : Try.prog.stoodInHeld 82 = false := by kernel_rfl
  have u9 := Try.underlying9
  have a9 := Try.isAgg9
  have z9 := Try.sizeOf9
  have u36 := Try.underlying36
  have a36 := Try.isAgg36
  have z36 := Try.sizeOf36
  have u3 := Try.underlying3
  have a3 := Try.isAgg3
  have z3 := Try.sizeOf3
  rw [show (10000 : Nat) = 9999 + 1 from rfl, run_equalIn_agg w 9999 82 _ _ hS hp]
  simp only [Program.fieldsOf, Try.underlying82]
  go_simp
  by_cases h1 : p.toList = q.toList <;> simp [h1]
  by_cases h2 : s1.toList = s2.toList <;> simp [h2]
  by_cases h3 : k1 = k2 <;> simp [h3]
  by_cases h4 : d1.toList = d2.toList <;> simp [h4]
  by_cases h5 : s3.toList = s4.toList <;> simp [h5]
  by_cases h6 : k3 = k4 <;> simp [h6]
  by_cases h7 : d3.toList = d4.toList <;> simp [h7]
/-- a change as it is loaded -/
def chgA (c : Chg) : Value := .agg #[.string (mk c.1), .string (mk c.2.1.1), .int .i64 c.2.1.2.1, .string (mk c.2.1.2.2), .string (mk c.2.2.1), .int .i64 c.2.2.2.1, .string (mk c.2.2.2.2)]
theorem eqb_chg (a b : Chg) : ((mk a.1).toList == (mk b.1).toList && ((mk a.2.1.1).toList == (mk b.2.1.1).toList && a.2.1.2.1 == b.2.1.2.1 && (mk a.2.1.2.2).toList == (mk b.2.1.2.2).toList) && ((mk a.2.2.1).toList == (mk b.2.2.1).toList && a.2.2.2.1 == b.2.2.2.1 && (mk a.2.2.2.2).toList == (mk b.2.2.2.2).toList)) = decide (a = b) := by
  rw [eqb_ent, eqb_ent]
  have e1 : ∀ l, (mk l).toList = l := bl_mk
  rw [e1, e1, Bool.eq_iff_iff]
  obtain ⟨p, x, y⟩ := a
  obtain ⟨p', x', y'⟩ := b
  simp [and_assoc]
theorem neq_chg (a b : Chg) (w : World) : (binOp .neq 82 (chgA a) (chgA b)).run Try.prog w = .ok (.bool (!decide (a = b))) w := by
  unfold chgA
  rw [run_neq_struct, eqc_run, eqb_chg]
  rfl

end Go.Proofs.Ytgldmepmeampeaa

/- A change in a block of its own. -/
namespace Go.Proofs.Ytgldmepmeampeaa
open Go.RowKit

/-- block b holds the change c -/
def Cb (w : World) (b : Nat) (c : Chg) : Prop := w.heap[b]? = some (.cells (chgV c).toArray 82 (0, 0))
theorem Cb.lt {w : World} {b : Nat} {c : Chg} (h : Cb w b c) : b < w.heap.size := (Array.getElem?_eq_some_iff.1 h).1
theorem Cb.range {w : World} {b : Nat} {c : Chg} (h : Cb w b c) : w.rangeAt b 0 (chgV c) := by
  intro j v hv
  unfold Cb at h
  simp only [World.cell?, h, Nat.zero_add]
  simpa using hv
theorem Cb.there {w : World} {b : Nat} {c : Chg} (h : Cb w b c) : w.there b 0 7 := by
  intro j hj
  unfold Cb at h
  constructor
  · simp only [World.cell?, h, Nat.zero_add]
    simp [chgV]
    omega
  · simp [World.frozen?, h]
theorem Cb.at {w : World} {b : Nat} {c : Chg} (h : Cb w b c) :
    w.cell? ⟨b, 0, none⟩ = some (.string (mk c.1)) ∧ w.cell? ⟨b, 1, none⟩ = some (.string (mk c.2.1.1)) ∧ w.cell? ⟨b, 2, none⟩ = some (.int .i64 c.2.1.2.1) ∧ w.cell? ⟨b, 3, none⟩ = some (.string (mk c.2.1.2.2)) ∧
      w.cell? ⟨b, 4, none⟩ = some (.string (mk c.2.2.1)) ∧ w.cell? ⟨b, 5, none⟩ = some (.int .i64 c.2.2.2.1) ∧ w.cell? ⟨b, 6, none⟩ = some (.string (mk c.2.2.2.2)) := by
  have hr := h.range
  exact ⟨hr 0 _ rfl, hr 1 _ rfl, hr 2 _ rfl, hr 3 _ rfl, hr 4 _ rfl, hr 5 _ rfl, hr 6 _ rfl⟩
theorem Cb.fz {w : World} {b : Nat} {c : Chg} (h : Cb w b c) (i : Nat) : w.frozen? ⟨b, i, none⟩ = false := by
  unfold Cb at h
  simp [World.frozen?, h]
theorem Cb.below {w w' : World} {b : Nat} {c : Chg} (h : Cb w b c) (hb : Below w.heap.size w w') : Cb w' b c := (hb.block b h.lt).trans h
theorem Cb.new (w : World) (c : Chg) : Cb (w.alloc (.cells (chgV c).toArray 82)) w.heap.size c := hp_new _ _
theorem Cb.one {w : World} {b : Nat} {c : Chg} (h : Cb w b c) (i : Nat) (v : Value) (c' : Chg) (hc : (chgV c).toArray.setIfInBounds i v = (chgV c').toArray) : Cb (w.setCell ⟨b, i, none⟩ v) b c' := by
  unfold Cb
  rw [blk_set h, hc]
theorem Cb.other {w : World} {b d i : Nat} {c : Chg} (h : Cb w b c) (hd : b ≠ d) (v : Value) : Cb (w.setCell ⟨d, i, none⟩ v) b c := (Below.heap_setCell w _ v b (by simpa using hd)).trans h
theorem Cb.all {w : World} {b : Nat} {c : Chg} (h : Cb w b c) (c' : Chg) : Cb (w.setCells b 0 (chgV c')) b c' := by
  unfold Cb chgV World.setCells World.setCells World.setCells World.setCells World.setCells World.setCells World.setCells World.setCells
  rw [blk_set (blk_set (blk_set (blk_set (blk_set (blk_set (blk_set h _) _) _) _) _) _) _]
  rfl
theorem belowCs {B g : Nat} {a : World} (hg : B ≤ g) : ∀ (vs : List Value) (o : Nat) (w : World), Below B a w → Below B a (w.setCells g o vs)
  | [], _, _, h => h
  | v :: vs, o, _, h => belowCs hg vs (o + 1) _ (h.setCell (p := ⟨g, o, none⟩) hg v)
theorem info_chg7 (c : Chg) : (Try.prog.info? 82).map (·.size) = some (chgV c).toArray.size := by
  obtain ⟨i0, hi, _, hz1, _⟩ := info_parts Try.infoChg
  rw [hi]
  simp [hz1, chgV]
theorem one_chg7 (c : Chg) : (chgV c).toArray.all (·.oneCell') = true := all_oneCell_toArray (fun v hv => chgsV_one [c] v (by simpa [chgsV] using hv))

end Go.Proofs.Ytgldmepmeampeaa

/- The document's Size and Same. -/
namespace Go.Proofs.Ytgldmepmeampeaa
open Go.RowKit Go.BigFrame

set_option maxRecDepth 100000 in
set_option maxHeartbeats 1000000 in
theorem rsize_any (v : Value) (t : List Ent) (w : World) (h : Ents w v t) (hn : t.length ≤ 4611686018427387904) (hz : szP t ≤ 4611686018427387904) :
    Calls Try.prog 19 #[v] w fun r w' => r = .returned (.int .i64 (szP t : Nat)) ∧ w' = w := by
  obtain ⟨ao, c, rfl⟩ := h.shape
  have H := hid h
  have HZ := hid hz
  clear h hz
  go_enter Try.func19, Try.ntmps19
  go_wp2
  go_loop [3, 4] (fun s i => ∃ k : Nat, i = .int .i64 k ∧ k ≤ t.length ∧ s = .int .i64 (szP (t.take k) : Nat)) (fun _ i => t.length - (intOf i).toNat)
  case atStart => exact ⟨0, rfl, Nat.zero_le _, rfl⟩
  case round =>
    obtain ⟨k, rfl, hk, rfl⟩ := hrel
    by_cases hlt : k < t.length
    · have q2 : (k : Int) < (t.length : Int) := by omega
      obtain ⟨g, o, rfl, hgl, hcell⟩ := H.out.at k hlt
      obtain ⟨e, HE⟩ : ∃ e, Hid (t.getD k zE = e) := ⟨_, rfl⟩
      rw [HE.out] at hcell
      obtain ⟨c0, c1, c2⟩ := hcell
      have HS := hid (show szP (t.take (k + 1)) = szP (t.take k) + e.2.2.length by rw [take_snoc t k hlt, szP_snoc, HE.out])
      have HT := hid (szP_take t (k + 1))
      obtain ⟨S, HSS⟩ : ∃ S : Nat, Hid (szP (t.take k) = S) := ⟨_, rfl⟩
      obtain ⟨M, HMM⟩ : ∃ M : Nat, Hid (szP (t.take (k + 1)) = M) := ⟨_, rfl⟩
      rw [HSS.out, HMM.out] at HS
      rw [HMM.out] at HT
      rw [HSS.out]
      have hdz : (mk e.2.2).size = e.2.2.length := mk_size _
      obtain ⟨D, HDD⟩ : ∃ D : Nat, Hid (e.2.2.length = D) := ⟨_, rfl⟩
      rw [HDD.out] at hdz HS
      have hw1 : IntKind.i64.wrap ((S : Int) + (D : Int)) = (M : Int) := by rw [IntKind.wrap_i64]; have := HS.out; have := HT.out; have := HZ.out; omega
      have hDl : D ≤ 4611686018427387904 := by have := HS.out; have := HT.out; have := HZ.out; omega
      generalize mk e.2.2 = sd at *
      go_wp2
      exact ⟨⟨k + 1, by simp, by omega, by rw [HMM.out]⟩, by simp [intOf]; omega⟩
    · have q2 : ¬ (k : Int) < (t.length : Int) := by omega
      obtain rfl : k = t.length := by omega
      rw [List.take_length]
      go_wp2
      go_ret
      exact ⟨rfl, rfl⟩

theorem ext_getD {a b : List Ent} (h : a.length = b.length) (hs : ∀ j, j < a.length → a.getD j zE = b.getD j zE) : a = b := by
  apply List.ext_getElem h
  intro i h1 h2
  have := hs i h1
  simpa [List.getD_eq_getElem?_getD, h1, h2] using this

set_option maxRecDepth 100000 in
set_option maxHeartbeats 1000000 in
theorem rsame_any (va vb : Value) (a b : List Ent) (w : World) (ha : Ents w va a) (hb : Ents w vb b) (hn : a.length ≤ 4611686018427387904) :
    Calls Try.prog 13 #[va, vb] w fun r w' => r = .returned (.bool (decide (a = b))) ∧ ∃ q, w' = w.drewN q := by
  obtain ⟨ao, ca, rfl⟩ := ha.shape
  obtain ⟨bo, cb, rfl⟩ := hb.shape
  have HA := hid ha
  have HB := hid hb
  by_cases hlen : a.length = b.length
  · have q1 : (a.length : Int) = (b.length : Int) := by omega
    have HL := hid hlen
    clear hlen ha hb
    go_enter Try.func13, Try.ntmps13
    go_wp2
    go_loopw [5] (fun i wr => ∃ k : Nat, i = .int .i64 k ∧ k ≤ a.length ∧ (∀ j, j < k → a.getD j zE = b.getD j zE) ∧ ∃ q, wr = w.drewN q) (fun i _ => a.length - (intOf i).toNat)
    case atStart => exact ⟨0, rfl, Nat.zero_le _, fun j hj => by omega, 0, rfl⟩
    case round =>
      obtain ⟨k, rfl, hk, hs, q, rfl⟩ := hrel
      have HS := hid hs
      clear hs
      by_cases hlt : k < a.length
      · have q2 : (k : Int) < (a.length : Int) := by omega
        have q2b : (k : Int) < (b.length : Int) := by omega
        obtain ⟨g, o, rfl, hgl, hcell⟩ := HA.out.at k hlt
        obtain ⟨g', o', rfl, hgl', hcell'⟩ := HB.out.at k (by have := HL.out; omega)
        obtain ⟨e, HE⟩ : ∃ e, Hid (a.getD k zE = e) := ⟨_, rfl⟩
        obtain ⟨f, HF⟩ : ∃ f, Hid (b.getD k zE = f) := ⟨_, rfl⟩
        rw [HE.out] at hcell
        rw [HF.out] at hcell'
        obtain ⟨c0, c1, c2⟩ := hcell
        obtain ⟨d0, d1, d2⟩ := hcell'
        have hg := entG
        have hne := fun W => neq_ent e f W
        obtain ⟨X, HX⟩ : ∃ X, Hid (decide (e = f) = X) := ⟨_, rfl⟩
        rw [HX.out] at hne
        have HNE := hid (fun (h : X = false) => show decide (a = b) = false from by
          rw [decide_eq_false_iff_not]
          rintro rfl
          rw [← HE.out, ← HF.out, h] at HX
          simpa using HX.out)
        have HEQ := hid (fun (h : X = true) => show ∀ j, j < k + 1 → a.getD j zE = b.getD j zE from by
          intro j hj
          by_cases hjk : j = k
          · subst hjk
            rw [HE.out, HF.out]
            have := HX.out
            rw [h, decide_eq_true_iff] at this
            exact this
          · exact HS.out j (by omega))
        clear HX
        generalize mk e.1 = s1 at *
        generalize mk e.2.2 = s2 at *
        generalize mk f.1 = s3 at *
        generalize mk f.2.2 = s4 at *
        generalize e.2.1 = k1 at *
        generalize f.2.1 = k2 at *
        cases X with
        | true =>
          have HEQ2 := hid (HEQ.out rfl)
          clear HEQ HNE
          go_wp2_with fail
          go_quiet (fail)
          go_wp2
          exact ⟨⟨k + 1, by simp, by omega, HEQ2.out, q + nq, by simp⟩, by simp [intOf]; omega⟩
        | false =>
          have HNE2 := hid (HNE.out rfl)
          clear HEQ HNE
          go_wp2_with fail
          go_quiet (fail)
          go_wp2
          go_ret
          exact ⟨ret_bb HNE2.out.symm, q + nq, by simp⟩
      · have q2 : ¬ (k : Int) < (a.length : Int) := by omega
        obtain rfl : k = a.length := by omega
        have HD := hid (show decide (a = b) = true by rw [decide_eq_true_iff]; exact ext_getD HL.out HS.out)
        go_wp2
        go_ret
        exact ⟨ret_bb HD.out.symm, q, rfl⟩
  · have q1 : ¬ (a.length : Int) = (b.length : Int) := by omega
    have q2 : ((a.length : Int) == (b.length : Int)) = false := by simp; omega
    have HD := hid (show decide (a = b) = false by rw [decide_eq_false_iff_not]; intro h; exact hlen (by rw [h]))
    clear hlen ha hb
    go_enter Try.func13, Try.ntmps13
    go_wp2
    go_ret
    exact ⟨ret_bb HD.out.symm, 0, rfl⟩

end Go.Proofs.Ytgldmepmeampeaa

/- The document's SameChanges. -/
namespace Go.Proofs.Ytgldmepmeampeaa
open Go.RowKit Go.BigFrame

theorem ext_getC {a b : List Chg} (h : a.length = b.length) (hs : ∀ j, j < a.length → a.getD j zC = b.getD j zC) : a = b := by
  apply List.ext_getElem h
  intro i h1 h2
  have := hs i h1
  simpa [List.getD_eq_getElem?_getD, h1, h2] using this
/-- the seven cells of one change -/
theorem Chgs.at7 {w : World} {ao : Option Addr} {n c : Nat} {cs : List Chg} (h : Chgs w (.slice ao n c) cs) (k : Nat) (hk : k < cs.length) (x : Chg) (hx : cs.getD k zC = x) :
    ∃ g o, ao = some ⟨g, o, none⟩ ∧ g < w.heap.size ∧ w.cell? ⟨g, o + k * 7, none⟩ = some (.string (mk x.1)) ∧ w.cell? ⟨g, o + k * 7 + 1, none⟩ = some (.string (mk x.2.1.1)) ∧ w.cell? ⟨g, o + k * 7 + 2, none⟩ = some (.int .i64 x.2.1.2.1) ∧ w.cell? ⟨g, o + k * 7 + 3, none⟩ = some (.string (mk x.2.1.2.2))
      ∧ w.cell? ⟨g, o + k * 7 + 4, none⟩ = some (.string (mk x.2.2.1)) ∧ w.cell? ⟨g, o + k * 7 + 5, none⟩ = some (.int .i64 x.2.2.2.1) ∧ w.cell? ⟨g, o + k * 7 + 6, none⟩ = some (.string (mk x.2.2.2.2)) := by
  obtain ⟨g, o, h1, h2, h3⟩ := h.at k hk
  rw [hx] at h3
  exact ⟨g, o, h1, h2, h3 0 _ rfl, h3 1 _ rfl, h3 2 _ rfl, h3 3 _ rfl, h3 4 _ rfl, h3 5 _ rfl, h3 6 _ rfl⟩

set_option maxRecDepth 100000 in
set_option maxHeartbeats 1000000 in
theorem rsameC_any (va vb : Value) (a b : List Chg) (w : World) (ha : Chgs w va a) (hb : Chgs w vb b) (hn : a.length ≤ 4611686018427387904) :
    Calls Try.prog 24 #[va, vb] w fun r w' => r = .returned (.bool (decide (a = b))) ∧ ∃ q, w' = w.drewN q := by
  obtain ⟨ao, ca, rfl⟩ := ha.shape
  obtain ⟨bo, cb, rfl⟩ := hb.shape
  have HA := hid ha
  have HB := hid hb
  by_cases hlen : a.length = b.length
  · have q1 : (a.length : Int) = (b.length : Int) := by omega
    have HL := hid hlen
    clear hlen ha hb
    go_enter Try.func24, Try.ntmps24
    go_wp2
    go_loopw [5] (fun i wr => ∃ k : Nat, i = .int .i64 k ∧ k ≤ a.length ∧ (∀ j, j < k → a.getD j zC = b.getD j zC) ∧ ∃ q, wr = w.drewN q) (fun i _ => a.length - (intOf i).toNat)
    case atStart => exact ⟨0, rfl, Nat.zero_le _, fun j hj => by omega, 0, rfl⟩
    case round =>
      obtain ⟨k, rfl, hk, hs, q, rfl⟩ := hrel
      have HS := hid hs
      clear hs
      by_cases hlt : k < a.length
      · have q2 : (k : Int) < (a.length : Int) := by omega
        have q2b : (k : Int) < (b.length : Int) := by omega
        obtain ⟨e, HE⟩ : ∃ e, Hid (a.getD k zC = e) := ⟨_, rfl⟩
        obtain ⟨f, HF⟩ : ∃ f, Hid (b.getD k zC = f) := ⟨_, rfl⟩
        obtain ⟨g, o, rfl, hgl, c0, c1, c2, c3, c4, c5, c6⟩ := HA.out.at7 k hlt e HE.out
        obtain ⟨g', o', rfl, hgl', d0, d1, d2, d3, d4, d5, d6⟩ := HB.out.at7 k (by have := HL.out; omega) f HF.out
        have hg := chgG
        have hne := fun W => neq_chg e f W
        unfold chgA at hne
        obtain ⟨X, HX⟩ : ∃ X, Hid (decide (e = f) = X) := ⟨_, rfl⟩
        rw [HX.out] at hne
        have HNE := hid (fun (h : X = false) => show decide (a = b) = false from by
          rw [decide_eq_false_iff_not]
          rintro rfl
          rw [← HE.out, ← HF.out, h] at HX
          simpa using HX.out)
        have HEQ := hid (fun (h : X = true) => show ∀ j, j < k + 1 → a.getD j zC = b.getD j zC from by
          intro j hj
          by_cases hjk : j = k
          · subst hjk
            rw [HE.out, HF.out]
            have := HX.out
            rw [h, decide_eq_true_iff] at this
            exact this
          · exact HS.out j (by omega))
        clear HX
        generalize mk e.1 = s1 at *
        generalize mk e.2.1.1 = s2 at *
        generalize e.2.1.2.1 = s3 at *
        generalize mk e.2.1.2.2 = s4 at *
        generalize mk e.2.2.1 = s5 at *
        generalize e.2.2.2.1 = s6 at *
        generalize mk e.2.2.2.2 = s7 at *
        generalize mk f.1 = r1 at *
        generalize mk f.2.1.1 = r2 at *
        generalize f.2.1.2.1 = r3 at *
        generalize mk f.2.1.2.2 = r4 at *
        generalize mk f.2.2.1 = r5 at *
        generalize f.2.2.2.1 = r6 at *
        generalize mk f.2.2.2.2 = r7 at *
        cases X with
        | true =>
          have HEQ2 := hid (HEQ.out rfl)
          clear HEQ HNE
          go_wp2_with fail
          go_quiet (fail)
          go_wp2
          exact ⟨⟨k + 1, by simp, by omega, HEQ2.out, q + nq, by simp⟩, by simp [intOf]; omega⟩
        | false =>
          have HNE2 := hid (HNE.out rfl)
          clear HEQ HNE
          go_wp2_with fail
          go_quiet (fail)
          go_wp2
          go_ret
          exact ⟨ret_bb HNE2.out.symm, q + nq, by simp⟩
      · have q2 : ¬ (k : Int) < (a.length : Int) := by omega
        obtain rfl : k = a.length := by omega
        have HD := hid (show decide (a = b) = true by rw [decide_eq_true_iff]; exact ext_getC HL.out HS.out)
        go_wp2
        go_ret
        exact ⟨ret_bb HD.out.symm, q, rfl⟩
  · have q1 : ¬ (a.length : Int) = (b.length : Int) := by omega
    have q2 : ((a.length : Int) == (b.length : Int)) = false := by simp; omega
    have HD := hid (show decide (a = b) = false by rw [decide_eq_false_iff_not]; intro h; exact hlen (by rw [h]))
    clear hlen ha hb
    go_enter Try.func24, Try.ntmps24
    go_wp2
    go_ret
    exact ⟨ret_bb HD.out.symm, 0, rfl⟩

end Go.Proofs.Ytgldmepmeampeaa

/- The program's Apply: may changes be? -/
namespace Go.Proofs.Ytgldmepmeampeaa
open Go.RowKit Go.BigFrame

theorem eql_zero (e : Ent) (W : World) : (binOp .eql 36 (.agg #[.string (mk e.1), .int .i64 e.2.1, .string (mk e.2.2)]) (.agg #[.string ⟨#[]⟩, .int .i64 0, .string ⟨#[]⟩])).run Try.prog W = .ok (.bool (decide (e = zE))) W := eql_ent e zE W

set_option maxRecDepth 100000 in
set_option maxHeartbeats 2000000 in
theorem sideMay_any (e : Ent) (p : List UInt8) (w : World) (he : e.1.length ≤ 9223372036854775807) :
    Calls Try.prog 79 #[entA e, .string (mk p)] w fun r w' => r = .returned (.bool (sidP e p)) ∧ Below w.heap.size w w' := by
  have HM := hid (fun W : World => may_any e W he)
  have HB := hid (below_walk w (.cells #[.string (mk e.1), .int .i64 e.2.1, .string (mk e.2.2)] 36))
  have hg := entG
  have hz := fun W => eql_zero e W
  unfold entA at HM ⊢
  by_cases h0 : e = zE
  · have HP := hid (show sidP e p = true from by unfold sidP; rw [decide_eq_true h0]; rfl)
    rw [decide_eq_true h0] at hz
    clear h0 he HM
    generalize mk e.1 = s1 at *
    generalize mk e.2.2 = s2 at *
    go_enter Try.func79, Try.ntmps79
    go_wp2
    go_ret
    exact ⟨ret_bb HP.out.symm, HB.out⟩
  · rw [decide_eq_false h0] at hz
    by_cases hx : e.1 = p
    · have HP := hid (show sidP e p = mayP e from by unfold sidP; rw [decide_eq_false h0, decide_eq_true hx]; rfl)
      have e1 : (mk e.1).toList = (mk p).toList := by rw [hx]
      clear h0 he hx
      generalize mayP e = X at *
      generalize mk e.1 = s1 at *
      generalize mk e.2.2 = s2 at *
      generalize mk p = s3 at *
      go_enter Try.func79, Try.ntmps79
      go_wp2_with (go_at_call 32; refine (HM.out _).mono ?_; rintro r w1 ⟨rfl, hb1⟩; have HB1 := hid (below_then HB.out hb1); clear hb1)
      go_ret
      exact ⟨ret_bb HP.out.symm, HB1.out⟩
    · have HP := hid (show sidP e p = false from by unfold sidP; rw [decide_eq_false h0, decide_eq_false hx]; rfl)
      have e1 : ¬ (mk e.1).toList = (mk p).toList := fun h => hx ((bl_mk e.1).symm.trans (h.trans (bl_mk p)))
      have e2 : ((mk e.1).toList == (mk p).toList) = false := by simpa using e1
      clear h0 he hx HM
      generalize mk e.1 = s1 at *
      generalize mk e.2.2 = s2 at *
      generalize mk p = s3 at *
      go_enter Try.func79, Try.ntmps79
      go_wp2
      go_ret
      exact ⟨ret_bb HP.out.symm, HB.out⟩

theorem okC_val (c : Chg) : okC c = (!(decide (c.2.1 = c.2.2) && decide (c.2.1 = zE)) && sidP c.2.1 c.1 && sidP c.2.2 c.1) := by
  unfold okC
  congr 2
  by_cases h1 : c.2.1 = zE
  · by_cases h2 : c.2.2 = zE
    · simp [h1, h2]
    · simp [h1, h2]
      exact fun h => h2 h.symm
  · simp [h1]
theorem okC_path {c : Chg} (h : okC c = true) : okP c.1 = true ∧ c.1 ≠ [] := by
  unfold okC sidP at h
  simp only [Bool.and_eq_true, Bool.or_eq_true, Bool.not_eq_true', Bool.and_eq_false_iff, decide_eq_true_eq, decide_eq_false_iff_not] at h
  obtain ⟨⟨h1, h2⟩, h3⟩ := h
  rcases h1 with h1 | h1
  · rcases h2 with h2 | ⟨h2, h4⟩
    · exact absurd h2 h1
    · rw [← h2]; exact ⟨mayP_ok h4, mayP_ne h4⟩
  · rcases h3 with h3 | ⟨h3, h4⟩
    · exact absurd h3 h1
    · rw [← h3]; exact ⟨mayP_ok h4, mayP_ne h4⟩
def ShortC (cs : List Chg) : Prop := ∀ c ∈ cs, c.1.length ≤ 4611686018427387904 ∧ c.2.1.1.length ≤ 4611686018427387904 ∧ c.2.2.1.length ≤ 4611686018427387904
theorem getC_mem {cs : List Chg} {k : Nat} (hk : k < cs.length) : cs.getD k zC ∈ cs := by
  rw [List.getD_eq_getElem?_getD, List.getElem?_eq_getElem hk]
  exact List.getElem_mem hk
theorem dropC {cs : List Chg} {k : Nat} (hk : k < cs.length) : cs.drop k = cs.getD k zC :: cs.drop (k + 1) := by
  rw [List.drop_eq_getElem_cons hk, List.getD_eq_getElem?_getD, List.getElem?_eq_getElem hk]
  rfl
theorem Chgs.range {w : World} {ao : Option Addr} {n c : Nat} {cs : List Chg} (h : Chgs w (.slice ao n c) cs) (k : Nat) (hk : k < cs.length) (x : Chg) (hx : cs.getD k zC = x) :
    ∃ g o, ao = some ⟨g, o, none⟩ ∧ g < w.heap.size ∧ w.rangeAt g (o + k * 7) (chgV x) := by
  obtain ⟨g, o, h1, h2, h3⟩ := h.at k hk
  rw [hx] at h3
  exact ⟨g, o, h1, h2, fun i u hu => h3 i u hu⟩
theorem mayC_no {L : List UInt8} {c : Chg} {r : List Chg} (h : okC c = false) : mayC L (c :: r) = false := by rw [mayC, h]; rfl
theorem mayC_ord {L : List UInt8} {c : Chg} {r : List Chg} (h : ¬ cmpL (nms L) (nms c.1) < 0) : mayC L (c :: r) = false := by rw [mayC, decide_eq_false h]; simp
theorem mayC_yes {L : List UInt8} {c : Chg} {r : List Chg} (h : okC c = true) (h1 : cmpL (nms L) (nms c.1) < 0) : mayC L (c :: r) = mayC c.1 r := by rw [mayC, h, decide_eq_true h1]; simp

set_option maxRecDepth 100000 in
set_option maxHeartbeats 4000000 in
theorem changesMay_any (v : Value) (cs : List Chg) (w : World) (h : Chgs w v cs) (hs : ShortC cs) (hn : cs.length ≤ 4611686018427387904) :
    Calls Try.prog 56 #[v] w fun r w' => r = .returned (.bool (mayC [] cs)) ∧ Below w.heap.size w w' := by
  obtain ⟨ao, cc, rfl⟩ := h.shape
  have HL := hid h
  have HSH := hid hs
  have HU := hid Try.underlying82
  clear h hs
  go_enter Try.func56, Try.ntmps56
  go_wp2
  go_loopw [3, 10] (fun x i wr => ∃ (k : Nat) (L : List UInt8), i = .int .i64 k ∧ x = .string (mk L) ∧ k ≤ cs.length ∧ okP L = true ∧ mayC [] cs = mayC L (cs.drop k) ∧ Below w.heap.size w wr) (fun _ i _ => cs.length - (intOf i).toNat)
  case atStart => exact ⟨0, [], rfl, rfl, Nat.zero_le _, by decide, rfl, Below.refl _ _⟩
  case round =>
    obtain ⟨k, L, rfl, rfl, hk, hoL, hmay, hb⟩ := hrel
    have HB := hid hb
    have HMY := hid hmay
    have HOL := hid hoL
    clear hb hmay hoL
    by_cases hlt : k < cs.length
    · have q1 : (k : Int) < (cs.length : Int) := by omega
      have hw1 : IntKind.i64.wrap ((k : Int) + 1) = ((k + 1 : Nat) : Int) := by rw [IntKind.wrap_i64]; omega
      obtain ⟨c, HCD⟩ : ∃ c, Hid (cs.getD k zC = c) := ⟨_, rfl⟩
      obtain ⟨g, o, rfl, hgl, hrl⟩ := (HL.out.below HB.out).range k hlt c HCD.out
      have HRL := hid hrl
      have hcm : c ∈ cs := by rw [← HCD.out]; exact getC_mem hlt
      rw [dropC hlt, HCD.out] at HMY
      have HI := hid (info_chg7 c)
      have HO := hid (one_chg7 c)
      have HT := hid (Cb.new wr zC).there
      have HC4 := hid ((Cb.new wr zC).all c)
      have HB4 := hid (belowCs HB.out.size (chgV c) 0 _ (HB.out.alloc HB.out.size (.cells #[.string ⟨#[]⟩, .string ⟨#[]⟩, .int .i64 0, .string ⟨#[]⟩, .string ⟨#[]⟩, .int .i64 0, .string ⟨#[]⟩] 82)))
      change Hid (Cb ((wr.alloc (.cells #[.string ⟨#[]⟩, .string ⟨#[]⟩, .int .i64 0, .string ⟨#[]⟩, .string ⟨#[]⟩, .int .i64 0, .string ⟨#[]⟩] 82)).setCells wr.heap.size 0 (chgV c).toArray.toList) wr.heap.size c) at HC4
      change Hid (Below w.heap.size w ((wr.alloc (.cells #[.string ⟨#[]⟩, .string ⟨#[]⟩, .int .i64 0, .string ⟨#[]⟩, .string ⟨#[]⟩, .int .i64 0, .string ⟨#[]⟩] 82)).setCells wr.heap.size 0 (chgV c).toArray.toList)) at HB4
      have hshc := HSH.out c hcm
      have HS1 := hid (fun W : World => sideMay_any c.2.1 c.1 W (by have := hshc.2.1; omega))
      have HS2 := hid (fun W : World => sideMay_any c.2.2 c.1 W (by have := hshc.2.2; omega))
      have HCM := hid (compare_any (mk L) (mk c.1) · (by rw [bl_mk]; have := okP_short HOL.out; omega) (by rw [bl_mk]; have := hshc.1; omega))
      simp only [bl_mk] at HCM
      unfold entA at HS1 HS2
      have hg := entG
      have hE1 := fun W => eql_ent c.2.1 c.2.2 W
      have hE2 := fun W => eql_zero c.2.1 W
      have HOV := hid (okC_val c)
      have HOP := hid (okC_path (c := c))
      have HCO := hid (fun (h : okC c = true) => cmP_ok HOL.out (okC_path h).1)
      have HRG := hid (cmpL_range (nms L) (nms c.1))
      have HNO := hid (mayC_no (L := L) (c := c) (r := cs.drop (k + 1)))
      have HOR := hid (mayC_ord (L := L) (c := c) (r := cs.drop (k + 1)))
      have HYS := hid (mayC_yes (L := L) (c := c) (r := cs.drop (k + 1)))
      clear hrl hcm hshc hgl
      generalize cmpL (nms L) (nms c.1) = K at *
      generalize okC c = OK at *
      generalize cmP L c.1 = K' at *
      generalize pN L c.1 = E at *
      generalize sidP c.2.1 c.1 = S1 at *
      generalize sidP c.2.2 c.1 = S2 at *
      generalize decide (c.2.1 = c.2.2) = E1 at *
      generalize decide (c.2.1 = zE) = E2 at *
      cases E1 with
      | false =>
        cases S1 with
        | false =>
          have HOF := hid HOV.out
          have hok : OK = false := by rw [HOV.out]; simp
          have HF := hid (HMY.out.trans (HNO.out hok))
          clear hok
          clear HMY HOV HOP HCO HNO HOR HYS HOF
          go_wp2_with (first | (refine wpList_load_mid (by rfl) 82 (.tmp 12) (by rfl) g (o + k * 7) (by rfl) (chgV c) _ HRL.out HU.out rfl HI.out ?_; clear HRL) | (refine wpList_store_mid (by rfl) 82 (.tmp 5) (.tmp 13) (by rfl) wr.heap.size 0 (chgV c).toArray (by rfl) (by rfl) HT.out HI.out HO.out ?_; clear HT; obtain ⟨w4, hw4⟩ : ∃ w4, w4 = (wr.alloc (.cells #[.string ⟨#[]⟩, .string ⟨#[]⟩, .int .i64 0, .string ⟨#[]⟩, .string ⟨#[]⟩, .int .i64 0, .string ⟨#[]⟩] 82)).setCells wr.heap.size 0 (chgV c).toArray.toList := ⟨_, rfl⟩; rw [← hw4] at HC4 HB4 ⊢; clear hw4; obtain ⟨C, HC⟩ : ∃ C : Nat, Hid (wr.heap.size = C) := ⟨_, rfl⟩; rw [HC.out] at HC4 ⊢; obtain ⟨z0, z1, z2, z3, z4, z5, z6⟩ := HC4.out.at) | (go_at_call 79; refine (HS1.out _).mono ?_; clear HS1; rintro r w5 ⟨rfl, hb5⟩; have HC5 := hid (HC4.out.below hb5); have HB5 := hid (HB4.out.trans (hb5.mono HB4.out.size)); clear hb5 z0 z1 z2 z3 z4 z5 z6; obtain ⟨z0, z1, z2, z3, z4, z5, z6⟩ := HC5.out.at))
          go_ret
          exact ⟨ret_bb HF.out.symm, HB5.out⟩
        | true =>
          cases S2 with
          | false =>
            have HOF := hid HOV.out
            have hok : OK = false := by rw [HOV.out]; rfl
            have HF := hid (HMY.out.trans (HNO.out hok))
            clear hok
            clear HMY HOV HOP HCO HNO HOR HYS HOF
            go_wp2_with (first | (refine wpList_load_mid (by rfl) 82 (.tmp 12) (by rfl) g (o + k * 7) (by rfl) (chgV c) _ HRL.out HU.out rfl HI.out ?_; clear HRL) | (refine wpList_store_mid (by rfl) 82 (.tmp 5) (.tmp 13) (by rfl) wr.heap.size 0 (chgV c).toArray (by rfl) (by rfl) HT.out HI.out HO.out ?_; clear HT; obtain ⟨w4, hw4⟩ : ∃ w4, w4 = (wr.alloc (.cells #[.string ⟨#[]⟩, .string ⟨#[]⟩, .int .i64 0, .string ⟨#[]⟩, .string ⟨#[]⟩, .int .i64 0, .string ⟨#[]⟩] 82)).setCells wr.heap.size 0 (chgV c).toArray.toList := ⟨_, rfl⟩; rw [← hw4] at HC4 HB4 ⊢; clear hw4; obtain ⟨C, HC⟩ : ∃ C : Nat, Hid (wr.heap.size = C) := ⟨_, rfl⟩; rw [HC.out] at HC4 ⊢; obtain ⟨z0, z1, z2, z3, z4, z5, z6⟩ := HC4.out.at) | (go_at_call 79; refine (HS1.out _).mono ?_; clear HS1; rintro r w5 ⟨rfl, hb5⟩; have HC5 := hid (HC4.out.below hb5); have HB5 := hid (HB4.out.trans (hb5.mono HB4.out.size)); clear hb5 z0 z1 z2 z3 z4 z5 z6; obtain ⟨z0, z1, z2, z3, z4, z5, z6⟩ := HC5.out.at) | (go_at_call 79; refine (HS2.out _).mono ?_; clear HS2; rintro r w6 ⟨rfl, hb6⟩; have HC6 := hid (HC5.out.below hb6); have HB6 := hid (HB5.out.trans (hb6.mono HB5.out.size)); clear hb6 z0 z1 z2 z3 z4 z5 z6; obtain ⟨z0, z1, z2, z3, z4, z5, z6⟩ := HC6.out.at))
            go_ret
            exact ⟨ret_bb HF.out.symm, HB6.out⟩
          | true =>
            rcases HRG.out with hK | hK | hK
            ·
              subst hK
              clear HRG
              have HOF := hid HOV.out
              have hok : OK = true := by rw [HOV.out]; rfl
              subst hok
              have hk2 := HCO.out rfl
              subst hk2
              have HF := hid (HMY.out.trans (HYS.out rfl (by decide)))
              have HPP := hid (HOP.out rfl)
              clear HMY HOV HOP HCO HNO HOR HYS HOF
              go_wp2_with (first | (refine wpList_load_mid (by rfl) 82 (.tmp 12) (by rfl) g (o + k * 7) (by rfl) (chgV c) _ HRL.out HU.out rfl HI.out ?_; clear HRL) | (refine wpList_store_mid (by rfl) 82 (.tmp 5) (.tmp 13) (by rfl) wr.heap.size 0 (chgV c).toArray (by rfl) (by rfl) HT.out HI.out HO.out ?_; clear HT; obtain ⟨w4, hw4⟩ : ∃ w4, w4 = (wr.alloc (.cells #[.string ⟨#[]⟩, .string ⟨#[]⟩, .int .i64 0, .string ⟨#[]⟩, .string ⟨#[]⟩, .int .i64 0, .string ⟨#[]⟩] 82)).setCells wr.heap.size 0 (chgV c).toArray.toList := ⟨_, rfl⟩; rw [← hw4] at HC4 HB4 ⊢; clear hw4; obtain ⟨C, HC⟩ : ∃ C : Nat, Hid (wr.heap.size = C) := ⟨_, rfl⟩; rw [HC.out] at HC4 ⊢; obtain ⟨z0, z1, z2, z3, z4, z5, z6⟩ := HC4.out.at) | (go_at_call 79; refine (HS1.out _).mono ?_; clear HS1; rintro r w5 ⟨rfl, hb5⟩; have HC5 := hid (HC4.out.below hb5); have HB5 := hid (HB4.out.trans (hb5.mono HB4.out.size)); clear hb5 z0 z1 z2 z3 z4 z5 z6; obtain ⟨z0, z1, z2, z3, z4, z5, z6⟩ := HC5.out.at) | (go_at_call 79; refine (HS2.out _).mono ?_; clear HS2; rintro r w6 ⟨rfl, hb6⟩; have HC6 := hid (HC5.out.below hb6); have HB6 := hid (HB5.out.trans (hb6.mono HB5.out.size)); clear hb6 z0 z1 z2 z3 z4 z5 z6; obtain ⟨z0, z1, z2, z3, z4, z5, z6⟩ := HC6.out.at) | (go_at_call 37; refine (HCM.out _).mono ?_; clear HCM; rintro r w7 ⟨rfl, hb7⟩; have HC7 := hid (HC6.out.below hb7); have HB7 := hid (HB6.out.trans (hb7.mono HB6.out.size)); clear hb7 z0 z1 z2 z3 z4 z5 z6; obtain ⟨z0, z1, z2, z3, z4, z5, z6⟩ := HC7.out.at))
              exact ⟨⟨k + 1, c.1, by simp, rfl, by omega, HPP.out.1, HF.out, HB7.out⟩, by simp [intOf]; omega⟩
            ·
              subst hK
              clear HRG
              have HOF := hid HOV.out
              have hok : OK = true := by rw [HOV.out]; rfl
              subst hok
              have hk2 := HCO.out rfl
              subst hk2
              have HF := hid (HMY.out.trans (HOR.out (by decide)))
              have HPP := hid (HOP.out rfl)
              clear HMY HOV HOP HCO HNO HOR HYS HOF
              go_wp2_with (first | (refine wpList_load_mid (by rfl) 82 (.tmp 12) (by rfl) g (o + k * 7) (by rfl) (chgV c) _ HRL.out HU.out rfl HI.out ?_; clear HRL) | (refine wpList_store_mid (by rfl) 82 (.tmp 5) (.tmp 13) (by rfl) wr.heap.size 0 (chgV c).toArray (by rfl) (by rfl) HT.out HI.out HO.out ?_; clear HT; obtain ⟨w4, hw4⟩ : ∃ w4, w4 = (wr.alloc (.cells #[.string ⟨#[]⟩, .string ⟨#[]⟩, .int .i64 0, .string ⟨#[]⟩, .string ⟨#[]⟩, .int .i64 0, .string ⟨#[]⟩] 82)).setCells wr.heap.size 0 (chgV c).toArray.toList := ⟨_, rfl⟩; rw [← hw4] at HC4 HB4 ⊢; clear hw4; obtain ⟨C, HC⟩ : ∃ C : Nat, Hid (wr.heap.size = C) := ⟨_, rfl⟩; rw [HC.out] at HC4 ⊢; obtain ⟨z0, z1, z2, z3, z4, z5, z6⟩ := HC4.out.at) | (go_at_call 79; refine (HS1.out _).mono ?_; clear HS1; rintro r w5 ⟨rfl, hb5⟩; have HC5 := hid (HC4.out.below hb5); have HB5 := hid (HB4.out.trans (hb5.mono HB4.out.size)); clear hb5 z0 z1 z2 z3 z4 z5 z6; obtain ⟨z0, z1, z2, z3, z4, z5, z6⟩ := HC5.out.at) | (go_at_call 79; refine (HS2.out _).mono ?_; clear HS2; rintro r w6 ⟨rfl, hb6⟩; have HC6 := hid (HC5.out.below hb6); have HB6 := hid (HB5.out.trans (hb6.mono HB5.out.size)); clear hb6 z0 z1 z2 z3 z4 z5 z6; obtain ⟨z0, z1, z2, z3, z4, z5, z6⟩ := HC6.out.at) | (go_at_call 37; refine (HCM.out _).mono ?_; clear HCM; rintro r w7 ⟨rfl, hb7⟩; have HC7 := hid (HC6.out.below hb7); have HB7 := hid (HB6.out.trans (hb7.mono HB6.out.size)); clear hb7 z0 z1 z2 z3 z4 z5 z6; obtain ⟨z0, z1, z2, z3, z4, z5, z6⟩ := HC7.out.at))
              go_ret
              exact ⟨ret_bb HF.out.symm, HB7.out⟩
            ·
              subst hK
              clear HRG
              have HOF := hid HOV.out
              have hok : OK = true := by rw [HOV.out]; rfl
              subst hok
              have hk2 := HCO.out rfl
              subst hk2
              have HF := hid (HMY.out.trans (HOR.out (by decide)))
              have HPP := hid (HOP.out rfl)
              clear HMY HOV HOP HCO HNO HOR HYS HOF
              go_wp2_with (first | (refine wpList_load_mid (by rfl) 82 (.tmp 12) (by rfl) g (o + k * 7) (by rfl) (chgV c) _ HRL.out HU.out rfl HI.out ?_; clear HRL) | (refine wpList_store_mid (by rfl) 82 (.tmp 5) (.tmp 13) (by rfl) wr.heap.size 0 (chgV c).toArray (by rfl) (by rfl) HT.out HI.out HO.out ?_; clear HT; obtain ⟨w4, hw4⟩ : ∃ w4, w4 = (wr.alloc (.cells #[.string ⟨#[]⟩, .string ⟨#[]⟩, .int .i64 0, .string ⟨#[]⟩, .string ⟨#[]⟩, .int .i64 0, .string ⟨#[]⟩] 82)).setCells wr.heap.size 0 (chgV c).toArray.toList := ⟨_, rfl⟩; rw [← hw4] at HC4 HB4 ⊢; clear hw4; obtain ⟨C, HC⟩ : ∃ C : Nat, Hid (wr.heap.size = C) := ⟨_, rfl⟩; rw [HC.out] at HC4 ⊢; obtain ⟨z0, z1, z2, z3, z4, z5, z6⟩ := HC4.out.at) | (go_at_call 79; refine (HS1.out _).mono ?_; clear HS1; rintro r w5 ⟨rfl, hb5⟩; have HC5 := hid (HC4.out.below hb5); have HB5 := hid (HB4.out.trans (hb5.mono HB4.out.size)); clear hb5 z0 z1 z2 z3 z4 z5 z6; obtain ⟨z0, z1, z2, z3, z4, z5, z6⟩ := HC5.out.at) | (go_at_call 79; refine (HS2.out _).mono ?_; clear HS2; rintro r w6 ⟨rfl, hb6⟩; have HC6 := hid (HC5.out.below hb6); have HB6 := hid (HB5.out.trans (hb6.mono HB5.out.size)); clear hb6 z0 z1 z2 z3 z4 z5 z6; obtain ⟨z0, z1, z2, z3, z4, z5, z6⟩ := HC6.out.at) | (go_at_call 37; refine (HCM.out _).mono ?_; clear HCM; rintro r w7 ⟨rfl, hb7⟩; have HC7 := hid (HC6.out.below hb7); have HB7 := hid (HB6.out.trans (hb7.mono HB6.out.size)); clear hb7 z0 z1 z2 z3 z4 z5 z6; obtain ⟨z0, z1, z2, z3, z4, z5, z6⟩ := HC7.out.at))
              go_ret
              exact ⟨ret_bb HF.out.symm, HB7.out⟩
      | true =>
        cases E2 with
        | false =>
          cases S1 with
          | false =>
            have HOF := hid HOV.out
            have hok : OK = false := by rw [HOV.out]; simp
            have HF := hid (HMY.out.trans (HNO.out hok))
            clear hok
            clear HMY HOV HOP HCO HNO HOR HYS HOF
            go_wp2_with (first | (refine wpList_load_mid (by rfl) 82 (.tmp 12) (by rfl) g (o + k * 7) (by rfl) (chgV c) _ HRL.out HU.out rfl HI.out ?_; clear HRL) | (refine wpList_store_mid (by rfl) 82 (.tmp 5) (.tmp 13) (by rfl) wr.heap.size 0 (chgV c).toArray (by rfl) (by rfl) HT.out HI.out HO.out ?_; clear HT; obtain ⟨w4, hw4⟩ : ∃ w4, w4 = (wr.alloc (.cells #[.string ⟨#[]⟩, .string ⟨#[]⟩, .int .i64 0, .string ⟨#[]⟩, .string ⟨#[]⟩, .int .i64 0, .string ⟨#[]⟩] 82)).setCells wr.heap.size 0 (chgV c).toArray.toList := ⟨_, rfl⟩; rw [← hw4] at HC4 HB4 ⊢; clear hw4; obtain ⟨C, HC⟩ : ∃ C : Nat, Hid (wr.heap.size = C) := ⟨_, rfl⟩; rw [HC.out] at HC4 ⊢; obtain ⟨z0, z1, z2, z3, z4, z5, z6⟩ := HC4.out.at) | (go_at_call 79; refine (HS1.out _).mono ?_; clear HS1; rintro r w5 ⟨rfl, hb5⟩; have HC5 := hid (HC4.out.below hb5); have HB5 := hid (HB4.out.trans (hb5.mono HB4.out.size)); clear hb5 z0 z1 z2 z3 z4 z5 z6; obtain ⟨z0, z1, z2, z3, z4, z5, z6⟩ := HC5.out.at))
            go_ret
            exact ⟨ret_bb HF.out.symm, HB5.out⟩
          | true =>
            cases S2 with
            | false =>
              have HOF := hid HOV.out
              have hok : OK = false := by rw [HOV.out]; rfl
              have HF := hid (HMY.out.trans (HNO.out hok))
              clear hok
              clear HMY HOV HOP HCO HNO HOR HYS HOF
              go_wp2_with (first | (refine wpList_load_mid (by rfl) 82 (.tmp 12) (by rfl) g (o + k * 7) (by rfl) (chgV c) _ HRL.out HU.out rfl HI.out ?_; clear HRL) | (refine wpList_store_mid (by rfl) 82 (.tmp 5) (.tmp 13) (by rfl) wr.heap.size 0 (chgV c).toArray (by rfl) (by rfl) HT.out HI.out HO.out ?_; clear HT; obtain ⟨w4, hw4⟩ : ∃ w4, w4 = (wr.alloc (.cells #[.string ⟨#[]⟩, .string ⟨#[]⟩, .int .i64 0, .string ⟨#[]⟩, .string ⟨#[]⟩, .int .i64 0, .string ⟨#[]⟩] 82)).setCells wr.heap.size 0 (chgV c).toArray.toList := ⟨_, rfl⟩; rw [← hw4] at HC4 HB4 ⊢; clear hw4; obtain ⟨C, HC⟩ : ∃ C : Nat, Hid (wr.heap.size = C) := ⟨_, rfl⟩; rw [HC.out] at HC4 ⊢; obtain ⟨z0, z1, z2, z3, z4, z5, z6⟩ := HC4.out.at) | (go_at_call 79; refine (HS1.out _).mono ?_; clear HS1; rintro r w5 ⟨rfl, hb5⟩; have HC5 := hid (HC4.out.below hb5); have HB5 := hid (HB4.out.trans (hb5.mono HB4.out.size)); clear hb5 z0 z1 z2 z3 z4 z5 z6; obtain ⟨z0, z1, z2, z3, z4, z5, z6⟩ := HC5.out.at) | (go_at_call 79; refine (HS2.out _).mono ?_; clear HS2; rintro r w6 ⟨rfl, hb6⟩; have HC6 := hid (HC5.out.below hb6); have HB6 := hid (HB5.out.trans (hb6.mono HB5.out.size)); clear hb6 z0 z1 z2 z3 z4 z5 z6; obtain ⟨z0, z1, z2, z3, z4, z5, z6⟩ := HC6.out.at))
              go_ret
              exact ⟨ret_bb HF.out.symm, HB6.out⟩
            | true =>
              rcases HRG.out with hK | hK | hK
              ·
                subst hK
                clear HRG
                have HOF := hid HOV.out
                have hok : OK = true := by rw [HOV.out]; rfl
                subst hok
                have hk2 := HCO.out rfl
                subst hk2
                have HF := hid (HMY.out.trans (HYS.out rfl (by decide)))
                have HPP := hid (HOP.out rfl)
                clear HMY HOV HOP HCO HNO HOR HYS HOF
                go_wp2_with (first | (refine wpList_load_mid (by rfl) 82 (.tmp 12) (by rfl) g (o + k * 7) (by rfl) (chgV c) _ HRL.out HU.out rfl HI.out ?_; clear HRL) | (refine wpList_store_mid (by rfl) 82 (.tmp 5) (.tmp 13) (by rfl) wr.heap.size 0 (chgV c).toArray (by rfl) (by rfl) HT.out HI.out HO.out ?_; clear HT; obtain ⟨w4, hw4⟩ : ∃ w4, w4 = (wr.alloc (.cells #[.string ⟨#[]⟩, .string ⟨#[]⟩, .int .i64 0, .string ⟨#[]⟩, .string ⟨#[]⟩, .int .i64 0, .string ⟨#[]⟩] 82)).setCells wr.heap.size 0 (chgV c).toArray.toList := ⟨_, rfl⟩; rw [← hw4] at HC4 HB4 ⊢; clear hw4; obtain ⟨C, HC⟩ : ∃ C : Nat, Hid (wr.heap.size = C) := ⟨_, rfl⟩; rw [HC.out] at HC4 ⊢; obtain ⟨z0, z1, z2, z3, z4, z5, z6⟩ := HC4.out.at) | (go_at_call 79; refine (HS1.out _).mono ?_; clear HS1; rintro r w5 ⟨rfl, hb5⟩; have HC5 := hid (HC4.out.below hb5); have HB5 := hid (HB4.out.trans (hb5.mono HB4.out.size)); clear hb5 z0 z1 z2 z3 z4 z5 z6; obtain ⟨z0, z1, z2, z3, z4, z5, z6⟩ := HC5.out.at) | (go_at_call 79; refine (HS2.out _).mono ?_; clear HS2; rintro r w6 ⟨rfl, hb6⟩; have HC6 := hid (HC5.out.below hb6); have HB6 := hid (HB5.out.trans (hb6.mono HB5.out.size)); clear hb6 z0 z1 z2 z3 z4 z5 z6; obtain ⟨z0, z1, z2, z3, z4, z5, z6⟩ := HC6.out.at) | (go_at_call 37; refine (HCM.out _).mono ?_; clear HCM; rintro r w7 ⟨rfl, hb7⟩; have HC7 := hid (HC6.out.below hb7); have HB7 := hid (HB6.out.trans (hb7.mono HB6.out.size)); clear hb7 z0 z1 z2 z3 z4 z5 z6; obtain ⟨z0, z1, z2, z3, z4, z5, z6⟩ := HC7.out.at))
                exact ⟨⟨k + 1, c.1, by simp, rfl, by omega, HPP.out.1, HF.out, HB7.out⟩, by simp [intOf]; omega⟩
              ·
                subst hK
                clear HRG
                have HOF := hid HOV.out
                have hok : OK = true := by rw [HOV.out]; rfl
                subst hok
                have hk2 := HCO.out rfl
                subst hk2
                have HF := hid (HMY.out.trans (HOR.out (by decide)))
                have HPP := hid (HOP.out rfl)
                clear HMY HOV HOP HCO HNO HOR HYS HOF
                go_wp2_with (first | (refine wpList_load_mid (by rfl) 82 (.tmp 12) (by rfl) g (o + k * 7) (by rfl) (chgV c) _ HRL.out HU.out rfl HI.out ?_; clear HRL) | (refine wpList_store_mid (by rfl) 82 (.tmp 5) (.tmp 13) (by rfl) wr.heap.size 0 (chgV c).toArray (by rfl) (by rfl) HT.out HI.out HO.out ?_; clear HT; obtain ⟨w4, hw4⟩ : ∃ w4, w4 = (wr.alloc (.cells #[.string ⟨#[]⟩, .string ⟨#[]⟩, .int .i64 0, .string ⟨#[]⟩, .string ⟨#[]⟩, .int .i64 0, .string ⟨#[]⟩] 82)).setCells wr.heap.size 0 (chgV c).toArray.toList := ⟨_, rfl⟩; rw [← hw4] at HC4 HB4 ⊢; clear hw4; obtain ⟨C, HC⟩ : ∃ C : Nat, Hid (wr.heap.size = C) := ⟨_, rfl⟩; rw [HC.out] at HC4 ⊢; obtain ⟨z0, z1, z2, z3, z4, z5, z6⟩ := HC4.out.at) | (go_at_call 79; refine (HS1.out _).mono ?_; clear HS1; rintro r w5 ⟨rfl, hb5⟩; have HC5 := hid (HC4.out.below hb5); have HB5 := hid (HB4.out.trans (hb5.mono HB4.out.size)); clear hb5 z0 z1 z2 z3 z4 z5 z6; obtain ⟨z0, z1, z2, z3, z4, z5, z6⟩ := HC5.out.at) | (go_at_call 79; refine (HS2.out _).mono ?_; clear HS2; rintro r w6 ⟨rfl, hb6⟩; have HC6 := hid (HC5.out.below hb6); have HB6 := hid (HB5.out.trans (hb6.mono HB5.out.size)); clear hb6 z0 z1 z2 z3 z4 z5 z6; obtain ⟨z0, z1, z2, z3, z4, z5, z6⟩ := HC6.out.at) | (go_at_call 37; refine (HCM.out _).mono ?_; clear HCM; rintro r w7 ⟨rfl, hb7⟩; have HC7 := hid (HC6.out.below hb7); have HB7 := hid (HB6.out.trans (hb7.mono HB6.out.size)); clear hb7 z0 z1 z2 z3 z4 z5 z6; obtain ⟨z0, z1, z2, z3, z4, z5, z6⟩ := HC7.out.at))
                go_ret
                exact ⟨ret_bb HF.out.symm, HB7.out⟩
              ·
                subst hK
                clear HRG
                have HOF := hid HOV.out
                have hok : OK = true := by rw [HOV.out]; rfl
                subst hok
                have hk2 := HCO.out rfl
                subst hk2
                have HF := hid (HMY.out.trans (HOR.out (by decide)))
                have HPP := hid (HOP.out rfl)
                clear HMY HOV HOP HCO HNO HOR HYS HOF
                go_wp2_with (first | (refine wpList_load_mid (by rfl) 82 (.tmp 12) (by rfl) g (o + k * 7) (by rfl) (chgV c) _ HRL.out HU.out rfl HI.out ?_; clear HRL) | (refine wpList_store_mid (by rfl) 82 (.tmp 5) (.tmp 13) (by rfl) wr.heap.size 0 (chgV c).toArray (by rfl) (by rfl) HT.out HI.out HO.out ?_; clear HT; obtain ⟨w4, hw4⟩ : ∃ w4, w4 = (wr.alloc (.cells #[.string ⟨#[]⟩, .string ⟨#[]⟩, .int .i64 0, .string ⟨#[]⟩, .string ⟨#[]⟩, .int .i64 0, .string ⟨#[]⟩] 82)).setCells wr.heap.size 0 (chgV c).toArray.toList := ⟨_, rfl⟩; rw [← hw4] at HC4 HB4 ⊢; clear hw4; obtain ⟨C, HC⟩ : ∃ C : Nat, Hid (wr.heap.size = C) := ⟨_, rfl⟩; rw [HC.out] at HC4 ⊢; obtain ⟨z0, z1, z2, z3, z4, z5, z6⟩ := HC4.out.at) | (go_at_call 79; refine (HS1.out _).mono ?_; clear HS1; rintro r w5 ⟨rfl, hb5⟩; have HC5 := hid (HC4.out.below hb5); have HB5 := hid (HB4.out.trans (hb5.mono HB4.out.size)); clear hb5 z0 z1 z2 z3 z4 z5 z6; obtain ⟨z0, z1, z2, z3, z4, z5, z6⟩ := HC5.out.at) | (go_at_call 79; refine (HS2.out _).mono ?_; clear HS2; rintro r w6 ⟨rfl, hb6⟩; have HC6 := hid (HC5.out.below hb6); have HB6 := hid (HB5.out.trans (hb6.mono HB5.out.size)); clear hb6 z0 z1 z2 z3 z4 z5 z6; obtain ⟨z0, z1, z2, z3, z4, z5, z6⟩ := HC6.out.at) | (go_at_call 37; refine (HCM.out _).mono ?_; clear HCM; rintro r w7 ⟨rfl, hb7⟩; have HC7 := hid (HC6.out.below hb7); have HB7 := hid (HB6.out.trans (hb7.mono HB6.out.size)); clear hb7 z0 z1 z2 z3 z4 z5 z6; obtain ⟨z0, z1, z2, z3, z4, z5, z6⟩ := HC7.out.at))
                go_ret
                exact ⟨ret_bb HF.out.symm, HB7.out⟩
        | true =>
          have HOF := hid HOV.out
          have hok : OK = false := by rw [HOV.out]; simp
          have HF := hid (HMY.out.trans (HNO.out hok))
          clear hok
          clear HMY HOV HOP HCO HNO HOR HYS HOF
          go_wp2_with (first | (refine wpList_load_mid (by rfl) 82 (.tmp 12) (by rfl) g (o + k * 7) (by rfl) (chgV c) _ HRL.out HU.out rfl HI.out ?_; clear HRL) | (refine wpList_store_mid (by rfl) 82 (.tmp 5) (.tmp 13) (by rfl) wr.heap.size 0 (chgV c).toArray (by rfl) (by rfl) HT.out HI.out HO.out ?_; clear HT; obtain ⟨w4, hw4⟩ : ∃ w4, w4 = (wr.alloc (.cells #[.string ⟨#[]⟩, .string ⟨#[]⟩, .int .i64 0, .string ⟨#[]⟩, .string ⟨#[]⟩, .int .i64 0, .string ⟨#[]⟩] 82)).setCells wr.heap.size 0 (chgV c).toArray.toList := ⟨_, rfl⟩; rw [← hw4] at HC4 HB4 ⊢; clear hw4; obtain ⟨C, HC⟩ : ∃ C : Nat, Hid (wr.heap.size = C) := ⟨_, rfl⟩; rw [HC.out] at HC4 ⊢; obtain ⟨z0, z1, z2, z3, z4, z5, z6⟩ := HC4.out.at))
          go_ret
          exact ⟨ret_bb HF.out.symm, HB4.out⟩
    · have q1 : ¬ (k : Int) < (cs.length : Int) := by omega
      have HF := hid (show mayC [] cs = true from by rw [HMY.out, List.drop_eq_nil_of_le (by omega)]; rfl)
      clear HMY
      go_wp2
      go_ret
      exact ⟨ret_bb HF.out.symm, HB.out⟩

end Go.Proofs.Ytgldmepmeampeaa

/- The program's Apply: changes that are made. -/
namespace Go.Proofs.Ytgldmepmeampeaa
open Go.RowKit Go.BigFrame

theorem cb_kept {w w' : World} {b : Nat} {c : Chg} {row : Option Nat} (h : Cb w b c) (hg : w.grownBy w' row) (hne : row ≠ some b) : Cb w' b c :=
  (hg.block b h.lt (fun e => hne e.symm)).trans h
theorem own_ne {w : World} {base b : Nat} {v : Value} {es : List Ent} {c : Chg} (h : OwnE w base v es) (hc : Cb w b c) : v.ownBlock ≠ some b := by
  intro hb
  rcases h.2 with ⟨h0, _⟩ | ⟨g, cap, cur, hv, _, hh, _⟩
  · rw [h0] at hb; cases hb
  · rw [hv] at hb
    have : g = b := Option.some.inj hb
    subst this
    rw [hc] at hh
    injection hh with hh
    injection hh with _ h2 _
    exact absurd h2 (by decide)
/-- how far changes are made -/
structure ChS (w0 : World) (t : List Ent) (cs : List Chg) (t' nx : List Ent) (k : Nat) (vt vn : Value) (wr : World) : Prop where
  et : Ents w0 vt t'
  own : OwnE wr w0.heap.size vn nx
  eq : chgd t cs = nx ++ chgd t' (cs.drop k)
  up : t'.Pairwise ltE
  ok : ∀ e ∈ t', okP e.1 = true
  many : t'.length ≤ 1024
  len : nx.length + t'.length ≤ 1024 + k
  bel : Below w0.heap.size w0 wr
theorem ChS.next {w0 wr wr' : World} {t t' nx nx' : List Ent} {cs : List Chg} {k J : Nat} {vt vn vt' vn' : Value} {c : Chg} (h : ChS w0 t cs t' nx k vt vn wr) (hd : cs.drop k = c :: cs.drop (k + 1))
    (hJ : J = plP t' c.1 + (if thP t' c.1 then 1 else 0)) (hn : nx' = nx ++ t'.take (plP t' c.1) ++ (if c.2.2.2.1 = 0 then [] else [c.2.2])) (ht : Ents w0 vt' (t'.drop J)) (ho : OwnE wr' w0.heap.size vn' nx') (hb : Below w0.heap.size w0 wr') :
    ChS w0 t cs (t'.drop J) nx' (k + 1) vt' vn' wr' := by
  refine ⟨ht, ho, ?_, h.up.sublist (List.drop_sublist _ _), fun e he => h.ok e (List.mem_of_mem_drop he), by rw [List.length_drop]; have := h.many; omega, ?_, hb⟩
  · rw [h.eq, hd, chgd, hJ, hn]
    simp only [List.append_assoc]
  · have h1 := h.len
    have h2 := plP_le t' c.1
    have h3 : (nx' : List Ent).length ≤ nx.length + plP t' c.1 + 1 := by
      rw [hn]
      simp only [List.length_append, List.length_take]
      split <;> simp <;> omega
    rw [List.length_drop]
    have : plP t' c.1 ≤ J := by omega
    by_cases hjl : J ≤ t'.length
    · omega
    · omega

set_option maxRecDepth 100000 in
set_option maxHeartbeats 4000000 in
theorem changed_any (vt vl : Value) (t : List Ent) (cs : List Chg) (w : World) (ht : Ents w vt t) (h : Chgs w vl cs) (hup : t.Pairwise ltE) (hok : ∀ e ∈ t, okP e.1 = true) (hm : t.length ≤ 1024) (hcs : ∀ c ∈ cs, okP c.1 = true) (hn : cs.length ≤ 1099511627776) :
    Calls Try.prog 57 #[vt, vl] w fun r w' => ∃ v, r = .returned v ∧ OwnE w' w.heap.size v (chgd t cs) ∧ Below w.heap.size w w' := by
  obtain ⟨ao, cc, rfl⟩ := h.shape
  have HL := hid h
  have HCS := hid hcs
  have HU := hid Try.underlying82
  have HS0 : Hid (ChS w t cs t [] 0 vt (.slice none 0 0) w) := ⟨ht, OwnE.nil _ _, rfl, hup, hok, hm, by simp; omega, Below.refl _ _⟩
  obtain ⟨to, tc, rfl⟩ := ht.shape
  clear h hcs ht hup hok hm
  go_enter Try.func57, Try.ntmps57
  go_wp2
  go_loopw [0, 5, 12] (fun x y i wr => ∃ (k : Nat) (t' nx : List Ent), i = .int .i64 k ∧ k ≤ cs.length ∧ ChS w t cs t' nx k x y wr) (fun _ _ i _ => cs.length - (intOf i).toNat)
  case atStart => exact ⟨0, t, [], rfl, Nat.zero_le _, HS0.out⟩
  case round =>
    obtain ⟨k, t', nx, rfl, hk, hst⟩ := hrel
    have HST := hid hst
    obtain ⟨aa, xa, e1⟩ := hst.et.shape
    obtain ⟨ab, xb, e2⟩ := hst.own.ents.shape
    generalize nx.length = nb at e2
    subst e1 e2
    clear hst HS0
    obtain ⟨n1, HN1⟩ : ∃ n : Nat, Hid (t'.length = n) := ⟨_, rfl⟩
    rw [HN1.out] at HST ⊢
    by_cases hlt : k < cs.length
    · have q1 : (k : Int) < (cs.length : Int) := by omega
      have hw1 : IntKind.i64.wrap ((k : Int) + 1) = ((k + 1 : Nat) : Int) := by rw [IntKind.wrap_i64]; omega
      obtain ⟨c, HCD⟩ : ∃ c, Hid (cs.getD k zC = c) := ⟨_, rfl⟩
      obtain ⟨g, o, rfl, hgl, hrl⟩ := (HL.out.below HST.out.bel).range k hlt c HCD.out
      have HRL := hid hrl
      have hcm : c ∈ cs := by rw [← HCD.out]; exact getC_mem hlt
      have HDR := hid (dropC hlt)
      rw [HCD.out] at HDR
      have HI := hid (info_chg7 c)
      have HO := hid (one_chg7 c)
      have HT := hid (Cb.new wr zC).there
      have HC4 := hid ((Cb.new wr zC).all c)
      have HB4 := hid (belowCs (Nat.le_refl _) (chgV c) 0 _ (below_walk wr (.cells #[.string ⟨#[]⟩, .string ⟨#[]⟩, .int .i64 0, .string ⟨#[]⟩, .string ⟨#[]⟩, .int .i64 0, .string ⟨#[]⟩] 82)))
      change Hid (Cb ((wr.alloc (.cells #[.string ⟨#[]⟩, .string ⟨#[]⟩, .int .i64 0, .string ⟨#[]⟩, .string ⟨#[]⟩, .int .i64 0, .string ⟨#[]⟩] 82)).setCells wr.heap.size 0 (chgV c).toArray.toList) wr.heap.size c) at HC4
      change Hid (Below wr.heap.size wr ((wr.alloc (.cells #[.string ⟨#[]⟩, .string ⟨#[]⟩, .int .i64 0, .string ⟨#[]⟩, .string ⟨#[]⟩, .int .i64 0, .string ⟨#[]⟩] 82)).setCells wr.heap.size 0 (chgV c).toArray.toList)) at HB4
      have HPL := hid (fun W (hW : Below w.heap.size w W) => place_any _ t' c.1 W (HST.out.et.below hW) HST.out.up HST.out.ok (HCS.out c hcm) HST.out.many)
      have HTH := hid (plP_th (t := t') (p := c.1) HST.out.up)
      have HLE := hid (plP_le t' c.1)
      obtain ⟨v1, hv1, hs1⟩ := ecut_to HST.out.et (plP t' c.1) (plP_le _ _)
      have HV1 := hid hv1
      obtain ⟨q1', nq, r1, e1⟩ : ∃ a n c, v1 = .slice a n c := by obtain ⟨a, c, e⟩ := hv1.shape; exact ⟨a, _, c, e⟩
      subst e1
      have HNX := hid (fun (J : Nat) (nx' : List Ent) (vt' vn' : Value) (wr' : World) => HST.out.next (c := c) (J := J) (nx' := nx') (vt' := vt') (vn' := vn') (wr' := wr') HDR.out)
      have HL1 := hid (show nx.length + (t'.take (plP t' c.1)).length ≤ 3298534883328 by have h1 := HST.out.len; rw [List.length_take]; omega)
      have HL2 := hid (show (nx ++ t'.take (plP t' c.1)).length + [c.2.2].length ≤ 3298534883328 by have h1 := HST.out.len; rw [List.length_append, List.length_take]; simp; omega)
      have HTD := hid (fun J (hJ : J ≤ t'.length) => ecut_from HST.out.et J hJ)
      have HNI := hid HST.out.own
      have HBI := hid HST.out.bel
      have HMN := hid HST.out.many
      obtain ⟨I, HII⟩ : ∃ I : Nat, Hid (plP t' c.1 = I) := ⟨_, rfl⟩
      rw [HII.out] at HPL HTH HLE hs1 HV1 HNX HL1 HL2
      generalize htb : thP t' c.1 = TH at *
      obtain ⟨K2, HK2⟩ : ∃ K, Hid (c.2.2.2.1 = K) := ⟨_, rfl⟩
      rw [HK2.out] at HNX
      clear hrl hcm hgl hv1 HST
      cases TH with
      | false =>
        obtain ⟨v2, hv2, hs2⟩ := HTD.out I HLE.out
        have HV2 := hid hv2
        obtain ⟨q2, m2, r2, e2⟩ : ∃ a n c, v2 = .slice a n c := by obtain ⟨a, c, e⟩ := hv2.shape; exact ⟨a, _, c, e⟩
        subst e2
        clear hv2 HTD HTH htb
        by_cases hk2 : K2 = 0
        ·
          subst hk2
          go_wp2_with (first | (refine wpList_load_mid (by rfl) 82 (.tmp 14) (by rfl) g (o + k * 7) (by rfl) (chgV c) _ HRL.out HU.out rfl HI.out ?_; clear HRL) | (refine wpList_store_mid (by rfl) 82 (.tmp 7) (.tmp 15) (by rfl) wr.heap.size 0 (chgV c).toArray (by rfl) (by rfl) HT.out HI.out HO.out ?_; clear HT; obtain ⟨w4, hw4⟩ : ∃ w4, w4 = (wr.alloc (.cells #[.string ⟨#[]⟩, .string ⟨#[]⟩, .int .i64 0, .string ⟨#[]⟩, .string ⟨#[]⟩, .int .i64 0, .string ⟨#[]⟩] 82)).setCells wr.heap.size 0 (chgV c).toArray.toList := ⟨_, rfl⟩; rw [← hw4] at HC4 HB4 ⊢; clear hw4; have HN4 := hid (HNI.out.below HB4.out); have HB4' := hid (below_then HBI.out HB4.out); obtain ⟨C, HC⟩ : ∃ C : Nat, Hid (wr.heap.size = C) := ⟨_, rfl⟩; rw [HC.out] at HC4 ⊢; clear HB4 HNI HBI; obtain ⟨z0, z1, z2, z3, z4, z5, z6⟩ := HC4.out.at) | (go_at_call 70; refine (HPL.out _ HB4'.out).mono ?_; rintro r w5 ⟨rfl, hb5⟩; have HC5 := hid (HC4.out.below hb5); have HN5 := hid (HN4.out.below hb5); have HB5 := hid (below_then HB4'.out hb5); have HE5 := hid (HV1.out.below HB5.out); clear hb5 z0 z1 z2 z3 z4 z5 z6 HN4 HB4' HPL) | (at_builtin; refine app_ent rfl _ _ rfl w.heap.size _ nx rfl HN5.out (t'.take I) _ rfl HE5.out HL1.out HB5.out.size ?_; intro v6 w6 ho6 hg6 hp6; have HN6 := hid ho6; have HB6 := hid (HB5.out.grown hg6 HB5.out.size (fun j hj => (HN5.out.lt j hj).1)); have HC6 := hid (cb_kept HC5.out hg6 (own_ne HN5.out HC5.out)); obtain ⟨a6, n6, c6, e6⟩ : ∃ a n c, v6 = .slice a n c := by {obtain ⟨a, c, e⟩ := ho6.ents.shape; exact ⟨a, _, c, e⟩}; subst e6; clear ho6 hg6 hp6 HN5 HB5 HE5 HL1; obtain ⟨z0, z1, z2, z3, z4, z5, z6⟩ := HC6.out.at; rw [HK2.out] at z5))
          exact ⟨⟨k + 1, t'.drop (I), nx ++ t'.take I, by simp, by omega, HNX.out (I) _ _ _ _ (by simp) (by simp) HV2.out HN6.out HB6.out⟩, by simp [intOf]; omega⟩
        ·
          have e2 : (K2 == 0) = false := by simpa using hk2
          go_wp2_with (first | (refine wpList_load_mid (by rfl) 82 (.tmp 14) (by rfl) g (o + k * 7) (by rfl) (chgV c) _ HRL.out HU.out rfl HI.out ?_; clear HRL) | (refine wpList_store_mid (by rfl) 82 (.tmp 7) (.tmp 15) (by rfl) wr.heap.size 0 (chgV c).toArray (by rfl) (by rfl) HT.out HI.out HO.out ?_; clear HT; obtain ⟨w4, hw4⟩ : ∃ w4, w4 = (wr.alloc (.cells #[.string ⟨#[]⟩, .string ⟨#[]⟩, .int .i64 0, .string ⟨#[]⟩, .string ⟨#[]⟩, .int .i64 0, .string ⟨#[]⟩] 82)).setCells wr.heap.size 0 (chgV c).toArray.toList := ⟨_, rfl⟩; rw [← hw4] at HC4 HB4 ⊢; clear hw4; have HN4 := hid (HNI.out.below HB4.out); have HB4' := hid (below_then HBI.out HB4.out); obtain ⟨C, HC⟩ : ∃ C : Nat, Hid (wr.heap.size = C) := ⟨_, rfl⟩; rw [HC.out] at HC4 ⊢; clear HB4 HNI HBI; obtain ⟨z0, z1, z2, z3, z4, z5, z6⟩ := HC4.out.at) | (go_at_call 70; refine (HPL.out _ HB4'.out).mono ?_; rintro r w5 ⟨rfl, hb5⟩; have HC5 := hid (HC4.out.below hb5); have HN5 := hid (HN4.out.below hb5); have HB5 := hid (below_then HB4'.out hb5); have HE5 := hid (HV1.out.below HB5.out); clear hb5 z0 z1 z2 z3 z4 z5 z6 HN4 HB4' HPL) | (at_builtin; refine app_ent rfl _ _ rfl w.heap.size _ nx rfl HN5.out (t'.take I) _ rfl HE5.out HL1.out HB5.out.size ?_; intro v6 w6 ho6 hg6 hp6; have HN6 := hid ho6; have HB6 := hid (HB5.out.grown hg6 HB5.out.size (fun j hj => (HN5.out.lt j hj).1)); have HC6 := hid (cb_kept HC5.out hg6 (own_ne HN5.out HC5.out)); obtain ⟨a6, n6, c6, e6⟩ : ∃ a n c, v6 = .slice a n c := by {obtain ⟨a, c, e⟩ := ho6.ents.shape; exact ⟨a, _, c, e⟩}; subst e6; clear ho6 hg6 hp6 HN5 HB5 HE5 HL1; obtain ⟨z0, z1, z2, z3, z4, z5, z6⟩ := HC6.out.at; rw [HK2.out] at z5; have HEN := hid (ents_one w6 c.2.2); rw [HK2.out] at HEN; have HN7 := hid (HN6.out.below (below_walk w6 (.cells #[.string (mk c.2.2.1), .int .i64 K2, .string (mk c.2.2.2.2)] 36))); have HB7 := hid (HB6.out.alloc HB6.out.size (.cells #[.string (mk c.2.2.1), .int .i64 K2, .string (mk c.2.2.2.2)] 36))) | (at_builtin; refine app_ent rfl _ _ rfl w.heap.size _ (nx ++ t'.take I) rfl HN7.out [c.2.2] _ rfl HEN.out HL2.out HB7.out.size ?_; intro v8 w8 ho8 hg8 hp8; have HN8 := hid ho8; have HB8 := hid (HB7.out.grown hg8 HB7.out.size (fun j hj => (HN7.out.lt j hj).1)); obtain ⟨a8, n8, c8, e8⟩ : ∃ a n c, v8 = .slice a n c := by {obtain ⟨a, c, e⟩ := ho8.ents.shape; exact ⟨a, _, c, e⟩}; subst e8; clear ho8 hg8 hp8))
          exact ⟨⟨k + 1, t'.drop (I), nx ++ t'.take I ++ [c.2.2], by simp, by omega, HNX.out (I) _ _ _ _ (by simp) (by rw [if_neg hk2]) HV2.out HN8.out HB8.out⟩, by simp [intOf]; omega⟩
      | true =>
        have hI := (HTH.out rfl).1
        have hw2 : IntKind.i64.wrap ((I : Int) + 1) = (I : Int) + 1 := by rw [IntKind.wrap_i64]; have := HMN.out; omega
        obtain ⟨v2, hv2, hs2⟩ := HTD.out (I + 1) (by omega)
        rw [show ((I + 1 : Nat) : Int) = (I : Int) + 1 from by omega] at hs2
        have HV2 := hid hv2
        obtain ⟨q2, m2, r2, e2⟩ : ∃ a n c, v2 = .slice a n c := by obtain ⟨a, c, e⟩ := hv2.shape; exact ⟨a, _, c, e⟩
        subst e2
        clear hv2 HTD HTH htb
        by_cases hk2 : K2 = 0
        ·
          subst hk2
          go_wp2_with (first | (refine wpList_load_mid (by rfl) 82 (.tmp 14) (by rfl) g (o + k * 7) (by rfl) (chgV c) _ HRL.out HU.out rfl HI.out ?_; clear HRL) | (refine wpList_store_mid (by rfl) 82 (.tmp 7) (.tmp 15) (by rfl) wr.heap.size 0 (chgV c).toArray (by rfl) (by rfl) HT.out HI.out HO.out ?_; clear HT; obtain ⟨w4, hw4⟩ : ∃ w4, w4 = (wr.alloc (.cells #[.string ⟨#[]⟩, .string ⟨#[]⟩, .int .i64 0, .string ⟨#[]⟩, .string ⟨#[]⟩, .int .i64 0, .string ⟨#[]⟩] 82)).setCells wr.heap.size 0 (chgV c).toArray.toList := ⟨_, rfl⟩; rw [← hw4] at HC4 HB4 ⊢; clear hw4; have HN4 := hid (HNI.out.below HB4.out); have HB4' := hid (below_then HBI.out HB4.out); obtain ⟨C, HC⟩ : ∃ C : Nat, Hid (wr.heap.size = C) := ⟨_, rfl⟩; rw [HC.out] at HC4 ⊢; clear HB4 HNI HBI; obtain ⟨z0, z1, z2, z3, z4, z5, z6⟩ := HC4.out.at) | (go_at_call 70; refine (HPL.out _ HB4'.out).mono ?_; rintro r w5 ⟨rfl, hb5⟩; have HC5 := hid (HC4.out.below hb5); have HN5 := hid (HN4.out.below hb5); have HB5 := hid (below_then HB4'.out hb5); have HE5 := hid (HV1.out.below HB5.out); clear hb5 z0 z1 z2 z3 z4 z5 z6 HN4 HB4' HPL) | (at_builtin; refine app_ent rfl _ _ rfl w.heap.size _ nx rfl HN5.out (t'.take I) _ rfl HE5.out HL1.out HB5.out.size ?_; intro v6 w6 ho6 hg6 hp6; have HN6 := hid ho6; have HB6 := hid (HB5.out.grown hg6 HB5.out.size (fun j hj => (HN5.out.lt j hj).1)); have HC6 := hid (cb_kept HC5.out hg6 (own_ne HN5.out HC5.out)); obtain ⟨a6, n6, c6, e6⟩ : ∃ a n c, v6 = .slice a n c := by {obtain ⟨a, c, e⟩ := ho6.ents.shape; exact ⟨a, _, c, e⟩}; subst e6; clear ho6 hg6 hp6 HN5 HB5 HE5 HL1; obtain ⟨z0, z1, z2, z3, z4, z5, z6⟩ := HC6.out.at; rw [HK2.out] at z5))
          exact ⟨⟨k + 1, t'.drop (I + 1), nx ++ t'.take I, by simp, by omega, HNX.out (I + 1) _ _ _ _ (by simp) (by simp) HV2.out HN6.out HB6.out⟩, by simp [intOf]; omega⟩
        ·
          have e2 : (K2 == 0) = false := by simpa using hk2
          go_wp2_with (first | (refine wpList_load_mid (by rfl) 82 (.tmp 14) (by rfl) g (o + k * 7) (by rfl) (chgV c) _ HRL.out HU.out rfl HI.out ?_; clear HRL) | (refine wpList_store_mid (by rfl) 82 (.tmp 7) (.tmp 15) (by rfl) wr.heap.size 0 (chgV c).toArray (by rfl) (by rfl) HT.out HI.out HO.out ?_; clear HT; obtain ⟨w4, hw4⟩ : ∃ w4, w4 = (wr.alloc (.cells #[.string ⟨#[]⟩, .string ⟨#[]⟩, .int .i64 0, .string ⟨#[]⟩, .string ⟨#[]⟩, .int .i64 0, .string ⟨#[]⟩] 82)).setCells wr.heap.size 0 (chgV c).toArray.toList := ⟨_, rfl⟩; rw [← hw4] at HC4 HB4 ⊢; clear hw4; have HN4 := hid (HNI.out.below HB4.out); have HB4' := hid (below_then HBI.out HB4.out); obtain ⟨C, HC⟩ : ∃ C : Nat, Hid (wr.heap.size = C) := ⟨_, rfl⟩; rw [HC.out] at HC4 ⊢; clear HB4 HNI HBI; obtain ⟨z0, z1, z2, z3, z4, z5, z6⟩ := HC4.out.at) | (go_at_call 70; refine (HPL.out _ HB4'.out).mono ?_; rintro r w5 ⟨rfl, hb5⟩; have HC5 := hid (HC4.out.below hb5); have HN5 := hid (HN4.out.below hb5); have HB5 := hid (below_then HB4'.out hb5); have HE5 := hid (HV1.out.below HB5.out); clear hb5 z0 z1 z2 z3 z4 z5 z6 HN4 HB4' HPL) | (at_builtin; refine app_ent rfl _ _ rfl w.heap.size _ nx rfl HN5.out (t'.take I) _ rfl HE5.out HL1.out HB5.out.size ?_; intro v6 w6 ho6 hg6 hp6; have HN6 := hid ho6; have HB6 := hid (HB5.out.grown hg6 HB5.out.size (fun j hj => (HN5.out.lt j hj).1)); have HC6 := hid (cb_kept HC5.out hg6 (own_ne HN5.out HC5.out)); obtain ⟨a6, n6, c6, e6⟩ : ∃ a n c, v6 = .slice a n c := by {obtain ⟨a, c, e⟩ := ho6.ents.shape; exact ⟨a, _, c, e⟩}; subst e6; clear ho6 hg6 hp6 HN5 HB5 HE5 HL1; obtain ⟨z0, z1, z2, z3, z4, z5, z6⟩ := HC6.out.at; rw [HK2.out] at z5; have HEN := hid (ents_one w6 c.2.2); rw [HK2.out] at HEN; have HN7 := hid (HN6.out.below (below_walk w6 (.cells #[.string (mk c.2.2.1), .int .i64 K2, .string (mk c.2.2.2.2)] 36))); have HB7 := hid (HB6.out.alloc HB6.out.size (.cells #[.string (mk c.2.2.1), .int .i64 K2, .string (mk c.2.2.2.2)] 36))) | (at_builtin; refine app_ent rfl _ _ rfl w.heap.size _ (nx ++ t'.take I) rfl HN7.out [c.2.2] _ rfl HEN.out HL2.out HB7.out.size ?_; intro v8 w8 ho8 hg8 hp8; have HN8 := hid ho8; have HB8 := hid (HB7.out.grown hg8 HB7.out.size (fun j hj => (HN7.out.lt j hj).1)); obtain ⟨a8, n8, c8, e8⟩ : ∃ a n c, v8 = .slice a n c := by {obtain ⟨a, c, e⟩ := ho8.ents.shape; exact ⟨a, _, c, e⟩}; subst e8; clear ho8 hg8 hp8))
          exact ⟨⟨k + 1, t'.drop (I + 1), nx ++ t'.take I ++ [c.2.2], by simp, by omega, HNX.out (I + 1) _ _ _ _ (by simp) (by rw [if_neg hk2]) HV2.out HN8.out HB8.out⟩, by simp [intOf]; omega⟩
    · have q1 : ¬ (k : Int) < (cs.length : Int) := by omega
      have HF := hid (show chgd t cs = nx ++ t' from by rw [HST.out.eq, List.drop_eq_nil_of_le (by omega)]; rfl)
      have HL1 := hid (show nx.length + t'.length ≤ 3298534883328 by have h1 := HST.out.len; omega)
      have HE5 := hid (HST.out.et.below HST.out.bel)
      go_wp2_with (at_builtin; refine app_ent rfl _ _ rfl w.heap.size _ nx rfl HST.out.own t' _ rfl HE5.out HL1.out HST.out.bel.size ?_)
      intro v6 w6 ho6 hg6 _
      have HN6 := hid ho6
      have HB6 := hid (HST.out.bel.grown hg6 HST.out.bel.size (fun j hj => (HST.out.own.lt j hj).1))
      obtain ⟨a6, n6, c6, e6⟩ : ∃ a n c, v6 = .slice a n c := by obtain ⟨a, c, e⟩ := ho6.ents.shape; exact ⟨a, _, c, e⟩
      subst e6
      clear ho6 hg6
      go_wp2
      go_ret
      exact ⟨_, rfl, by rw [HF.out]; exact HN6.out, HB6.out⟩

end Go.Proofs.Ytgldmepmeampeaa

/- The program's Apply. -/
namespace Go.Proofs.Ytgldmepmeampeaa
open Go.RowKit Go.BigFrame

theorem chgd_mem : ∀ {cs : List Chg} {t : List Ent} {e : Ent}, e ∈ chgd t cs → e ∈ t ∨ ∃ c ∈ cs, e = c.2.2 ∧ c.2.2.2.1 ≠ 0
  | [], _, _, h => Or.inl h
  | c :: cs, t, e, h => by
    rw [chgd, List.mem_append, List.mem_append] at h
    rcases h with h | h | h
    · exact Or.inl (List.mem_of_mem_take h)
    · split at h
      · cases h
      · rename_i hk
        rw [List.mem_singleton] at h
        exact Or.inr ⟨c, by simp, h, hk⟩
    · rcases chgd_mem h with h | ⟨d, hd, h⟩
      · exact Or.inl (List.mem_of_mem_drop h)
      · exact Or.inr ⟨d, by simp [hd], h⟩
theorem chgd_len : ∀ (cs : List Chg) (t : List Ent), (chgd t cs).length ≤ t.length + cs.length
  | [], t => by simp [chgd]
  | c :: cs, t => by
    have ih := chgd_len cs (t.drop (plP t c.1 + (if thP t c.1 then 1 else 0)))
    have h1 : (if c.2.2.2.1 = 0 then [] else [c.2.2] : List Ent).length ≤ 1 := by split <;> simp
    have h2 := plP_le t c.1
    rw [chgd, List.length_append, List.length_append, List.length_take]
    rw [List.length_drop] at ih
    simp only [List.length_cons]
    omega
theorem mayC_all : ∀ {cs : List Chg} {L : List UInt8}, mayC L cs = true → ∀ c ∈ cs, okC c = true
  | [], _, _, c, hc => by cases hc
  | d :: cs, L, h, c, hc => by
    rw [mayC, Bool.and_eq_true, Bool.and_eq_true] at h
    rw [List.mem_cons] at hc
    rcases hc with rfl | hc
    · exact h.1.1
    · exact mayC_all h.2 c hc
theorem okC_new {c : Chg} (h : okC c = true) (hk : c.2.2.2.1 ≠ 0) : mayP c.2.2 = true := by
  unfold okC sidP at h
  simp only [Bool.and_eq_true, Bool.or_eq_true, decide_eq_true_eq] at h
  rcases h.2 with h2 | h2
  · rw [h2] at hk; exact absurd rfl hk
  · exact h2.2
theorem chgd_short {t : List Ent} {cs : List Chg} (ht : ∀ e ∈ t, mayP e = true) (hc : mayC [] cs = true) : ∀ e ∈ chgd t cs, mayP e = true := by
  intro e he
  rcases chgd_mem he with h | ⟨c, hcm, rfl, hk⟩
  · exact ht e h
  · exact okC_new (mayC_all hc c hcm) hk
theorem may_short {t : List Ent} (h : ∀ e ∈ t, mayP e = true) : Short t := by
  intro e he
  have h1 := okP_short (mayP_ok (h e he))
  have h2 := h e he
  unfold mayP at h2
  simp only [Bool.and_eq_true, decide_eq_true_iff] at h2
  refine ⟨by omega, ?_⟩
  rcases h2.2 with h3 | h3 | h3
  · omega
  · rw [h3.2]; simp
  · omega
theorem may_shr' {e : Ent} (h : mayP e = true) : Shr e := by
  have h1 := okP_short (mayP_ok h)
  refine ⟨by omega, ?_⟩
  unfold mayP at h
  simp only [Bool.and_eq_true, decide_eq_true_iff] at h
  rcases h.2 with h2 | h2 | h2
  · omega
  · rw [h2.2]; simp
  · omega

set_option maxRecDepth 100000 in
set_option maxHeartbeats 4000000 in
theorem apply_any (vt vl : Value) (t : List Ent) (cs : List Chg) (w : World) (ht : Ents w vt t) (h : Chgs w vl cs) (hst : Short t) (hnt : t.length ≤ 4611686018427387904) (hs : ShortC cs) (hn : cs.length ≤ 549755813888) :
    Calls Try.prog 25 #[vt, vl] w fun r w' => AnsE w' w.heap.size r (apP t cs) ∧ Below w.heap.size w w' := by
  obtain ⟨E0, HE0⟩ : ∃ E : Int, Hid ((chkP t).2 = E) := ⟨_, rfl⟩
  have HR := hid (right_one vt t w ht hst hnt E0 HE0.out)
  have HMY := hid (fun W (hW : Below w.heap.size w W) => changesMay_any vl cs W (h.below hW) hs (by omega))
  have HET := hid ht
  have HL := hid h
  obtain ⟨to, tc, rfl⟩ := ht.shape
  obtain ⟨ao, cc, rfl⟩ := h.shape
  have HU := hid Try.underlying82
  clear ht h hst hs
  by_cases h0 : E0 = 0
  · subst h0
    have hrt := rgt_iff.1 HE0.out
    cases hmb : mayC [] cs with
    | false =>
      have HAP := hid (show apP t cs = .error 1 from by unfold apP; rw [if_neg (by simpa using HE0.out), if_pos hmb])
      rw [hmb] at HMY
      clear hrt hmb
      go_enter Try.func25, Try.ntmps25
      go_wp2_with fail
      refine HR.out.mono ?_
      rintro r w1 ⟨rfl, hb1⟩
      have HB1 := hid hb1
      clear hb1 HR
      go_wp2_with fail
      refine (HMY.out w1 HB1.out).mono ?_
      rintro r w2 ⟨rfl, hb2⟩
      have HB2 := hid (below_then HB1.out hb2)
      clear hb2 HMY
      go_wp2
      go_ret2
      rw [HAP.out]
      exact ⟨rfl, HB2.out⟩
    | true =>
      rw [hmb] at HMY
      have HRT := hid hrt
      have HMB := hid hmb
      have HAL := hid (mayC_all hmb)
      have HST := hid (fun (c : Chg) (hc : c ∈ cs) W (hW : Below w.heap.size w W) => standing_any _ t c.1 W (HET.out.below hW) hrt.up (fun e he => mayP_ok (hrt.may e he)) (okC_path (mayC_all hmb c hc)).1 hrt.many)
      have HCH := hid (fun W (hW : Below w.heap.size w W) => changed_any _ _ t cs W (HET.out.below hW) (HL.out.below hW) hrt.up (fun e he => mayP_ok (hrt.may e he)) hrt.many (fun c hc => (okC_path (mayC_all hmb c hc)).1) (by omega))
      clear hrt hmb
      go_enter Try.func25, Try.ntmps25
      go_wp2_with fail
      refine HR.out.mono ?_
      rintro r w1 ⟨rfl, hb1⟩
      have HB1 := hid hb1
      clear hb1 HR
      go_wp2_with fail
      refine (HMY.out w1 HB1.out).mono ?_
      rintro r w2 ⟨rfl, hb2⟩
      have HB2 := hid (below_then HB1.out hb2)
      clear hb2 HMY HB1
      go_wp2
      go_loopw [22] (fun i wr => ∃ k : Nat, i = .int .i64 k ∧ k ≤ cs.length ∧ (∀ j, j < k → stP t (cs.getD j zC).1 = (cs.getD j zC).2.1) ∧ Below w.heap.size w wr) (fun i _ => cs.length - (intOf i).toNat)
      case atStart => exact ⟨0, rfl, Nat.zero_le _, fun j hj => by omega, HB2.out⟩
      case round =>
        obtain ⟨k, rfl, hk, hsk, hb⟩ := hrel
        have HB := hid hb
        have HSK := hid hsk
        clear hb hsk HB2
        by_cases hlt : k < cs.length
        · have q1 : (k : Int) < (cs.length : Int) := by omega
          have hw1 : IntKind.i64.wrap ((k : Int) + 1) = ((k + 1 : Nat) : Int) := by rw [IntKind.wrap_i64]; omega
          obtain ⟨c, HCD⟩ : ∃ c, Hid (cs.getD k zC = c) := ⟨_, rfl⟩
          obtain ⟨g, o, rfl, hgl, hrl⟩ := (HL.out.below HB.out).range k hlt c HCD.out
          have HRL := hid hrl
          have hcm : c ∈ cs := by rw [← HCD.out]; exact getC_mem hlt
          have HI := hid (info_chg7 c)
          have HO := hid (one_chg7 c)
          have HT := hid (Cb.new wr zC).there
          have HC4 := hid ((Cb.new wr zC).all c)
          have HB4 := hid (belowCs HB.out.size (chgV c) 0 _ (HB.out.alloc HB.out.size (.cells #[.string ⟨#[]⟩, .string ⟨#[]⟩, .int .i64 0, .string ⟨#[]⟩, .string ⟨#[]⟩, .int .i64 0, .string ⟨#[]⟩] 82)))
          change Hid (Cb ((wr.alloc (.cells #[.string ⟨#[]⟩, .string ⟨#[]⟩, .int .i64 0, .string ⟨#[]⟩, .string ⟨#[]⟩, .int .i64 0, .string ⟨#[]⟩] 82)).setCells wr.heap.size 0 (chgV c).toArray.toList) wr.heap.size c) at HC4
          change Hid (Below w.heap.size w ((wr.alloc (.cells #[.string ⟨#[]⟩, .string ⟨#[]⟩, .int .i64 0, .string ⟨#[]⟩, .string ⟨#[]⟩, .int .i64 0, .string ⟨#[]⟩] 82)).setCells wr.heap.size 0 (chgV c).toArray.toList)) at HB4
          have HSC := hid (HST.out c hcm)
          obtain ⟨s, HSS⟩ : ∃ s, Hid (stP t c.1 = s) := ⟨_, rfl⟩
          rw [HSS.out] at HSC
          unfold entA at HSC
          have hg := entG
          have hne := fun W => neq_ent s c.2.1 W
          have HBAD := hid (fun (hx : ¬ s = c.2.1) => show apP t cs = .error 8 from by
            unfold apP
            rw [if_neg (by simpa using HE0.out), if_neg (by rw [HMB.out]; simp), if_pos ?_]
            rw [List.any_eq_true]
            exact ⟨c, hcm, by rw [HSS.out]; simpa using hx⟩)
          have HGO := hid (fun (hx : s = c.2.1) j (hj : j < k + 1) => show stP t (cs.getD j zC).1 = (cs.getD j zC).2.1 from by
            rcases Nat.lt_or_ge j k with h1 | h1
            · exact HSK.out j h1
            · obtain rfl : j = k := by omega
              rw [HCD.out, HSS.out, hx])
          clear hrl hcm hgl
          go_wp2_with (first | (refine wpList_load_mid (by rfl) 82 (.tmp 24) (by rfl) g (o + k * 7) (by rfl) (chgV c) _ HRL.out HU.out rfl HI.out ?_; clear HRL) | (refine wpList_store_mid (by rfl) 82 (.tmp 8) (.tmp 25) (by rfl) wr.heap.size 0 (chgV c).toArray (by rfl) (by rfl) HT.out HI.out HO.out ?_; clear HT; obtain ⟨w4, hw4⟩ : ∃ w4, w4 = (wr.alloc (.cells #[.string ⟨#[]⟩, .string ⟨#[]⟩, .int .i64 0, .string ⟨#[]⟩, .string ⟨#[]⟩, .int .i64 0, .string ⟨#[]⟩] 82)).setCells wr.heap.size 0 (chgV c).toArray.toList := ⟨_, rfl⟩; rw [← hw4] at HC4 HB4 ⊢; clear hw4; obtain ⟨C, HC⟩ : ∃ C : Nat, Hid (wr.heap.size = C) := ⟨_, rfl⟩; rw [HC.out] at HC4 ⊢))
          try simp only [Act.put]
          have HLT := hid HC4.out.lt
          obtain ⟨z0, z1, z2, z3, z4, z5, z6⟩ := HC4.out.at
          have x0 := fun p : Bel w4 => p.cell z0 HLT.out
          have x1 := fun p : Bel w4 => p.cell z1 HLT.out
          have x2 := fun p : Bel w4 => p.cell z2 HLT.out
          have x3 := fun p : Bel w4 => p.cell z3 HLT.out
          have ib : Nonempty (Bel w4) := bel_some w4
          have HS5 := hid (fun p : Bel w4 => HSC.out p.out (below_then HB4.out p.bel))
          clear z0 z1 z2 z3 z4 z5 z6 HSC
          by_cases hx : s = c.2.1
          · have HGO2 := hid (HGO.out hx)
            rw [decide_eq_true hx] at hne
            clear hx HGO HBAD
            refine wp_region_quiet_bel (by kernel_rfl) (by kernel_rfl) ?_
            repeat (go_big_quiet_step (first | (go_at_call 42; exact bel_of (HS5.out _))))
            refine wpQuiet_nil ?_
            rintro w5 ⟨⟨w5', hb5⟩, hw5⟩
            obtain rfl : w5 = w5' := hw5
            have HB5 := hid (below_then HB4.out hb5)
            clear hb5 x0 x1 x2 x3 ib HS5
            go_wp2
            exact ⟨⟨k + 1, by simp, by omega, HGO2.out, HB5.out⟩, by simp [intOf]; omega⟩
          · have HBD := hid (HBAD.out hx)
            rw [decide_eq_false hx] at hne
            clear hx HGO HBAD
            refine wp_region_quiet_bel (by kernel_rfl) (by kernel_rfl) ?_
            repeat (go_big_quiet_step (first | (go_at_call 42; exact bel_of (HS5.out _))))
            refine wpQuiet_nil ?_
            rintro w5 ⟨⟨w5', hb5⟩, hw5⟩
            obtain rfl : w5 = w5' := hw5
            have HB5 := hid (below_then HB4.out hb5)
            clear hb5 x0 x1 x2 x3 ib HS5
            go_wp2
            go_ret2
            rw [HBD.out]
            exact ⟨rfl, HB5.out⟩
        · have q1 : ¬ (k : Int) < (cs.length : Int) := by omega
          obtain rfl : k = cs.length := by omega
          have HAP := hid (show apP t cs = if (chkP (chgd t cs)).2 ≠ 0 then .error (chkP (chgd t cs)).2 else .ok (chgd t cs) from by
            unfold apP
            rw [if_neg (by simpa using HE0.out), if_neg (by rw [HMB.out]; simp), if_neg ?_]
            rw [List.any_eq_true]
            rintro ⟨c, hc, hd⟩
            obtain ⟨j, hj, rfl⟩ := List.getElem_of_mem hc
            have := HSK.out j hj
            rw [List.getD_eq_getElem?_getD, List.getElem?_eq_getElem hj] at this
            simp only [Option.getD_some] at this
            simp [this] at hd)
          have HMN := hid (chgd_short HRT.out.may HMB.out)
          have HLN := hid (chgd_len cs t)
          have HMT := hid HRT.out.many
          have HC5 := hid (HCH.out wr HB.out)
          clear HSK HCH HST HAL
          generalize chgd t cs = nx at *
          go_wp2_with fail
          refine HC5.out.mono ?_
          rintro r w5 ⟨v5, rfl, ho5, hb5⟩
          have HB5 := hid (below_then HB.out hb5)
          have HEN := hid ho5.ents
          obtain ⟨a5, c5, e5⟩ := ho5.ents.shape
          obtain ⟨n5, HN5⟩ : ∃ n : Nat, Hid (nx.length = n) := ⟨_, rfl⟩
          rw [HN5.out] at e5
          subst e5
          obtain ⟨E1, HE1⟩ : ∃ E : Int, Hid ((chkP nx).2 = E) := ⟨_, rfl⟩
          have HR2 := hid (right_one _ nx w5 HEN.out (may_short HMN.out) (by have := HLN.out; have := HMT.out; omega) E1 HE1.out)
          have HOW := hid (fun W (hW : Below w5.heap.size w5 W) => own_any _ nx W (HEN.out.below hW) (by have := HLN.out; have := HMT.out; omega) (fun e he => may_shr' (HMN.out e he)))
          rw [HE1.out] at HAP
          clear ho5 hb5 HC5
          go_wp2_with fail
          refine HR2.out.mono ?_
          rintro r w6 ⟨rfl, hb6⟩
          have HB6 := hid (below_then HB5.out hb6)
          have HOW6 := hid (HOW.out w6 hb6)
          clear hb6 HR2 HOW
          by_cases h1 : E1 = 0
          · subst h1
            rw [if_neg (by simp)] at HAP
            go_wp2_with fail
            refine HOW6.out.mono ?_
            rintro r w7 ⟨v7, rfl, ho7, hb7⟩
            have HB7 := hid (below_then HB6.out hb7)
            have HO7 := hid (ho7.le HB6.out.size)
            obtain ⟨a7, n7, c7, e7⟩ : ∃ a n c, v7 = .slice a n c := by obtain ⟨a, c, e⟩ := ho7.ents.shape; exact ⟨a, _, c, e⟩
            subst e7
            clear ho7 hb7
            go_wp2
            go_ret2
            rw [HAP.out]
            exact ⟨⟨_, rfl, HO7.out⟩, HB7.out⟩
          · rw [if_pos h1] at HAP
            have e1 : (E1 == 0) = false := by simpa using h1
            go_wp2
            go_ret2
            rw [HAP.out]
            exact ⟨rfl, HB6.out⟩
  · have HAP := hid (show apP t cs = .error E0 from by unfold apP; rw [HE0.out, if_pos h0])
    have e1 : (E0 == 0) = false := by simpa using h0
    clear h0 HMY
    go_enter Try.func25, Try.ntmps25
    go_wp2_with fail
    refine HR.out.mono ?_
    rintro r w1 ⟨rfl, hb1⟩
    have HB1 := hid hb1
    clear hb1 HR
    go_wp2
    go_ret2
    rw [HAP.out]
    exact ⟨rfl, HB1.out⟩

end Go.Proofs.Ytgldmepmeampeaa

/- A region in which no step can panic. -/
namespace Go.Proofs.Ytgldmepmeampeaa
open Go.RowKit
variable {P : Program}

/-- what must be shown where no step can panic -/
def noPanic (Q : Exit → Act → World → Prop) : Exit → Act → World → Prop := fun e a w => match e with
  | .panic _ => False
  | e => Q e a w
theorem wp_noPanic {c : Code} {Q : Exit → Act → World → Prop} {a : Act} {w : World} (h : c.wp P (noPanic Q) a w) : c.wp P Q a w :=
  Code.wp_mono (fun e a w h => by
    cases e
    all_goals first | exact h | exact h.elim) h

end Go.Proofs.Ytgldmepmeampeaa

/- The document's Sort. -/
namespace Go.Proofs.Ytgldmepmeampeaa
open Go.RowKit Go.BigFrame

/-- no later one ahead of an earlier one -/
def UpE (l : List Ent) : Prop := l.Pairwise (fun a b => ¬ cmpL (nms b.1) (nms a.1) < 0)
theorem cmpL_nlt {a b : List (List UInt8)} : ¬ cmpL b a < 0 ↔ cmpL a b ≤ 0 := by
  have := cmpL_anti a b
  omega
/-- how far two rising rows are joined: o is done, a and b are left -/
structure Mrg (t o a b : List Ent) : Prop where
  perm : (o ++ (a ++ b)).Perm t
  up : UpE o
  ua : UpE a
  ub : UpE b
  oa : ∀ x ∈ o, ∀ y ∈ a, ¬ cmpL (nms y.1) (nms x.1) < 0
  ob : ∀ x ∈ o, ∀ y ∈ b, ¬ cmpL (nms y.1) (nms x.1) < 0
theorem Mrg.stepA {t o a b : List Ent} {x : Ent} (h : Mrg t o (x :: a) b) (hb : ∀ y ∈ b, ¬ cmpL (nms y.1) (nms x.1) < 0) : Mrg t (o ++ [x]) a b := by
  have hu := h.ua
  unfold UpE at hu
  rw [List.pairwise_cons] at hu
  refine ⟨?_, ?_, hu.2, h.ub, ?_, ?_⟩
  · have := h.perm
    rw [List.append_assoc]
    exact this
  · unfold UpE
    rw [List.pairwise_append]
    refine ⟨h.up, List.pairwise_singleton _ _, fun p hp q hq => ?_⟩
    rw [List.mem_singleton] at hq
    subst hq
    exact h.oa p hp q (by simp)
  · intro p hp q hq
    rw [List.mem_append, List.mem_singleton] at hp
    rcases hp with hp | rfl
    · exact h.oa p hp q (by simp [hq])
    · exact hu.1 q hq
  · intro p hp q hq
    rw [List.mem_append, List.mem_singleton] at hp
    rcases hp with hp | rfl
    · exact h.ob p hp q hq
    · exact hb q hq
theorem Mrg.stepB {t o a b : List Ent} {x : Ent} (h : Mrg t o a (x :: b)) (ha : ∀ y ∈ a, ¬ cmpL (nms y.1) (nms x.1) < 0) : Mrg t (o ++ [x]) a b := by
  have hu := h.ub
  unfold UpE at hu
  rw [List.pairwise_cons] at hu
  refine ⟨?_, ?_, h.ua, hu.2, ?_, ?_⟩
  · have := h.perm
    refine List.Perm.trans ?_ this
    rw [List.append_assoc]
    exact List.Perm.append_left o (show (x :: (a ++ b)).Perm (a ++ x :: b) from List.perm_middle.symm)
  · unfold UpE
    rw [List.pairwise_append]
    refine ⟨h.up, List.pairwise_singleton _ _, fun p hp q hq => ?_⟩
    rw [List.mem_singleton] at hq
    subst hq
    exact h.ob p hp q (by simp)
  · intro p hp q hq
    rw [List.mem_append, List.mem_singleton] at hp
    rcases hp with hp | rfl
    · exact h.oa p hp q hq
    · exact ha q hq
  · intro p hp q hq
    rw [List.mem_append, List.mem_singleton] at hp
    rcases hp with hp | rfl
    · exact h.ob p hp q (by simp [hq])
    · exact hu.1 q hq
theorem Mrg.done {t o a b : List Ent} (h : Mrg t o a b) (h0 : a = [] ∨ b = []) : (o ++ a ++ b).Perm t ∧ UpE (o ++ a ++ b) := by
  refine ⟨by rw [List.append_assoc]; exact h.perm, ?_⟩
  unfold UpE
  rw [List.append_assoc, List.pairwise_append]
  rcases h0 with rfl | rfl
  · exact ⟨h.up, h.ub, fun x hx y hy => h.ob x hx y hy⟩
  · rw [List.append_nil]
    exact ⟨h.up, h.ua, fun x hx y hy => h.oa x hx y hy⟩
theorem up_head {x : Ent} {a : List Ent} (h : UpE (x :: a)) : ∀ y ∈ x :: a, ¬ cmpL (nms y.1) (nms x.1) < 0 := by
  intro y hy
  rw [List.mem_cons] at hy
  rcases hy with rfl | hy
  · rw [cmpL_self]; omega
  · unfold UpE at h
    rw [List.pairwise_cons] at h
    exact h.1 y hy
/-- what Sort answers -/
def SortA (w : World) (t : List Ent) (r : Ending) (w' : World) : Prop := ∃ v l, r = .returned v ∧ OwnE w' w.heap.size v l ∧ l.Perm t ∧ UpE l ∧ Below w.heap.size w w'
theorem slice_shape {v : Value} {es : List Ent} {w : World} (h : Ents w v es) : ∃ a n c, v = .slice a n c := by
  obtain ⟨a, c, e⟩ := h.shape
  exact ⟨a, _, c, e⟩

set_option maxRecDepth 100000 in
set_option maxHeartbeats 1000000 in
theorem rsort_small (t : List Ent) (h2 : t.length < 2) (v : Value) (w : World) (h : Ents w v t) : Calls Try.prog 39 #[v] w (SortA w t) := by
  obtain ⟨ao, c, rfl⟩ := h.shape
  have H := hid h
  have q1 : (t.length : Int) < 2 := by omega
  have HU : Hid (UpE t) := by
    unfold UpE
    match t, h2 with
    | [], _ => exact List.Pairwise.nil
    | [x], _ => exact List.pairwise_singleton _ _
  have HLN := hid (show ([] : List Ent).length + t.length ≤ 3298534883328 by simp; omega)
  clear h h2
  go_enter Try.func39, Try.ntmps39
  go_wp2_with (at_builtin; refine app_ent rfl _ _ rfl w.heap.size _ [] rfl (OwnE.nil _ _) t _ rfl H.out HLN.out (Nat.le_refl _) ?_)
  intro v5 w5 ho5 hg5 _
  have HO5 := hid ho5
  have HB5 := hid (gb_below hg5)
  obtain ⟨a5, c5, h5⟩ := ho5.ents.shape
  generalize ([] ++ t).length = n5 at h5
  subst h5
  clear ho5 hg5
  go_wp2
  go_ret
  exact ⟨_, t, rfl, HO5.out, List.Perm.refl _, HU.out, HB5.out⟩

set_option maxRecDepth 100000 in
set_option maxHeartbeats 4000000 in
theorem rsort_any : ∀ (f : Nat) (t : List Ent), t.length ≤ f → t.length ≤ 1099511627776 → (∀ e ∈ t, okP e.1 = true) → ∀ (v : Value) (w : World), Ents w v t →
    Calls Try.prog 39 #[v] w (SortA w t) := by
  intro f
  induction f with
  | zero =>
    intro t hf hn hok v w h
    exact rsort_small t (by omega) v w h
  | succ f ih =>
    intro t hf hn hok v w h
    obtain ⟨ao, c, rfl⟩ := h.shape
    have H := hid h
    have HIH := hid ih
    have HOK := hid hok
    by_cases h2 : t.length < 2
    · exact rsort_small t h2 _ w h
    · have q1 : ¬ (t.length : Int) < 2 := by omega
      obtain ⟨m, HM⟩ : ∃ m : Nat, Hid (m = t.length / 2) := ⟨_, rfl⟩
      have hm1 : 1 ≤ m := by rw [HM.out]; omega
      have hm2 : m < t.length := by rw [HM.out]; omega
      have hq : ((t.length : Nat) : Int).tdiv 2 = (m : Int) := by rw [HM.out]; rfl
      have hwm : IntKind.i64.wrap (m : Int) = (m : Int) := by rw [IntKind.wrap_i64]; omega
      obtain ⟨va, hva, hs1⟩ := ecut_to h m (by omega)
      obtain ⟨vb, hvb, hs2⟩ := ecut_from h m (by omega)
      obtain ⟨aa, na, ca, ea⟩ := slice_shape hva
      obtain ⟨ab, nb, cb', eb⟩ := slice_shape hvb
      subst ea eb
      have HVA := hid hva
      have HVB := hid hvb
      have HTD := hid (List.take_append_drop m t)
      have HS1 := hid hs1
      have HS2 := hid hs2
      clear hva hvb h ih hok h2 hs1 hs2
      go_enter Try.func39, Try.ntmps39
      go_wp2_with fail
      refine wp_noPanic (wp_region_held_drew (S := fun _ => True) (by kernel_rfl) trivial ?_)
      intro hHeld
      refine wpAnyH_take (i := 0) (v := .slice ao t.length c) rfl (by kernel_rfl) (by kernel_rfl) (by kernel_rfl) (fun _ _ _ h => h) (Or.inl ⟨by rfl, fun W _ => by go_simp⟩) hHeld ?_
      simp only [Act.put, List.getElem_toArray, List.getElem_cons_zero, List.setIfInBounds_toArray, List.set_cons_succ, List.set_cons_zero]
      refine wpAnyH_take (i := 1) (v := .slice ao t.length c) rfl (by kernel_rfl) (by kernel_rfl) (by kernel_rfl) (fun _ _ _ h => h) (Or.inl ⟨by rfl, fun W _ => by go_simp⟩) hHeld ?_
      simp only [Act.put, List.getElem_toArray, List.getElem_cons_zero, List.getElem_cons_succ, List.setIfInBounds_toArray, List.set_cons_succ, List.set_cons_zero]
      refine wpAnyH_take (i := 2) (v := .int .i64 (t.length : Int)) rfl (by kernel_rfl) (by kernel_rfl) (by kernel_rfl) (fun _ _ _ h => h) (Or.inl ⟨by rfl, fun W _ => by go_simp⟩) hHeld ?_
      simp only [Act.put, List.getElem_toArray, List.getElem_cons_zero, List.getElem_cons_succ, List.setIfInBounds_toArray, List.set_cons_succ, List.set_cons_zero]
      refine wpAnyH_take (i := 3) (v := .int .i64 (m : Int)) rfl (by kernel_rfl) (by kernel_rfl) (by kernel_rfl) (fun _ _ _ h => h) (Or.inl ⟨by rfl, fun W _ => by have hfact := hwm; go_simp; first | done | simp [hfact]⟩) hHeld ?_
      simp only [Act.put, List.getElem_toArray, List.getElem_cons_zero, List.getElem_cons_succ, List.setIfInBounds_toArray, List.set_cons_succ, List.set_cons_zero]
      refine wpAnyH_take (i := 4) (v := .slice aa na ca) rfl (by kernel_rfl) (by kernel_rfl) (by kernel_rfl) (fun _ _ _ h => h) (Or.inl ⟨by rfl, fun W _ => by have hfact := HS1.out W; go_simp; first | done | simp [hfact]⟩) hHeld ?_
      simp only [Act.put, List.getElem_toArray, List.getElem_cons_zero, List.getElem_cons_succ, List.setIfInBounds_toArray, List.set_cons_succ, List.set_cons_zero]
      refine wpAnyH_take (i := 6) (v := .slice ao t.length c) rfl (by kernel_rfl) (by kernel_rfl) (by kernel_rfl) (fun _ _ _ h => h) (Or.inl ⟨by rfl, fun W _ => by go_simp⟩) hHeld ?_
      simp only [Act.put, List.getElem_toArray, List.getElem_cons_zero, List.getElem_cons_succ, List.setIfInBounds_toArray, List.set_cons_succ, List.set_cons_zero]
      refine wpAnyH_take (i := 7) (v := .slice ao t.length c) rfl (by kernel_rfl) (by kernel_rfl) (by kernel_rfl) (fun _ _ _ h => h) (Or.inl ⟨by rfl, fun W _ => by go_simp⟩) hHeld ?_
      simp only [Act.put, List.getElem_toArray, List.getElem_cons_zero, List.getElem_cons_succ, List.setIfInBounds_toArray, List.set_cons_succ, List.set_cons_zero]
      refine wpAnyH_take (i := 8) (v := .int .i64 (t.length : Int)) rfl (by kernel_rfl) (by kernel_rfl) (by kernel_rfl) (fun _ _ _ h => h) (Or.inl ⟨by rfl, fun W _ => by go_simp⟩) hHeld ?_
      simp only [Act.put, List.getElem_toArray, List.getElem_cons_zero, List.getElem_cons_succ, List.setIfInBounds_toArray, List.set_cons_succ, List.set_cons_zero]
      refine wpAnyH_take (i := 9) (v := .int .i64 (m : Int)) rfl (by kernel_rfl) (by kernel_rfl) (by kernel_rfl) (fun _ _ _ h => h) (Or.inl ⟨by rfl, fun W _ => by have hfact := hwm; go_simp; first | done | simp [hfact]⟩) hHeld ?_
      simp only [Act.put, List.getElem_toArray, List.getElem_cons_zero, List.getElem_cons_succ, List.setIfInBounds_toArray, List.set_cons_succ, List.set_cons_zero]
      refine wpAnyH_take (i := 10) (v := .slice ab nb cb') rfl (by kernel_rfl) (by kernel_rfl) (by kernel_rfl) (fun _ _ _ h => h) (Or.inl ⟨by rfl, fun W _ => by have hfact := HS2.out W; go_simp; first | done | simp [hfact]⟩) hHeld ?_
      simp only [Act.put, List.getElem_toArray, List.getElem_cons_zero, List.getElem_cons_succ, List.setIfInBounds_toArray, List.set_cons_succ, List.set_cons_zero]
      refine wpAnyH_ready (rs := [5]) (by kernel_rfl) (by simp) ?_
      refine AllReadyH.cons rfl (fun K hK => ?_) AllReadyH.nil
      go_simp
      refine (HIH.out (t.take m) (by rw [List.length_take]; omega) (by rw [List.length_take]; omega) (fun e he => HOK.out e (List.mem_of_mem_take he)) _ w.drew (HVA.out.below (w' := w.drew) ⟨rfl, rfl, rfl, Nat.le_refl _, fun _ _ => rfl⟩)).mono ?_
      rintro r w1 ⟨v1, l1, rfl, ho1, hp1, hu1, hb1⟩
      obtain ⟨a1, n1, c1, e1⟩ := slice_shape ho1.ents
      subst e1
      have HO1 := hid ho1
      have HP1 := hid hp1
      have HU1 := hid hu1
      have HB1 : Hid (Below w.heap.size w w1) := ⟨hb1.os, hb1.tape, hb1.output, hb1.size, hb1.block⟩
      clear ho1 hp1 hu1 hb1
      go_wp2_with fail
      refine hK.out _ _ trivial (fun hHeld => ?_)
      clear hK K
      refine wpAnyH_ready (rs := [11]) (by kernel_rfl) (by simp) ?_
      refine AllReadyH.cons rfl (fun K hK => ?_) AllReadyH.nil
      go_simp
      refine (HIH.out (t.drop m) (by rw [List.length_drop]; omega) (by rw [List.length_drop]; omega) (fun e he => HOK.out e (List.mem_of_mem_drop he)) _ _ (HVB.out.below HB1.out)).mono ?_
      rintro r w2 ⟨v2, l2, rfl, ho2, hp2, hu2, hb2⟩
      obtain ⟨a2, n2, c2, e2⟩ := slice_shape ho2.ents
      subst e2
      have HO2 := hid (ho2.le HB1.out.size)
      have HO12 := hid (HO1.out.below hb2)
      have HP2 := hid hp2
      have HU2 := hid hu2
      have HB2 := hid (below_then HB1.out hb2)
      clear ho2 hp2 hu2 hb2 HO1 HB1
      go_wp2_with fail
      refine hK.out _ _ trivial (fun hHeld => ?_)
      clear hK K
      refine wpAnyH_take (i := 12) (v := .slice a1 n1 c1) rfl (by kernel_rfl) (by kernel_rfl) (by kernel_rfl) (fun _ _ _ h => h) (Or.inl ⟨by rfl, fun W _ => by go_simp⟩) hHeld ?_
      simp only [Act.put, List.getElem_toArray, List.getElem_cons_zero, List.getElem_cons_succ, List.setIfInBounds_toArray, List.set_cons_succ, List.set_cons_zero]
      refine wpAnyH_take (i := 13) (v := .slice a2 n2 c2) rfl (by kernel_rfl) (by kernel_rfl) (by kernel_rfl) (fun _ _ _ h => h) (Or.inl ⟨by rfl, fun W _ => by go_simp⟩) hHeld ?_
      simp only [Act.put, List.getElem_toArray, List.getElem_cons_zero, List.getElem_cons_succ, List.setIfInBounds_toArray, List.set_cons_succ, List.set_cons_zero]
      refine wpAnyH_done (by kernel_rfl) ?_ _
      simp only [noPanic]
      clear hHeld
      have HST : Hid (Mrg t [] l1 l2) := by
        refine ⟨?_, List.Pairwise.nil, HU1.out, HU2.out, fun x hx => (by cases hx), fun x hx => (by cases hx)⟩
        rw [List.nil_append]
        have := List.Perm.append HP1.out HP2.out
        rwa [HTD.out] at this
      have HE1 := hid HO12.out.ents
      have HE2 := hid HO2.out.ents
      clear HO12 HO2 HP1 HP2 HU1 HU2 HVA HVB HIH H
      go_wp2_with fail
      go_loopw [3, 4, 5] (fun va vb vo wr => ∃ o a b, Mrg t o a b ∧ OwnE wr w2.heap.size vo o ∧ Ents w2 va a ∧ Ents w2 vb b ∧ Below w2.heap.size w2 wr) (fun va vb _ _ => lenV va + lenV vb)
      case atStart => exact ⟨[], l1, l2, HST.out, OwnE.nil _ _, HE1.out, HE2.out, Below.refl _ _⟩
      case round =>
        obtain ⟨o, a, b, hmg, ho, hea, heb, hbw⟩ := hrel
        have HMG := hid hmg
        have HO := hid ho
        have HEA := hid hea
        have HEB := hid heb
        have HBW := hid hbw
        obtain ⟨aa', ca', ha'⟩ := hea.shape
        obtain ⟨ab', cb2, hb'⟩ := heb.shape
        obtain ⟨ao', no', co', ho'⟩ := slice_shape ho.ents
        have HLO := hid (show o.length + (a.length + b.length) ≤ 1099511627776 by have := hmg.perm.length_eq; simp only [List.length_append] at this; omega)
        clear hmg ho hea heb hbw HST HE1 HE2
        subst ha' hb' ho'
        by_cases hpos : 0 < a.length ∧ 0 < b.length
        · obtain ⟨x, a', rfl⟩ : ∃ x a', a = x :: a' := by
            cases a with
            | nil => simp at hpos
            | cons x a' => exact ⟨x, a', rfl⟩
          obtain ⟨y, b', rfl⟩ : ∃ y b', b = y :: b' := by
            cases b with
            | nil => simp at hpos
            | cons y b' => exact ⟨y, b', rfl⟩
          clear hpos
          obtain ⟨n1', HN1⟩ : ∃ n : Nat, Hid (n = (x :: a').length) := ⟨_, rfl⟩
          obtain ⟨n2', HN2⟩ : ∃ n : Nat, Hid (n = (y :: b').length) := ⟨_, rfl⟩
          have hn1 : 0 < n1' := by rw [HN1.out]; simp
          have hn2 : 0 < n2' := by rw [HN2.out]; simp
          obtain ⟨g1, o1, hg1, hl1, hx⟩ := HEA.out.at 0 (by simp)
          obtain ⟨g2, o2, hg2, hl2, hy⟩ := HEB.out.at 0 (by simp)
          have hx := hx.below hl1 HBW.out
          have hy := hy.below hl2 HBW.out
          rw [Nat.zero_mul, Nat.add_zero] at hx hy
          have HX : Hid (EntAt wr g1 o1 x) := hx
          have HY : Hid (EntAt wr g2 o2 y) := hy
          obtain ⟨va1, hva1, hsa⟩ := ecut_from HEA.out 1 (by simp)
          obtain ⟨vb1, hvb1, hsb⟩ := ecut_from HEB.out 1 (by simp)
          rw [← HN1.out] at hsa ⊢
          rw [← HN2.out] at hsb ⊢
          subst hg1 hg2
          have HSA : Hid (∀ W, (Instr.slice 22 (.slice (some ⟨g1, o1, none⟩) n1' ca') (some (.int .i64 1)) none none).run Try.prog W = .ok va1 W) := hsa
          have HSB : Hid (∀ W, (Instr.slice 22 (.slice (some ⟨g2, o2, none⟩) n2' cb2) (some (.int .i64 1)) none none).run Try.prog W = .ok vb1 W) := hsb
          have HVA1 : Hid (Ents w2 va1 a') := hva1
          have HVB1 : Hid (Ents w2 vb1 b') := hvb1
          obtain ⟨za, ya, hza⟩ := hva1.shape
          obtain ⟨zb, yb, hzb⟩ := hvb1.shape
          rw [show ((x :: a').drop 1) = a' from rfl] at hza
          rw [show ((y :: b').drop 1) = b' from rfl] at hzb
          have hla : a'.length < n1' := by rw [HN1.out]; simp
          have hlb : b'.length < n2' := by rw [HN2.out]; simp
          have hG1 := Nat.lt_of_lt_of_le hl1 HBW.out.size
          have hG2 := Nat.lt_of_lt_of_le hl2 HBW.out.size
          have HG1 := hid hG1
          have HG2 := hid hG2
          have px := fun p : Bel wr => p.cell HX.out.1 HG1.out
          have py := fun p : Bel wr => p.cell HY.out.1 HG2.out
          have ib : Nonempty (Bel wr) := bel_some wr
          have HOX := hid (show okP x.1 = true from HOK.out x (HMG.out.perm.mem_iff.1 (by simp)))
          have HOY := hid (show okP y.1 = true from HOK.out y (HMG.out.perm.mem_iff.1 (by simp)))
          have HLS := hid (fun p : Bel wr => rless_any y.1 x.1 p.out (by have := okP_short HOY.out; omega) (by have := okP_short HOX.out; omega))
          have HLT := hid (ltP_iff HOY.out HOX.out)
          generalize ltP y.1 x.1 = X at *
          clear hx hy hsa hsb hva1 hvb1 hl1 hl2 hG1 hG2
          go_wp2_with fail
          refine wp_region_quiet_bel (by kernel_rfl) (by kernel_rfl) ?_
          repeat (go_big_quiet_step (first | (go_at_call 29; exact bel_of (HLS.out _))))
          refine wpQuiet_nil ?_
          rintro w3 ⟨⟨w3', hb3⟩, hw3⟩
          obtain rfl : w3 = w3' := hw3
          have HB3 := hid (HBW.out.trans (hb3.mono HBW.out.size))
          have HO3 := hid (HO.out.below hb3)
          have HX3 := hid (HX.out.below HG1.out hb3)
          have HY3 := hid (HY.out.below HG2.out hb3)
          clear hb3 px py ib HLS HX HY HO HBW HG1 HG2
          cases X with
          | true =>
            have hlt := HLT.out.1 rfl
            have HM2 := hid (HMG.out.stepB (fun z hz => by
              have h1 := up_head HMG.out.ua z hz
              rw [cmpL_nlt] at h1 ⊢
              exact cmpL_trans _ _ _ (by omega) h1))
            obtain ⟨y0, y1, y2⟩ := HY3.out
            have HEN := hid (ents_one w3 y)
            have HO4 := hid (HO3.out.below (below_walk w3 (.cells #[.string (mk y.1), .int .i64 y.2.1, .string (mk y.2.2)] 36)))
            have HB4 := hid (HB3.out.alloc HB3.out.size (.cells #[.string (mk y.1), .int .i64 y.2.1, .string (mk y.2.2)] 36))
            have HL4 := hid (show o.length + [y].length ≤ 3298534883328 by have := HLO.out; simp at *; omega)
            have hsb := HSB.out
            subst hzb
            clear hlt HLT HMG HX3 HY3
            go_wp2_with (at_builtin; refine app_ent rfl _ _ rfl w2.heap.size _ o rfl HO4.out [y] _ rfl HEN.out HL4.out HB4.out.size ?_)
            intro v5 w5 ho5 hg5 _
            have HO5 := hid ho5
            have HB5 := hid (HB4.out.grown hg5 HB4.out.size (fun j hj => (HO4.out.lt j hj).1))
            obtain ⟨a5, n5, c5, h5⟩ := slice_shape ho5.ents
            subst h5
            clear ho5 hg5 HO4 HB4 HEN y0 y1 y2
            go_wp2
            refine ⟨⟨o ++ [y], x :: a', b', HM2.out, HO5.out, by rw [HN1.out] ; exact HEA.out, HVB1.out, HB5.out⟩, ?_⟩
            simp [lenV]
            omega
          | false =>
            have hlt : ¬ cmpL (nms y.1) (nms x.1) < 0 := fun h => by have := HLT.out.2 h; cases this
            have HM2 := hid (HMG.out.stepA (fun z hz => by
              have h1 := up_head HMG.out.ub z hz
              rw [cmpL_nlt] at h1 hlt ⊢
              exact cmpL_trans _ _ _ hlt h1))
            obtain ⟨y0, y1, y2⟩ := HX3.out
            have HEN := hid (ents_one w3 x)
            have HO4 := hid (HO3.out.below (below_walk w3 (.cells #[.string (mk x.1), .int .i64 x.2.1, .string (mk x.2.2)] 36)))
            have HB4 := hid (HB3.out.alloc HB3.out.size (.cells #[.string (mk x.1), .int .i64 x.2.1, .string (mk x.2.2)] 36))
            have HL4 := hid (show o.length + [x].length ≤ 3298534883328 by have := HLO.out; simp at *; omega)
            have hsa := HSA.out
            subst hza
            clear hlt HLT HMG HX3 HY3
            go_wp2_with (at_builtin; refine app_ent rfl _ _ rfl w2.heap.size _ o rfl HO4.out [x] _ rfl HEN.out HL4.out HB4.out.size ?_)
            intro v5 w5 ho5 hg5 _
            have HO5 := hid ho5
            have HB5 := hid (HB4.out.grown hg5 HB4.out.size (fun j hj => (HO4.out.lt j hj).1))
            obtain ⟨a5, n5, c5, h5⟩ := slice_shape ho5.ents
            subst h5
            clear ho5 hg5 HO4 HB4 HEN y0 y1 y2
            go_wp2
            refine ⟨⟨o ++ [x], a', y :: b', HM2.out, HO5.out, HVA1.out, by rw [HN2.out] ; exact HEB.out, HB5.out⟩, ?_⟩
            simp [lenV]
            omega
        · have HDN := hid (HMG.out.done (by
            cases a with
            | nil => exact Or.inl rfl
            | cons x a' =>
              cases b with
              | nil => exact Or.inr rfl
              | cons y b' => exact absurd ⟨by simp, by simp⟩ hpos))
          have HEA2 := hid (HEA.out.below HBW.out)
          have HEB2 := hid (HEB.out.below HBW.out)
          have HL4 := hid (show o.length + a.length ≤ 3298534883328 by have := HLO.out; omega)
          have HL5 := hid (show (o ++ a).length + b.length ≤ 3298534883328 by have := HLO.out; rw [List.length_append]; omega)
          obtain ⟨n1', HN1⟩ : ∃ n : Nat, Hid (a.length = n) := ⟨_, rfl⟩
          obtain ⟨n2', HN2⟩ : ∃ n : Nat, Hid (b.length = n) := ⟨_, rfl⟩
          have hpos' : ¬ (0 < n1' ∧ 0 < n2') := by rw [HN1.out, HN2.out] at hpos; exact hpos
          rw [HN1.out] at HEA2 HEA ⊢
          rw [HN2.out] at HEB2 HEB ⊢
          have HFIN : Hid (∀ v5 w5, OwnE w5 w2.heap.size v5 (o ++ a) → wr.grownBy w5 (Value.slice ao' no' co').ownBlock → Below w2.heap.size w2 w5 ∧ Ents w5 (.slice ab' n2' cb2) b) := by
            intro v5 w5 _ hg5
            have hb5 := HBW.out.grown hg5 HBW.out.size (fun j hj => (HO.out.lt j hj).1)
            exact ⟨hb5, HEB.out.below hb5⟩
          clear hpos HMG
          by_cases h1 : 0 < n1'
          · have h2 : ¬ 0 < n2' := fun h => hpos' ⟨h1, h⟩
            have e1 : decide (0 < n1') = true := by simpa using h1
            clear hpos'
            go_wp2_with (at_builtin; refine app_ent rfl _ _ rfl w2.heap.size _ o rfl HO.out a _ rfl HEA2.out HL4.out HBW.out.size ?_)
            intro v5 w5 ho5 hg5 _
            obtain ⟨hb5, he5⟩ := HFIN.out v5 w5 ho5 hg5
            have HO5 := hid ho5
            have HB5 := hid hb5
            have HE5 := hid he5
            obtain ⟨a5, n5, c5, h5⟩ := slice_shape ho5.ents
            subst h5
            clear ho5 hg5 hb5 he5 HFIN HO HEA2 HEB2
            go_wp2_with (at_builtin; refine app_ent rfl _ _ rfl w2.heap.size _ (o ++ a) rfl HO5.out b _ rfl HE5.out HL5.out HB5.out.size ?_)
            intro v6 w6 ho6 hg6 _
            have HO6 := hid (ho6.le HB2.out.size)
            have HB6 := hid (below_then HB2.out (HB5.out.grown hg6 HB5.out.size (fun j hj => (HO5.out.lt j hj).1)))
            obtain ⟨a6, n6, c6, h6⟩ := slice_shape ho6.ents
            subst h6
            clear ho6 hg6 HO5 HB5 HE5
            go_wp2
            go_ret
            exact ⟨_, o ++ a ++ b, rfl, by rw [List.append_assoc]; exact HO6.out, HDN.out.1, HDN.out.2, HB6.out⟩
          · have e1 : decide (0 < n1') = false := by simpa using h1
            clear hpos'
            go_wp2_with (at_builtin; refine app_ent rfl _ _ rfl w2.heap.size _ o rfl HO.out a _ rfl HEA2.out HL4.out HBW.out.size ?_)
            intro v5 w5 ho5 hg5 _
            obtain ⟨hb5, he5⟩ := HFIN.out v5 w5 ho5 hg5
            have HO5 := hid ho5
            have HB5 := hid hb5
            have HE5 := hid he5
            obtain ⟨a5, n5, c5, h5⟩ := slice_shape ho5.ents
            subst h5
            clear ho5 hg5 hb5 he5 HFIN HO HEA2 HEB2
            go_wp2_with (at_builtin; refine app_ent rfl _ _ rfl w2.heap.size _ (o ++ a) rfl HO5.out b _ rfl HE5.out HL5.out HB5.out.size ?_)
            intro v6 w6 ho6 hg6 _
            have HO6 := hid (ho6.le HB2.out.size)
            have HB6 := hid (below_then HB2.out (HB5.out.grown hg6 HB5.out.size (fun j hj => (HO5.out.lt j hj).1)))
            obtain ⟨a6, n6, c6, h6⟩ := slice_shape ho6.ents
            subst h6
            clear ho6 hg6 HO5 HB5 HE5
            go_wp2
            go_ret
            exact ⟨_, o ++ a ++ b, rfl, by rw [List.append_assoc]; exact HO6.out, HDN.out.1, HDN.out.2, HB6.out⟩

end Go.Proofs.Ytgldmepmeampeaa

/- The document's Apply: its side, and what it writes in place. -/
namespace Go.Proofs.Ytgldmepmeampeaa
open Go.RowKit Go.BigFrame

set_option maxRecDepth 100000 in
set_option maxHeartbeats 2000000 in
theorem rside_any (e : Ent) (p : List UInt8) (w : World) (he : e.1.length ≤ 1048576) :
    Calls Try.prog 59 #[entA e, .string (mk p)] w fun r w' => r = .returned (.bool (sidP e p)) ∧ Below w.heap.size w w' := by
  have HM := hid (fun W : World => rmay_any e W he)
  have HB := hid (below_walk w (.cells #[.string (mk e.1), .int .i64 e.2.1, .string (mk e.2.2)] 36))
  have hg := entG
  have hz := fun W => eql_zero e W
  unfold entA at HM ⊢
  by_cases h0 : e = zE
  · have HP := hid (show sidP e p = true from by unfold sidP; rw [decide_eq_true h0]; rfl)
    rw [decide_eq_true h0] at hz
    clear h0 he HM
    generalize mk e.1 = s1 at *
    generalize mk e.2.2 = s2 at *
    go_enter Try.func59, Try.ntmps59
    go_wp2
    go_ret
    exact ⟨ret_bb HP.out.symm, HB.out⟩
  · rw [decide_eq_false h0] at hz
    by_cases hx : e.1 = p
    · have HP := hid (show sidP e p = mayP e from by unfold sidP; rw [decide_eq_false h0, decide_eq_true hx]; rfl)
      have e1 : (mk e.1).toList = (mk p).toList := by rw [hx]
      clear h0 he hx
      generalize mayP e = X at *
      generalize mk e.1 = s1 at *
      generalize mk e.2.2 = s2 at *
      generalize mk p = s3 at *
      go_enter Try.func59, Try.ntmps59
      go_wp2_with (go_at_call 28; refine (HM.out _).mono ?_; rintro r w1 ⟨rfl, hb1⟩; have HB1 := hid (below_then HB.out hb1); clear hb1)
      go_ret
      exact ⟨ret_bb HP.out.symm, HB1.out⟩
    · have HP := hid (show sidP e p = false from by unfold sidP; rw [decide_eq_false h0, decide_eq_false hx]; rfl)
      have e1 : ¬ (mk e.1).toList = (mk p).toList := fun h => hx ((bl_mk e.1).symm.trans (h.trans (bl_mk p)))
      have e2 : ((mk e.1).toList == (mk p).toList) = false := by simpa using e1
      clear h0 he hx HM
      generalize mk e.1 = s1 at *
      generalize mk e.2.2 = s2 at *
      generalize mk p = s3 at *
      go_enter Try.func59, Try.ntmps59
      go_wp2
      go_ret
      exact ⟨ret_bb HP.out.symm, HB.out⟩

theorem Eb.lt {w : World} {g : Nat} {e : Ent} (h : Eb w g e) : g < w.heap.size := hp_lt h
theorem Eb.there {w : World} {g : Nat} {e : Ent} (h : Eb w g e) : w.there g 0 3 := by
  intro j hj
  refine ⟨?_, h.fz _⟩
  unfold Eb at h
  match j, hj with
  | 0, _ => simp [World.cell?, h]
  | 1, _ => simp [World.cell?, h]
  | 2, _ => simp [World.cell?, h]
theorem Eb.all {w : World} {g : Nat} {e : Ent} (h : Eb w g e) (f : Ent) : Eb (w.setCells g 0 [.string (mk f.1), .int .i64 f.2.1, .string (mk f.2.2)]) g f := by
  unfold Eb World.setCells World.setCells World.setCells World.setCells
  rw [blk_set (blk_set (blk_set h _) _) _]
  rfl
theorem eb_zero (w : World) : Eb ((w.alloc (.cells #[.string ⟨#[]⟩, .int .i64 0, .string ⟨#[]⟩] 36)).setCells w.heap.size 0 #[Value.string ⟨#[]⟩, .int .i64 0, .string ⟨#[]⟩].toList) w.heap.size zE := by
  have h : (w.alloc (.cells #[.string ⟨#[]⟩, .int .i64 0, .string ⟨#[]⟩] 36)).heap[w.heap.size]? = some (.cells #[.string ⟨#[]⟩, .int .i64 0, .string ⟨#[]⟩] 36 (0, 0)) := hp_new _ _
  generalize w.alloc (.cells #[.string ⟨#[]⟩, .int .i64 0, .string ⟨#[]⟩] 36) = W at *
  generalize w.heap.size = g at *
  unfold Eb
  show (((W.setCell ⟨g, 0, none⟩ (.string ⟨#[]⟩)).setCell ⟨g, 0 + 1, none⟩ (.int .i64 0)).setCell ⟨g, 0 + 1 + 1, none⟩ (.string ⟨#[]⟩)).heap[g]? = _
  rw [blk_set (blk_set (blk_set h _) _) _]
  rfl
theorem th_zero (w : World) : (w.alloc (.cells #[.string ⟨#[]⟩, .int .i64 0, .string ⟨#[]⟩] 36)).there w.heap.size 0 #[Value.string ⟨#[]⟩, .int .i64 0, .string ⟨#[]⟩].size := by
  have h : (w.alloc (.cells #[.string ⟨#[]⟩, .int .i64 0, .string ⟨#[]⟩] 36)).heap[w.heap.size]? = some (.cells #[.string ⟨#[]⟩, .int .i64 0, .string ⟨#[]⟩] 36 (0, 0)) := hp_new _ _
  intro j hj
  refine ⟨?_, row_fz h _⟩
  have hj : j < 3 := hj
  rw [Nat.zero_add, row_cell h j]
  match j, hj with
  | 0, _ => rfl
  | 1, _ => rfl
  | 2, _ => rfl
theorem info_z3 : (Try.prog.info? 36).map (·.size) = some #[Value.string ⟨#[]⟩, .int .i64 0, .string ⟨#[]⟩].size := by
  obtain ⟨i0, hi, _, hz1, _⟩ := info_parts Try.infoEnt
  rw [hi]
  simp [hz1]
theorem one_z3 : #[Value.string ⟨#[]⟩, .int .i64 0, .string ⟨#[]⟩].all (·.oneCell') = true :=
  all_oneCell_toArray (cs := [Value.string ⟨#[]⟩, .int .i64 0, .string ⟨#[]⟩]) (fun v hv => by
    simp only [List.mem_cons, List.not_mem_nil, or_false] at hv
    rcases hv with rfl | rfl | rfl <;> rfl)
theorem info_e3 (e : Ent) : (Try.prog.info? 36).map (·.size) = some #[Value.string (mk e.1), .int .i64 e.2.1, .string (mk e.2.2)].size := by
  obtain ⟨i0, hi, _, hz1, _⟩ := info_parts Try.infoEnt
  rw [hi]
  simp [hz1]
theorem one_e3 (e : Ent) : #[Value.string (mk e.1), .int .i64 e.2.1, .string (mk e.2.2)].all (·.oneCell') = true :=
  all_oneCell_toArray (cs := [Value.string (mk e.1), .int .i64 e.2.1, .string (mk e.2.2)]) (fun v hv => entsV_one [e] v (by simpa [entsV, entV] using hv))
/-- one of one's own entries is written over -/
theorem OwnE.set {w : World} {base g n cap : Nat} {es : List Ent} (h : OwnE w base (.slice (some ⟨g, 0, none⟩) n cap) es) {i : Nat} (hi : i < es.length) (e : Ent) :
    OwnE (w.setCells g (i * 3) [.string (mk e.1), .int .i64 e.2.1, .string (mk e.2.2)]) base (.slice (some ⟨g, 0, none⟩) n cap) (es.set i e) := by
  rcases h.2 with ⟨h0, _⟩ | ⟨g', cap', cur, hv, hb, hh, h1, h2, h3, h4⟩
  · cases h0
  · injection hv with hv1 hv2 hv3
    have hg : g = g' := by injection hv1 with hv1; injection hv1
    subst hg hv2 hv3
    have hl := h.1
    refine ⟨?_, Or.inr ⟨g, cap, ((cur.setIfInBounds (i * 3) (.string (mk e.1))).setIfInBounds (i * 3 + 1) (.int .i64 e.2.1)).setIfInBounds (i * 3 + 2) (.string (mk e.2.2)), ?_, hb, ?_, ?_, h2, by simpa using h3, ?_⟩⟩
    · rw [← entsV_set es i e hi, List.length_set, List.length_set, List.length_set, List.length_set, hl]
    · rw [List.length_set]
    · unfold World.setCells World.setCells World.setCells World.setCells
      rw [blk_set (blk_set (blk_set hh _) _) _]
    · rw [List.length_set]; exact h1
    · rw [List.length_set, ← entsV_set es i e hi]
      simp only [Array.toList_setIfInBounds]
      rw [List.take_set, List.take_set, List.take_set, h4]
theorem OwnE.shp {w : World} {base : Nat} {v : Value} {es : List Ent} (h : OwnE w base v es) (hne : es ≠ []) : ∃ g cap, v = .slice (some ⟨g, 0, none⟩) es.length cap ∧ base ≤ g ∧ g < w.heap.size ∧ ∀ i, i < es.length → w.there g (i * 3) 3 := by
  rcases h.forms with ⟨_, h0⟩ | ⟨g, cap, hv, h1, h2, h3, h4, h5, h6⟩
  · exact absurd h0 hne
  · refine ⟨g, cap, hv, h1, h2, fun i hi j hj => ⟨?_, h5 _⟩⟩
    obtain ⟨c0, c1, c2⟩ := h6 i hi
    match j, hj with
    | 0, _ => rw [Nat.add_zero, c0]; rfl
    | 1, _ => rw [c1]; rfl
    | 2, _ => rw [c2]; rfl
def BulkC (cs : List Chg) : Prop := ∀ c ∈ cs, c.1.length ≤ 1048576 ∧ c.2.1.1.length ≤ 1048576 ∧ c.2.2.1.length ≤ 1048576
/-- what the document asks of a change, behind those ahead of it -/
theorem mayC_step {L : List UInt8} {c : Chg} {r : List Chg} : mayC L (c :: r) = (okC c && decide (cmpL (nms L) (nms c.1) < 0) && mayC c.1 r) := rfl
theorem ahead_c {c : Chg} (h : okC c = true) : cmpL (nms []) (nms c.1) < 0 := by
  have h1 := okC_path h
  rw [nms_e, cmpL_nil (fun h2 => h1.2 (nms_nil.1 h2))]
  omega
theorem outL_len (t : List Ent) (cs : List Chg) : t.length ≤ (outL t cs).length ∧ (outL t cs).length ≤ t.length + cs.length := by
  unfold outL
  rw [List.length_append, List.length_map, List.length_map]
  have := List.length_filter_le (fun c : Chg => !thP t c.1) cs
  omega
theorem takeC {cs : List Chg} {k : Nat} (hk : k < cs.length) : cs.take (k + 1) = cs.take k ++ [cs.getD k zC] := by
  rw [List.take_add_one, List.getElem?_eq_getElem hk, List.getD_eq_getElem?_getD, List.getElem?_eq_getElem hk]
  rfl

end Go.Proofs.Ytgldmepmeampeaa

/- Changes out of their reading. -/
namespace Go.Proofs.Ytgldmepmeampeaa
open Go.ChangeShapes Go.WideShapes Go.ChangeAt Go.RowKit

theorem cellsChg : Try.prog.cellsOf 82 = 7 := by kernel_rfl
theorem seven_of {α : Type} {l : List α} (h : l.length = 7) : ∃ a b c d e f g, l = [a, b, c, d, e, f, g] := by
  match l, h with
  | [a, b, c, d, e, f, g], _ => exact ⟨a, b, c, d, e, f, g, rfl⟩
structure CBk (cs : List Chg) : Prop where
  len : cs.length ≤ 1048576
  bulk : BulkC cs

section
variable {H : Type} {enc : TypeId × Value → H} {W : World} {spare : Nat → Bool} {held : Bool}

/-- one change -/
theorem chg_b {fuel : Nat} {cs : List Value} {x : DataW H × List MemPlace} (h : DataW.trod enc Try.prog W 0 spare held fuel 82 cs = some x) :
    ∃ c : Chg, cs = chgV c ∧ c.1.length + c.2.1.1.length + c.2.2.1.length < Rows.uptoBulk x.1 := by
  obtain ⟨y0, y1, y2, n, hx, hl, t0, t1, t2⟩ := Go.Deep.trod_struct3 Try.underlying82 h
  rw [cellsChg] at hl
  obtain ⟨a, b, c, d, e, f, g, rfl⟩ := seven_of hl
  simp only [cellsStr, cellsEnt] at t0 t1 t2
  obtain ⟨s0, e0, f0, _⟩ := DataW.trod_string Try.underlying9 t0
  obtain ⟨x1, h1, b1⟩ := ent_b t1
  obtain ⟨x2, h2, b2⟩ := ent_b t2
  simp [entV] at e0 h1 h2
  refine ⟨(bl s0, x1, x2), ?_, ?_⟩
  · obtain ⟨rfl, rfl, rfl⟩ := h1
    obtain ⟨rfl, rfl, rfl⟩ := h2
    subst e0
    unfold chgV
    rw [mk_bl]
  · rw [hx, f0]
    simp only [Rows.uptoBulk, Rows.uptoBulkAll, bl_eq]
    omega

set_option maxRecDepth 100000 in
theorem changes_b {ao : Option Addr} {n c : Nat} {d : DataW H} {pl : List MemPlace} (h : DataW.Trod enc Try.prog W 0 spare held 47 (.slice ao n c) d pl) (hk : Rows.uptoBulk d ≤ 1048576) :
    ∃ cs : List Chg, Chgs W (.slice ao n c) cs ∧ CBk cs := by
  obtain ⟨fuel, hf⟩ := h
  rcases Go.Deep.open_slice Try.underlying47 hf with ⟨hcs, _⟩ | ⟨a, len, cap, m, n', D, Pl, hcs, _, hl, hm, hmm, hx, hel⟩
  · simp [Value.cells] at hcs
    obtain ⟨rfl, rfl, rfl⟩ := hcs
    exact ⟨[], Or.inl ⟨_, _, rfl, rfl, fun _ => rfl⟩, by simp, fun e h => (by cases h)⟩
  · simp [Value.cells] at hcs
    obtain ⟨rfl, rfl, rfl⟩ := hcs
    have hlm : n ≤ m := by rw [hmm]; split <;> omega
    rw [cellsChg] at hel
    simp only [Prod.mk.injEq] at hx
    have hbd : Rows.uptoBulkAll ((List.range n).map D) ≤ 1048576 := by rw [hx.1] at hk; simp only [Rows.uptoBulk] at hk; omega
    have hn : n ≤ 1048576 := by
      have := bulk_count ((List.range n).map D)
      simp at this
      omega
    obtain ⟨cs, hes, hp⟩ := list_of (P := fun i (x : Chg) => (∀ j, j < 7 → ∀ u, (chgV x)[j]? = some u → W.cell? ((a.add (i * 7)).add j) = some u) ∧ x.1.length + x.2.1.1.length + x.2.2.1.length < Rows.uptoBulk (D i)) (n := n) (by
      intro i hi
      obtain ⟨cs', hc, ht⟩ := hel i (by omega)
      obtain ⟨x, rfl, hb⟩ := chg_b ht
      have hh := World.cells?_some hc
      refine ⟨x, fun j hj u hu => ?_, hb⟩
      have h1 := hh.2.2 j (by omega)
      rw [hu] at h1
      exact h1)
    refine ⟨cs, ?_, by omega, ?_⟩
    · rcases Nat.eq_zero_or_pos n with rfl | hpos
      · exact Or.inl ⟨_, _, rfl, List.length_eq_zero_iff.1 hes, fun e => by cases e⟩
      · have hg : ∀ j, j < n → cs[j]? = some (cs.getD j zC) := fun j hj => by rw [List.getD_eq_getElem?_getD, List.getElem?_eq_getElem (show j < cs.length by omega)]; rfl
        have h0 := (hp 0 _ (hg 0 hpos)).1 0 (by omega) _ rfl
        have ha : a = ⟨a.block, a.off, none⟩ := addr_plain (v := .string (mk (cs.getD 0 zC).1)) (by simpa [Addr.add] using h0)
        have hlt : a.block < W.heap.size := World.block_lt_of_cell? W a (u := .string (mk (cs.getD 0 zC).1)) (by simpa [Addr.add] using h0)
        generalize a.block = g at ha hlt
        generalize a.off = o at ha
        subst ha
        refine Or.inr ⟨g, o, c, by rw [hes], hlt, by rw [hes]; exact hl, fun j u hu => ?_⟩
        have hj : j < cs.length * 7 := by rw [← chgsV_length]; exact (List.getElem?_eq_some_iff.1 hu).1
        have hq : j / 7 < cs.length := by omega
        have hr : j % 7 < 7 := Nat.mod_lt _ (by omega)
        have hjj : j / 7 * 7 + j % 7 = j := by omega
        rw [← hjj, chgsV_get cs (j / 7) (j % 7) hq hr] at hu
        have h1 := (hp (j / 7) _ (hg _ (by omega))).1 (j % 7) hr u hu
        simp only [add_plain] at h1
        rw [← hjj, ← Nat.add_assoc]
        exact h1
    · intro e he
      obtain ⟨j, hj, rfl⟩ := List.mem_iff_getElem.1 he
      have h1 := (hp j _ (List.getElem?_eq_getElem hj)).2
      have h2 : Rows.uptoBulk (D j) ≤ 1048576 := Nat.le_trans (bulk_mem (List.mem_map.2 ⟨j, List.mem_range.2 (by omega), rfl⟩)) hbd
      exact ⟨by omega, by omega, by omega⟩
end

end Go.Proofs.Ytgldmepmeampeaa

/- alive: a file in a directory that lacks. -/
namespace Go.Proofs.Ytgldmepmeampeaa
open Go.RowKit

def al0 : Ent := ([97, 47, 98], 1, [120])
def alT : List Ent := [([97], 2, []), al0]
theorem al_lack : lackL [al0] = [[97]] := by decide +kernel
theorem al_make : mkP [al0] = .ok alT := by
  have h1 : [al0].all mayP = true := by decide +kernel
  have h2 : ([al0].map (·.1)).Nodup := by simp
  have h3 : wrongP [al0] = false := by decide +kernel
  have h5 : szP [al0] = 1 := by decide +kernel
  have h6 : alT.Pairwise ltE := by
    unfold alT
    rw [List.pairwise_cons]
    refine ⟨fun b hb => ?_, List.pairwise_singleton _ _⟩
    rw [List.mem_singleton] at hb
    subst hb
    unfold ltE
    decide +kernel
  have h7 : (([al0] ++ [[97]].map dirE).map (·.1)).Nodup := by decide +kernel
  have h8 : alT = sortE ([al0] ++ [[97]].map dirE) := by
    refine sortE_uniq h6 h7 (fun e => ?_)
    unfold alT dirE
    simp
    exact Or.comm
  unfold mkP
  rw [h1, if_neg (show ¬ (true = false) by simp), if_neg (fun h => h h2), h3, if_neg (show ¬ (false = true) by simp), al_lack, h5, ← h8]
  rfl
theorem al_check : chkP alT = (0, 0) := by decide +kernel
theorem al_size : szP alT = 1 := by decide +kernel
theorem al_tre : Tre [al0] := ⟨by simp, fun e he => by rw [List.mem_singleton] at he; subst he; exact ⟨by decide, by decide⟩, by decide +kernel⟩
theorem al_short : Short alT := fun e he => by
  unfold alT at he
  simp only [List.mem_cons, List.not_mem_nil, or_false] at he
  rcases he with rfl | rfl
  · exact ⟨by simp, by simp⟩
  · exact ⟨by decide, by decide⟩

set_option maxRecDepth 100000 in
set_option maxHeartbeats 2000000 in
theorem alive_any (w : World) : Calls Try.prog 10 #[] w fun r w' => r = .returned (.bool true) ∧ Below w.heap.size w w' := by
  have HMK := hid (make_any _ [al0] _ (ents_one w al0) al_tre)
  rw [al_make] at HMK
  have HBA := hid (below_walk w (.cells #[.string ⟨#[97, 47, 98]⟩, .int .i64 1, .string ⟨#[120]⟩] 36))
  go_enter Try.func10, Try.ntmps10
  go_wp2_with fail
  refine HMK.out.mono ?_
  rintro r w2 ⟨⟨v2, rfl, ho2⟩, hb2⟩
  have HO2 := hid ho2
  have HB2 := hid (below_then HBA.out hb2)
  have HC2 := hid (tcheck_any v2 alT w2 ho2.ents al_short (by decide))
  rw [al_check] at HC2
  obtain ⟨a2, c2, h2⟩ := ho2.ents.shape
  subst h2
  clear ho2 hb2 HMK
  go_wp2_with fail
  refine HC2.out.mono ?_
  rintro r w3 ⟨rfl, hb3⟩
  have HEN := hid (HO2.out.ents.below hb3)
  have HB3 := hid (below_then HB2.out hb3)
  have HS3 := hid (size_any _ alT w3 HEN.out al_short (by decide) (by decide +kernel))
  rw [al_check, al_size] at HS3
  obtain ⟨g, o, rfl, hgl, x0, x1, x2⟩ := HEN.out.at 0 (by decide)
  clear hb3 HC2
  have e0 : w3.cell? ⟨g, o, none⟩ = some (.string ⟨#[97]⟩) := x0
  have e1 : w3.cell? ⟨g, o + 1, none⟩ = some (.int .i64 2) := x1
  have e2 : w3.cell? ⟨g, o + 2, none⟩ = some (.string ⟨#[]⟩) := x2
  have hl : alT.length = 2 := rfl
  rw [hl] at HS3 ⊢
  have hg := entG
  have heq : ∀ W, (binOp .eql 36 (.agg #[.string ⟨#[97]⟩, .int .i64 2, .string ⟨#[]⟩]) (.agg #[.string ⟨#[97]⟩, .int .i64 2, .string ⟨#[]⟩])).run Try.prog W = .ok (.bool true) W := fun W => by
    have := eql_ent ([97], 2, []) ([97], 2, []) W
    rw [decide_eq_true rfl] at this
    exact this
  clear x0 x1 x2 hl
  go_wp2_with (go_at_call 20; refine HS3.out.mono ?_; rintro r w4 ⟨rfl, hb4⟩)
  go_ret
  exact ⟨rfl, below_then HB3.out hb4⟩

end Go.Proofs.Ytgldmepmeampeaa

/- The document's Apply. -/
namespace Go.Proofs.Ytgldmepmeampeaa
open Go.RowKit Go.BigFrame

theorem Chgs.prev {w W : World} {g o n c : Nat} {cs : List Chg} (h : Chgs w (.slice (some ⟨g, o, none⟩) n c) cs) (hb : Below w.heap.size w W) (j : Nat) (hj : j < cs.length) : W.cell? ⟨g, o + j * 7, none⟩ = some (.string (mk (cs.getD j zC).1)) := by
  obtain ⟨g', o', e1, e2, e3⟩ := h.at j hj
  have hg : g = g' := by injection e1 with e1; injection e1
  have ho : o = o' := by injection e1 with e1; injection e1
  subst hg ho
  exact (hb.cell (p := ⟨g, o + j * 7, none⟩) e2).trans (e3 0 _ rfl)
theorem own_cells {w : World} {base g n c d : Nat} {es : List Ent} {e : Ent} (h : OwnE w base (.slice (some ⟨g, 0, none⟩) n c) es) (hd : g ≠ d) : OwnE (w.setCells d 0 [Value.string (mk e.1), .int .i64 e.2.1, .string (mk e.2.2)]) base (.slice (some ⟨g, 0, none⟩) n c) es := by
  have hg : ∀ {W : World} (i : Nat) (v : Value), OwnE W base (.slice (some ⟨g, 0, none⟩) n c) es → OwnE (W.setCell ⟨d, i, none⟩ v) base (.slice (some ⟨g, 0, none⟩) n c) es :=
    fun {W} i v h => h.kept (gb_set W ⟨d, i, none⟩ v) (Or.inr (fun e => hd (Option.some.inj e)))
  exact hg _ _ (hg _ _ (hg _ _ h))
theorem may_bulk {t : List Ent} (h : ∀ e ∈ t, mayP e = true) : Bulk t := by
  intro e he
  have h1 := okP_short (mayP_ok (h e he))
  have h2 := h e he
  unfold mayP at h2
  simp only [Bool.and_eq_true, decide_eq_true_iff] at h2
  refine ⟨by omega, ?_⟩
  rcases h2.2 with h3 | h3 | h3
  · omega
  · rw [h3.2]; simp
  · omega
/-- how far the document has come with making changes -/
structure ArS (w2 : World) (t : List Ent) (cs : List Chg) (out : List Ent) (k : Nat) (vo : Value) (wr : World) : Prop where
  own : OwnE wr w2.heap.size vo out
  eq : out = outL t (cs.take k)
  st : ∀ j, j < k → stP t (cs.getD j zC).1 = (cs.getD j zC).2.1
  bel : Below w2.heap.size w2 wr
theorem ArS.len {w2 wr : World} {t out : List Ent} {cs : List Chg} {k : Nat} {vo : Value} (h : ArS w2 t cs out k vo wr) : t.length ≤ out.length ∧ out.length ≤ t.length + cs.length := by
  have h1 := outL_len t (cs.take k)
  rw [← h.eq, List.length_take] at h1
  omega
theorem getC_ne {cs : List Chg} {k : Nat} (h : cs.Pairwise (fun c d => cmpL (nms c.1) (nms d.1) < 0)) (hk : k < cs.length) : ∀ d ∈ cs.take k, d.1 ≠ (cs.getD k zC).1 := by
  intro d hd
  rw [List.mem_take_iff_getElem] at hd
  obtain ⟨j, hj, rfl⟩ := hd
  rw [List.getD_eq_getElem?_getD, List.getElem?_eq_getElem hk]
  exact cmp_ne (List.pairwise_iff_getElem.1 h j k (by omega) hk (by omega))
theorem stP_fi (t : List Ent) (p : List UInt8) : stP t p = match fiP t p with | some i => t.getD i zE | none => zE := by
  unfold stP
  rw [fdP_fiP]
  cases fiP t p <;> rfl

set_option maxRecDepth 100000 in
set_option maxHeartbeats 8000000 in
theorem rapply_any (vt vl : Value) (t : List Ent) (cs : List Chg) (w : World) (ht : Ents w vt t) (h : Chgs w vl cs) (hbt : Bulk t) (hnt : t.length ≤ 1048576) (hbc : BulkC cs) (hn : cs.length ≤ 1048576) :
    Calls Try.prog 26 #[vt, vl] w fun r w' => AnsE w' w.heap.size r (apP t cs) ∧ Below w.heap.size w w' := by
  obtain ⟨E0, HE0⟩ : ∃ E : Int, Hid ((chkP t).2 = E) := ⟨_, rfl⟩
  have HR := hid (rcheck_any vt t w ht hbt (by omega))
  rw [HE0.out] at HR
  have HET := hid ht
  have HL := hid h
  have HBC := hid hbc
  obtain ⟨to, tc, rfl⟩ := ht.shape
  obtain ⟨ao, cc, rfl⟩ := h.shape
  have HU := hid Try.underlying82
  have HUE := hid Try.underlying36
  generalize (chkP t).1 = N0 at *
  clear ht h hbt hbc
  by_cases h0 : E0 = 0
  · subst h0
    have HRT := hid (rgt_iff.1 HE0.out)
    go_enter Try.func26, Try.ntmps26
    go_wp2_with fail
    refine HR.out.mono ?_
    rintro r w1 ⟨rfl, hb1⟩
    have HB1 := hid hb1
    clear hb1 HR
    have HT := hid (th_zero w1)
    have HN2 := hid (eb_zero w1)
    have HB2 := hid (belowCs (Nat.le_refl _) #[Value.string ⟨#[]⟩, .int .i64 0, .string ⟨#[]⟩].toList 0 _ (below_walk w1 (.cells #[.string ⟨#[]⟩, .int .i64 0, .string ⟨#[]⟩] 36)))
    have HI0 := hid info_z3
    have HO0 := hid one_z3
    go_wp2_with (refine wpList_store_mid (by rfl) 36 (.tmp 8) (.tmp 25) (by rfl) w1.heap.size 0 #[Value.string ⟨#[]⟩, .int .i64 0, .string ⟨#[]⟩] (by kernel_rfl) (by kernel_rfl) HT.out HI0.out HO0.out ?_; clear HT; obtain ⟨w2, hw2⟩ : ∃ w2, w2 = (w1.alloc (.cells #[.string ⟨#[]⟩, .int .i64 0, .string ⟨#[]⟩] 36)).setCells w1.heap.size 0 #[Value.string ⟨#[]⟩, .int .i64 0, .string ⟨#[]⟩].toList := ⟨_, rfl⟩; rw [← hw2] at HN2 HB2 ⊢; clear hw2; obtain ⟨N, HN⟩ : ∃ N : Nat, Hid (w1.heap.size = N) := ⟨_, rfl⟩; rw [HN.out] at HN2 ⊢)
    have HBW := hid (below_then HB1.out HB2.out)
    have HE2 := hid (HET.out.below HBW.out)
    have HL2 := hid (HL.out.below HBW.out)
    clear HB1 HB2 HET HL
    go_loopw [9] (fun i wr => ∃ (k : Nat) (L : List UInt8), i = .int .i64 k ∧ k ≤ cs.length ∧ L = (if k = 0 then [] else (cs.getD (k - 1) zC).1) ∧ okP L = true ∧ mayC [] cs = mayC L (cs.drop k) ∧ Below w2.heap.size w2 wr) (fun i _ => cs.length - (intOf i).toNat)
    case atStart => exact ⟨0, [], rfl, Nat.zero_le _, by rw [if_pos rfl], by decide, rfl, Below.refl _ _⟩
    case round =>
      obtain ⟨k, L, rfl, hk, hL, hoL, hmay, hb⟩ := hrel
      have HB := hid hb
      have HMY := hid hmay
      have HOL := hid hoL
      have HLE := hid hL
      clear hb hmay hoL hL
      by_cases hlt : k < cs.length
      · have q1 : (k : Int) < (cs.length : Int) := by omega
        have hw1 : IntKind.i64.wrap ((k : Int) + 1) = ((k + 1 : Nat) : Int) := by rw [IntKind.wrap_i64]; omega
        obtain ⟨c, HCD⟩ : ∃ c, Hid (cs.getD k zC = c) := ⟨_, rfl⟩
        have HLW := hid (HL2.out.below HB.out)
        obtain ⟨g, o, rfl, hgl, hrl⟩ := HLW.out.range k hlt c HCD.out
        have HRL := hid hrl
        have HGL := hid hgl
        have hcm : c ∈ cs := by rw [← HCD.out]; exact getC_mem hlt
        rw [dropC hlt, HCD.out] at HMY
        have HI := hid (info_chg7 c)
        have HO := hid (one_chg7 c)
        have HT := hid (Cb.new wr zC).there
        have HC4 := hid ((Cb.new wr zC).all c)
        have HB4 := hid (belowCs (Nat.le_refl _) (chgV c) 0 _ (below_walk wr (.cells #[.string ⟨#[]⟩, .string ⟨#[]⟩, .int .i64 0, .string ⟨#[]⟩, .string ⟨#[]⟩, .int .i64 0, .string ⟨#[]⟩] 82)))
        change Hid (Cb ((wr.alloc (.cells #[.string ⟨#[]⟩, .string ⟨#[]⟩, .int .i64 0, .string ⟨#[]⟩, .string ⟨#[]⟩, .int .i64 0, .string ⟨#[]⟩] 82)).setCells wr.heap.size 0 (chgV c).toArray.toList) wr.heap.size c) at HC4
        change Hid (Below wr.heap.size wr ((wr.alloc (.cells #[.string ⟨#[]⟩, .string ⟨#[]⟩, .int .i64 0, .string ⟨#[]⟩, .string ⟨#[]⟩, .int .i64 0, .string ⟨#[]⟩] 82)).setCells wr.heap.size 0 (chgV c).toArray.toList)) at HB4
        have hshc := HBC.out c hcm
        have HS1 := hid (fun W : World => rside_any c.2.1 c.1 W hshc.2.1)
        have HS2 := hid (fun W : World => rside_any c.2.2 c.1 W hshc.2.2)
        have HLS := hid (fun W : World => rless_any L c.1 W (by have := okP_short HOL.out; omega) hshc.1)
        unfold entA at HS1 HS2
        have hg := entG
        have hE1 := fun W => eql_zero c.2.1 W
        have hE2 := fun W => eql_zero c.2.2 W
        have HOV := hid (show okC c = (!(decide (c.2.1 = zE) && decide (c.2.2 = zE)) && sidP c.2.1 c.1 && sidP c.2.2 c.1) from rfl)
        have HOP := hid (okC_path (c := c))
        have HAH := hid (ahead_c (c := c))
        have HLT := hid (fun (h : okC c = true) => ltP_iff HOL.out (okC_path h).1)
        have HNO := hid (mayC_no (L := L) (c := c) (r := cs.drop (k + 1)))
        have HOR := hid (mayC_ord (L := L) (c := c) (r := cs.drop (k + 1)))
        have HYS := hid (mayC_yes (L := L) (c := c) (r := cs.drop (k + 1)))
        have HBD := hid (fun (h : mayC [] cs = false) => show apP t cs = .error 1 from by unfold apP; rw [if_neg (by simpa using HE0.out), if_pos h])
        have HNX := hid (show c.1 = (if k + 1 = 0 then [] else (cs.getD (k + 1 - 1) zC).1) from by rw [if_neg (by omega), Nat.add_sub_cancel, HCD.out])
        have HNB := hid ((HN2.out.below HB.out).below HB4.out)
        have HBZ := hid (below_then HB.out HB4.out)
        have HGB := hid (Nat.lt_of_lt_of_le hgl HB4.out.size)
        clear hrl hcm hshc hgl
        generalize ltP L c.1 = X at *
        generalize okC c = OK at *
        generalize sidP c.2.1 c.1 = S1 at *
        generalize sidP c.2.2 c.1 = S2 at *
        generalize decide (c.2.1 = zE) = E1 at *
        generalize decide (c.2.2 = zE) = E2 at *
        go_wp2_with (first | (refine wpList_load_mid (by rfl) 82 (.tmp 34) (by rfl) g (o + k * 7) (by kernel_rfl) (chgV c) _ HRL.out HU.out rfl HI.out ?_; clear HRL) | (refine wpList_store_mid (by rfl) 82 (.tmp 10) (.tmp 35) (by rfl) wr.heap.size 0 (chgV c).toArray (by kernel_rfl) (by kernel_rfl) HT.out HI.out HO.out ?_; clear HT; obtain ⟨w4, hw4⟩ : ∃ w4, w4 = (wr.alloc (.cells #[.string ⟨#[]⟩, .string ⟨#[]⟩, .int .i64 0, .string ⟨#[]⟩, .string ⟨#[]⟩, .int .i64 0, .string ⟨#[]⟩] 82)).setCells wr.heap.size 0 (chgV c).toArray.toList := ⟨_, rfl⟩; rw [← hw4] at HC4 HB4 HNB HBZ HGB ⊢; clear hw4; obtain ⟨C, HC⟩ : ∃ C : Nat, Hid (wr.heap.size = C) := ⟨_, rfl⟩; rw [HC.out] at HC4 ⊢))
        try simp only [Act.put]
        have HLC := hid HC4.out.lt
        have HLN := hid HNB.out.lt
        obtain ⟨z0, z1, z2, z3, z4, z5, z6⟩ := HC4.out.at
        obtain ⟨y0, y1, y2⟩ := HNB.out.at
        have x0 := fun p : Bel w4 => p.cell z0 HLC.out
        have x1 := fun p : Bel w4 => p.cell z1 HLC.out
        have x2 := fun p : Bel w4 => p.cell z2 HLC.out
        have x3 := fun p : Bel w4 => p.cell z3 HLC.out
        have x4 := fun p : Bel w4 => p.cell z4 HLC.out
        have x5 := fun p : Bel w4 => p.cell z5 HLC.out
        have x6 := fun p : Bel w4 => p.cell z6 HLC.out
        have v0 : ∀ p : Bel w4, p.out.cell? ⟨N, 0, none⟩ = some (.string ⟨#[]⟩) := fun p => p.cell y0 HLN.out
        have v1 : ∀ p : Bel w4, p.out.cell? ⟨N, 1, none⟩ = some (.int .i64 0) := fun p => p.cell y1 HLN.out
        have v2 : ∀ p : Bel w4, p.out.cell? ⟨N, 2, none⟩ = some (.string ⟨#[]⟩) := fun p => p.cell y2 HLN.out
        have ib : Nonempty (Bel w4) := bel_some w4
        clear z0 z1 z2 z3 z4 z5 z6 y0 y1 y2
        cases E1 with
        | false =>
          cases S1 with
          | false =>
            have hok : OK = false := by rw [HOV.out]; simp
            have HF := hid (HBD.out (HMY.out.trans (HNO.out hok)))
            clear hok
            clear HMY HOV HOP HAH HLT HNO HOR HYS HBD
            refine wp_region_quiet_bel (by kernel_rfl) (by kernel_rfl) ?_
            repeat (go_big_quiet_step (first | (go_at_call 59; with_reducible exact bel_of (HS1.out _))))
            refine wpQuiet_nil ?_
            rintro w5 ⟨⟨w5', hb5⟩, hw5⟩
            obtain rfl : w5 = w5' := hw5
            have HB5 := hid (below_then HBZ.out hb5)
            clear hb5 x0 x1 x2 x3 x4 x5 x6 v0 v1 v2 ib
            go_wp2
            go_ret2
            rw [HF.out]
            exact ⟨rfl, below_then HBW.out HB5.out⟩
          | true =>
            cases S2 with
            | false =>
              have hok : OK = false := by rw [HOV.out]; simp
              have HF := hid (HBD.out (HMY.out.trans (HNO.out hok)))
              clear hok
              clear HMY HOV HOP HAH HLT HNO HOR HYS HBD
              refine wp_region_quiet_bel (by kernel_rfl) (by kernel_rfl) ?_
              repeat (go_big_quiet_step (first | (go_at_call 59; with_reducible exact bel_of (HS1.out _)) | (go_at_call 59; with_reducible exact bel_of (HS2.out _))))
              refine wpQuiet_nil ?_
              rintro w5 ⟨⟨w5', hb5⟩, hw5⟩
              obtain rfl : w5 = w5' := hw5
              have HB5 := hid (below_then HBZ.out hb5)
              clear hb5 x0 x1 x2 x3 x4 x5 x6 v0 v1 v2 ib
              go_wp2
              go_ret2
              rw [HF.out]
              exact ⟨rfl, below_then HBW.out HB5.out⟩
            | true =>
              by_cases hpos : 0 < k
              ·
                have q2 : (0 : Int) < (k : Int) := by omega
                obtain ⟨J, HJ⟩ : ∃ J : Nat, Hid (k - 1 = J) := ⟨_, rfl⟩
                have hJl : (J : Int) < (cs.length : Int) := by have := HJ.out; omega
                have hw3 : IntKind.i64.wrap ((k : Int) - 1) = (J : Int) := by rw [IntKind.wrap_i64]; have := HJ.out; omega
                rw [if_neg (by omega)] at HLE
                have hpv := Chgs.prev HLW.out HB4.out (k - 1) (by omega)
                rw [← HLE.out, HJ.out] at hpv
                have pv := fun p : Bel w4 => p.cell hpv HGB.out
                clear hpv
                cases X with
                | false =>
                  have hok : OK = true := by rw [HOV.out]; rfl
                  subst hok
                  have hge : 0 ≤ cmpL (nms L) (nms c.1) := Int.not_lt.1 (fun h2 => absurd ((HLT.out rfl).2 h2) (by simp))
                  have HF := hid (HBD.out (HMY.out.trans (HOR.out (by simpa using hge))))
                  clear hge
                  clear HMY HOV HOP HAH HLT HNO HOR HYS HBD
                  refine wp_region_quiet_bel (by kernel_rfl) (by kernel_rfl) ?_
                  repeat (go_big_quiet_step (first | (go_at_call 59; with_reducible exact bel_of (HS1.out _)) | (go_at_call 59; with_reducible exact bel_of (HS2.out _)) | (go_at_call 29; exact bel_of (HLS.out _))))
                  refine wpQuiet_nil ?_
                  rintro w5 ⟨⟨w5', hb5⟩, hw5⟩
                  obtain rfl : w5 = w5' := hw5
                  have HB5 := hid (below_then HBZ.out hb5)
                  clear hb5 x0 x1 x2 x3 x4 x5 x6 v0 v1 v2 ib
                  go_wp2
                  go_ret2
                  rw [HF.out]
                  exact ⟨rfl, below_then HBW.out HB5.out⟩
                | true =>
                  have hok : OK = true := by rw [HOV.out]; rfl
                  subst hok
                  have HF := hid (HMY.out.trans (HYS.out rfl ((HLT.out rfl).1 rfl)))
                  have HPP := hid (HOP.out rfl)
                  clear HMY HOV HOP HAH HLT HNO HOR HYS HBD
                  refine wp_region_quiet_bel (by kernel_rfl) (by kernel_rfl) ?_
                  repeat (go_big_quiet_step (first | (go_at_call 59; with_reducible exact bel_of (HS1.out _)) | (go_at_call 59; with_reducible exact bel_of (HS2.out _)) | (go_at_call 29; exact bel_of (HLS.out _))))
                  refine wpQuiet_nil ?_
                  rintro w5 ⟨⟨w5', hb5⟩, hw5⟩
                  obtain rfl : w5 = w5' := hw5
                  have HB5 := hid (below_then HBZ.out hb5)
                  clear hb5 x0 x1 x2 x3 x4 x5 x6 v0 v1 v2 ib
                  go_wp2
                  exact ⟨⟨k + 1, c.1, by simp, by omega, HNX.out, HPP.out.1, HF.out, HB5.out⟩, by simp [intOf]; omega⟩
              ·
                have hk0 : k = 0 := by omega
                have q2 : ¬ (0 : Int) < (k : Int) := by omega
                rw [if_pos hk0] at HLE
                have HK0 := hid hk0
                clear hk0
                have hLn := HLE.out
                subst hLn
                have hok : OK = true := by rw [HOV.out]; rfl
                subst hok
                have HF := hid (HMY.out.trans (HYS.out rfl (HAH.out rfl)))
                have HPP := hid (HOP.out rfl)
                clear HMY HOV HOP HAH HLT HNO HOR HYS HBD
                refine wp_region_quiet_bel (by kernel_rfl) (by kernel_rfl) ?_
                repeat (go_big_quiet_step (first | (go_at_call 59; with_reducible exact bel_of (HS1.out _)) | (go_at_call 59; with_reducible exact bel_of (HS2.out _))))
                refine wpQuiet_nil ?_
                rintro w5 ⟨⟨w5', hb5⟩, hw5⟩
                obtain rfl : w5 = w5' := hw5
                have HB5 := hid (below_then HBZ.out hb5)
                clear hb5 x0 x1 x2 x3 x4 x5 x6 v0 v1 v2 ib
                go_wp2
                exact ⟨⟨k + 1, c.1, by rw [HK0.out]; rfl, by omega, HNX.out, HPP.out.1, HF.out, HB5.out⟩, by have h9 := HK0.out; simp [intOf]; omega⟩
        | true =>
          cases E2 with
          | false =>
            cases S1 with
            | false =>
              have hok : OK = false := by rw [HOV.out]; simp
              have HF := hid (HBD.out (HMY.out.trans (HNO.out hok)))
              clear hok
              clear HMY HOV HOP HAH HLT HNO HOR HYS HBD
              refine wp_region_quiet_bel (by kernel_rfl) (by kernel_rfl) ?_
              repeat (go_big_quiet_step (first | (go_at_call 59; with_reducible exact bel_of (HS1.out _))))
              refine wpQuiet_nil ?_
              rintro w5 ⟨⟨w5', hb5⟩, hw5⟩
              obtain rfl : w5 = w5' := hw5
              have HB5 := hid (below_then HBZ.out hb5)
              clear hb5 x0 x1 x2 x3 x4 x5 x6 v0 v1 v2 ib
              go_wp2
              go_ret2
              rw [HF.out]
              exact ⟨rfl, below_then HBW.out HB5.out⟩
            | true =>
              cases S2 with
              | false =>
                have hok : OK = false := by rw [HOV.out]; simp
                have HF := hid (HBD.out (HMY.out.trans (HNO.out hok)))
                clear hok
                clear HMY HOV HOP HAH HLT HNO HOR HYS HBD
                refine wp_region_quiet_bel (by kernel_rfl) (by kernel_rfl) ?_
                repeat (go_big_quiet_step (first | (go_at_call 59; with_reducible exact bel_of (HS1.out _)) | (go_at_call 59; with_reducible exact bel_of (HS2.out _))))
                refine wpQuiet_nil ?_
                rintro w5 ⟨⟨w5', hb5⟩, hw5⟩
                obtain rfl : w5 = w5' := hw5
                have HB5 := hid (below_then HBZ.out hb5)
                clear hb5 x0 x1 x2 x3 x4 x5 x6 v0 v1 v2 ib
                go_wp2
                go_ret2
                rw [HF.out]
                exact ⟨rfl, below_then HBW.out HB5.out⟩
              | true =>
                by_cases hpos : 0 < k
                ·
                  have q2 : (0 : Int) < (k : Int) := by omega
                  obtain ⟨J, HJ⟩ : ∃ J : Nat, Hid (k - 1 = J) := ⟨_, rfl⟩
                  have hJl : (J : Int) < (cs.length : Int) := by have := HJ.out; omega
                  have hw3 : IntKind.i64.wrap ((k : Int) - 1) = (J : Int) := by rw [IntKind.wrap_i64]; have := HJ.out; omega
                  rw [if_neg (by omega)] at HLE
                  have hpv := Chgs.prev HLW.out HB4.out (k - 1) (by omega)
                  rw [← HLE.out, HJ.out] at hpv
                  have pv := fun p : Bel w4 => p.cell hpv HGB.out
                  clear hpv
                  cases X with
                  | false =>
                    have hok : OK = true := by rw [HOV.out]; rfl
                    subst hok
                    have hge : 0 ≤ cmpL (nms L) (nms c.1) := Int.not_lt.1 (fun h2 => absurd ((HLT.out rfl).2 h2) (by simp))
                    have HF := hid (HBD.out (HMY.out.trans (HOR.out (by simpa using hge))))
                    clear hge
                    clear HMY HOV HOP HAH HLT HNO HOR HYS HBD
                    refine wp_region_quiet_bel (by kernel_rfl) (by kernel_rfl) ?_
                    repeat (go_big_quiet_step (first | (go_at_call 59; with_reducible exact bel_of (HS1.out _)) | (go_at_call 59; with_reducible exact bel_of (HS2.out _)) | (go_at_call 29; exact bel_of (HLS.out _))))
                    refine wpQuiet_nil ?_
                    rintro w5 ⟨⟨w5', hb5⟩, hw5⟩
                    obtain rfl : w5 = w5' := hw5
                    have HB5 := hid (below_then HBZ.out hb5)
                    clear hb5 x0 x1 x2 x3 x4 x5 x6 v0 v1 v2 ib
                    go_wp2
                    go_ret2
                    rw [HF.out]
                    exact ⟨rfl, below_then HBW.out HB5.out⟩
                  | true =>
                    have hok : OK = true := by rw [HOV.out]; rfl
                    subst hok
                    have HF := hid (HMY.out.trans (HYS.out rfl ((HLT.out rfl).1 rfl)))
                    have HPP := hid (HOP.out rfl)
                    clear HMY HOV HOP HAH HLT HNO HOR HYS HBD
                    refine wp_region_quiet_bel (by kernel_rfl) (by kernel_rfl) ?_
                    repeat (go_big_quiet_step (first | (go_at_call 59; with_reducible exact bel_of (HS1.out _)) | (go_at_call 59; with_reducible exact bel_of (HS2.out _)) | (go_at_call 29; exact bel_of (HLS.out _))))
                    refine wpQuiet_nil ?_
                    rintro w5 ⟨⟨w5', hb5⟩, hw5⟩
                    obtain rfl : w5 = w5' := hw5
                    have HB5 := hid (below_then HBZ.out hb5)
                    clear hb5 x0 x1 x2 x3 x4 x5 x6 v0 v1 v2 ib
                    go_wp2
                    exact ⟨⟨k + 1, c.1, by simp, by omega, HNX.out, HPP.out.1, HF.out, HB5.out⟩, by simp [intOf]; omega⟩
                ·
                  have hk0 : k = 0 := by omega
                  have q2 : ¬ (0 : Int) < (k : Int) := by omega
                  rw [if_pos hk0] at HLE
                  have HK0 := hid hk0
                  clear hk0
                  have hLn := HLE.out
                  subst hLn
                  have hok : OK = true := by rw [HOV.out]; rfl
                  subst hok
                  have HF := hid (HMY.out.trans (HYS.out rfl (HAH.out rfl)))
                  have HPP := hid (HOP.out rfl)
                  clear HMY HOV HOP HAH HLT HNO HOR HYS HBD
                  refine wp_region_quiet_bel (by kernel_rfl) (by kernel_rfl) ?_
                  repeat (go_big_quiet_step (first | (go_at_call 59; with_reducible exact bel_of (HS1.out _)) | (go_at_call 59; with_reducible exact bel_of (HS2.out _))))
                  refine wpQuiet_nil ?_
                  rintro w5 ⟨⟨w5', hb5⟩, hw5⟩
                  obtain rfl : w5 = w5' := hw5
                  have HB5 := hid (below_then HBZ.out hb5)
                  clear hb5 x0 x1 x2 x3 x4 x5 x6 v0 v1 v2 ib
                  go_wp2
                  exact ⟨⟨k + 1, c.1, by rw [HK0.out]; rfl, by omega, HNX.out, HPP.out.1, HF.out, HB5.out⟩, by have h9 := HK0.out; simp [intOf]; omega⟩
          | true =>
            have hok : OK = false := by rw [HOV.out]; simp
            have HF := hid (HBD.out (HMY.out.trans (HNO.out hok)))
            clear hok
            clear HMY HOV HOP HAH HLT HNO HOR HYS HBD
            refine wp_region_quiet_bel (by kernel_rfl) (by kernel_rfl) ?_
            repeat (go_big_quiet_step (fail))
            refine wpQuiet_nil ?_
            rintro w5 ⟨⟨w5', hb5⟩, hw5⟩
            obtain rfl : w5 = w5' := hw5
            have HB5 := hid (below_then HBZ.out hb5)
            clear hb5 x0 x1 x2 x3 x4 x5 x6 v0 v1 v2 ib
            go_wp2
            go_ret2
            rw [HF.out]
            exact ⟨rfl, below_then HBW.out HB5.out⟩
      · have q1 : ¬ (k : Int) < (cs.length : Int) := by omega
        have hmb : mayC [] cs = true := by rw [HMY.out, List.drop_eq_nil_of_le (by omega)]; rfl
        have HMB := hid hmb
        have HPW := hid (mayC_pair hmb).2
        have HLN := hid (show ([] : List Ent).length + t.length ≤ 3298534883328 by simp; omega)
        have HE3 := hid (HE2.out.below HB.out)
        clear HMY HOL HLE hmb
        go_wp2_with (at_builtin; refine app_ent rfl _ _ rfl w2.heap.size _ [] rfl (OwnE.nil _ _) t _ rfl HE3.out HLN.out HB.out.size ?_)
        intro v3 w3 ho3 hg3 _
        have HB3 := hid (HB.out.grown hg3 HB.out.size (fun j hj => by cases hj))
        try rw [List.nil_append] at ho3
        have HS3 : Hid (ArS w2 t cs t 0 v3 w3) := ⟨ho3, by rw [List.take_zero, outL_nil], fun j hj => by omega, HB3.out⟩
        obtain ⟨a3, n3, c3, e3⟩ : ∃ a n c, v3 = .slice a n c := by obtain ⟨a, c, e⟩ := ho3.ents.shape; exact ⟨a, _, c, e⟩
        subst e3
        clear ho3 hg3 HB HE3 HB3 HLN
        go_wp2
        go_loopw [11, 12] (fun x i wr => ∃ (k : Nat) (out : List Ent), i = .int .i64 k ∧ k ≤ cs.length ∧ ArS w2 t cs out k x wr) (fun _ i _ => cs.length - (intOf i).toNat)
        case atStart => exact ⟨0, t, rfl, Nat.zero_le _, HS3.out⟩
        case round =>
          obtain ⟨k, out, rfl, hk, hst⟩ := hrel
          have HST := hid hst
          obtain ⟨ab, xb, e2⟩ := hst.own.ents.shape
          obtain ⟨nb, HNB⟩ : ∃ n : Nat, Hid (out.length = n) := ⟨_, rfl⟩
          rw [HNB.out] at e2
          subst e2
          clear hst HS3
          by_cases hlt : k < cs.length
          · have q1 : (k : Int) < (cs.length : Int) := by omega
            have hw1 : IntKind.i64.wrap ((k : Int) + 1) = ((k + 1 : Nat) : Int) := by rw [IntKind.wrap_i64]; omega
            obtain ⟨c, HCD⟩ : ∃ c, Hid (cs.getD k zC = c) := ⟨_, rfl⟩
            obtain ⟨g, o, rfl, hgl, hcl⟩ := HL2.out.at k hlt
            rw [HCD.out] at hcl
            have HCL := hid (fun W (hW : Below w2.heap.size w2 W) i u (hu : (chgV c)[i]? = some u) => (hW.cell (p := ⟨g, o + k * 7 + i, none⟩) hgl).trans (hcl i u hu))
            have HGL := hid hgl
            have HFD := hid (fun W (hW : Below w2.heap.size w2 W) => rfind_any _ t c.1 W (HE2.out.below hW) (by omega))
            have HSF := hid (stP_fi t c.1)
            have HCN := hid (getC_ne HPW.out hlt)
            rw [HCD.out] at HCN
            have HTK := hid (takeC hlt)
            rw [HCD.out] at HTK
            have HZE := hid (HN2.out.below HST.out.bel)
            have HT := hid (th_zero wr)
            have HD4 := hid (eb_zero wr)
            have HB4 := hid (belowCs (Nat.le_refl _) #[Value.string ⟨#[]⟩, .int .i64 0, .string ⟨#[]⟩].toList 0 _ (below_walk wr (.cells #[.string ⟨#[]⟩, .int .i64 0, .string ⟨#[]⟩] 36)))
            have hg := entG
            have hne := fun W => neq_ent (stP t c.1) c.2.1 W
            have HBAD := hid (fun (hx : ¬ stP t c.1 = c.2.1) => show apP t cs = .error 8 from by
              unfold apP
              rw [if_neg (by simpa using HE0.out), if_neg (by rw [HMB.out]; simp), if_pos ?_]
              rw [List.any_eq_true]
              exact ⟨c, by rw [← HCD.out]; exact getC_mem hlt, by simpa using hx⟩)
            have HGO := hid (fun (hx : stP t c.1 = c.2.1) j (hj : j < k + 1) => show stP t (cs.getD j zC).1 = (cs.getD j zC).2.1 from by
              rcases Nat.lt_or_ge j k with h1 | h1
              · exact HST.out.st j h1
              · obtain rfl : j = k := by omega
                rw [HCD.out, hx])
            have p0 := HCL.out wr HST.out.bel 0 _ rfl
            obtain ⟨y0', y1', y2'⟩ := HZE.out.at
            have y0 : wr.cell? ⟨N, 0, none⟩ = some (.string ⟨#[]⟩) := y0'
            have y1 : wr.cell? ⟨N, 1, none⟩ = some (.int .i64 0) := y1'
            have y2 : wr.cell? ⟨N, 2, none⟩ = some (.string ⟨#[]⟩) := y2'
            clear hgl hcl y0' y1' y2'
            rw [Nat.add_zero] at p0
            cases hfi : fiP t c.1 with
            | none =>
              have hs : stP t c.1 = zE := by rw [HSF.out, hfi]
              have HFN := hid (show fiN t c.1 = -1 by unfold fiN; rw [hfi])
              rw [HFN.out] at HFD
              rw [hs] at hne HBAD HGO
              have HNW := hid (outL_new (t := t) (cs := cs.take k) (c := c) hfi)
              clear hfi HSF hs
              change ∀ W, (binOp .neq 36 (.agg #[.string ⟨#[]⟩, .int .i64 0, .string ⟨#[]⟩]) (.agg #[.string (mk c.2.1.1), .int .i64 c.2.1.2.1, .string (mk c.2.1.2.2)])).run Try.prog W = .ok (.bool (!decide (zE = c.2.1))) W at hne
              go_wp2_with (first | (go_at_call 16; refine (HFD.out _ HST.out.bel).mono ?_; rintro r w5 ⟨rfl, hw5⟩; have hw6 := hw5.symm; subst hw6; clear HFD) | (refine wpList_store_mid (by rfl) 36 (.tmp 14) (.tmp 93) (by rfl) wr.heap.size 0 #[Value.string ⟨#[]⟩, .int .i64 0, .string ⟨#[]⟩] (by kernel_rfl) (by kernel_rfl) HT.out HI0.out HO0.out ?_; clear HT; obtain ⟨w4, hw4⟩ : ∃ w4, w4 = (wr.alloc (.cells #[.string ⟨#[]⟩, .int .i64 0, .string ⟨#[]⟩] 36)).setCells wr.heap.size 0 #[Value.string ⟨#[]⟩, .int .i64 0, .string ⟨#[]⟩].toList := ⟨_, rfl⟩; rw [← hw4] at HD4 HB4 ⊢; clear hw4; obtain ⟨D, HD⟩ : ∃ D : Nat, Hid (wr.heap.size = D) := ⟨_, rfl⟩; rw [HD.out] at HD4 ⊢; have HBX := hid (below_then HST.out.bel HB4.out); have HOX := hid (HST.out.own.below HB4.out); skip))
              try simp only [Act.put]
              have HLD := hid HD4.out.lt
              obtain ⟨d0, d1, d2⟩ := HD4.out.at
              have da := fun p : Bel w4 => p.cell d0 HLD.out
              have db := fun p : Bel w4 => p.cell d1 HLD.out
              have dc := fun p : Bel w4 => p.cell d2 HLD.out
              have s1 := fun p : Bel w4 => HCL.out p.out (below_then HBX.out p.bel) 1 _ rfl
              have s2 := fun p : Bel w4 => HCL.out p.out (below_then HBX.out p.bel) 2 _ rfl
              have s3 := fun p : Bel w4 => HCL.out p.out (below_then HBX.out p.bel) 3 _ rfl
              have ib : Nonempty (Bel w4) := bel_some w4
              clear d0 d1 d2
              change ∀ p : Bel w4, p.out.cell? ⟨D, 0, none⟩ = some (.string ⟨#[]⟩) at da
              change ∀ p : Bel w4, p.out.cell? ⟨D, 1, none⟩ = some (.int .i64 0) at db
              change ∀ p : Bel w4, p.out.cell? ⟨D, 2, none⟩ = some (.string ⟨#[]⟩) at dc
              by_cases hx : zE = c.2.1
              ·
                have HG2 := hid (HGO.out hx)
                rw [decide_eq_true hx] at hne
                clear hx HGO HBAD
                refine wp_region_quiet_bel (by kernel_rfl) (by kernel_rfl) ?_
                repeat (go_big_quiet_step (fail))
                refine wpQuiet_nil ?_
                rintro w6 ⟨⟨w6', hb6⟩, hw6⟩
                obtain rfl : w6 = w6' := hw6
                have HB6 := hid (below_then HBX.out hb6)
                have HO6 := hid (HOX.out.below hb6)
                clear hb6 da db dc s1 s2 s3 ib HLD
                have HEN := hid (ents_one w6 c.2.2)
                have HO7 := hid (HO6.out.below (below_walk w6 (.cells #[.string (mk c.2.2.1), .int .i64 c.2.2.2.1, .string (mk c.2.2.2.2)] 36)))
                have HB7 := hid (HB6.out.alloc HB6.out.size (.cells #[.string (mk c.2.2.1), .int .i64 c.2.2.2.1, .string (mk c.2.2.2.2)] 36))
                have HL7 := hid (show out.length + [c.2.2].length ≤ 3298534883328 by have := HST.out.len; simp; omega)
                have r4 := HCL.out w6 HB6.out 4 _ rfl
                have r5 := HCL.out w6 HB6.out 5 _ rfl
                have r6 := HCL.out w6 HB6.out 6 _ rfl
                go_wp2_with (at_builtin; refine app_ent rfl _ _ rfl w2.heap.size _ out rfl HO7.out [c.2.2] _ rfl HEN.out HL7.out HB7.out.size ?_; intro v8 w8 ho8 hg8 _; have HO8 := hid ho8; have HB8 := hid (HB7.out.grown hg8 HB7.out.size (fun j hj => (HO7.out.lt j hj).1)); obtain ⟨a8, n8, c8, e8⟩ : ∃ a n c, v8 = .slice a n c := by {obtain ⟨a, c, e⟩ := ho8.ents.shape; exact ⟨a, _, c, e⟩}; subst e8; clear ho8 hg8)
                exact ⟨⟨k + 1, out ++ [c.2.2], by simp, by omega, ⟨HO8.out, by rw [HTK.out, HNW.out, ← HST.out.eq], HG2.out, HB8.out⟩⟩, by simp [intOf]; omega⟩
              ·
                have HBD := hid (HBAD.out hx)
                rw [decide_eq_false hx] at hne
                clear hx HGO HBAD
                refine wp_region_quiet_bel (by kernel_rfl) (by kernel_rfl) ?_
                repeat (go_big_quiet_step (fail))
                refine wpQuiet_nil ?_
                rintro w6 ⟨⟨w6', hb6⟩, hw6⟩
                obtain rfl : w6 = w6' := hw6
                have HB6 := hid (below_then HBX.out hb6)
                have HO6 := hid (HOX.out.below hb6)
                clear hb6 da db dc s1 s2 s3 ib HLD
                go_wp2
                go_ret2
                rw [HBD.out]
                exact ⟨rfl, below_then HBW.out HB6.out⟩
            | some i =>
              obtain ⟨hi, hpi, _⟩ := fiP_some.1 hfi
              obtain ⟨s, HSS⟩ : ∃ s, Hid (t.getD i zE = s) := ⟨_, rfl⟩
              have hs : stP t c.1 = s := by rw [HSF.out, hfi]; exact HSS.out
              have HFN := hid (show fiN t c.1 = (i : Int) by unfold fiN; rw [hfi])
              rw [HFN.out] at HFD
              rw [hs] at hne HBAD HGO
              have HNW := hid (outL_set (t := t) (cs := cs.take k) (c := c) (i := i) HRT.out.up hfi HCN.out)
              obtain ⟨gt, ot, rfl, hgt, hat⟩ := HE2.out.at i hi
              rw [HSS.out] at hat
              have HAT := hid hat
              have HGT := hid hgt
              have q2 : (i : Int) < (t.length : Int) := by omega
              have hio : i < out.length := by have := HST.out.len; omega
              have q3 : (i : Int) < (nb : Int) := by rw [← HNB.out]; omega
              have hon : out ≠ [] := fun e => by rw [e] at hio; simp at hio
              obtain ⟨go, cap, hvo, hgo1, hgo2, hgo3⟩ := HST.out.own.shp hon
              injection hvo with hv1 hv2 hv3
              subst hv1 hv3
              have HIO := hid hio
              have HI3 := hid (info_e3 s)
              have HO3 := hid (one_e3 s)
              have HI4 := hid (info_e3 c.2.2)
              have HO4 := hid (one_e3 c.2.2)
              have HVO := hid (show w2.heap.size ≤ go from hgo1)
              clear hfi HSF hs hat hgt hi hpi hon hgo1 hgo2 hgo3 hv2 hio
              go_wp2_with (first | (go_at_call 16; refine (HFD.out _ HST.out.bel).mono ?_; rintro r w5 ⟨rfl, hw5⟩; have hw6 := hw5.symm; subst hw6; clear HFD) | (refine wpList_store_mid (by rfl) 36 (.tmp 14) (.tmp 93) (by rfl) wr.heap.size 0 #[Value.string ⟨#[]⟩, .int .i64 0, .string ⟨#[]⟩] (by kernel_rfl) (by kernel_rfl) HT.out HI0.out HO0.out ?_; clear HT; obtain ⟨w4, hw4⟩ : ∃ w4, w4 = (wr.alloc (.cells #[.string ⟨#[]⟩, .int .i64 0, .string ⟨#[]⟩] 36)).setCells wr.heap.size 0 #[Value.string ⟨#[]⟩, .int .i64 0, .string ⟨#[]⟩].toList := ⟨_, rfl⟩; rw [← hw4] at HD4 HB4 ⊢; clear hw4; obtain ⟨D, HD⟩ : ∃ D : Nat, Hid (wr.heap.size = D) := ⟨_, rfl⟩; rw [HD.out] at HD4 ⊢; have HBX := hid (below_then HST.out.bel HB4.out); have HOX := hid (HST.out.own.below HB4.out); have HT5 := hid HD4.out.there; have HD5 := hid (HD4.out.all s); have HBY := hid (belowCs (show w2.heap.size ≤ D by rw [← HD.out]; exact HST.out.bel.size) [Value.string (mk s.1), .int .i64 s.2.1, .string (mk s.2.2)] 0 _ HBX.out); have HOY := hid (own_cells HOX.out (e := s) (d := D) (fun h => absurd (Nat.lt_of_lt_of_le (HST.out.own.lt go rfl).2 (by rw [HD.out]; exact Nat.le_of_eq h.symm)) (Nat.lt_irrefl _))); obtain ⟨t0, t1, t2⟩ := HAT.out.below HGT.out HBX.out) | (refine wpList_store_mid (by rfl) 36 (.tmp 14) (.tmp 99) (by rfl) D 0 #[.string (mk s.1), .int .i64 s.2.1, .string (mk s.2.2)] (by kernel_rfl) (by kernel_rfl) HT5.out HI3.out HO3.out ?_; clear HT5; obtain ⟨w5, hw5⟩ : ∃ w5, w5 = w4.setCells D 0 #[Value.string (mk s.1), .int .i64 s.2.1, .string (mk s.2.2)].toList := ⟨_, rfl⟩; change Hid (Eb (w4.setCells D 0 #[Value.string (mk s.1), .int .i64 s.2.1, .string (mk s.2.2)].toList) D s) at HD5; change Hid (Below w2.heap.size w2 (w4.setCells D 0 #[Value.string (mk s.1), .int .i64 s.2.1, .string (mk s.2.2)].toList)) at HBY; change Hid (OwnE (w4.setCells D 0 #[Value.string (mk s.1), .int .i64 s.2.1, .string (mk s.2.2)].toList) w2.heap.size (.slice (some ⟨go, 0, none⟩) nb _) out) at HOY; rw [← hw5] at HD5 HBY HOY ⊢; clear hw5; have HBX5 := HBY; have HOX5 := HOY; clear HBX HOX HBY HOY))
              try simp only [Act.put]
              have HLD := hid HD5.out.lt
              obtain ⟨d0, d1, d2⟩ := HD5.out.at
              have da := fun p : Bel w5 => p.cell d0 HLD.out
              have db := fun p : Bel w5 => p.cell d1 HLD.out
              have dc := fun p : Bel w5 => p.cell d2 HLD.out
              have s1 := fun p : Bel w5 => HCL.out p.out (below_then HBX5.out p.bel) 1 _ rfl
              have s2 := fun p : Bel w5 => HCL.out p.out (below_then HBX5.out p.bel) 2 _ rfl
              have s3 := fun p : Bel w5 => HCL.out p.out (below_then HBX5.out p.bel) 3 _ rfl
              have ib : Nonempty (Bel w5) := bel_some w5
              clear d0 d1 d2
              by_cases hx : s = c.2.1
              ·
                have HG2 := hid (HGO.out hx)
                rw [decide_eq_true hx] at hne
                clear hx HGO HBAD
                refine wp_region_quiet_bel (by kernel_rfl) (by kernel_rfl) ?_
                repeat (go_big_quiet_step (fail))
                refine wpQuiet_nil ?_
                rintro w6 ⟨⟨w6', hb6⟩, hw6⟩
                obtain rfl : w6 = w6' := hw6
                have HB6 := hid (below_then HBX5.out hb6)
                have HO6 := hid (HOX5.out.below hb6)
                clear hb6 da db dc s1 s2 s3 ib HLD
                have HTO := hid (show w6.there go (i * 3) 3 from by obtain ⟨g9, c9, e9, _, _, e10⟩ := HO6.out.shp (fun e => by have := HIO.out; rw [e] at this; simp at this); injection e9 with e9 _ _; injection e9 with e9; injection e9 with e9; rw [e9]; exact e10 i HIO.out)
                have HO8 := hid (HO6.out.set HIO.out c.2.2)
                have HB8 := hid (belowCs HVO.out [Value.string (mk c.2.2.1), .int .i64 c.2.2.2.1, .string (mk c.2.2.2.2)] (i * 3) _ HB6.out)
                have r4 := HCL.out w6 HB6.out 4 _ rfl
                have r5 := HCL.out w6 HB6.out 5 _ rfl
                have r6 := HCL.out w6 HB6.out 6 _ rfl
                go_wp2_with (refine wpList_store_mid (by rfl) 36 (.tmp 116) (.tmp 115) (by rfl) go (i * 3) #[.string (mk c.2.2.1), .int .i64 c.2.2.2.1, .string (mk c.2.2.2.2)] (by kernel_rfl) (by kernel_rfl) HTO.out HI4.out HO4.out ?_; clear HTO)
                exact ⟨⟨k + 1, out.set i c.2.2, by simp, by omega, ⟨HO8.out, by rw [HTK.out, HNW.out, ← HST.out.eq], HG2.out, HB8.out⟩⟩, by simp [intOf]; omega⟩
              ·
                have HBD := hid (HBAD.out hx)
                rw [decide_eq_false hx] at hne
                clear hx HGO HBAD
                refine wp_region_quiet_bel (by kernel_rfl) (by kernel_rfl) ?_
                repeat (go_big_quiet_step (fail))
                refine wpQuiet_nil ?_
                rintro w6 ⟨⟨w6', hb6⟩, hw6⟩
                obtain rfl : w6 = w6' := hw6
                have HB6 := hid (below_then HBX5.out hb6)
                have HO6 := hid (HOX5.out.below hb6)
                clear hb6 da db dc s1 s2 s3 ib HLD
                go_wp2
                go_ret2
                rw [HBD.out]
                exact ⟨rfl, below_then HBW.out HB6.out⟩
          · have q1 : ¬ (k : Int) < (cs.length : Int) := by omega
            obtain rfl : k = cs.length := by omega
            have HAP := hid (show apP t cs = if (chkP (chgd t cs)).2 ≠ 0 then .error (chkP (chgd t cs)).2 else .ok (chgd t cs) from by
              unfold apP
              rw [if_neg (by simpa using HE0.out), if_neg (by rw [HMB.out]; simp), if_neg ?_]
              rw [List.any_eq_true]
              rintro ⟨c, hc, hd⟩
              obtain ⟨j, hj, rfl⟩ := List.getElem_of_mem hc
              have := HST.out.st j hj
              rw [List.getD_eq_getElem?_getD, List.getElem?_eq_getElem hj] at this
              simp only [Option.getD_some] at this
              simp [this] at hd)
            have HOE := hid (show out = outL t cs from by have := HST.out.eq; rwa [List.take_length] at this)
            have HEO := hid HST.out.own.ents
            have HOL := hid (show out.length ≤ 2097152 by have := HST.out.len; omega)
            have HZE := hid (HN2.out.below HST.out.bel)
            have HBR := hid (below_then HBW.out HST.out.bel)
            clear HST HN2 HE2 HL2 HPW HBW
            go_wp2
            obtain ⟨w8, hw8⟩ : ∃ w8, w8 = wr := ⟨_, rfl⟩
            rw [← hw8] at HEO HZE HBR ⊢
            clear hw8
            go_loopw [15, 16] (fun x i wr => ∃ (k : Nat), i = .int .i64 k ∧ k ≤ out.length ∧ OwnE wr w8.heap.size x ((out.take k).filter (fun e => decide (e ≠ zE))) ∧ Below w8.heap.size w8 wr) (fun _ i _ => out.length - (intOf i).toNat)
            case atStart => exact ⟨0, rfl, Nat.zero_le _, OwnE.nil _ _, Below.refl _ _⟩
            case round =>
              obtain ⟨k, rfl, hk, ho, hb⟩ := hrel
              have HO := hid ho
              have HB := hid hb
              obtain ⟨al, xl, e2⟩ := ho.ents.shape
              generalize ((out.take k).filter (fun e => decide (e ≠ zE))).length = nl at e2
              subst e2
              clear ho hb
              by_cases hlt : k < out.length
              · have q1 : (k : Int) < (nb : Int) := by rw [← HNB.out]; omega
                have hw1 : IntKind.i64.wrap ((k : Int) + 1) = ((k + 1 : Nat) : Int) := by rw [IntKind.wrap_i64]; have := HOL.out; omega
                obtain ⟨g, o, rfl, hgl, hat⟩ := (HEO.out.below HB.out).at k hlt
                obtain ⟨e, HED⟩ : ∃ e, Hid (out.getD k zE = e) := ⟨_, rfl⟩
                rw [HED.out] at hat
                have HTK := hid (take_snoc out k hlt)
                rw [HED.out] at HTK
                have HZ9 := hid (HZE.out.below HB.out)
                have HLZ := hid HZ9.out.lt
                obtain ⟨d0, d1, d2⟩ := hat
                obtain ⟨y0, y1, y2⟩ := HZ9.out.at
                have da := fun p : Bel wr => p.cell d0 hgl
                have db := fun p : Bel wr => p.cell d1 hgl
                have dc := fun p : Bel wr => p.cell d2 hgl
                have v0 : ∀ p : Bel wr, p.out.cell? ⟨N, 0, none⟩ = some (.string ⟨#[]⟩) := fun p => p.cell y0 HLZ.out
                have v1 : ∀ p : Bel wr, p.out.cell? ⟨N, 1, none⟩ = some (.int .i64 0) := fun p => p.cell y1 HLZ.out
                have v2 : ∀ p : Bel wr, p.out.cell? ⟨N, 2, none⟩ = some (.string ⟨#[]⟩) := fun p => p.cell y2 HLZ.out
                have ib : Nonempty (Bel wr) := bel_some wr
                have hg := entG
                have hne : ∀ W, (binOp .neq 36 (.agg #[.string (mk e.1), .int .i64 e.2.1, .string (mk e.2.2)]) (.agg #[.string ⟨#[]⟩, .int .i64 0, .string ⟨#[]⟩])).run Try.prog W = .ok (.bool (!decide (e = zE))) W := fun W => neq_ent e zE W
                have HAT := hid (show EntAt wr g (o + k * 3) e from ⟨d0, d1, d2⟩)
                have HGL := hid hgl
                clear d0 d1 d2 y0 y1 y2 hgl
                by_cases hx : e = zE
                · have HF := hid (show (out.take (k + 1)).filter (fun e => decide (e ≠ zE)) = (out.take k).filter (fun e => decide (e ≠ zE)) from by rw [HTK.out, List.filter_append]; simp [hx])
                  rw [decide_eq_true hx] at hne
                  clear hx
                  go_wp2_with fail
                  refine wp_region_quiet_bel (by kernel_rfl) (by kernel_rfl) ?_
                  repeat (go_big_quiet_step (fail))
                  refine wpQuiet_nil ?_
                  rintro w9 ⟨⟨w9', hb9⟩, hw9⟩
                  obtain rfl : w9 = w9' := hw9
                  have HB9 := hid (below_then HB.out hb9)
                  have HO9 := hid (HO.out.below hb9)
                  clear hb9 da db dc v0 v1 v2 ib
                  go_wp2
                  exact ⟨⟨k + 1, by simp, by omega, by rw [HF.out]; exact HO9.out, HB9.out⟩, by simp [intOf]; omega⟩
                · have HF := hid (show (out.take (k + 1)).filter (fun e => decide (e ≠ zE)) = (out.take k).filter (fun e => decide (e ≠ zE)) ++ [e] from by rw [HTK.out, List.filter_append]; simp [hx])
                  rw [decide_eq_false hx] at hne
                  clear hx
                  go_wp2_with fail
                  refine wp_region_quiet_bel (by kernel_rfl) (by kernel_rfl) ?_
                  repeat (go_big_quiet_step (fail))
                  refine wpQuiet_nil ?_
                  rintro w9 ⟨⟨w9', hb9⟩, hw9⟩
                  obtain rfl : w9 = w9' := hw9
                  have HB9 := hid (below_then HB.out hb9)
                  have HO9 := hid (HO.out.below hb9)
                  obtain ⟨d0, d1, d2⟩ := HAT.out.below HGL.out hb9
                  have HEN := hid (ents_one w9 e)
                  have HOA := hid (HO9.out.below (below_walk w9 (.cells #[.string (mk e.1), .int .i64 e.2.1, .string (mk e.2.2)] 36)))
                  have HBA := hid (HB9.out.alloc HB9.out.size (.cells #[.string (mk e.1), .int .i64 e.2.1, .string (mk e.2.2)] 36))
                  have HLA := hid (show ((out.take k).filter (fun e => decide (e ≠ zE))).length + [e].length ≤ 3298534883328 by have h1 := List.length_filter_le (fun e => decide (e ≠ zE)) (out.take k); rw [List.length_take] at h1; have := HOL.out; simp only [List.length_cons, List.length_nil]; omega)
                  clear hb9 da db dc v0 v1 v2 ib
                  go_wp2_with (at_builtin; refine app_ent rfl _ _ rfl w8.heap.size _ _ rfl HOA.out [e] _ rfl HEN.out HLA.out HBA.out.size ?_; intro vA wA hoA hgA _; have HOB := hid hoA; have HBB := hid (HBA.out.grown hgA HBA.out.size (fun j hj => (HOA.out.lt j hj).1)); obtain ⟨aA, nA, cA, eA⟩ : ∃ a n c, vA = .slice a n c := by {obtain ⟨a, c, e⟩ := hoA.ents.shape; exact ⟨a, _, c, e⟩}; subst eA; clear hoA hgA)
                  exact ⟨⟨k + 1, by simp, by omega, by rw [HF.out]; exact HOB.out, HBB.out⟩, by simp [intOf]; omega⟩
              · have q1 : ¬ (k : Int) < (nb : Int) := by rw [← HNB.out]; omega
                have HLF := hid (show (out.take k).filter (fun e => decide (e ≠ zE)) = leftL t cs from by rw [List.take_of_length_le (by omega), HOE.out]; rfl)
                rw [HLF.out] at HO
                have HMM := hid (fun e (he : e ∈ leftL t cs) => chgd_short HRT.out.may HMB.out e ((mem_left HMB.out HRT.out.up HRT.out.may).1 he))
                have HLL := hid (show (leftL t cs).length ≤ 1099511627776 from by rw [← HLF.out]; have h1 := List.length_filter_le (fun e => decide (e ≠ zE)) (out.take k); rw [List.length_take] at h1; have := HOL.out; omega)
                have HSO := hid (rsort_any _ (leftL t cs) (Nat.le_refl _) HLL.out (fun e he => mayP_ok (HMM.out e he)) _ wr HO.out.ents)
                have HBQ := hid (below_then HBR.out HB.out)
                clear HLF
                go_wp2_with fail
                refine HSO.out.mono ?_
                rintro r wS ⟨vS, l, rfl, hoS, hpS, huS, hbS⟩
                have HLC := hid (left_sorted HMB.out HRT.out.up HRT.out.may hpS huS)
                have HBS := hid (below_then HBQ.out hbS)
                have HOS := hid (hoS.le HBQ.out.size)
                have HML := hid (fun e (he : e ∈ l) => HMM.out e (hpS.mem_iff.1 he))
                have HLS := hid (show l.length ≤ 1099511627776 from by rw [hpS.length_eq]; exact HLL.out)
                rw [← HLC.out] at HAP
                obtain ⟨aS, cS, eS⟩ := hoS.ents.shape
                have HRC := hid (rcheck_any vS l wS hoS.ents (may_bulk HML.out) (by have := HLS.out; omega))
                obtain ⟨nS, HNS⟩ : ∃ n : Nat, Hid (l.length = n) := ⟨_, rfl⟩
                rw [HNS.out] at eS
                subst eS
                obtain ⟨E1, HE1⟩ : ∃ E : Int, Hid ((chkP l).2 = E) := ⟨_, rfl⟩
                rw [HE1.out] at HRC HAP
                generalize (chkP l).1 = N1 at *
                clear hoS hpS huS hbS HSO
                go_wp2_with fail
                refine HRC.out.mono ?_
                rintro r wT ⟨rfl, hbT⟩
                have HBT := hid (below_then HBS.out hbT)
                have HOT := hid (HOS.out.below hbT)
                clear hbT HRC
                by_cases h1 : E1 = 0
                · subst h1
                  rw [if_neg (by simp)] at HAP
                  go_wp2
                  go_ret2
                  rw [HAP.out]
                  exact ⟨⟨_, rfl, HOT.out⟩, HBT.out⟩
                · rw [if_pos h1] at HAP
                  have e1 : (E1 == 0) = false := by simpa using h1
                  go_wp2
                  go_ret2
                  rw [HAP.out]
                  exact ⟨rfl, HBT.out⟩
  · have HAP := hid (show apP t cs = .error E0 from by unfold apP; rw [HE0.out, if_pos h0])
    have e1 : (E0 == 0) = false := by simpa using h0
    clear h0
    go_enter Try.func26, Try.ntmps26
    go_wp2_with fail
    refine HR.out.mono ?_
    rintro r w1 ⟨rfl, hb1⟩
    have HB1 := hid hb1
    clear hb1 HR
    go_wp2
    go_ret2
    rw [HAP.out]
    exact ⟨rfl, HB1.out⟩

end Go.Proofs.Ytgldmepmeampeaa
