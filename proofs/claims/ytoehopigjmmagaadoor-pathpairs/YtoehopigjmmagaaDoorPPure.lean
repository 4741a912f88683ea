/- Paths, plainly: names, pieces, the text of pieces; walking by a written path. -/
import Derived.Lib.Join
import Derived.Lib.Index
namespace Go.Proofs.YtoehopigjmmagaaDoor

/-- a sign that a name may have -/
def nbI (c : Int) : Bool := decide ((65 ≤ c ∧ c ≤ 90) ∨ (97 ≤ c ∧ c ≤ 122) ∨ (48 ≤ c ∧ c ≤ 57) ∨ c = 46 ∨ c = 95 ∨ c = 45)
/-- a name -/
def nmP (l : List UInt8) : Bool := decide (1 ≤ l.length ∧ l.length ≤ 64 ∧ l ≠ [46] ∧ l ≠ [46, 46]) && l.all (fun c => nbI c.toNat)
/-- what stands between the slashes -/
def pcs : List UInt8 → List (List UInt8)
  | [] => [[]]
  | c :: r => if c = 47 then [] :: pcs r else
    match pcs r with
    | [] => [[c]]
    | h :: t => (c :: h) :: t
/-- pieces with slashes between -/
def txt : List (List UInt8) → List UInt8
  | [] => []
  | x :: r => x ++ (r.map ((47 : UInt8) :: ·)).flatten

theorem txt_join (l : List (List UInt8)) : Lib.join l [47] = txt l := by
  cases l with
  | nil => rfl
  | cons x r => rw [Lib.join_cons]; rfl
theorem txt_one (x : List UInt8) : txt [x] = x := by simp [txt]
theorem txt_two (x y : List UInt8) (r : List (List UInt8)) : txt (x :: y :: r) = x ++ 47 :: txt (y :: r) := by simp [txt]

theorem pcs_ne (s : List UInt8) : pcs s ≠ [] := by
  cases s with
  | nil => simp [pcs]
  | cons c r =>
    unfold pcs
    split
    · simp
    · split <;> simp
theorem pcs_slash (r : List UInt8) : pcs (47 :: r) = [] :: pcs r := by simp [pcs]
theorem pcs_cons (c : UInt8) (r : List UInt8) (h : c ≠ 47) : ∃ x t, pcs r = x :: t ∧ pcs (c :: r) = (c :: x) :: t := by
  cases e : pcs r with
  | nil => exact absurd e (pcs_ne r)
  | cons x t => exact ⟨x, t, rfl, by simp [pcs, h, e]⟩
theorem pcs_append (a b : List UInt8) : pcs (a ++ 47 :: b) = pcs a ++ pcs b := by
  induction a with
  | nil => simp [pcs]
  | cons c a ih =>
    by_cases h : c = 47
    · subst h; rw [List.cons_append, pcs_slash, pcs_slash, ih]; rfl
    · obtain ⟨x, t, e1, e2⟩ := pcs_cons c a h
      obtain ⟨y, u, f1, f2⟩ := pcs_cons c (a ++ 47 :: b) h
      rw [List.cons_append, f2, e2]
      rw [ih, e1] at f1
      simp only [List.cons_append, List.cons.injEq] at f1
      obtain ⟨rfl, rfl⟩ := f1
      rfl
theorem pcs_whole {s : List UInt8} (h : (47 : UInt8) ∉ s) : pcs s = [s] := by
  induction s with
  | nil => rfl
  | cons c r ih =>
    simp only [List.mem_cons, not_or] at h
    obtain ⟨x, t, e1, e2⟩ := pcs_cons c r (fun e => h.1 e.symm)
    rw [ih h.2] at e1
    simp only [List.cons.injEq] at e1
    obtain ⟨rfl, rfl⟩ := e1
    exact e2
theorem pcs_mem (s : List UInt8) : ∀ p ∈ pcs s, (47 : UInt8) ∉ p := by
  induction s with
  | nil => simp [pcs]
  | cons c r ih =>
    by_cases h : c = 47
    · subst h; rw [pcs_slash]; intro p hp
      simp only [List.mem_cons] at hp
      rcases hp with rfl | hp
      · simp
      · exact ih p hp
    · obtain ⟨x, t, e1, e2⟩ := pcs_cons c r h
      rw [e2]; rw [e1] at ih
      intro p hp
      simp only [List.mem_cons] at hp
      rcases hp with rfl | hp
      · simp only [List.mem_cons, not_or]
        exact ⟨fun e => h e.symm, ih x (by simp)⟩
      · exact ih p (by simp [hp])
theorem txt_pcs (s : List UInt8) : txt (pcs s) = s := by
  induction s with
  | nil => rfl
  | cons c r ih =>
    by_cases h : c = 47
    · subst h; rw [pcs_slash]
      cases e : pcs r with
      | nil => exact absurd e (pcs_ne r)
      | cons x t => rw [txt_two, ← e, ih]; rfl
    · obtain ⟨x, t, e1, e2⟩ := pcs_cons c r h
      rw [e2]; rw [e1] at ih
      simp only [txt] at ih ⊢
      rw [← ih]; rfl
theorem pcs_txt : ∀ (l : List (List UInt8)), l ≠ [] → (∀ p ∈ l, (47 : UInt8) ∉ p) → pcs (txt l) = l
  | [], h, _ => absurd rfl h
  | [x], _, h => by rw [txt_one]; exact pcs_whole (h x (by simp))
  | x :: y :: r, _, h => by
    rw [txt_two, pcs_append, pcs_whole (h x (by simp)), pcs_txt (y :: r) (by simp) (fun p hp => h p (List.mem_cons_of_mem _ hp))]
    rfl

theorem nmP_slash {p : List UInt8} (h : nmP p = true) : (47 : UInt8) ∉ p := by
  unfold nmP at h
  rw [Bool.and_eq_true, List.all_eq_true] at h
  intro hm
  have := h.2 47 hm
  revert this; decide
theorem nmP_ne {p : List UInt8} (h : nmP p = true) : p ≠ [] ∧ p ≠ [46] ∧ p ≠ [46, 46] := by
  unfold nmP at h
  rw [Bool.and_eq_true, decide_eq_true_iff] at h
  obtain ⟨⟨h1, _, h2, h3⟩, _⟩ := h
  refine ⟨?_, h2, h3⟩
  rintro rfl; simp at h1
theorem nmP_len {p : List UInt8} (h : nmP p = true) : p.length ≤ 64 := by
  unfold nmP at h
  rw [Bool.and_eq_true, decide_eq_true_iff] at h
  exact h.1.2.1

/-- so many names, and no more, make a path -/
def pathL (l : List (List UInt8)) : Prop := (∀ p ∈ l, nmP p = true) ∧ l.length ≤ 32
/-- a path's names -/
def nms (s : List UInt8) : List (List UInt8) := if s = [] then [] else pcs s
/-- is it a path? -/
def okP (s : List UInt8) : Bool := (nms s).all nmP && decide ((nms s).length ≤ 32)
theorem okP_iff (s : List UInt8) : okP s = true ↔ pathL (nms s) := by
  unfold okP pathL
  rw [Bool.and_eq_true, List.all_eq_true, decide_eq_true_iff]
theorem txt_nms (s : List UInt8) : txt (nms s) = s := by
  unfold nms
  split
  · rename_i h; rw [h]; rfl
  · exact txt_pcs s
theorem txt_ne {l : List (List UInt8)} (h : ∀ p ∈ l, nmP p = true) (hl : l ≠ []) : txt l ≠ [] := by
  cases l with
  | nil => exact absurd rfl hl
  | cons x r =>
    have := (nmP_ne (h x (by simp))).1
    simp only [txt]
    intro e
    exact this (List.append_eq_nil_iff.1 e).1
theorem nms_txt {l : List (List UInt8)} (h : ∀ p ∈ l, nmP p = true) : nms (txt l) = l := by
  unfold nms
  by_cases hl : l = []
  · subst hl; rfl
  · rw [if_neg (txt_ne h hl)]
    exact pcs_txt l hl (fun p hp => nmP_slash (h p hp))
theorem okP_txt {l : List (List UInt8)} (h : pathL l) : okP (txt l) = true := by
  rw [okP_iff, nms_txt h.1]; exact h
theorem okP_nil : okP [] = true := by decide

/-- one piece of a written path -/
def stepP (l : List (List UInt8)) (p : List UInt8) : Except Int (List (List UInt8)) :=
  if p = [] ∨ p = [46] then .ok l
  else if p = [46, 46] then (if l = [] then .error 43 else .ok l.dropLast)
  else if nmP p = true then .ok (l ++ [p]) else .error 42
/-- pieces, one behind the other -/
def stepsP : List (List UInt8) → List (List UInt8) → Except Int (List (List UInt8))
  | l, [] => .ok l
  | l, p :: r => match stepP l p with
    | .ok m => stepsP m r
    | .error e => .error e
/-- a written path -/
def walkP (l : List (List UInt8)) (s : List UInt8) : Except Int (List (List UInt8)) :=
  if 4096 < s.length then .error 40 else if s.head? = some 47 then .error 41 else stepsP l (pcs s)
def walksP : List (List UInt8) → List (List UInt8) → Except Int (List (List UInt8))
  | l, [] => .ok l
  | l, s :: r => match walkP l s with
    | .ok m => walksP m r
    | .error e => .error e
/-- the path of names that are names -/
def endP (l : List (List UInt8)) : Except Int (List UInt8) := if 32 < l.length then .error 44 else .ok (txt l)
def finP (r : Except Int (List (List UInt8))) : Except Int (List UInt8) := match r with
  | .ok m => endP m
  | .error e => .error e
def joinP (b : List UInt8) (more : List (List UInt8)) : Except Int (List UInt8) :=
  if okP b = true then finP (walksP (nms b) more) else .error 45
/-- an answer's text and number -/
def aS (r : Except Int (List UInt8)) : List UInt8 := match r with | .ok s => s | .error _ => []
def aN (r : Except Int (List UInt8)) : Int := match r with | .ok _ => 0 | .error e => e

theorem stepP_err {l : List (List UInt8)} {p : List UInt8} {e : Int} (h : stepP l p = .error e) : e = 42 ∨ e = 43 := by
  unfold stepP at h
  repeat' split at h
  all_goals first | (cases h; done) | (cases h; simp)
theorem stepsP_err : ∀ {r l : List (List UInt8)} {e : Int}, stepsP l r = .error e → e = 42 ∨ e = 43
  | [], l, e, h => by cases h
  | p :: r, l, e, h => by
    unfold stepsP at h
    split at h
    · exact stepsP_err h
    · rename_i e' he; cases h; exact stepP_err he
theorem walkP_err {l : List (List UInt8)} {s : List UInt8} {e : Int} (h : walkP l s = .error e) : 40 ≤ e ∧ e ≤ 43 := by
  unfold walkP at h
  split at h
  · cases h; decide
  · split at h
    · cases h; decide
    · rcases stepsP_err h with rfl | rfl <;> decide
theorem walksP_err : ∀ {r l : List (List UInt8)} {e : Int}, walksP l r = .error e → 40 ≤ e ∧ e ≤ 43
  | [], l, e, h => by cases h
  | p :: r, l, e, h => by
    unfold walksP at h
    split at h
    · exact walksP_err h
    · rename_i e' he; cases h; exact walkP_err he
theorem stepP_names {l m : List (List UInt8)} {p : List UInt8} (h : stepP l p = .ok m) (hl : ∀ x ∈ l, nmP x = true) : ∀ x ∈ m, nmP x = true := by
  unfold stepP at h
  repeat' split at h
  · cases h; exact hl
  · cases h
  · cases h; exact fun x hx => hl x ((List.dropLast_sublist l).subset hx)
  · rename_i hp; cases h
    intro x hx
    rw [List.mem_append] at hx
    rcases hx with hx | hx
    · exact hl x hx
    · rw [List.mem_singleton] at hx; rw [hx]; exact hp
  · cases h
theorem stepsP_names : ∀ {r l m : List (List UInt8)}, stepsP l r = .ok m → (∀ x ∈ l, nmP x = true) → ∀ x ∈ m, nmP x = true
  | [], l, m, h, hl => by cases h; exact hl
  | p :: r, l, m, h, hl => by
    unfold stepsP at h
    split at h
    · rename_i k hk; exact stepsP_names h (stepP_names hk hl)
    · cases h
theorem walkP_names {l m : List (List UInt8)} {s : List UInt8} (h : walkP l s = .ok m) (hl : ∀ x ∈ l, nmP x = true) : ∀ x ∈ m, nmP x = true := by
  unfold walkP at h
  split at h
  · cases h
  · split at h
    · cases h
    · exact stepsP_names h hl
theorem walksP_names : ∀ {r l m : List (List UInt8)}, walksP l r = .ok m → (∀ x ∈ l, nmP x = true) → ∀ x ∈ m, nmP x = true
  | [], l, m, h, hl => by cases h; exact hl
  | p :: r, l, m, h, hl => by
    unfold walksP at h
    split at h
    · rename_i k hk; exact walksP_names h (walkP_names hk hl)
    · cases h

/-- what is answered is a path -/
theorem joinP_ok {b : List UInt8} {more : List (List UInt8)} {s : List UInt8} (h : joinP b more = .ok s) : ∃ m, okP b = true ∧ walksP (nms b) more = .ok m ∧ pathL m ∧ s = txt m := by
  unfold joinP at h
  split at h
  · rename_i hb
    unfold finP at h
    split at h
    · rename_i m hm
      unfold endP at h
      split at h
      · cases h
      · cases h
        exact ⟨m, hb, hm, ⟨walksP_names hm ((okP_iff b).1 hb).1, by omega⟩, rfl⟩
    · cases h
  · cases h

end Go.Proofs.YtoehopigjmmagaaDoor
