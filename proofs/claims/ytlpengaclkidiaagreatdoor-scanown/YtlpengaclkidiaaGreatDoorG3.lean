/- Contracts and pure facts that the proof needs, joined. -/
import Derived.Test.YtlpengaclkidiaaGreatDoorG2
import Derived.BigQuiet
import Derived.WalkLawsBesides
import Derived.Deep.Cut
import Derived.BigRegion
import Derived.Deep.RegionHeld3
import Derived.Shelf.LaysM
import Derived.Shelf.Strconv.Clone
import Derived.Ground.NamesProg
import Derived.Test.YtlpengaclkidiaaGreatDoorProg
import Derived.Defers
import Derived.Recover

/- The includes of a source, plainly. -/
namespace Go.Proofs.YtlpengaclkidiaaGreatDoor
open Go.RowKit

def kInc : List UInt8 := [105, 110, 99, 108, 117, 100, 101]
def kAs : List UInt8 := [97, 115]
def kEnd : List UInt8 := [59]
/-- a token's bytes -/
def ttP (l : List UInt8) (f m : Nat) : List UInt8 := (l.drop f).take (m - f)
/-- is a token what stands at a place (0: the key include; 1 to 4: what stands behind it)? -/
def fitP (p k : Nat) (s : List UInt8) : Bool :=
  if p = 0 then decide (s = kInc) else if p = 1 then decide (k = 3) else if p = 2 then decide (s = kAs) else if p = 3 then decide (k = 1) else decide (s = kEnd)
/-- the token at a place, and why it is none -/
def plP (l : List UInt8) (p a : Nat) : (Nat × Nat × Nat) × Int :=
  if (nxP l (a : Int)).2 ≠ 0 then nxP l (a : Int)
  else if fitP p (nxP l (a : Int)).1.1 (ttP l (nxP l (a : Int)).1.2.1 (nxP l (a : Int)).1.2.2) = true then ((nxP l (a : Int)).1, 0) else ((nxP l (a : Int)).1, 130)

theorem fit_none (p : Nat) : fitP p 0 [] = false := by
  unfold fitP
  repeat' split
  all_goals decide
/-- a token that fits stands by itself -/
theorem pl_view {l : List UInt8} {a : Nat} (p : Nat) (hl : l.length ≤ 65536) (ha : a ≤ l.length) :
    (∃ (e : Int) (f : Nat), e ≠ 0 ∧ 120 ≤ e ∧ e ≤ 123 ∧ a ≤ f ∧ f ≤ l.length ∧ nxP l (a : Int) = ((0, f, 0), e) ∧ plP l p a = ((0, f, 0), e)) ∨
    (∃ k f m : Nat, a ≤ f ∧ f ≤ m ∧ m ≤ l.length ∧ nxP l (a : Int) = ((k, f, m), 0) ∧ fitP p k (ttP l f m) = false ∧ plP l p a = ((k, f, m), 130)) ∨
    (∃ k f m : Nat, a ≤ f ∧ f < m ∧ m ≤ l.length ∧ nxP l (a : Int) = ((k, f, m), 0) ∧ fitP p k (ttP l f m) = true ∧ plP l p a = ((k, f, m), 0) ∧ 1 ≤ k ∧ k ≤ 5 ∧ tokP (l.drop f) = (k, m - f, 0) ∧ gapP (l.drop f) = 0) := by
  have hf := frP_le ha
  rcases nx_view ha with ⟨v1, _⟩ | ⟨v0, ⟨v1, v2, v3⟩ | ⟨e, v1, v2, v3, v4, v5⟩ | ⟨k, n, v1, v2, v3, v4, v5, v6⟩⟩
  · omega
  · refine Or.inr (Or.inl ⟨0, frP l a, frP l a, hf.1, Nat.le_refl _, hf.2, v3, ?_, ?_⟩)
    · have : ttP l (frP l a) (frP l a) = [] := by unfold ttP; simp
      rw [this]; exact fit_none p
    · have : ttP l (frP l a) (frP l a) = [] := by unfold ttP; simp
      unfold plP
      rw [v3, if_neg (by simp)]
      simp only
      rw [this, fit_none, if_neg (by simp)]
  · refine Or.inl ⟨e, frP l a, by omega, v1, v2, hf.1, hf.2, v5, ?_⟩
    unfold plP
    rw [v5, if_pos (by simp only; omega)]
  · cases hb : fitP p k (ttP l (frP l a) (frP l a + n)) with
    | false =>
      refine Or.inr (Or.inl ⟨k, frP l a, frP l a + n, hf.1, by omega, v5, v6, hb, ?_⟩)
      unfold plP
      rw [v6, if_neg (by simp)]
      simp only
      rw [hb, if_neg (by simp)]
    | true =>
      refine Or.inr (Or.inr ⟨k, frP l a, frP l a + n, hf.1, by omega, v5, v6, hb, ?_, v2, v3, ?_, frP_idle l a⟩)
      · unfold plP
        rw [v6, if_neg (by simp)]
        simp only
        rw [hb, if_pos rfl]
      · rw [Nat.add_sub_cancel_left]; exact v1

/-- a token's own bytes are that token -/
theorem tok_own {l : List UInt8} {k f n : Nat} (ht : tokP (l.drop f) = (k, n, 0)) (hk : k ≠ 0) : tokP (ttP l f (f + n)) = (k, n, 0) ∧ (ttP l f (f + n)).length = n := by
  obtain ⟨s1, s2, _⟩ := tok_size ht hk
  unfold ttP
  rw [Nat.add_sub_cancel_left]
  have := tok_cut (r := []) ht hk (Or.inl rfl)
  rw [List.append_nil] at this
  exact ⟨this, by rw [List.length_take]; omega⟩
theorem js_own {l : List UInt8} {k f m : Nat} (hm : f < m) (ht : tokP (l.drop f) = (k, m - f, 0)) (hk : 1 ≤ k) (j : Nat) : jsP j (ttP l f m) = decide (k = j) := by
  have h := tok_own ht (by omega)
  rw [show f + (m - f) = m by omega] at h
  unfold jsP
  rw [h.1, h.2]
  by_cases hj : k = j
  · subst hj; simp
  · rw [decide_eq_false hj, decide_eq_false_iff_not]
    simp only [Prod.mk.injEq]
    exact fun x => hj x.1

/-- a text's value -/
def vlP (s : List UInt8) : List UInt8 := ((txP (s.drop 1)).getD ([], 0)).1
theorem vl_text {s : List UInt8} (h : jsP 3 s = true) : txP (s.drop 1) = some (vlP s, s.length - 1) := by
  obtain ⟨v, h1, _⟩ := js_text h
  unfold vlP
  rw [h1]
  rfl

/-- what stands behind the key include, from a place on: the error and where; the path, the name, the end -/
def in4 (l v n : List UInt8) (a : Nat) : Int × Nat × List UInt8 × List UInt8 × Nat :=
  if (plP l 4 a).2 ≠ 0 then ((plP l 4 a).2, (plP l 4 a).1.2.1, [], [], 0) else (0, 0, v, n, (plP l 4 a).1.2.2)
def in3 (l v : List UInt8) (a : Nat) : Int × Nat × List UInt8 × List UInt8 × Nat :=
  if (plP l 3 a).2 ≠ 0 then ((plP l 3 a).2, (plP l 3 a).1.2.1, [], [], 0) else in4 l v (ttP l (plP l 3 a).1.2.1 (plP l 3 a).1.2.2) (plP l 3 a).1.2.2
def in2 (l v : List UInt8) (a : Nat) : Int × Nat × List UInt8 × List UInt8 × Nat :=
  if (plP l 2 a).2 ≠ 0 then ((plP l 2 a).2, (plP l 2 a).1.2.1, [], [], 0) else in3 l v (plP l 2 a).1.2.2
def in1 (l : List UInt8) (a : Nat) : Int × Nat × List UInt8 × List UInt8 × Nat :=
  if (plP l 1 a).2 ≠ 0 then ((plP l 1 a).2, (plP l 1 a).1.2.1, [], [], 0) else in2 l (vlP (ttP l (plP l 1 a).1.2.1 (plP l 1 a).1.2.2)) (plP l 1 a).1.2.2

/-- the four tokens behind the key include: all there, or the first one that is not -/
theorem in_view {l : List UInt8} {a : Nat} (hl : l.length ≤ 65536) (ha : a ≤ l.length) :
    (∃ (e : Int) (f : Nat), e ≠ 0 ∧ f ≤ l.length ∧ in1 l a = (e, f, [], [], 0)) ∨
    (∃ (f1 m1 k2 f2 m2 f3 m3 k4 f4 m4 : Nat), a ≤ f1 ∧ f1 < m1 ∧ m1 ≤ f2 ∧ f2 < m2 ∧ m2 ≤ f3 ∧ f3 < m3 ∧ m3 ≤ f4 ∧ f4 < m4 ∧ m4 ≤ l.length ∧
      plP l 1 a = ((3, f1, m1), 0) ∧ plP l 2 m1 = ((k2, f2, m2), 0) ∧ plP l 3 m2 = ((1, f3, m3), 0) ∧ plP l 4 m3 = ((k4, f4, m4), 0) ∧
      jsP 3 (ttP l f1 m1) = true ∧ jsP 1 (ttP l f3 m3) = true ∧
      in1 l a = (0, 0, vlP (ttP l f1 m1), ttP l f3 m3, m4)) := by
  have e1 : ∀ e : Int, (e ≠ 0 ∧ True) → e ≠ 0 := fun e h => h.1
  rcases pl_view 1 hl ha with ⟨e, f, h0, _, _, _, hf, _, hp⟩ | ⟨k, f, m, _, hfm, hm, _, _, hp⟩ | ⟨k1, f1, m1, a1, b1, c1, _, hk1, p1, g1, _, t1, _⟩
  · exact Or.inl ⟨e, f, h0, hf, by unfold in1; rw [hp, if_pos h0]⟩
  · exact Or.inl ⟨130, f, by decide, by omega, by unfold in1; rw [hp, if_pos (by simp)]⟩
  have hk1 : k1 = 3 := by simpa [fitP] using hk1
  subst hk1
  rcases pl_view (a := m1) 2 hl (by omega) with ⟨e, f, h0, _, _, _, hf, _, hp⟩ | ⟨k, f, m, _, hfm, hm, _, _, hp⟩ | ⟨k2, f2, m2, a2, b2, c2, _, hk2, p2, g2, _, t2, _⟩
  · exact Or.inl ⟨e, f, h0, hf, by unfold in1; rw [p1, if_neg (by simp)]; unfold in2; simp only; rw [hp, if_pos h0]⟩
  · exact Or.inl ⟨130, f, by decide, by omega, by unfold in1; rw [p1, if_neg (by simp)]; unfold in2; simp only; rw [hp, if_pos (by simp)]⟩
  rcases pl_view (a := m2) 3 hl (by omega) with ⟨e, f, h0, _, _, _, hf, _, hp⟩ | ⟨k, f, m, _, hfm, hm, _, _, hp⟩ | ⟨k3, f3, m3, a3, b3, c3, _, hk3, p3, g3, _, t3, _⟩
  · exact Or.inl ⟨e, f, h0, hf, by unfold in1; rw [p1, if_neg (by simp)]; unfold in2; simp only; rw [p2, if_neg (by simp)]; unfold in3; simp only; rw [hp, if_pos h0]⟩
  · exact Or.inl ⟨130, f, by decide, by omega, by unfold in1; rw [p1, if_neg (by simp)]; unfold in2; simp only; rw [p2, if_neg (by simp)]; unfold in3; simp only; rw [hp, if_pos (by simp)]⟩
  have hk3 : k3 = 1 := by simpa [fitP] using hk3
  subst hk3
  rcases pl_view (a := m3) 4 hl (by omega) with ⟨e, f, h0, _, _, _, hf, _, hp⟩ | ⟨k, f, m, _, hfm, hm, _, _, hp⟩ | ⟨k4, f4, m4, a4, b4, c4, _, hk4, p4, g4, _, t4, _⟩
  · exact Or.inl ⟨e, f, h0, hf, by unfold in1; rw [p1, if_neg (by simp)]; unfold in2; simp only; rw [p2, if_neg (by simp)]; unfold in3; simp only; rw [p3, if_neg (by simp)]; unfold in4; simp only; rw [hp, if_pos h0]⟩
  · exact Or.inl ⟨130, f, by decide, by omega, by unfold in1; rw [p1, if_neg (by simp)]; unfold in2; simp only; rw [p2, if_neg (by simp)]; unfold in3; simp only; rw [p3, if_neg (by simp)]; unfold in4; simp only; rw [hp, if_pos (by simp)]⟩
  refine Or.inr ⟨f1, m1, k2, f2, m2, f3, m3, k4, f4, m4, a1, b1, a2, b2, a3, b3, a4, b4, c4, p1, p2, p3, p4, ?_, ?_, ?_⟩
  · rw [js_own b1 t1 (by omega)]; rfl
  · rw [js_own b3 t3 (by omega)]; rfl
  · unfold in1; rw [p1, if_neg (by simp)]; unfold in2; simp only; rw [p2, if_neg (by simp)]; unfold in3; simp only; rw [p3, if_neg (by simp)]; unfold in4; simp only; rw [p4, if_neg (by simp)]

/-- the includes from a place on: their list, the end, the error, where; so many at most -/
def jnP (L : List (List UInt8 × List UInt8 × Nat)) (q : List (List UInt8 × List UInt8 × Nat) × Nat × Int × Nat) : List (List UInt8 × List UInt8 × Nat) × Nat × Int × Nat :=
  if q.2.2.1 ≠ 0 then ([], 0, q.2.2) else (L ++ q.1, q.2.1, 0, 0)
def scF : Nat → List UInt8 → Nat → List (List UInt8 × List UInt8 × Nat) × Nat × Int × Nat
  | 0, _, a => ([], a, 0, 0)
  | n + 1, l, a => if (plP l 0 a).2 ≠ 0 then ([], a, 0, 0)
    else if (in1 l (plP l 0 a).1.2.2).1 ≠ 0 then ([], 0, (in1 l (plP l 0 a).1.2.2).1, (in1 l (plP l 0 a).1.2.2).2.1)
    else jnP [((in1 l (plP l 0 a).1.2.2).2.2.1, (in1 l (plP l 0 a).1.2.2).2.2.2.1, (plP l 0 a).1.2.1)] (scF n l (in1 l (plP l 0 a).1.2.2).2.2.2.2)
def scP (l : List UInt8) (a : Nat) : List (List UInt8 × List UInt8 × Nat) × Nat × Int × Nat := scF (l.length + 1) l a

theorem sc_view {l : List UInt8} {a : Nat} (hl : l.length ≤ 65536) (ha : a ≤ l.length) :
    (∃ t e, e ≠ 0 ∧ plP l 0 a = (t, e)) ∨
    (∃ k f m : Nat, a ≤ f ∧ f < m ∧ m ≤ l.length ∧ plP l 0 a = ((k, f, m), 0) ∧ ∃ (e : Int) (g : Nat), e ≠ 0 ∧ g ≤ l.length ∧ in1 l m = (e, g, [], [], 0)) ∨
    (∃ (k f m : Nat) (v n : List UInt8) (tz : Nat), a ≤ f ∧ f < m ∧ m < tz ∧ tz ≤ l.length ∧ plP l 0 a = ((k, f, m), 0) ∧ in1 l m = (0, 0, v, n, tz)) := by
  rcases pl_view 0 hl ha with ⟨e, f, h0, _, _, _, hf, _, hp⟩ | ⟨k, f, m, _, hfm, hm, _, _, hp⟩ | ⟨k, f, m, a1, b1, c1, _, _, p1, _⟩
  · exact Or.inl ⟨_, e, h0, hp⟩
  · exact Or.inl ⟨_, 130, by decide, hp⟩
  · rcases in_view hl (a := m) c1 with ⟨e, g, h0, hg, hi⟩ | ⟨f1, m1, k2, f2, m2, f3, m3, k4, f4, m4, i1, i2, i3, i4, i5, i6, i7, i8, i9, _, _, _, _, _, _, hi⟩
    · exact Or.inr (Or.inl ⟨k, f, m, a1, b1, c1, p1, e, g, h0, hg, hi⟩)
    · exact Or.inr (Or.inr ⟨k, f, m, _, _, m4, a1, b1, by omega, i9, p1, hi⟩)
theorem scF_more : ∀ (n m : Nat) (l : List UInt8) (a : Nat), l.length ≤ 65536 → a ≤ l.length → l.length - a < n → l.length - a < m → scF n l a = scF m l a
  | 0, _, l, a, _, _, h, _ => by omega
  | _ + 1, 0, l, a, _, _, _, h => by omega
  | n + 1, m + 1, l, a, hl, ha, h1, h2 => by
    unfold scF
    rcases sc_view hl ha with ⟨t, e, h0, hp⟩ | ⟨k, f, x, _, _, _, hp, e, g, h0, _, hi⟩ | ⟨k, f, x, v, s, tz, _, _, _, _, hp, hi⟩
    · rw [hp, if_pos h0, if_pos h0]
    · have z : ¬ ((0 : Int) ≠ 0) := by simp
      rw [hp]; simp only; rw [hi]; simp only; rw [if_neg z, if_pos h0, if_neg z, if_pos h0]
    · have z : ¬ ((0 : Int) ≠ 0) := by simp
      rw [hp]; simp only; rw [hi]; simp only; rw [if_neg z, if_neg z, if_neg z, if_neg z, scF_more n m l tz hl (by omega) (by omega) (by omega)]
theorem sc_end {l : List UInt8} {a : Nat} {t : Nat × Nat × Nat} {e : Int} (h : plP l 0 a = (t, e)) (he : e ≠ 0) : scP l a = ([], a, 0, 0) := by
  unfold scP; rw [scF, h, if_pos he]
theorem sc_bad {l : List UInt8} {a k f m g : Nat} {e : Int} {x y : List UInt8} {z : Nat} (h : plP l 0 a = ((k, f, m), 0)) (hi : in1 l m = (e, g, x, y, z)) (he : e ≠ 0) : scP l a = ([], 0, e, g) := by
  unfold scP; rw [scF, h, if_neg (by simp)]; simp only; rw [hi, if_pos he]
theorem sc_step {l : List UInt8} {a k f m tz : Nat} {v n : List UInt8} (hl : l.length ≤ 65536) (ha : a < tz) (hto : tz ≤ l.length) (h : plP l 0 a = ((k, f, m), 0)) (hi : in1 l m = (0, 0, v, n, tz)) : scP l a = jnP [(v, n, f)] (scP l tz) := by
  unfold scP
  rw [scF, h, if_neg (by simp)]
  simp only
  rw [hi, if_neg (by simp), scF_more l.length (l.length + 1) l tz hl hto (by omega) (by omega)]
theorem jn_jn (A B : List (List UInt8 × List UInt8 × Nat)) (q : List (List UInt8 × List UInt8 × Nat) × Nat × Int × Nat) : jnP A (jnP B q) = jnP (A ++ B) q := by
  unfold jnP
  by_cases h : q.2.2.1 ≠ 0
  · rw [if_pos h, if_pos h, if_pos h]
  · rw [if_neg h, if_neg h, if_neg (by simp), List.append_assoc]
theorem sc_form {l : List UInt8} {a : Nat} (hl : l.length ≤ 65536) (ha : a ≤ l.length) : scP l a = jnP [] (scP l a) := by
  rcases sc_view hl ha with ⟨t, e, h0, hp⟩ | ⟨k, f, x, _, _, _, hp, e, g, h0, _, hi⟩ | ⟨k, f, x, v, s, tz, _, _, _, _, hp, hi⟩
  · rw [sc_end hp h0]; rfl
  · rw [sc_bad hp hi h0]; unfold jnP; rw [if_pos h0]
  · rw [sc_step hl (by omega) (by omega) hp hi, jn_jn]; rfl
/-- includes so far -/
def Sg (l : List UInt8) (a : Nat) (L : List (List UInt8 × List UInt8 × Nat)) : Prop := a ≤ l.length ∧ L.length ≤ a ∧ scP l 0 = jnP L (scP l a) ∧ (L = [] → a = 0)
theorem Sg.zero {l : List UInt8} (hl : l.length ≤ 65536) : Sg l 0 [] := ⟨Nat.zero_le _, Nat.le_refl _, sc_form hl (Nat.zero_le _), fun _ => rfl⟩
theorem Sg.more {l : List UInt8} {a k f m tz : Nat} {v n : List UInt8} {L : List (List UInt8 × List UInt8 × Nat)} (h : Sg l a L) (hl : l.length ≤ 65536) (ha : a < tz) (hto : tz ≤ l.length) (hp : plP l 0 a = ((k, f, m), 0)) (hi : in1 l m = (0, 0, v, n, tz)) : Sg l tz (L ++ [(v, n, f)]) :=
  ⟨hto, by have := h.2.1; simp; omega, by rw [h.2.2.1, sc_step hl ha hto hp hi, jn_jn], fun x => by simp at x⟩
theorem Sg.last {l : List UInt8} {a : Nat} {t : Nat × Nat × Nat} {e : Int} {L : List (List UInt8 × List UInt8 × Nat)} (h : Sg l a L) (hp : plP l 0 a = (t, e)) (he : e ≠ 0) : scP l 0 = (L, a, 0, 0) := by
  rw [h.2.2.1, sc_end hp he]
  unfold jnP
  rw [if_neg (by simp), List.append_nil]
theorem Sg.bad {l : List UInt8} {a k f m g : Nat} {e : Int} {x y : List UInt8} {z : Nat} {L : List (List UInt8 × List UInt8 × Nat)} (h : Sg l a L) (hp : plP l 0 a = ((k, f, m), 0)) (hi : in1 l m = (e, g, x, y, z)) (he : e ≠ 0) : scP l 0 = ([], 0, e, g) := by
  rw [h.2.2.1, sc_bad hp hi he]
  unfold jnP
  rw [if_pos he]
/-- what Includes answers: the includes, their end, the error, where -/
def isP (l : List UInt8) : List (List UInt8 × List UInt8 × Nat) × Nat × Int × Nat := if 65536 < l.length then ([], 0, 3, 0) else scP l 0

/-- the last include stands where it says -/
def Lst (l : List UInt8) (x : List UInt8 × List UInt8 × Nat) (tz : Nat) : Prop := ∃ k m, x.2.2 < m ∧ m < tz ∧ tz ≤ l.length ∧ plP l 0 x.2.2 = ((k, x.2.2, m), 0) ∧ in1 l m = (0, 0, x.1, x.2.1, tz)
theorem pl_again {l : List UInt8} {p a k f m : Nat} (hl : l.length ≤ 65536) (ha : a ≤ l.length) (h : plP l p a = ((k, f, m), 0)) : plP l p f = ((k, f, m), 0) := by
  rcases pl_view p hl ha with ⟨e, f', h0, _, _, _, hf, _, hp⟩ | ⟨k', f', m', _, hfm, hm, _, _, hp⟩ | ⟨k', f', m', a1, b1, c1, hn, hb, p1, hk, hk5, ht, hg⟩
  · rw [hp] at h; simp only [Prod.mk.injEq] at h; omega
  · rw [hp] at h; simp only [Prod.mk.injEq] at h; omega
  · rw [p1] at h
    simp only [Prod.mk.injEq, and_true] at h
    obtain ⟨rfl, rfl, rfl⟩ := h
    have hf : frP l f' = f' := by unfold frP; rw [hg]; rfl
    have htk : tkP l f' = (k', m' - f', 0) := by unfold tkP; rw [hf]; exact ht
    rcases nx_view (l := l) (a := f') (by omega) with ⟨v1, _⟩ | ⟨v0, ⟨v1, v2, v3⟩ | ⟨e, v1, v2, v3, v4, v5⟩ | ⟨k, n, v1, v2, v3, v4, v5, v6⟩⟩
    · omega
    · rw [htk] at v2; simp only [Prod.mk.injEq] at v2; omega
    · rw [htk] at v4; simp only [Prod.mk.injEq] at v4; omega
    · rw [htk] at v1
      simp only [Prod.mk.injEq, and_true] at v1
      obtain ⟨rfl, rfl⟩ := v1
      rw [hf, show f' + (m' - f') = m' by omega] at v6
      unfold plP
      rw [v6, if_neg (by simp)]
      simp only
      rw [hb, if_pos rfl]
theorem sc_last {l : List UInt8} (hl : l.length ≤ 65536) {a : Nat} (ha : a ≤ l.length) : ∀ (L : List (List UInt8 × List UInt8 × Nat)) (tz : Nat), scP l a = (L, tz, 0, 0) → (L = [] ∧ tz = a) ∨ ∃ L' x, L = L' ++ [x] ∧ Lst l x tz := by
  induction hn : l.length - a using Nat.strongRecOn generalizing a with
  | _ m ih =>
    intro L tz h
    rcases sc_view hl ha with ⟨t, e, h0, hp⟩ | ⟨k, f, x, _, _, _, hp, e, g, h0, _, hi⟩ | ⟨k, f, x, v, s, t2, h1, h2, h3, h4, hp, hi⟩
    · rw [sc_end hp h0] at h
      simp only [Prod.mk.injEq, and_true] at h
      exact Or.inl ⟨h.1.symm, h.2.symm⟩
    · rw [sc_bad hp hi h0] at h
      simp only [Prod.mk.injEq] at h
      exact absurd h.2.2.1 h0
    · rw [sc_step hl (by omega) (by omega) hp hi] at h
      obtain ⟨q1, q2, e2, g2, hq⟩ : ∃ L2 to2 e2 g2, scP l t2 = (L2, to2, e2, g2) := ⟨_, _, _, _, rfl⟩
      unfold jnP at h
      rw [hq] at h
      simp only at h
      split at h
      · rename_i h5
        simp only [Prod.mk.injEq] at h
        exact absurd h.2.2.1 h5
      · rename_i h5
        have h5 : e2 = 0 := Decidable.not_not.1 h5
        subst h5
        simp only [Prod.mk.injEq, and_true] at h
        obtain ⟨rfl, rfl⟩ := h
        have hq2 : scP l t2 = (q1, q2, 0, 0) := by
          have := sc_form hl (a := t2) h4
          rw [hq] at this
          unfold jnP at this
          simp only [ne_eq, not_true_eq_false, if_false, List.nil_append] at this
          rw [hq, this]
        rcases ih (l.length - t2) (by omega) (a := t2) h4 rfl q1 q2 hq2 with ⟨rfl, rfl⟩ | ⟨L', x, rfl, hx⟩
        · refine Or.inr ⟨[], (v, s, f), rfl, k, _, h2, h3, h4, pl_again hl ha hp, hi⟩
        · exact Or.inr ⟨[(v, s, f)] ++ L', x, by simp, hx⟩

end Go.Proofs.YtlpengaclkidiaaGreatDoor

/- Slices of includes: wherever they lie, of one's own; appended. -/
namespace Go.Proofs.YtlpengaclkidiaaGreatDoor
open Go.RowKit

theorem Tryz.infoInc : (Tryz.prog.info? 25).map (fun i => (i.zero, i.size, i.bytes)) = some (some (.agg #[.string ⟨#[]⟩, .string ⟨#[]⟩, .int .i64 0]), 3, 40) := by kernel_rfl
theorem Tryz.infoInc1 : (Tryz.prog.info? 25).map (·.size) = some 3 := by kernel_rfl

/-- an include's cells -/
def icC (x : List UInt8 × List UInt8 × Int) : List Value := [.string (mk x.1), .string (mk x.2.1), .int .i64 x.2.2]
theorem icC_one (x : List UInt8 × List UInt8 × Int) : ∀ v ∈ icC x, v.oneCell' = true := by
  intro v hv
  simp only [icC, List.mem_cons, List.not_mem_nil, or_false] at hv
  rcases hv with rfl | rfl | rfl <;> rfl
def iv (L : List (List UInt8 × List UInt8 × Int)) : List Value := L.flatMap icC
theorem iv_app (A B : List (List UInt8 × List UInt8 × Int)) : iv (A ++ B) = iv A ++ iv B := by simp [iv]
theorem iv_cons (x : List UInt8 × List UInt8 × Int) (B : List (List UInt8 × List UInt8 × Int)) : iv (x :: B) = .string (mk x.1) :: .string (mk x.2.1) :: .int .i64 x.2.2 :: iv B := rfl
theorem iv_len (L : List (List UInt8 × List UInt8 × Int)) : (iv L).length = L.length * 3 := by
  induction L with
  | nil => rfl
  | cons x r ih => rw [iv_cons]; simp [ih]; omega
theorem iv_one (L : List (List UInt8 × List UInt8 × Int)) : ∀ u ∈ iv L, u.oneCell' = true := by
  intro u hu
  simp only [iv, List.mem_flatMap] at hu
  obtain ⟨x, _, hu⟩ := hu
  exact icC_one x u hu
def noI : List UInt8 × List UInt8 × Int := ([], [], 0)
theorem iv_get (L : List (List UInt8 × List UInt8 × Int)) : ∀ (j : Nat), j < L.length → (iv L)[3 * j]? = some (.string (mk (L.getD j noI).1)) ∧ (iv L)[3 * j + 1]? = some (.string (mk (L.getD j noI).2.1)) ∧ (iv L)[3 * j + 2]? = some (.int .i64 (L.getD j noI).2.2) := by
  induction L with
  | nil => intro j hj; simp at hj
  | cons x r ih =>
    intro j hj
    cases j with
    | zero => simp [iv_cons]
    | succ j =>
      have := ih j (by simpa using hj)
      rw [iv_cons, show 3 * (j + 1) = 3 * j + 1 + 1 + 1 by omega]
      simpa using this

/-- v is a slice that holds the includes L, wherever they lie -/
def Incs (w : World) (v : Value) (L : List (List UInt8 × List UInt8 × Int)) : Prop :=
  (∃ ao c, v = .slice ao 0 c ∧ L = [] ∧ (ao = none → c = 0)) ∨ ∃ g o c, v = .slice (some ⟨g, o, none⟩) L.length c ∧ g < w.heap.size ∧ L.length ≤ c ∧ ∀ j, j < L.length → w.cell? ⟨g, o + j * 3, none⟩ = some (.string (mk (L.getD j noI).1)) ∧ w.cell? ⟨g, o + j * 3 + 1, none⟩ = some (.string (mk (L.getD j noI).2.1)) ∧ w.cell? ⟨g, o + j * 3 + 2, none⟩ = some (.int .i64 (L.getD j noI).2.2)
theorem Incs.below {w w' : World} {v : Value} {L : List (List UInt8 × List UInt8 × Int)} (h : Incs w v L) (hb : Below w.heap.size w w') : Incs w' v L := by
  rcases h with h | ⟨g, o, c, hv, hlt, h1, hc⟩
  · exact Or.inl h
  · exact Or.inr ⟨g, o, c, hv, Nat.lt_of_lt_of_le hlt hb.size, h1, fun j hj => by
      rw [hb.cell (p := ⟨g, o + j * 3, none⟩) hlt, hb.cell (p := ⟨g, o + j * 3 + 1, none⟩) hlt, hb.cell (p := ⟨g, o + j * 3 + 2, none⟩) hlt]; exact hc j hj⟩
theorem Incs.shape {w : World} {v : Value} {L : List (List UInt8 × List UInt8 × Int)} (h : Incs w v L) : ∃ ao c, v = .slice ao L.length c := by
  rcases h with ⟨ao, c, hv, rfl, _⟩ | ⟨g, o, c, hv, _⟩
  · exact ⟨ao, c, hv⟩
  · exact ⟨_, _, hv⟩
theorem Incs.at {w : World} {ao : Option Addr} {n c : Nat} {L : List (List UInt8 × List UInt8 × Int)} (h : Incs w (.slice ao n c) L) (k : Nat) (hk : k < L.length) :
    ∃ g o, ao = some ⟨g, o, none⟩ ∧ g < w.heap.size ∧ w.cell? ⟨g, o + k * 3, none⟩ = some (.string (mk (L.getD k noI).1)) ∧ w.cell? ⟨g, o + k * 3 + 1, none⟩ = some (.string (mk (L.getD k noI).2.1)) ∧ w.cell? ⟨g, o + k * 3 + 2, none⟩ = some (.int .i64 (L.getD k noI).2.2) := by
  rcases h with ⟨_, _, _, h0, _⟩ | ⟨g, o, c, hv, h1, _, hc⟩
  · rw [h0] at hk; simp at hk
  · injection hv with h2 _ _
    exact ⟨g, o, h2, h1, hc k hk⟩

/-- v owns the includes L, in memory from block 'base' on -/
def OwnN (w : World) (base : Nat) (v : Value) (L : List (List UInt8 × List UInt8 × Int)) : Prop := w.ownsRow base 25 3 v L.length (iv L)
theorem OwnN.nil (w : World) (base : Nat) : OwnN w base (.slice none 0 0) [] := World.ownsRow_nil _ _ _ _
theorem OwnN.kept {w w' : World} {base : Nat} {v : Value} {L : List (List UInt8 × List UInt8 × Int)} {row : Option Nat} (h : OwnN w base v L) (hg : w.grownBy w' row) (hne : v.ownBlock = none ∨ v.ownBlock ≠ row) : OwnN w' base v L := World.ownsRow.kept h hg hne
theorem OwnN.below {w w' : World} {base : Nat} {v : Value} {L : List (List UInt8 × List UInt8 × Int)} (h : OwnN w base v L) (hb : Below w.heap.size w w') : OwnN w' base v L :=
  World.ownsRow.kept h (below_gb hb none) (by cases e : v.ownBlock <;> simp)
theorem OwnN.lt {w : World} {base : Nat} {v : Value} {L : List (List UInt8 × List UInt8 × Int)} (h : OwnN w base v L) : ∀ k, v.ownBlock = some k → base ≤ k ∧ k < w.heap.size := World.ownsRow.lt h
theorem OwnN.shape {w : World} {base : Nat} {v : Value} {L : List (List UInt8 × List UInt8 × Int)} (h : OwnN w base v L) : ∃ a cap, v = .slice a L.length cap := by
  rcases h.2 with ⟨rfl, h0⟩ | ⟨g, cap, cur, rfl, _⟩
  · exact ⟨none, 0, by rw [h0]⟩
  · exact ⟨_, _, rfl⟩
theorem OwnN.le {w : World} {base base' : Nat} {v : Value} {L : List (List UInt8 × List UInt8 × Int)} (h : OwnN w base v L) (hb : base' ≤ base) : OwnN w base' v L :=
  ⟨h.1, h.2.elim Or.inl (fun ⟨g, cap, cur, hv, hg, r⟩ => Or.inr ⟨g, cap, cur, hv, Nat.le_trans hb hg, r⟩)⟩
theorem OwnN.incs {w : World} {base : Nat} {v : Value} {L : List (List UInt8 × List UInt8 × Int)} (h : OwnN w base v L) : Incs w v L := by
  have hh := h
  rcases h.2 with ⟨rfl, h0⟩ | ⟨g, cap, cur, rfl, hb, hk2, h1, _⟩
  · exact Or.inl ⟨_, _, rfl, List.length_eq_zero_iff.1 h0, fun _ => rfl⟩
  · refine Or.inr ⟨g, 0, cap, rfl, (World.ownsRow.lt hh g rfl).2, h1, fun j hj => ?_⟩
    obtain ⟨t1, t2, t3⟩ := iv_get L j hj
    have f := World.ownsRow.cells hh (g := g) rfl
    have e1 := f _ _ t1
    have e2 := f _ _ t2
    have e3 := f _ _ t3
    rw [addr_add, Nat.mul_comm] at e1
    rw [addr_add, Nat.mul_comm] at e2
    rw [addr_add, Nat.mul_comm] at e3
    rw [Nat.zero_add]
    exact ⟨e1, e2, e3⟩

/-- append(own, one include) -/
theorem app_inc {w : World} {ops : Array Oper} {rest : List Oper} {o : Oper} {a : Act} {Q : Exit → Act → World → Prop} (hgd : o.guard = none) (s x : Operand)
    (ho : o.op = .call { callee := .builtin .append, args := #[s, x], argTypes := #[22, 22] })
    (base : Nat) (v : Value) (L : List (List UInt8 × List UInt8 × Int)) (hs : a.eval s = v) (hown : OwnN w base v L) (g c : Nat) (M : List (List UInt8 × List UInt8 × Int)) (hx : a.eval x = .slice (some ⟨g, 0, none⟩) M.length c)
    (hsrc : ∀ j u, (iv M)[j]? = some u → w.cell? ⟨g, j, none⟩ = some u) (hlen : L.length + M.length ≤ 1000000000000) (hbase : base ≤ w.heap.size)
    (h : ∀ v' w', OwnN w' base v' (L ++ M) → w.grownBy w' v.ownBlock → wpList Tryz.prog ops Q rest (a.put o.dst v') w') : wpList Tryz.prog ops Q (o :: rest) a w := by
  refine wpList_plain hgd fun K hK => ?_
  obtain ⟨i0, hi, hz0, hz1, hz2⟩ := info_parts Tryz.infoInc
  obtain ⟨v', w', hr, h1, h2, _⟩ := run_append_own (P := Tryz.prog) w base 22 o.type 25 i0 (.agg #[.string ⟨#[]⟩, .string ⟨#[]⟩, .int .i64 0]) 3 40 Tryz.underlying22 hi hz0 hz1 hz2 rfl (by decide) v L.length (iv L) hown ⟨g, 0, none⟩ M.length c (iv M) (iv_len M) (fun j u hj => by rw [addr_add]; exact hsrc j u hj) (iv_one M) (by unfold maxLen; omega) (by omega) hbase
  unfold Oper.wp
  simp [execOp, ho, resolve, invoke, builtin, hs, hx, hr, Result.andThen]
  refine hK _ _ (h v' w' ?_ h2)
  unfold OwnN
  rw [iv_app, List.length_append]
  exact h1
theorem src_inc (wz : World) (x : List UInt8 × List UInt8 × Int) : ∀ j u, (iv [x])[j]? = some u → (wz.alloc (.cells #[.string (mk x.1), .string (mk x.2.1), .int .i64 x.2.2] 25)).cell? ⟨wz.heap.size, j, none⟩ = some u := by
  intro j u hj
  rw [cell_of_row _ _ _ _ _ _ (hp_new _ _)]
  rw [show iv [x] = [.string (mk x.1), .string (mk x.2.1), .int .i64 x.2.2] from rfl] at hj
  simpa using hj

end Go.Proofs.YtlpengaclkidiaaGreatDoor

/- The reader: its tokens, taken or given up. -/
namespace Go.Proofs.YtlpengaclkidiaaGreatDoor
open Go.RowKit

/-- a reader's block -/
def Rs (w : World) (b : Nat) (l : List UInt8) (a : Nat) : Prop := w.heap[b]? = some (.cells #[.string (mk l), .int .i64 (a : Int)] 46 (0, 0))
theorem Rs.c0 {w : World} {b a : Nat} {l : List UInt8} (h : Rs w b l a) : w.cell? ⟨b, 0, none⟩ = some (.string (mk l)) := by rw [cell_of_row _ _ _ _ _ _ h]; rfl
theorem Rs.c1 {w : World} {b a : Nat} {l : List UInt8} (h : Rs w b l a) : w.cell? ⟨b, 1, none⟩ = some (.int .i64 (a : Int)) := by rw [cell_of_row _ _ _ _ _ _ h]; rfl
theorem Rs.lt {w : World} {b a : Nat} {l : List UInt8} (h : Rs w b l a) : b < w.heap.size := hp_lt h
theorem Rs.below {w w' : World} {b a B : Nat} {l : List UInt8} (h : Rs w b l a) (hb : Below B w w') (hB : b < B) : Rs w' b l a := by unfold Rs; rw [hb.block b hB]; exact h
theorem Rs.z0 {w : World} {b a : Nat} {l : List UInt8} (h : Rs w b l a) (j : Nat) : w.frozen? ⟨b, j, none⟩ = false := by simp [World.frozen?, show w.heap[b]? = _ from h]

/-- a fault that is given up with -/
def ftV (e : Int) (a : Nat) : List PanicEntry := [{ v := .iface 28 (.agg #[.int .i64 e, .int .i64 (a : Int)]), recovered := false }]

set_option maxRecDepth 20000 in
theorem giveUp_any (e : Int) (a : Nat) (w : World) :
    Calls Tryz.prog 56 #[.int .i64 e, .int .i64 (a : Int)] w fun r w' => r = .panicked (ftV e a) ∧ w' = w := by
  go_enter Tryz.func56, Tryz.ntmps56
  go_wp2
  exact ⟨rfl, rfl, rfl⟩

set_option maxRecDepth 20000 in
set_option maxHeartbeats 1000000 in
theorem rtx_any (l : List UInt8) (a b k f m : Nat) (hf : f ≤ m) (hm : m ≤ l.length) (w : World) (h : Rs w b l a) :
    Calls Tryz.prog 32 #[.pointer (some ⟨b, 0, none⟩), .agg #[.int .i64 (k : Int), .int .i64 (f : Int), .int .i64 (m : Int)]] w fun r w' => r = .returned (.string (mk (ttP l f m))) ∧ Below w.heap.size w w' := by
  have s1 := sl_mid l f m hf hm
  have hb := h.lt
  have hw1 := hp_new w (.cells #[.int .i64 (k : Int), .int .i64 (f : Int), .int .i64 (m : Int)] 76)
  have c0 : (w.alloc (.cells #[.int .i64 (k : Int), .int .i64 (f : Int), .int .i64 (m : Int)] 76)).cell? ⟨b, 0, none⟩ = some (.string (mk l)) := (h.below (below_walk w _) hb).c0
  have c1 : (w.alloc (.cells #[.int .i64 (k : Int), .int .i64 (f : Int), .int .i64 (m : Int)] 76)).cell? ⟨w.heap.size, 1, none⟩ = some (.int .i64 (f : Int)) := by rw [cell_of_row _ _ _ _ _ _ hw1]; rfl
  have c2 : (w.alloc (.cells #[.int .i64 (k : Int), .int .i64 (f : Int), .int .i64 (m : Int)] 76)).cell? ⟨w.heap.size, 2, none⟩ = some (.int .i64 (m : Int)) := by rw [cell_of_row _ _ _ _ _ _ hw1]; rfl
  have HB := hid (below_walk w (.cells #[.int .i64 (k : Int), .int .i64 (f : Int), .int .i64 (m : Int)] 76))
  clear h hw1
  go_enter Tryz.func32, Tryz.ntmps32
  go_upto_region 1 with (refine bx_row (by rfl) 76 (.tmp 1) (by rfl) _ (by rfl) ?_)
  generalize w.alloc (.cells #[.int .i64 (k : Int), .int .i64 (f : Int), .int .i64 (m : Int)] 76) = w1 at *
  go_quiet (fail)
  go_wp2
  go_ret
  exact ⟨rfl, below_drewN HB.out _⟩

/-- what must be shown where no step can panic -/
def noPanic (Q : Exit → Act → World → Prop) : Exit → Act → World → Prop := fun e a w => match e with
  | .panic _ => False
  | e => Q e a w
theorem wp_noPanic {P : Program} {c : Code} {Q : Exit → Act → World → Prop} {a : Act} {w : World} (h : c.wp P (noPanic Q) a w) : c.wp P Q a w :=
  Code.wp_mono (fun e a w h => by
    cases e
    all_goals first | exact h | exact h.elim) h
theorem step_store_row {P : Program} {ops : Array Oper} {o : Oper} {a : Act} {w : World} {K : Act → World → Prop} {Q : Exit → Act → World → Prop} {E : Prop} (hgd : o.guard = none) (ty : TypeId) (x y : Operand) (ho : o.op = .store ty x y)
    (g : Nat) (cs : List Value) (hx : a.eval x = .pointer (some ⟨g, 0, none⟩)) (hy : a.eval y = .agg cs.toArray)
    (t : TypeId) (old : Array Value) (hg : w.heap[g]? = some (.cells old t (0, 0))) (hi : (P.info? ty).map (·.size) = some cs.length) (hold : old.size = cs.length) (h1 : ∀ v ∈ cs, v.oneCell' = true)
    (h : ∀ w', RowSet w w' g cs t → K (a.put o.dst undef) w') : if Region.wanted o (yielded ops a.tmps) = true then Oper.wp P o a w K Q else E := by
  rw [if_pos (by simp [Region.wanted, hgd])]
  exact wp_store_row ty x y ho g cs.toArray hx hy t old hg (by rw [List.size_toArray]; exact hi) (by rw [List.size_toArray]; exact hold) (by simpa using h1) (h _ (rowSet w g cs t old hg))
theorem step_alloc_row {P : Program} {ops : Array Oper} {o : Oper} {a : Act} {w : World} {K : Act → World → Prop} {Q : Exit → Act → World → Prop} {E : Prop} (hgd : o.guard = none) (ty : TypeId) (ho : o.op = .alloc ty)
    (cs : Array Value) (hz : ∀ w, (zeroValue ty).run P w = .ok (.agg cs) w)
    (h : K (a.put o.dst (.pointer (some ⟨w.heap.size, 0, none⟩))) (w.alloc (.cells cs ty))) : if Region.wanted o (yielded ops a.tmps) = true then Oper.wp P o a w K Q else E := by
  rw [if_pos (by simp [Region.wanted, hgd])]
  unfold Oper.wp execOp
  simp only [ho, Instr.alloc, Sem.run_bind, hz, newVar, newRow, run_newObj_alloc, Sem.run_pure, Result.andThen_ok, Value.cells]
  exact h
theorem Tryz.zeroTok : ∀ w, (zeroValue 76).run Tryz.prog w = .ok (.agg #[.int .i64 0, .int .i64 0, .int .i64 0]) w :=
  (Go.zero_of_info (P := Tryz.prog) (t := 76) (v := .agg #[.int .i64 0, .int .i64 0, .int .i64 0]) (n := 3) (by kernel_rfl)).1

end Go.Proofs.YtlpengaclkidiaaGreatDoor

/- The reader's next and atInclude (written by yread.py). -/
namespace Go.Proofs.YtlpengaclkidiaaGreatDoor
open Go.RowKit

set_option maxRecDepth 20000 in
set_option maxHeartbeats 4000000 in
theorem rnx_bad (l : List UInt8) (a b : Nat) (e : Int) (f : Nat) (hl : l.length ≤ 65536) (he : e ≠ 0) (hn : nxP l (a : Int) = ((0, f, 0), e)) (w : World) (hT : Tabs w) (h : Rs w b l a) :
    Calls Tryz.prog 55 #[.pointer (some ⟨b, 0, none⟩)] w fun r w' => r = .panicked (ftV e f) ∧ Below w.heap.size w w' := by
  have HG := hid (giveUp_any e f)
  have HN : Hid (∀ W, Tabs W → Calls Tryz.prog 31 #[.string (mk l), .int .i64 (a : Int)] W fun r w' => r = .returned (.tuple #[.agg #[.int .i64 (0 : Nat), .int .i64 (f : Nat), .int .i64 (0 : Nat)], .int .i64 e]) ∧ Below W.heap.size W w') := fun W hW => by
    have := next_any l (by omega) (a : Int) W hW
    rw [hn] at this
    exact this
  have he0 : ¬ e = 0 := he
  have HBW := hid (below_walk w (.cells #[.int .i64 0, .int .i64 0, .int .i64 0] 76))
  have HT := hid (hT.below HBW.out)
  have HR := hid (h.below HBW.out h.lt)
  have HW2 := hid (hp_new w (.cells #[.int .i64 0, .int .i64 0, .int .i64 0] 76))
  have hsz := hp_size w (.cells #[.int .i64 0, .int .i64 0, .int .i64 0] 76)
  have HNT := hid h.lt
  clear hn hT h
  go_enter Tryz.func55, Tryz.ntmps55
  go_upto_region 1 with fail
  generalize w.alloc (.cells #[.int .i64 0, .int .i64 0, .int .i64 0] 76) = w1 at *
  refine wp_noPanic (wp_region_held_drew (S := fun W => Rs W b l a) (by kernel_rfl) (show Rs w1 b l a from HR.out) ?_)
  intro hHeld
  refine wpAnyH_take (i := 0) (v := .pointer (some ⟨b, 0, none⟩)) rfl (by kernel_rfl) (by kernel_rfl) (by kernel_rfl) (fun _ _ _ h => h) (Or.inl ⟨by rfl, fun W _ => by go_simp⟩) hHeld ?_
  simp only [Act.put, List.getElem_toArray, List.getElem_cons_zero, List.setIfInBounds_toArray, List.set_cons_succ, List.set_cons_zero]
  refine wpAnyH_take (i := 1) (v := .pointer (some ⟨b, 0, none⟩)) rfl (by kernel_rfl) (by kernel_rfl) (by kernel_rfl) (fun _ _ _ h => h) (Or.inl ⟨by rfl, fun W _ => by go_simp⟩) hHeld ?_
  simp only [Act.put, List.getElem_toArray, List.getElem_cons_zero, List.getElem_cons_succ, List.setIfInBounds_toArray, List.set_cons_succ, List.set_cons_zero]
  refine wpAnyH_take (i := 2) (v := .pointer (some ⟨b, 0, none⟩)) rfl (by kernel_rfl) (by kernel_rfl) (by kernel_rfl) (fun _ _ _ h => h) (Or.inl ⟨by rfl, fun W _ => by go_simp⟩) hHeld ?_
  simp only [Act.put, List.getElem_toArray, List.getElem_cons_zero, List.getElem_cons_succ, List.setIfInBounds_toArray, List.set_cons_succ, List.set_cons_zero]
  refine wpAnyH_take (i := 3) (v := .string (mk l)) rfl (by kernel_rfl) (by kernel_rfl) (by kernel_rfl) (fun _ _ _ h => h) (Or.inl ⟨by rfl, fun W hW => by have hcell := Rs.c0 hW; clear hW; go_simp⟩) hHeld ?_
  simp only [Act.put, List.getElem_toArray, List.getElem_cons_zero, List.getElem_cons_succ, List.setIfInBounds_toArray, List.set_cons_succ, List.set_cons_zero]
  refine wpAnyH_take (i := 4) (v := .pointer (some ⟨b, 0, none⟩)) rfl (by kernel_rfl) (by kernel_rfl) (by kernel_rfl) (fun _ _ _ h => h) (Or.inl ⟨by rfl, fun W _ => by go_simp⟩) hHeld ?_
  simp only [Act.put, List.getElem_toArray, List.getElem_cons_zero, List.getElem_cons_succ, List.setIfInBounds_toArray, List.set_cons_succ, List.set_cons_zero]
  refine wpAnyH_take (i := 5) (v := .pointer (some ⟨b, 0, none⟩)) rfl (by kernel_rfl) (by kernel_rfl) (by kernel_rfl) (fun _ _ _ h => h) (Or.inl ⟨by rfl, fun W _ => by go_simp⟩) hHeld ?_
  simp only [Act.put, List.getElem_toArray, List.getElem_cons_zero, List.getElem_cons_succ, List.setIfInBounds_toArray, List.set_cons_succ, List.set_cons_zero]
  refine wpAnyH_take (i := 6) (v := .pointer (some ⟨b, 1, none⟩)) rfl (by kernel_rfl) (by kernel_rfl) (by kernel_rfl) (fun _ _ _ h => h) (Or.inl ⟨by rfl, fun W _ => by go_simp⟩) hHeld ?_
  simp only [Act.put, List.getElem_toArray, List.getElem_cons_zero, List.getElem_cons_succ, List.setIfInBounds_toArray, List.set_cons_succ, List.set_cons_zero]
  refine wpAnyH_take (i := 7) (v := .int .i64 (a : Int)) rfl (by kernel_rfl) (by kernel_rfl) (by kernel_rfl) (fun _ _ _ h => h) (Or.inl ⟨by rfl, fun W hW => by have hcell := Rs.c1 hW; clear hW; go_simp⟩) hHeld ?_
  simp only [Act.put, List.getElem_toArray, List.getElem_cons_zero, List.getElem_cons_succ, List.setIfInBounds_toArray, List.set_cons_succ, List.set_cons_zero]
  refine wpAnyH_ready (rs := [8, 12]) (by kernel_rfl) (by simp) ?_
  refine AllReadyH.cons rfl (fun K hK => ?_) (AllReadyH.cons rfl (fun K hK => ?_) AllReadyH.nil)
  · skip
    have HTC := hid (HT.out.below (Below.refl w1.heap.size w1).drew)
    go_simp
    refine (HN.out _ HTC.out).mono ?_
    rintro r w2 ⟨rfl, hb2⟩
    have HC2 := hid hb2
    clear hb2 HTC
    go_wp2_with fail
    have HB2 : Hid (Below w1.heap.size w1 w2) := ((Below.refl w1.heap.size w1).drew.trans HC2.out)
    have HR2 := hid (HR.out.below HB2.out HR.out.lt)
    refine hK.out _ _ HR2.out (fun hHeld => ?_)
    clear hK K
    try simp only [Act.put, List.getElem_toArray, List.getElem_cons_zero, List.getElem_cons_succ, List.setIfInBounds_toArray, List.set_cons_succ, List.set_cons_zero]
    refine wpAnyH_take (i := 9) (v := .tuple #[.agg #[.int .i64 (0 : Nat), .int .i64 (f : Nat), .int .i64 (0 : Nat)], .int .i64 e]) rfl (by kernel_rfl) (by kernel_rfl) (by kernel_rfl) (fun _ _ _ h => h) (Or.inl ⟨by rfl, fun W _ => by go_simp⟩) hHeld ?_
    simp only [Act.put, List.getElem_toArray, List.getElem_cons_zero, List.getElem_cons_succ, List.setIfInBounds_toArray, List.set_cons_succ, List.set_cons_zero]
    refine wpAnyH_take (i := 10) (v := .agg #[.int .i64 (0 : Nat), .int .i64 (f : Nat), .int .i64 (0 : Nat)]) rfl (by kernel_rfl) (by kernel_rfl) (by kernel_rfl) (fun _ _ _ h => h) (Or.inl ⟨by rfl, fun W _ => by go_simp⟩) hHeld ?_
    simp only [Act.put, List.getElem_toArray, List.getElem_cons_zero, List.getElem_cons_succ, List.setIfInBounds_toArray, List.set_cons_succ, List.set_cons_zero]
    refine wpAnyH_take (i := 11) (v := .int .i64 e) rfl (by kernel_rfl) (by kernel_rfl) (by kernel_rfl) (fun _ _ _ h => h) (Or.inl ⟨by rfl, fun W _ => by go_simp⟩) hHeld ?_
    simp only [Act.put, List.getElem_toArray, List.getElem_cons_zero, List.getElem_cons_succ, List.setIfInBounds_toArray, List.set_cons_succ, List.set_cons_zero]
    refine wpAnyH_ready (rs := [12]) (by kernel_rfl) (by simp) ?_
    refine AllReadyH.cons rfl (fun K hK => ?_) AllReadyH.nil
    refine step_alloc_row (by rfl) 76 (by rfl) _ Tryz.zeroTok ?_
    have HR3 := hid (HR2.out.below (below_walk w2 (.cells #[.int .i64 0, .int .i64 0, .int .i64 0] 76)) HR2.out.lt)
    have HNW := hid (hp_new w2 (.cells #[.int .i64 0, .int .i64 0, .int .i64 0] 76))
    have HB3 := hid (HB2.out.trans ((below_walk w2 (.cells #[.int .i64 0, .int .i64 0, .int .i64 0] 76)).mono HB2.out.size))
    have hgl : w1.heap.size ≤ w2.heap.size := HB2.out.size
    refine hK.out _ _ HR3.out (fun hHeld => ?_)
    clear hK K
    try simp only [Act.put, List.getElem_toArray, List.getElem_cons_zero, List.getElem_cons_succ, List.setIfInBounds_toArray, List.set_cons_succ, List.set_cons_zero]
    obtain ⟨g, HGE⟩ : ∃ g, Hid (w2.heap.size = g) := ⟨_, rfl⟩
    rw [HGE.out] at HNW hgl
    rw [HGE.out]
    generalize w2.alloc (.cells #[.int .i64 0, .int .i64 0, .int .i64 0] 76) = w4 at *
    clear HGE
    refine wpAnyH_ready (rs := [13]) (by kernel_rfl) (by simp) ?_
    refine AllReadyH.cons rfl (fun K hK => ?_) AllReadyH.nil
    refine step_store_row (by rfl) 76 (.tmp 3) (.tmp 15) (by rfl) g [.int .i64 (0 : Nat), .int .i64 (f : Nat), .int .i64 (0 : Nat)] (by rfl) (by rfl) 76 _ HNW.out (by exact Tryz.infoTok) (by rfl) (tkC_one ((0 : Nat), (f : Nat), (0 : Nat))) ?_
    intro w3 hs3
    have HTK : Hid (Tk w3 g ((0 : Nat), (f : Nat), (0 : Nat))) := hs3.blk
    have hgb : b ≠ g := fun e => by have := HR.out.lt; omega
    have HR5 : Hid (Rs w3 b l a) := (hs3.grown.block b HR3.out.lt (by simpa using hgb)).trans HR3.out
    have HB5 := hid (HB3.out.grown hs3.grown HB3.out.size (fun q hq => by injection hq with hq; omega))
    refine hK.out _ _ HR5.out (fun hHeld => ?_)
    clear hK K hs3
    try simp only [Act.put]
    refine wpAnyH_take (i := 14) (v := .int .i64 e) rfl (by kernel_rfl) (by kernel_rfl) (by kernel_rfl) (fun _ _ _ h => h) (Or.inl ⟨by rfl, fun W _ => by go_simp⟩) hHeld ?_
    simp only [Act.put, List.getElem_toArray, List.getElem_cons_zero, List.getElem_cons_succ, List.setIfInBounds_toArray, List.set_cons_succ, List.set_cons_zero]
    refine wpAnyH_done (by kernel_rfl) ?_ _
    simp only [noPanic]
    clear hHeld
    have c1 := HTK.out.c1
    go_wp2_with (go_at_call 56; refine (HG.out _).mono ?_; rintro r w6 ⟨rfl, h6⟩; have h6 := h6.symm; subst h6)
    exact ⟨rfl, rfl, (HBW.out.trans (HB5.out.mono (by omega)))⟩
  · skip
    refine step_alloc_row (by rfl) 76 (by rfl) _ Tryz.zeroTok ?_
    have HNW0 := hid (hp_new w1.drew (.cells #[.int .i64 0, .int .i64 0, .int .i64 0] 76))
    have HB0 := hid (((Below.refl w1.heap.size w1).drew).alloc (Nat.le_refl _) (.cells #[.int .i64 0, .int .i64 0, .int .i64 0] 76))
    have hgl : w1.heap.size ≤ w1.drew.heap.size := Nat.le_refl _
    have hgu : w1.drew.heap.size < (w1.drew.alloc (.cells #[.int .i64 0, .int .i64 0, .int .i64 0] 76)).heap.size := by rw [hp_size]; omega
    have HR2 := hid (HR.out.below HB0.out HR.out.lt)
    refine hK.out _ _ HR2.out (fun hHeld => ?_)
    clear hK K
    try simp only [Act.put, List.getElem_toArray, List.getElem_cons_zero, List.getElem_cons_succ, List.setIfInBounds_toArray, List.set_cons_succ, List.set_cons_zero]
    obtain ⟨g, HGE⟩ : ∃ g, Hid (w1.drew.heap.size = g) := ⟨_, rfl⟩
    rw [HGE.out] at HNW0 hgl hgu
    rw [HGE.out]
    generalize w1.drew.alloc (.cells #[.int .i64 0, .int .i64 0, .int .i64 0] 76) = w2 at *
    clear HGE
    refine wpAnyH_ready (rs := [8]) (by kernel_rfl) (by simp) ?_
    refine AllReadyH.cons rfl (fun K hK => ?_) AllReadyH.nil
    have HTC := hid (HT.out.below HB0.out)
    go_simp
    refine (HN.out _ HTC.out).mono ?_
    rintro r w4 ⟨rfl, hb2⟩
    have HC2 := hid hb2
    clear hb2 HTC
    go_wp2_with fail
    have HB3 := hid (HB0.out.trans (HC2.out.mono HB0.out.size))
    have HR3 := hid (HR2.out.below HC2.out HR2.out.lt)
    have HNW := hid ((HC2.out.block g hgu).trans HNW0.out)
    refine hK.out _ _ HR3.out (fun hHeld => ?_)
    clear hK K
    try simp only [Act.put, List.getElem_toArray, List.getElem_cons_zero, List.getElem_cons_succ, List.setIfInBounds_toArray, List.set_cons_succ, List.set_cons_zero]
    refine wpAnyH_take (i := 9) (v := .tuple #[.agg #[.int .i64 (0 : Nat), .int .i64 (f : Nat), .int .i64 (0 : Nat)], .int .i64 e]) rfl (by kernel_rfl) (by kernel_rfl) (by kernel_rfl) (fun _ _ _ h => h) (Or.inl ⟨by rfl, fun W _ => by go_simp⟩) hHeld ?_
    simp only [Act.put, List.getElem_toArray, List.getElem_cons_zero, List.getElem_cons_succ, List.setIfInBounds_toArray, List.set_cons_succ, List.set_cons_zero]
    refine wpAnyH_take (i := 10) (v := .agg #[.int .i64 (0 : Nat), .int .i64 (f : Nat), .int .i64 (0 : Nat)]) rfl (by kernel_rfl) (by kernel_rfl) (by kernel_rfl) (fun _ _ _ h => h) (Or.inl ⟨by rfl, fun W _ => by go_simp⟩) hHeld ?_
    simp only [Act.put, List.getElem_toArray, List.getElem_cons_zero, List.getElem_cons_succ, List.setIfInBounds_toArray, List.set_cons_succ, List.set_cons_zero]
    refine wpAnyH_take (i := 11) (v := .int .i64 e) rfl (by kernel_rfl) (by kernel_rfl) (by kernel_rfl) (fun _ _ _ h => h) (Or.inl ⟨by rfl, fun W _ => by go_simp⟩) hHeld ?_
    simp only [Act.put, List.getElem_toArray, List.getElem_cons_zero, List.getElem_cons_succ, List.setIfInBounds_toArray, List.set_cons_succ, List.set_cons_zero]
    refine wpAnyH_ready (rs := [13]) (by kernel_rfl) (by simp) ?_
    refine AllReadyH.cons rfl (fun K hK => ?_) AllReadyH.nil
    refine step_store_row (by rfl) 76 (.tmp 3) (.tmp 15) (by rfl) g [.int .i64 (0 : Nat), .int .i64 (f : Nat), .int .i64 (0 : Nat)] (by rfl) (by rfl) 76 _ HNW.out (by exact Tryz.infoTok) (by rfl) (tkC_one ((0 : Nat), (f : Nat), (0 : Nat))) ?_
    intro w3 hs3
    have HTK : Hid (Tk w3 g ((0 : Nat), (f : Nat), (0 : Nat))) := hs3.blk
    have hgb : b ≠ g := fun e => by have := HR.out.lt; omega
    have HR5 : Hid (Rs w3 b l a) := (hs3.grown.block b HR3.out.lt (by simpa using hgb)).trans HR3.out
    have HB5 := hid (HB3.out.grown hs3.grown HB3.out.size (fun q hq => by injection hq with hq; omega))
    refine hK.out _ _ HR5.out (fun hHeld => ?_)
    clear hK K hs3
    try simp only [Act.put]
    refine wpAnyH_take (i := 14) (v := .int .i64 e) rfl (by kernel_rfl) (by kernel_rfl) (by kernel_rfl) (fun _ _ _ h => h) (Or.inl ⟨by rfl, fun W _ => by go_simp⟩) hHeld ?_
    simp only [Act.put, List.getElem_toArray, List.getElem_cons_zero, List.getElem_cons_succ, List.setIfInBounds_toArray, List.set_cons_succ, List.set_cons_zero]
    refine wpAnyH_done (by kernel_rfl) ?_ _
    simp only [noPanic]
    clear hHeld
    have c1 := HTK.out.c1
    go_wp2_with (go_at_call 56; refine (HG.out _).mono ?_; rintro r w6 ⟨rfl, h6⟩; have h6 := h6.symm; subst h6)
    exact ⟨rfl, rfl, (HBW.out.trans (HB5.out.mono (by omega)))⟩

set_option maxRecDepth 20000 in
set_option maxHeartbeats 4000000 in
theorem rnx_ok (l : List UInt8) (a b k f m : Nat) (hl : l.length ≤ 65536) (hn : nxP l (a : Int) = ((k, f, m), 0)) (w : World) (hT : Tabs w) (h : Rs w b l a) :
    Calls Tryz.prog 55 #[.pointer (some ⟨b, 0, none⟩)] w fun r w' => r = .returned (.agg #[.int .i64 (k : Int), .int .i64 (f : Int), .int .i64 (m : Int)]) ∧ Rs w' b l m ∧ w.grownBy w' (some b) := by
  have HN : Hid (∀ W, Tabs W → Calls Tryz.prog 31 #[.string (mk l), .int .i64 (a : Int)] W fun r w' => r = .returned (.tuple #[.agg #[.int .i64 (k : Nat), .int .i64 (f : Nat), .int .i64 (m : Nat)], .int .i64 0]) ∧ Below W.heap.size W w') := fun W hW => by
    have := next_any l (by omega) (a : Int) W hW
    rw [hn] at this
    exact this
  have HBW := hid (below_walk w (.cells #[.int .i64 0, .int .i64 0, .int .i64 0] 76))
  have HT := hid (hT.below HBW.out)
  have HR := hid (h.below HBW.out h.lt)
  have HW2 := hid (hp_new w (.cells #[.int .i64 0, .int .i64 0, .int .i64 0] 76))
  have hsz := hp_size w (.cells #[.int .i64 0, .int .i64 0, .int .i64 0] 76)
  have HNT := hid h.lt
  clear hn hT h
  go_enter Tryz.func55, Tryz.ntmps55
  go_upto_region 1 with fail
  generalize w.alloc (.cells #[.int .i64 0, .int .i64 0, .int .i64 0] 76) = w1 at *
  refine wp_noPanic (wp_region_held_drew (S := fun W => Rs W b l a) (by kernel_rfl) (show Rs w1 b l a from HR.out) ?_)
  intro hHeld
  refine wpAnyH_take (i := 0) (v := .pointer (some ⟨b, 0, none⟩)) rfl (by kernel_rfl) (by kernel_rfl) (by kernel_rfl) (fun _ _ _ h => h) (Or.inl ⟨by rfl, fun W _ => by go_simp⟩) hHeld ?_
  simp only [Act.put, List.getElem_toArray, List.getElem_cons_zero, List.setIfInBounds_toArray, List.set_cons_succ, List.set_cons_zero]
  refine wpAnyH_take (i := 1) (v := .pointer (some ⟨b, 0, none⟩)) rfl (by kernel_rfl) (by kernel_rfl) (by kernel_rfl) (fun _ _ _ h => h) (Or.inl ⟨by rfl, fun W _ => by go_simp⟩) hHeld ?_
  simp only [Act.put, List.getElem_toArray, List.getElem_cons_zero, List.getElem_cons_succ, List.setIfInBounds_toArray, List.set_cons_succ, List.set_cons_zero]
  refine wpAnyH_take (i := 2) (v := .pointer (some ⟨b, 0, none⟩)) rfl (by kernel_rfl) (by kernel_rfl) (by kernel_rfl) (fun _ _ _ h => h) (Or.inl ⟨by rfl, fun W _ => by go_simp⟩) hHeld ?_
  simp only [Act.put, List.getElem_toArray, List.getElem_cons_zero, List.getElem_cons_succ, List.setIfInBounds_toArray, List.set_cons_succ, List.set_cons_zero]
  refine wpAnyH_take (i := 3) (v := .string (mk l)) rfl (by kernel_rfl) (by kernel_rfl) (by kernel_rfl) (fun _ _ _ h => h) (Or.inl ⟨by rfl, fun W hW => by have hcell := Rs.c0 hW; clear hW; go_simp⟩) hHeld ?_
  simp only [Act.put, List.getElem_toArray, List.getElem_cons_zero, List.getElem_cons_succ, List.setIfInBounds_toArray, List.set_cons_succ, List.set_cons_zero]
  refine wpAnyH_take (i := 4) (v := .pointer (some ⟨b, 0, none⟩)) rfl (by kernel_rfl) (by kernel_rfl) (by kernel_rfl) (fun _ _ _ h => h) (Or.inl ⟨by rfl, fun W _ => by go_simp⟩) hHeld ?_
  simp only [Act.put, List.getElem_toArray, List.getElem_cons_zero, List.getElem_cons_succ, List.setIfInBounds_toArray, List.set_cons_succ, List.set_cons_zero]
  refine wpAnyH_take (i := 5) (v := .pointer (some ⟨b, 0, none⟩)) rfl (by kernel_rfl) (by kernel_rfl) (by kernel_rfl) (fun _ _ _ h => h) (Or.inl ⟨by rfl, fun W _ => by go_simp⟩) hHeld ?_
  simp only [Act.put, List.getElem_toArray, List.getElem_cons_zero, List.getElem_cons_succ, List.setIfInBounds_toArray, List.set_cons_succ, List.set_cons_zero]
  refine wpAnyH_take (i := 6) (v := .pointer (some ⟨b, 1, none⟩)) rfl (by kernel_rfl) (by kernel_rfl) (by kernel_rfl) (fun _ _ _ h => h) (Or.inl ⟨by rfl, fun W _ => by go_simp⟩) hHeld ?_
  simp only [Act.put, List.getElem_toArray, List.getElem_cons_zero, List.getElem_cons_succ, List.setIfInBounds_toArray, List.set_cons_succ, List.set_cons_zero]
  refine wpAnyH_take (i := 7) (v := .int .i64 (a : Int)) rfl (by kernel_rfl) (by kernel_rfl) (by kernel_rfl) (fun _ _ _ h => h) (Or.inl ⟨by rfl, fun W hW => by have hcell := Rs.c1 hW; clear hW; go_simp⟩) hHeld ?_
  simp only [Act.put, List.getElem_toArray, List.getElem_cons_zero, List.getElem_cons_succ, List.setIfInBounds_toArray, List.set_cons_succ, List.set_cons_zero]
  refine wpAnyH_ready (rs := [8, 12]) (by kernel_rfl) (by simp) ?_
  refine AllReadyH.cons rfl (fun K hK => ?_) (AllReadyH.cons rfl (fun K hK => ?_) AllReadyH.nil)
  · skip
    have HTC := hid (HT.out.below (Below.refl w1.heap.size w1).drew)
    go_simp
    refine (HN.out _ HTC.out).mono ?_
    rintro r w2 ⟨rfl, hb2⟩
    have HC2 := hid hb2
    clear hb2 HTC
    go_wp2_with fail
    have HB2 : Hid (Below w1.heap.size w1 w2) := ((Below.refl w1.heap.size w1).drew.trans HC2.out)
    have HR2 := hid (HR.out.below HB2.out HR.out.lt)
    refine hK.out _ _ HR2.out (fun hHeld => ?_)
    clear hK K
    try simp only [Act.put, List.getElem_toArray, List.getElem_cons_zero, List.getElem_cons_succ, List.setIfInBounds_toArray, List.set_cons_succ, List.set_cons_zero]
    refine wpAnyH_take (i := 9) (v := .tuple #[.agg #[.int .i64 (k : Nat), .int .i64 (f : Nat), .int .i64 (m : Nat)], .int .i64 0]) rfl (by kernel_rfl) (by kernel_rfl) (by kernel_rfl) (fun _ _ _ h => h) (Or.inl ⟨by rfl, fun W _ => by go_simp⟩) hHeld ?_
    simp only [Act.put, List.getElem_toArray, List.getElem_cons_zero, List.getElem_cons_succ, List.setIfInBounds_toArray, List.set_cons_succ, List.set_cons_zero]
    refine wpAnyH_take (i := 10) (v := .agg #[.int .i64 (k : Nat), .int .i64 (f : Nat), .int .i64 (m : Nat)]) rfl (by kernel_rfl) (by kernel_rfl) (by kernel_rfl) (fun _ _ _ h => h) (Or.inl ⟨by rfl, fun W _ => by go_simp⟩) hHeld ?_
    simp only [Act.put, List.getElem_toArray, List.getElem_cons_zero, List.getElem_cons_succ, List.setIfInBounds_toArray, List.set_cons_succ, List.set_cons_zero]
    refine wpAnyH_take (i := 11) (v := .int .i64 0) rfl (by kernel_rfl) (by kernel_rfl) (by kernel_rfl) (fun _ _ _ h => h) (Or.inl ⟨by rfl, fun W _ => by go_simp⟩) hHeld ?_
    simp only [Act.put, List.getElem_toArray, List.getElem_cons_zero, List.getElem_cons_succ, List.setIfInBounds_toArray, List.set_cons_succ, List.set_cons_zero]
    refine wpAnyH_ready (rs := [12]) (by kernel_rfl) (by simp) ?_
    refine AllReadyH.cons rfl (fun K hK => ?_) AllReadyH.nil
    refine step_alloc_row (by rfl) 76 (by rfl) _ Tryz.zeroTok ?_
    have HR3 := hid (HR2.out.below (below_walk w2 (.cells #[.int .i64 0, .int .i64 0, .int .i64 0] 76)) HR2.out.lt)
    have HNW := hid (hp_new w2 (.cells #[.int .i64 0, .int .i64 0, .int .i64 0] 76))
    have HB3 := hid (HB2.out.trans ((below_walk w2 (.cells #[.int .i64 0, .int .i64 0, .int .i64 0] 76)).mono HB2.out.size))
    have hgl : w1.heap.size ≤ w2.heap.size := HB2.out.size
    refine hK.out _ _ HR3.out (fun hHeld => ?_)
    clear hK K
    try simp only [Act.put, List.getElem_toArray, List.getElem_cons_zero, List.getElem_cons_succ, List.setIfInBounds_toArray, List.set_cons_succ, List.set_cons_zero]
    obtain ⟨g, HGE⟩ : ∃ g, Hid (w2.heap.size = g) := ⟨_, rfl⟩
    rw [HGE.out] at HNW hgl
    rw [HGE.out]
    generalize w2.alloc (.cells #[.int .i64 0, .int .i64 0, .int .i64 0] 76) = w4 at *
    clear HGE
    refine wpAnyH_ready (rs := [13]) (by kernel_rfl) (by simp) ?_
    refine AllReadyH.cons rfl (fun K hK => ?_) AllReadyH.nil
    refine step_store_row (by rfl) 76 (.tmp 3) (.tmp 15) (by rfl) g [.int .i64 (k : Nat), .int .i64 (f : Nat), .int .i64 (m : Nat)] (by rfl) (by rfl) 76 _ HNW.out (by exact Tryz.infoTok) (by rfl) (tkC_one ((k : Nat), (f : Nat), (m : Nat))) ?_
    intro w3 hs3
    have HTK : Hid (Tk w3 g ((k : Nat), (f : Nat), (m : Nat))) := hs3.blk
    have hgb : b ≠ g := fun e => by have := HR.out.lt; omega
    have HR5 : Hid (Rs w3 b l a) := (hs3.grown.block b HR3.out.lt (by simpa using hgb)).trans HR3.out
    have HB5 := hid (HB3.out.grown hs3.grown HB3.out.size (fun q hq => by injection hq with hq; omega))
    refine hK.out _ _ HR5.out (fun hHeld => ?_)
    clear hK K hs3
    try simp only [Act.put]
    refine wpAnyH_take (i := 14) (v := .int .i64 0) rfl (by kernel_rfl) (by kernel_rfl) (by kernel_rfl) (fun _ _ _ h => h) (Or.inl ⟨by rfl, fun W _ => by go_simp⟩) hHeld ?_
    simp only [Act.put, List.getElem_toArray, List.getElem_cons_zero, List.getElem_cons_succ, List.setIfInBounds_toArray, List.set_cons_succ, List.set_cons_zero]
    refine wpAnyH_done (by kernel_rfl) ?_ _
    simp only [noPanic]
    clear hHeld
    have c2 := HTK.out.c2
    have d1 := HR5.out.c1
    have z1 := HR5.out.z0 1
    go_upto_region 5 with fail
    have hbs : Rs (w3.setCell ⟨b, 1, none⟩ (.int .i64 (m : Int))) b l m := blk_set HR5.out _
    have HTK6 := hid (show Tk (w3.setCell ⟨b, 1, none⟩ (.int .i64 (m : Int))) g (k, f, m) from (hp_set w3 g b 1 _ (fun e => hgb e.symm)).trans HTK.out)
    have HG6 := hid (show w.grownBy (w3.setCell ⟨b, 1, none⟩ (.int .i64 (m : Int))) (some b) from gb_then (gb_then (below_gb HBW.out (some b)) (below_gb HB5.out (some b)) (fun j e => Or.inr e)) (gb_set w3 ⟨b, 1, none⟩ _) (fun j e => Or.inr e))
    have HW6 := hid (show (w3.setCell ⟨b, 1, none⟩ (.int .i64 (m : Int))).heap[w.heap.size]? = some (.cells #[.int .i64 0, .int .i64 0, .int .i64 0] 76 (0, 0)) from (hp_set w3 w.heap.size b 1 _ (by have := HNT.out; omega)).trans ((HB5.out.block w.heap.size (by omega)).trans HW2.out))
    have HS6 := hid hbs
    clear hbs c2 d1 z1
    generalize w3.setCell ⟨b, 1, none⟩ (.int .i64 (m : Int)) = w6 at *
    go_wp2_with first
      | (refine ld_row (by rfl) 76 (.tmp 3) (by rfl) g (by rfl) (tkC (k, f, m)) 76 HTK6.out _ Tryz.underlying76 rfl Tryz.infoTok ?_; unfold tkC)
      | (refine st_row (by rfl) 76 (.tmp 2) (.tmp 28) (by rfl) w.heap.size (tkC (k, f, m)) (by rfl) (by rfl) 76 _ HW6.out (by exact Tryz.infoTok) (by rfl) (tkC_one _) ?_; intro w7 hw7)
    obtain ⟨d, hu, hd⟩ := Tryz.rowTok
    refine ret_row 2 76 rfl w.heap.size rfl (tkC (k, f, m)) 76 hw7.blk d hu hd Tryz.infoTok rfl ⟨rfl, ?_, ?_⟩
    · exact (hw7.grown.block b HS6.out.lt (by simp; have := HNT.out; omega)).trans HS6.out
    · exact gb_then HG6.out hw7.grown (fun j e => by injection e with e; subst e; exact Or.inl (Nat.le_refl _))
  · skip
    refine step_alloc_row (by rfl) 76 (by rfl) _ Tryz.zeroTok ?_
    have HNW0 := hid (hp_new w1.drew (.cells #[.int .i64 0, .int .i64 0, .int .i64 0] 76))
    have HB0 := hid (((Below.refl w1.heap.size w1).drew).alloc (Nat.le_refl _) (.cells #[.int .i64 0, .int .i64 0, .int .i64 0] 76))
    have hgl : w1.heap.size ≤ w1.drew.heap.size := Nat.le_refl _
    have hgu : w1.drew.heap.size < (w1.drew.alloc (.cells #[.int .i64 0, .int .i64 0, .int .i64 0] 76)).heap.size := by rw [hp_size]; omega
    have HR2 := hid (HR.out.below HB0.out HR.out.lt)
    refine hK.out _ _ HR2.out (fun hHeld => ?_)
    clear hK K
    try simp only [Act.put, List.getElem_toArray, List.getElem_cons_zero, List.getElem_cons_succ, List.setIfInBounds_toArray, List.set_cons_succ, List.set_cons_zero]
    obtain ⟨g, HGE⟩ : ∃ g, Hid (w1.drew.heap.size = g) := ⟨_, rfl⟩
    rw [HGE.out] at HNW0 hgl hgu
    rw [HGE.out]
    generalize w1.drew.alloc (.cells #[.int .i64 0, .int .i64 0, .int .i64 0] 76) = w2 at *
    clear HGE
    refine wpAnyH_ready (rs := [8]) (by kernel_rfl) (by simp) ?_
    refine AllReadyH.cons rfl (fun K hK => ?_) AllReadyH.nil
    have HTC := hid (HT.out.below HB0.out)
    go_simp
    refine (HN.out _ HTC.out).mono ?_
    rintro r w4 ⟨rfl, hb2⟩
    have HC2 := hid hb2
    clear hb2 HTC
    go_wp2_with fail
    have HB3 := hid (HB0.out.trans (HC2.out.mono HB0.out.size))
    have HR3 := hid (HR2.out.below HC2.out HR2.out.lt)
    have HNW := hid ((HC2.out.block g hgu).trans HNW0.out)
    refine hK.out _ _ HR3.out (fun hHeld => ?_)
    clear hK K
    try simp only [Act.put, List.getElem_toArray, List.getElem_cons_zero, List.getElem_cons_succ, List.setIfInBounds_toArray, List.set_cons_succ, List.set_cons_zero]
    refine wpAnyH_take (i := 9) (v := .tuple #[.agg #[.int .i64 (k : Nat), .int .i64 (f : Nat), .int .i64 (m : Nat)], .int .i64 0]) rfl (by kernel_rfl) (by kernel_rfl) (by kernel_rfl) (fun _ _ _ h => h) (Or.inl ⟨by rfl, fun W _ => by go_simp⟩) hHeld ?_
    simp only [Act.put, List.getElem_toArray, List.getElem_cons_zero, List.getElem_cons_succ, List.setIfInBounds_toArray, List.set_cons_succ, List.set_cons_zero]
    refine wpAnyH_take (i := 10) (v := .agg #[.int .i64 (k : Nat), .int .i64 (f : Nat), .int .i64 (m : Nat)]) rfl (by kernel_rfl) (by kernel_rfl) (by kernel_rfl) (fun _ _ _ h => h) (Or.inl ⟨by rfl, fun W _ => by go_simp⟩) hHeld ?_
    simp only [Act.put, List.getElem_toArray, List.getElem_cons_zero, List.getElem_cons_succ, List.setIfInBounds_toArray, List.set_cons_succ, List.set_cons_zero]
    refine wpAnyH_take (i := 11) (v := .int .i64 0) rfl (by kernel_rfl) (by kernel_rfl) (by kernel_rfl) (fun _ _ _ h => h) (Or.inl ⟨by rfl, fun W _ => by go_simp⟩) hHeld ?_
    simp only [Act.put, List.getElem_toArray, List.getElem_cons_zero, List.getElem_cons_succ, List.setIfInBounds_toArray, List.set_cons_succ, List.set_cons_zero]
    refine wpAnyH_ready (rs := [13]) (by kernel_rfl) (by simp) ?_
    refine AllReadyH.cons rfl (fun K hK => ?_) AllReadyH.nil
    refine step_store_row (by rfl) 76 (.tmp 3) (.tmp 15) (by rfl) g [.int .i64 (k : Nat), .int .i64 (f : Nat), .int .i64 (m : Nat)] (by rfl) (by rfl) 76 _ HNW.out (by exact Tryz.infoTok) (by rfl) (tkC_one ((k : Nat), (f : Nat), (m : Nat))) ?_
    intro w3 hs3
    have HTK : Hid (Tk w3 g ((k : Nat), (f : Nat), (m : Nat))) := hs3.blk
    have hgb : b ≠ g := fun e => by have := HR.out.lt; omega
    have HR5 : Hid (Rs w3 b l a) := (hs3.grown.block b HR3.out.lt (by simpa using hgb)).trans HR3.out
    have HB5 := hid (HB3.out.grown hs3.grown HB3.out.size (fun q hq => by injection hq with hq; omega))
    refine hK.out _ _ HR5.out (fun hHeld => ?_)
    clear hK K hs3
    try simp only [Act.put]
    refine wpAnyH_take (i := 14) (v := .int .i64 0) rfl (by kernel_rfl) (by kernel_rfl) (by kernel_rfl) (fun _ _ _ h => h) (Or.inl ⟨by rfl, fun W _ => by go_simp⟩) hHeld ?_
    simp only [Act.put, List.getElem_toArray, List.getElem_cons_zero, List.getElem_cons_succ, List.setIfInBounds_toArray, List.set_cons_succ, List.set_cons_zero]
    refine wpAnyH_done (by kernel_rfl) ?_ _
    simp only [noPanic]
    clear hHeld
    have c2 := HTK.out.c2
    have d1 := HR5.out.c1
    have z1 := HR5.out.z0 1
    go_upto_region 5 with fail
    have hbs : Rs (w3.setCell ⟨b, 1, none⟩ (.int .i64 (m : Int))) b l m := blk_set HR5.out _
    have HTK6 := hid (show Tk (w3.setCell ⟨b, 1, none⟩ (.int .i64 (m : Int))) g (k, f, m) from (hp_set w3 g b 1 _ (fun e => hgb e.symm)).trans HTK.out)
    have HG6 := hid (show w.grownBy (w3.setCell ⟨b, 1, none⟩ (.int .i64 (m : Int))) (some b) from gb_then (gb_then (below_gb HBW.out (some b)) (below_gb HB5.out (some b)) (fun j e => Or.inr e)) (gb_set w3 ⟨b, 1, none⟩ _) (fun j e => Or.inr e))
    have HW6 := hid (show (w3.setCell ⟨b, 1, none⟩ (.int .i64 (m : Int))).heap[w.heap.size]? = some (.cells #[.int .i64 0, .int .i64 0, .int .i64 0] 76 (0, 0)) from (hp_set w3 w.heap.size b 1 _ (by have := HNT.out; omega)).trans ((HB5.out.block w.heap.size (by omega)).trans HW2.out))
    have HS6 := hid hbs
    clear hbs c2 d1 z1
    generalize w3.setCell ⟨b, 1, none⟩ (.int .i64 (m : Int)) = w6 at *
    go_wp2_with first
      | (refine ld_row (by rfl) 76 (.tmp 3) (by rfl) g (by rfl) (tkC (k, f, m)) 76 HTK6.out _ Tryz.underlying76 rfl Tryz.infoTok ?_; unfold tkC)
      | (refine st_row (by rfl) 76 (.tmp 2) (.tmp 28) (by rfl) w.heap.size (tkC (k, f, m)) (by rfl) (by rfl) 76 _ HW6.out (by exact Tryz.infoTok) (by rfl) (tkC_one _) ?_; intro w7 hw7)
    obtain ⟨d, hu, hd⟩ := Tryz.rowTok
    refine ret_row 2 76 rfl w.heap.size rfl (tkC (k, f, m)) 76 hw7.blk d hu hd Tryz.infoTok rfl ⟨rfl, ?_, ?_⟩
    · exact (hw7.grown.block b HS6.out.lt (by simp; have := HNT.out; omega)).trans HS6.out
    · exact gb_then HG6.out hw7.grown (fun j e => by injection e with e; subst e; exact Or.inl (Nat.le_refl _))

end Go.Proofs.YtlpengaclkidiaaGreatDoor

/- The reader's take and takeAny. -/
namespace Go.Proofs.YtlpengaclkidiaaGreatDoor
open Go.RowKit

/-- a token into a variable that was made last -/
theorem gb_new {w w' : World} {g : Nat} (h : w.grownBy w' (some g)) {w0 : World} {row : Option Nat} (h0 : w0.grownBy w row) (hg : w0.heap.size ≤ g) : w0.grownBy w' row :=
  gb_then h0 h (fun j e => by injection e with e; subst e; exact Or.inl hg)

set_option maxRecDepth 20000 in
set_option maxHeartbeats 2000000 in
theorem rtk_ok (l : List UInt8) (a b k f m : Nat) (s : List UInt8) (hl : l.length ≤ 65536) (hfm : f ≤ m) (hml : m ≤ l.length) (hn : nxP l (a : Int) = ((k, f, m), 0)) (hs : ttP l f m = s) (w : World) (hT : Tabs w) (h : Rs w b l a) :
    Calls Tryz.prog 33 #[.pointer (some ⟨b, 0, none⟩), .string (mk s)] w fun r w' => r = .returned (.agg #[.int .i64 (k : Int), .int .i64 (f : Int), .int .i64 (m : Int)]) ∧ Rs w' b l m ∧ w.grownBy w' (some b) := by
  have HBW := hid (below_walk w (.cells #[.int .i64 0, .int .i64 0, .int .i64 0] 76))
  have HN := hid (rnx_ok l a b k f m hl hn _ (hT.below HBW.out) (h.below HBW.out h.lt))
  have HX := hid (fun W (hW : Rs W b l m) => rtx_any l m b k f m hfm hml W hW)
  rw [hs] at HX
  have HW2 := hid (hp_new w (.cells #[.int .i64 0, .int .i64 0, .int .i64 0] 76))
  have hsz := hp_size w (.cells #[.int .i64 0, .int .i64 0, .int .i64 0] 76)
  have HLT := hid h.lt
  have q1 : ((mk s).toList == (mk s).toList) = true := by simp
  clear hn hT h hs
  go_enter Tryz.func33, Tryz.ntmps33
  go_upto_region 1 with fail
  generalize w.alloc (.cells #[.int .i64 0, .int .i64 0, .int .i64 0] 76) = w1 at *
  go_wp2_with first
    | (go_at_call 55; refine HN.out.mono ?_; rintro r w2 ⟨rfl, hr2, hg2⟩; have HR2 := hid hr2; have HG2 := hid hg2; clear hr2 hg2)
    | (refine st_tk (by rfl) (.tmp 5) (.tmp 7) (by rfl) (k, f, m) (by rfl) (by rfl) _ (by rfl) ?_; intro wz hz1 hz2; have HTK := hid hz1; have HBZ := hid hz2; have HR3 := hid (HR2.out.below HBZ.out HR2.out.lt); clear hz1 hz2)
    | (go_at_call 32; refine (HX.out _ HR3.out).mono ?_; rintro r w4 ⟨rfl, hb4⟩; have HB4 := hid hb4; have HTK4 := hid (HTK.out.below hb4 HTK.out.lt); have HW4 := hid (show w4.heap[w.heap.size]? = some (.cells #[.int .i64 0, .int .i64 0, .int .i64 0] 76 (0, 0)) from (hb4.block _ (by have := HBZ.out.size; have := HG2.out.size; omega)).trans ((HBZ.out.block _ (by have := HG2.out.size; omega)).trans ((HG2.out.block _ (by omega) (by simp; have := HLT.out; omega)).trans HW2.out))); clear hb4)
    | (refine ld_row (by rfl) 76 (.tmp 5) (by rfl) w2.heap.size (by rfl) (tkC (k, f, m)) 76 HTK4.out _ Tryz.underlying76 rfl Tryz.infoTok ?_; unfold tkC)
    | (refine ld_row (by rfl) 76 (.tmp 5) (by rfl) w2.heap.size (by rfl) (tkC (k, f, m)) 76 HTK.out _ Tryz.underlying76 rfl Tryz.infoTok ?_; unfold tkC)
    | (refine st_row (by rfl) 76 (.tmp 4) (.tmp 16) (by rfl) w.heap.size (tkC (k, f, m)) (by rfl) (by rfl) 76 _ HW4.out (by exact Tryz.infoTok) (by rfl) (tkC_one _) ?_; intro w7 hw7)
  obtain ⟨d, hu, hd⟩ := Tryz.rowTok
  have hs2 := HBZ.out.size
  have hs3 := HG2.out.size
  have hs4 := HB4.out.size
  have hr4 := HR3.out.below HB4.out HR3.out.lt
  have hb := HLT.out
  refine ret_row 4 76 rfl w.heap.size rfl (tkC (k, f, m)) 76 hw7.blk d hu hd Tryz.infoTok rfl ⟨rfl, ?_, ?_⟩
  · exact (hw7.grown.block b hr4.lt (by simp; omega)).trans hr4
  · exact gb_new hw7.grown (gb_then (gb_then (gb_then (below_gb HBW.out (some b)) HG2.out (fun j e => Or.inr e)) (below_gb HBZ.out (some b)) (fun j e => Or.inr e)) (below_gb HB4.out (some b)) (fun j e => Or.inr e)) (Nat.le_refl _)

set_option maxRecDepth 20000 in
set_option maxHeartbeats 2000000 in
theorem rtk_not (l : List UInt8) (a b k f m : Nat) (s : List UInt8) (hl : l.length ≤ 65536) (hfm : f ≤ m) (hml : m ≤ l.length) (hn : nxP l (a : Int) = ((k, f, m), 0)) (hs : ttP l f m ≠ s) (w : World) (hT : Tabs w) (h : Rs w b l a) :
    Calls Tryz.prog 33 #[.pointer (some ⟨b, 0, none⟩), .string (mk s)] w fun r w' => r = .panicked (ftV 130 f) ∧ w.grownBy w' (some b) := by
  have HBW := hid (below_walk w (.cells #[.int .i64 0, .int .i64 0, .int .i64 0] 76))
  have HN := hid (rnx_ok l a b k f m hl hn _ (hT.below HBW.out) (h.below HBW.out h.lt))
  have HG := hid (giveUp_any 130 f)
  have HX := hid (fun W (hW : Rs W b l m) => rtx_any l m b k f m hfm hml W hW)
  obtain ⟨S, HS⟩ : ∃ S, Hid (ttP l f m = S) := ⟨_, rfl⟩
  rw [HS.out] at HX hs
  have hsz := hp_size w (.cells #[.int .i64 0, .int .i64 0, .int .i64 0] 76)
  have HLT := hid h.lt
  have q1 : ((mk S).toList == (mk s).toList) = false := by rw [tl_mk, tl_mk, beq_eq_false_iff_ne]; exact hs
  clear hn hT h hs
  go_enter Tryz.func33, Tryz.ntmps33
  go_upto_region 1 with fail
  generalize w.alloc (.cells #[.int .i64 0, .int .i64 0, .int .i64 0] 76) = w1 at *
  go_wp2_with first
    | (go_at_call 55; refine HN.out.mono ?_; rintro r w2 ⟨rfl, hr2, hg2⟩; have HR2 := hid hr2; have HG2 := hid hg2; clear hr2 hg2)
    | (refine st_tk (by rfl) (.tmp 5) (.tmp 7) (by rfl) (k, f, m) (by rfl) (by rfl) _ (by rfl) ?_; intro wz hz1 hz2; have HTK := hid hz1; have HBZ := hid hz2; have HR3 := hid (HR2.out.below HBZ.out HR2.out.lt); clear hz1 hz2)
    | (go_at_call 32; refine (HX.out _ HR3.out).mono ?_; rintro r w4 ⟨rfl, hb4⟩; have HB4 := hid hb4; have c1 := (HTK.out.below hb4 HTK.out.lt).c1; clear hb4)
    | (refine ld_row (by rfl) 76 (.tmp 5) (by rfl) w2.heap.size (by rfl) (tkC (k, f, m)) 76 HTK.out _ Tryz.underlying76 rfl Tryz.infoTok ?_; unfold tkC)
    | (go_at_call 56; refine (HG.out _).mono ?_; rintro r w6 ⟨rfl, h6⟩; have h6 := h6.symm; subst h6)
  exact ⟨rfl, rfl, gb_then (gb_then (gb_then (below_gb HBW.out (some b)) HG2.out (fun j e => Or.inr e)) (below_gb HBZ.out (some b)) (fun j e => Or.inr e)) (below_gb HB4.out (some b)) (fun j e => Or.inr e)⟩

set_option maxRecDepth 20000 in
set_option maxHeartbeats 2000000 in
theorem rtk_bad (l : List UInt8) (a b : Nat) (e : Int) (f : Nat) (s : List UInt8) (hl : l.length ≤ 65536) (he : e ≠ 0) (hn : nxP l (a : Int) = ((0, f, 0), e)) (w : World) (hT : Tabs w) (h : Rs w b l a) :
    Calls Tryz.prog 33 #[.pointer (some ⟨b, 0, none⟩), .string (mk s)] w fun r w' => r = .panicked (ftV e f) ∧ w.grownBy w' (some b) := by
  have HBW := hid (below_walk w (.cells #[.int .i64 0, .int .i64 0, .int .i64 0] 76))
  have HN := hid (rnx_bad l a b e f hl he hn _ (hT.below HBW.out) (h.below HBW.out h.lt))
  clear hn hT h
  go_enter Tryz.func33, Tryz.ntmps33
  go_upto_region 1 with fail
  generalize w.alloc (.cells #[.int .i64 0, .int .i64 0, .int .i64 0] 76) = w1 at *
  go_wp2_with (go_at_call 55; refine HN.out.mono ?_; rintro r w2 ⟨rfl, hb2⟩)
  exact ⟨rfl, rfl, gb_then (below_gb HBW.out (some b)) (below_gb hb2 (some b)) (fun j e => Or.inr e)⟩

set_option maxRecDepth 20000 in
set_option maxHeartbeats 2000000 in
theorem rta_ok (l : List UInt8) (a b k f m : Nat) (hl : l.length ≤ 65536) (hn : nxP l (a : Int) = ((k, f, m), 0)) (w : World) (hT : Tabs w) (h : Rs w b l a) :
    Calls Tryz.prog 34 #[.pointer (some ⟨b, 0, none⟩), .int .i64 (k : Int)] w fun r w' => r = .returned (.agg #[.int .i64 (k : Int), .int .i64 (f : Int), .int .i64 (m : Int)]) ∧ Rs w' b l m ∧ w.grownBy w' (some b) := by
  have HBW := hid (below_walk w (.cells #[.int .i64 0, .int .i64 0, .int .i64 0] 76))
  have HN := hid (rnx_ok l a b k f m hl hn _ (hT.below HBW.out) (h.below HBW.out h.lt))
  have HW2 := hid (hp_new w (.cells #[.int .i64 0, .int .i64 0, .int .i64 0] 76))
  have hsz := hp_size w (.cells #[.int .i64 0, .int .i64 0, .int .i64 0] 76)
  have HLT := hid h.lt
  clear hn hT h
  go_enter Tryz.func34, Tryz.ntmps34
  go_upto_region 1 with fail
  generalize w.alloc (.cells #[.int .i64 0, .int .i64 0, .int .i64 0] 76) = w1 at *
  go_wp2_with first
    | (go_at_call 55; refine HN.out.mono ?_; rintro r w2 ⟨rfl, hr2, hg2⟩; have HR2 := hid hr2; have HG2 := hid hg2; clear hr2 hg2)
    | (refine st_tk (by rfl) (.tmp 5) (.tmp 7) (by rfl) (k, f, m) (by rfl) (by rfl) _ (by rfl) ?_; intro wz hz1 hz2; have HTK := hid hz1; have HBZ := hid hz2; have HR3 := hid (HR2.out.below HBZ.out HR2.out.lt); have c0 := hz1.c0; have HW4 := hid (show wz.heap[w.heap.size]? = some (.cells #[.int .i64 0, .int .i64 0, .int .i64 0] 76 (0, 0)) from (hz2.block _ (by have := HG2.out.size; omega)).trans ((HG2.out.block _ (by omega) (by simp; have := HLT.out; omega)).trans HW2.out)); clear hz1 hz2)
    | (refine ld_row (by rfl) 76 (.tmp 5) (by rfl) w2.heap.size (by rfl) (tkC (k, f, m)) 76 HTK.out _ Tryz.underlying76 rfl Tryz.infoTok ?_; unfold tkC)
    | (refine st_row (by rfl) 76 (.tmp 4) (.tmp 15) (by rfl) w.heap.size (tkC (k, f, m)) (by rfl) (by rfl) 76 _ HW4.out (by exact Tryz.infoTok) (by rfl) (tkC_one _) ?_; intro w7 hw7)
  obtain ⟨d, hu, hd⟩ := Tryz.rowTok
  have hb := HLT.out
  refine ret_row 4 76 rfl w.heap.size rfl (tkC (k, f, m)) 76 hw7.blk d hu hd Tryz.infoTok rfl ⟨rfl, ?_, ?_⟩
  · exact (hw7.grown.block b HR3.out.lt (by simp; omega)).trans HR3.out
  · exact gb_new hw7.grown (gb_then (gb_then (below_gb HBW.out (some b)) HG2.out (fun j e => Or.inr e)) (below_gb HBZ.out (some b)) (fun j e => Or.inr e)) (Nat.le_refl _)

set_option maxRecDepth 20000 in
set_option maxHeartbeats 2000000 in
theorem rta_not (l : List UInt8) (a b k f m j : Nat) (hl : l.length ≤ 65536) (hn : nxP l (a : Int) = ((k, f, m), 0)) (hj : k ≠ j) (w : World) (hT : Tabs w) (h : Rs w b l a) :
    Calls Tryz.prog 34 #[.pointer (some ⟨b, 0, none⟩), .int .i64 (j : Int)] w fun r w' => r = .panicked (ftV 130 f) ∧ w.grownBy w' (some b) := by
  have HBW := hid (below_walk w (.cells #[.int .i64 0, .int .i64 0, .int .i64 0] 76))
  have HN := hid (rnx_ok l a b k f m hl hn _ (hT.below HBW.out) (h.below HBW.out h.lt))
  have HG := hid (giveUp_any 130 f)
  have hj0 : ¬ (k : Int) = (j : Int) := by omega
  clear hn hT h hj
  go_enter Tryz.func34, Tryz.ntmps34
  go_upto_region 1 with fail
  generalize w.alloc (.cells #[.int .i64 0, .int .i64 0, .int .i64 0] 76) = w1 at *
  go_wp2_with first
    | (go_at_call 55; refine HN.out.mono ?_; rintro r w2 ⟨rfl, hr2, hg2⟩; have HR2 := hid hr2; have HG2 := hid hg2; clear hr2 hg2)
    | (refine st_tk (by rfl) (.tmp 5) (.tmp 7) (by rfl) (k, f, m) (by rfl) (by rfl) _ (by rfl) ?_; intro wz hz1 hz2; have c0 := hz1.c0; have c1 := hz1.c1; have HBZ := hid hz2; clear hz1 hz2)
    | (go_at_call 56; refine (HG.out _).mono ?_; rintro r w6 ⟨rfl, h6⟩; have h6 := h6.symm; subst h6)
  exact ⟨rfl, rfl, gb_then (gb_then (below_gb HBW.out (some b)) HG2.out (fun j e => Or.inr e)) (below_gb HBZ.out (some b)) (fun j e => Or.inr e)⟩

set_option maxRecDepth 20000 in
set_option maxHeartbeats 2000000 in
theorem rta_bad (l : List UInt8) (a b : Nat) (e : Int) (f j : Nat) (hl : l.length ≤ 65536) (he : e ≠ 0) (hn : nxP l (a : Int) = ((0, f, 0), e)) (w : World) (hT : Tabs w) (h : Rs w b l a) :
    Calls Tryz.prog 34 #[.pointer (some ⟨b, 0, none⟩), .int .i64 (j : Int)] w fun r w' => r = .panicked (ftV e f) ∧ w.grownBy w' (some b) := by
  have HBW := hid (below_walk w (.cells #[.int .i64 0, .int .i64 0, .int .i64 0] 76))
  have HN := hid (rnx_bad l a b e f hl he hn _ (hT.below HBW.out) (h.below HBW.out h.lt))
  clear hn hT h
  go_enter Tryz.func34, Tryz.ntmps34
  go_upto_region 1 with fail
  generalize w.alloc (.cells #[.int .i64 0, .int .i64 0, .int .i64 0] 76) = w1 at *
  go_wp2_with (go_at_call 55; refine HN.out.mono ?_; rintro r w2 ⟨rfl, hb2⟩)
  exact ⟨rfl, rfl, gb_then (below_gb HBW.out (some b)) (below_gb hb2 (some b)) (fun j e => Or.inr e)⟩

end Go.Proofs.YtlpengaclkidiaaGreatDoor

/- The reader takes what stands at a place, or gives up. -/
namespace Go.Proofs.YtlpengaclkidiaaGreatDoor
open Go.RowKit

theorem cell_gb {w w' : World} {row : Option Nat} (hg : w.grownBy w' row) {k : Nat} (hk : k < w.heap.size) (hne : some k ≠ row) (j : Nat) : w'.cell? ⟨k, j, none⟩ = w.cell? ⟨k, j, none⟩ := by
  unfold World.cell?
  rw [hg.block k hk hne]
theorem Tabs.ne {w : World} {b a : Nat} {l : List UInt8} (h : Tabs w) (hR : Rs w b l a) : 1 ≠ b ∧ 2 ≠ b := by
  have c1 := hR.c1
  constructor
  · intro e
    subst e
    have := h.signs 1 _ rfl
    rw [show (0 + 1 : Nat) = 1 from rfl, c1] at this
    cases this
  · intro e
    subst e
    have := h.keys 1 _ rfl
    rw [show (0 + 1 : Nat) = 1 from rfl, c1] at this
    cases this
theorem Tabs.gb {w w' : World} {b a : Nat} {l : List UInt8} (h : Tabs w) (hR : Rs w b l a) (hg : w.grownBy w' (some b)) : Tabs w' := by
  obtain ⟨n1, n2⟩ := h.ne hR
  exact ⟨fun j v hv => by rw [cell_gb hg h.low.1 (by simpa using n1)]; exact h.signs j v hv,
    fun j v hv => by rw [cell_gb hg h.low.2 (by simpa using n2)]; exact h.keys j v hv,
    ⟨Nat.lt_of_lt_of_le h.low.1 hg.size, Nat.lt_of_lt_of_le h.low.2 hg.size⟩⟩
theorem Tk.gb {w w' : World} {g b : Nat} {t : Nat × Nat × Nat} (h : Tk w g t) (hg : w.grownBy w' (some b)) (hne : g ≠ b) : Tk w' g t := by
  unfold Tk; rw [hg.block g h.lt (by simpa using hne)]; exact h

section
variable {l : List UInt8} {a b k f m p : Nat} {e : Int}
theorem take_ok {s : List UInt8} (hps : ∀ k S, fitP p k S = decide (S = s)) (hl : l.length ≤ 65536) (ha : a ≤ l.length) (h : plP l p a = ((k, f, m), 0)) (w : World) (hT : Tabs w) (hR : Rs w b l a) :
    Calls Tryz.prog 33 #[.pointer (some ⟨b, 0, none⟩), .string (mk s)] w fun r w' => r = .returned (.agg #[.int .i64 (k : Int), .int .i64 (f : Int), .int .i64 (m : Int)]) ∧ Rs w' b l m ∧ w.grownBy w' (some b) := by
  rcases pl_view p hl ha with ⟨e, f', h0, _, _, _, hf, hn, hp⟩ | ⟨k', f', m', _, hfm, hm, hn, hb, hp⟩ | ⟨k', f', m', _, hfm, hm, hn, hb, hp, _⟩
  · rw [hp] at h; simp only [Prod.mk.injEq] at h; omega
  · rw [hp] at h; simp only [Prod.mk.injEq] at h; omega
  · rw [hp] at h
    simp only [Prod.mk.injEq, and_true] at h
    obtain ⟨rfl, rfl, rfl⟩ := h
    rw [hps] at hb
    exact rtk_ok l a b k' f' m' s hl (by omega) hm hn (of_decide_eq_true hb) w hT hR

theorem take_no {s : List UInt8} (hps : ∀ k S, fitP p k S = decide (S = s)) (hl : l.length ≤ 65536) (ha : a ≤ l.length) (h : plP l p a = ((k, f, m), e)) (he : e ≠ 0) (w : World) (hT : Tabs w) (hR : Rs w b l a) :
    Calls Tryz.prog 33 #[.pointer (some ⟨b, 0, none⟩), .string (mk s)] w fun r w' => r = .panicked (ftV e f) ∧ w.grownBy w' (some b) := by
  rcases pl_view p hl ha with ⟨e', f', h0, _, _, _, hf, hn, hp⟩ | ⟨k', f', m', _, hfm, hm, hn, hb, hp⟩ | ⟨k', f', m', _, hfm, hm, hn, hb, hp, _⟩
  · rw [hp] at h
    simp only [Prod.mk.injEq] at h
    obtain ⟨⟨rfl, rfl, rfl⟩, rfl⟩ := h
    exact rtk_bad l a b e' f' s hl h0 hn w hT hR
  · rw [hp] at h
    simp only [Prod.mk.injEq] at h
    obtain ⟨⟨rfl, rfl, rfl⟩, rfl⟩ := h
    rw [hps] at hb
    exact rtk_not l a b k' f' m' s hl hfm hm hn (of_decide_eq_false hb) w hT hR
  · rw [hp] at h; simp only [Prod.mk.injEq] at h; omega

theorem any_ok {j : Nat} (hps : ∀ k S, fitP p k S = decide (k = j)) (hl : l.length ≤ 65536) (ha : a ≤ l.length) (h : plP l p a = ((k, f, m), 0)) (w : World) (hT : Tabs w) (hR : Rs w b l a) :
    Calls Tryz.prog 34 #[.pointer (some ⟨b, 0, none⟩), .int .i64 (j : Int)] w fun r w' => r = .returned (.agg #[.int .i64 (k : Int), .int .i64 (f : Int), .int .i64 (m : Int)]) ∧ Rs w' b l m ∧ w.grownBy w' (some b) := by
  rcases pl_view p hl ha with ⟨e, f', h0, _, _, _, hf, hn, hp⟩ | ⟨k', f', m', _, hfm, hm, hn, hb, hp⟩ | ⟨k', f', m', _, hfm, hm, hn, hb, hp, _⟩
  · rw [hp] at h; simp only [Prod.mk.injEq] at h; omega
  · rw [hp] at h; simp only [Prod.mk.injEq] at h; omega
  · rw [hp] at h
    simp only [Prod.mk.injEq, and_true] at h
    obtain ⟨rfl, rfl, rfl⟩ := h
    rw [hps] at hb
    obtain rfl : k' = j := of_decide_eq_true hb
    exact rta_ok l a b k' f' m' hl hn w hT hR

theorem any_no {j : Nat} (hps : ∀ k S, fitP p k S = decide (k = j)) (hl : l.length ≤ 65536) (ha : a ≤ l.length) (h : plP l p a = ((k, f, m), e)) (he : e ≠ 0) (w : World) (hT : Tabs w) (hR : Rs w b l a) :
    Calls Tryz.prog 34 #[.pointer (some ⟨b, 0, none⟩), .int .i64 (j : Int)] w fun r w' => r = .panicked (ftV e f) ∧ w.grownBy w' (some b) := by
  rcases pl_view p hl ha with ⟨e', f', h0, _, _, _, hf, hn, hp⟩ | ⟨k', f', m', _, hfm, hm, hn, hb, hp⟩ | ⟨k', f', m', _, hfm, hm, hn, hb, hp, _⟩
  · rw [hp] at h
    simp only [Prod.mk.injEq] at h
    obtain ⟨⟨rfl, rfl, rfl⟩, rfl⟩ := h
    exact rta_bad l a b e' f' j hl h0 hn w hT hR
  · rw [hp] at h
    simp only [Prod.mk.injEq] at h
    obtain ⟨⟨rfl, rfl, rfl⟩, rfl⟩ := h
    rw [hps] at hb
    exact rta_not l a b k' f' m' j hl hn (of_decide_eq_false hb) w hT hR
  · rw [hp] at h; simp only [Prod.mk.injEq] at h; omega
end

theorem fit_0 : ∀ k S, fitP 0 k S = decide (S = kInc) := fun _ _ => rfl
theorem fit_1 : ∀ k S, fitP 1 k S = decide (k = 3) := fun _ _ => rfl
theorem fit_2 : ∀ k S, fitP 2 k S = decide (S = kAs) := fun _ _ => rfl
theorem fit_3 : ∀ k S, fitP 3 k S = decide (k = 1) := fun _ _ => rfl
theorem fit_4 : ∀ k S, fitP 4 k S = decide (S = kEnd) := fun _ _ => rfl

/-- the four tokens behind the key include, one by one -/
theorem in_cases {l : List UInt8} {a : Nat} (hl : l.length ≤ 65536) (ha : a ≤ l.length) {e : Int} {g : Nat} {x y : List UInt8} {z : Nat} (h : in1 l a = (e, g, x, y, z)) (he : e ≠ 0) :
    (∃ k m, plP l 1 a = ((k, g, m), e)) ∨
    (∃ k1 f1 m1 k m, m1 ≤ l.length ∧ plP l 1 a = ((k1, f1, m1), 0) ∧ plP l 2 m1 = ((k, g, m), e)) ∨
    (∃ k1 f1 m1 k2 f2 m2 k m, m1 ≤ l.length ∧ m2 ≤ l.length ∧ plP l 1 a = ((k1, f1, m1), 0) ∧ plP l 2 m1 = ((k2, f2, m2), 0) ∧ plP l 3 m2 = ((k, g, m), e)) ∨
    (∃ k1 f1 m1 k2 f2 m2 k3 f3 m3 k m, m1 ≤ l.length ∧ m2 ≤ l.length ∧ m3 ≤ l.length ∧ plP l 1 a = ((k1, f1, m1), 0) ∧ plP l 2 m1 = ((k2, f2, m2), 0) ∧ plP l 3 m2 = ((k3, f3, m3), 0) ∧ plP l 4 m3 = ((k, g, m), e)) := by
  have step : ∀ (p a : Nat), a ≤ l.length → (∃ k f m e, e ≠ 0 ∧ plP l p a = ((k, f, m), e)) ∨ (∃ k f m, m ≤ l.length ∧ plP l p a = ((k, f, m), 0)) := fun p a ha => by
    rcases pl_view p hl ha with ⟨e', f', h0, _, _, _, hf, hn, hp⟩ | ⟨k', f', m', _, hfm, hm, hn, hb, hp⟩ | ⟨k', f', m', _, hfm, hm, hn, hb, hp, _⟩
    · exact Or.inl ⟨_, _, _, _, h0, hp⟩
    · exact Or.inl ⟨_, _, _, 130, by decide, hp⟩
    · exact Or.inr ⟨_, _, _, hm, hp⟩
  have z0 : ∀ t : Nat × Nat × Nat, ¬ ((t, (0 : Int)).2 ≠ 0) := fun t => by simp
  rcases step 1 a ha with ⟨k, f, m, e1, h1, p1⟩ | ⟨k1, f1, m1, l1, p1⟩
  · unfold in1 at h
    rw [p1, if_pos h1] at h
    simp only [Prod.mk.injEq] at h
    obtain ⟨rfl, rfl, _⟩ := h
    exact Or.inl ⟨_, _, p1⟩
  refine Or.inr ?_
  unfold in1 at h
  rw [p1, if_neg (z0 _)] at h
  simp only at h
  rcases step 2 m1 l1 with ⟨k, f, m, e1, h1, p2⟩ | ⟨k2, f2, m2, l2, p2⟩
  · unfold in2 at h
    rw [p2, if_pos h1] at h
    simp only [Prod.mk.injEq] at h
    obtain ⟨rfl, rfl, _⟩ := h
    exact Or.inl ⟨_, _, _, _, _, l1, p1, p2⟩
  refine Or.inr ?_
  unfold in2 at h
  rw [p2, if_neg (z0 _)] at h
  simp only at h
  rcases step 3 m2 l2 with ⟨k, f, m, e1, h1, p3⟩ | ⟨k3, f3, m3, l3, p3⟩
  · unfold in3 at h
    rw [p3, if_pos h1] at h
    simp only [Prod.mk.injEq] at h
    obtain ⟨rfl, rfl, _⟩ := h
    exact Or.inl ⟨_, _, _, _, _, _, _, _, l1, l2, p1, p2, p3⟩
  refine Or.inr ?_
  unfold in3 at h
  rw [p3, if_neg (z0 _)] at h
  simp only at h
  rcases step 4 m3 l3 with ⟨k, f, m, e1, h1, p4⟩ | ⟨k4, f4, m4, l4, p4⟩
  · unfold in4 at h
    rw [p4, if_pos h1] at h
    simp only [Prod.mk.injEq] at h
    obtain ⟨rfl, rfl, _⟩ := h
    exact ⟨_, _, _, _, _, _, _, _, _, _, _, l1, l2, l3, p1, p2, p3, p4⟩
  · unfold in4 at h
    rw [p4, if_neg (z0 _)] at h
    simp only [Prod.mk.injEq] at h
    exact absurd h.1.symm he

end Go.Proofs.YtlpengaclkidiaaGreatDoor

/- The contracts of strings.Clone of the library, laid over this dump. -/
namespace Go.Proofs
open Go.Shelf
def Tryz.lays316_ren : Go.Shelf.Ren := ⟨fun | 316 => 42 | n => n, fun | 9 => 9 | 3 => 3 | 4 => 4 | 37 => 58 | 0 => 0 | 127 => 86 | 5 => 5 | n => n, fun | n => n⟩
theorem Tryz.lays316 : Go.Proofs.LaysM.n316 Tryz.prog Tryz.lays316_ren := {
  mixed := by kernel_rfl
  f316 := Tryz.func42.trans (congrArg some (by kernel_rfl))
  t0 := Tryz.underlying0
  a0 := Tryz.isAgg0
  z0 := Tryz.sizeOf0
  v0 := Tryz.zeroValue0
  t3 := Tryz.underlying3
  a3 := Tryz.isAgg3
  z3 := Tryz.sizeOf3
  v3 := Tryz.zeroValue3
  t4 := Tryz.underlying4
  a4 := Tryz.isAgg4
  z4 := Tryz.sizeOf4
  v4 := Tryz.zeroValue4
  t9 := Tryz.underlying9
  a9 := Tryz.isAgg9
  z9 := Tryz.sizeOf9
  v9 := Tryz.zeroValue9
  t37 := Tryz.underlying58
  a37 := Tryz.isAgg58
  z37 := Tryz.sizeOf58
  v37 := Tryz.zeroValue58
  t127 := Tryz.underlying86
  a127 := Tryz.isAgg86
  z127 := Tryz.sizeOf86
  v127 := Tryz.zeroValue86
  t5 := Tryz.underlying5
  a5 := Tryz.isAgg5
  z5 := Tryz.sizeOf5
  v5 := Tryz.zeroValue5
  i0 := by kernel_rfl
  i3 := by kernel_rfl
  i4 := by kernel_rfl
  i5 := by kernel_rfl
  i9 := by kernel_rfl
  i37 := by kernel_rfl
  i127 := by kernel_rfl }
open Go.RowKit in
theorem Tryz.stringslite_Clone (s : ByteArray) (w : World) (hlim : s.size ≤ 281474976710656) :
    Calls Tryz.prog 42 #[.string s] w fun e w' => e = .returned (.string s) ∧ Below w.heap.size w w' := Any.stringslite_Clone Tryz.lays316 s w hlim
end Go.Proofs

/- The reader's include (written by yinc.py). -/
namespace Go.Proofs.YtlpengaclkidiaaGreatDoor
open Go.RowKit

theorem row_rng {w : World} {b : Nat} {cs : List Value} {T : TypeId} (h : w.heap[b]? = some (.cells cs.toArray T (0, 0))) : w.rangeAt b 0 cs := fun j v hv => by
  rw [Nat.zero_add, cell_of_row w b j cs.toArray T (0, 0) h]; simpa using hv
theorem sclone_any (s : ByteArray) (hs : s.size ≤ 281474976710656) (w : World) :
    Calls Tryz.prog 22 #[.string s] w fun e w' => e = .returned (.string s) ∧ Below w.heap.size w w' := by
  have H := hid (Tryz.stringslite_Clone s · hs)
  go_enter Tryz.func22, Tryz.ntmps22
  go_wp2_with (go_at_call 42; refine (H.out _).mono ?_; rintro e w' ⟨rfl, hb⟩)
  go_ret
  exact ⟨rfl, hb⟩

set_option maxRecDepth 20000 in
set_option maxHeartbeats 4000000 in
theorem inc_no1 {l : List UInt8} {a b k0 f0 m0 k f m : Nat} {e : Int} (hl : l.length ≤ 65536) (ha : a ≤ l.length) (p0 : plP l 0 a = ((k0, f0, m0), 0)) (h0 : m0 ≤ l.length) (p1 : plP l 1 m0 = ((k, f, m), e)) (he : e ≠ 0) (w : World) (hT : Tabs w) (hR : Rs w b l a) :
    Calls Tryz.prog 16 #[.pointer (some ⟨b, 0, none⟩)] w fun r w' => r = .panicked (ftV e f) ∧ w.grownBy w' (some b) := by
  have H0 := hid (fun W hT hR => take_ok (b := b) fit_0 hl ha p0 W hT hR)
  have H1 := hid (fun W hT hR => any_no (b := b) fit_1 hl h0 p1 he W hT hR)
  have HBW := hid (below_walk w (.cells #[.string ⟨#[]⟩, .string ⟨#[]⟩, .int .i64 0] 25))
  have HTw1 := hid (hT.below HBW.out)
  have HRw1 := hid (hR.below HBW.out hR.lt)
  have hsz := hp_size w (.cells #[.string ⟨#[]⟩, .string ⟨#[]⟩, .int .i64 0] 25)
  have HGw1 := hid (gb_refl (w.alloc (.cells #[.string ⟨#[]⟩, .string ⟨#[]⟩, .int .i64 0] 25)) (some b))
  have HN1 := hid (hp_new w (.cells #[.string ⟨#[]⟩, .string ⟨#[]⟩, .int .i64 0] 25))
  have HLT : Hid (b < (w.alloc (.cells #[.string ⟨#[]⟩, .string ⟨#[]⟩, .int .i64 0] 25)).heap.size) := Nat.lt_trans hR.lt (by rw [hp_size]; omega)
  have HLW := hid hR.lt
  clear hT hR p0 p1
  go_enter Tryz.func16, Tryz.ntmps16
  go_upto_region 1 with fail
  generalize w.alloc (.cells #[.string ⟨#[]⟩, .string ⟨#[]⟩, .int .i64 0] 25) = w1 at *
  go_upto_region 2 with first
    | (go_at_call 33; refine (H0.out _ HTw1.out HRw1.out).mono ?_; rintro r w2 ⟨rfl, hr, hg⟩; have HRw2 := hid hr; have HTw2 := hid (HTw1.out.gb HRw1.out hg); have HGw2 := hid (gb_then HGw1.out hg (fun j e => Or.inr e)); clear hr hg)
  have hz2 := below_walk w2 (.cells #[.int .i64 (k0 : Int), .int .i64 (f0 : Int), .int .i64 (m0 : Int)] 76)
  have hz1 : Tk (w2.alloc (.cells #[.int .i64 (k0 : Int), .int .i64 (f0 : Int), .int .i64 (m0 : Int)] 76)) w2.heap.size (k0, f0, m0) := hp_new _ _
  generalize w2.alloc (.cells #[.int .i64 (k0 : Int), .int .i64 (f0 : Int), .int .i64 (m0 : Int)] 76) = w3 at *
  have HRw3 := hid (HRw2.out.below hz2 HRw2.out.lt)
  have HTw3 := hid (HTw2.out.below hz2)
  have HGw3 := hid (gb_then HGw2.out (below_gb hz2 (some b)) (fun j e => Or.inr e))
  have HAw3 := hid hz1
  have gab : w2.heap.size ≠ b := Nat.ne_of_gt (Nat.lt_of_lt_of_le HLT.out HGw2.out.size)
  clear hz1 hz2
  go_wp2_with (go_at_call 34; refine (H1.out _ HTw3.out HRw3.out).mono ?_; rintro r w4 ⟨rfl, hg⟩)
  exact ⟨rfl, rfl, gb_then (below_gb HBW.out (some b)) (gb_then HGw3.out hg (fun j e => Or.inr e)) (fun j e => Or.inr e)⟩

set_option maxRecDepth 20000 in
set_option maxHeartbeats 4000000 in
theorem inc_no2 {l : List UInt8} {a b k0 f0 m0 k1 f1 m1 k f m : Nat} {e : Int} (hl : l.length ≤ 65536) (ha : a ≤ l.length) (p0 : plP l 0 a = ((k0, f0, m0), 0)) (h0 : m0 ≤ l.length) (p1 : plP l 1 m0 = ((k1, f1, m1), 0)) (h1 : m1 ≤ l.length) (p2 : plP l 2 m1 = ((k, f, m), e)) (he : e ≠ 0) (w : World) (hT : Tabs w) (hR : Rs w b l a) :
    Calls Tryz.prog 16 #[.pointer (some ⟨b, 0, none⟩)] w fun r w' => r = .panicked (ftV e f) ∧ w.grownBy w' (some b) := by
  have H0 := hid (fun W hT hR => take_ok (b := b) fit_0 hl ha p0 W hT hR)
  have H1 := hid (fun W hT hR => any_ok (b := b) fit_1 hl h0 p1 W hT hR)
  have H2 := hid (fun W hT hR => take_no (b := b) fit_2 hl h1 p2 he W hT hR)
  have HBW := hid (below_walk w (.cells #[.string ⟨#[]⟩, .string ⟨#[]⟩, .int .i64 0] 25))
  have HTw1 := hid (hT.below HBW.out)
  have HRw1 := hid (hR.below HBW.out hR.lt)
  have hsz := hp_size w (.cells #[.string ⟨#[]⟩, .string ⟨#[]⟩, .int .i64 0] 25)
  have HGw1 := hid (gb_refl (w.alloc (.cells #[.string ⟨#[]⟩, .string ⟨#[]⟩, .int .i64 0] 25)) (some b))
  have HN1 := hid (hp_new w (.cells #[.string ⟨#[]⟩, .string ⟨#[]⟩, .int .i64 0] 25))
  have HLT : Hid (b < (w.alloc (.cells #[.string ⟨#[]⟩, .string ⟨#[]⟩, .int .i64 0] 25)).heap.size) := Nat.lt_trans hR.lt (by rw [hp_size]; omega)
  have HLW := hid hR.lt
  clear hT hR p0 p1 p2
  go_enter Tryz.func16, Tryz.ntmps16
  go_upto_region 1 with fail
  generalize w.alloc (.cells #[.string ⟨#[]⟩, .string ⟨#[]⟩, .int .i64 0] 25) = w1 at *
  go_upto_region 2 with first
    | (go_at_call 33; refine (H0.out _ HTw1.out HRw1.out).mono ?_; rintro r w2 ⟨rfl, hr, hg⟩; have HRw2 := hid hr; have HTw2 := hid (HTw1.out.gb HRw1.out hg); have HGw2 := hid (gb_then HGw1.out hg (fun j e => Or.inr e)); clear hr hg)
  have hz2 := below_walk w2 (.cells #[.int .i64 (k0 : Int), .int .i64 (f0 : Int), .int .i64 (m0 : Int)] 76)
  have hz1 : Tk (w2.alloc (.cells #[.int .i64 (k0 : Int), .int .i64 (f0 : Int), .int .i64 (m0 : Int)] 76)) w2.heap.size (k0, f0, m0) := hp_new _ _
  generalize w2.alloc (.cells #[.int .i64 (k0 : Int), .int .i64 (f0 : Int), .int .i64 (m0 : Int)] 76) = w3 at *
  have HRw3 := hid (HRw2.out.below hz2 HRw2.out.lt)
  have HTw3 := hid (HTw2.out.below hz2)
  have HGw3 := hid (gb_then HGw2.out (below_gb hz2 (some b)) (fun j e => Or.inr e))
  have HAw3 := hid hz1
  have gab : w2.heap.size ≠ b := Nat.ne_of_gt (Nat.lt_of_lt_of_le HLT.out HGw2.out.size)
  clear hz1 hz2
  go_upto_region 3 with first
    | (go_at_call 34; refine (H1.out _ HTw3.out HRw3.out).mono ?_; rintro r w4 ⟨rfl, hr, hg⟩; have HRw4 := hid hr; have HTw4 := hid (HTw3.out.gb HRw3.out hg); have HGw4 := hid (gb_then HGw3.out hg (fun j e => Or.inr e)); have HAw4 := hid (HAw3.out.gb hg gab); clear hr hg)
  have hz2 := below_walk w4 (.cells #[.int .i64 (k1 : Int), .int .i64 (f1 : Int), .int .i64 (m1 : Int)] 76)
  have hz1 : Tk (w4.alloc (.cells #[.int .i64 (k1 : Int), .int .i64 (f1 : Int), .int .i64 (m1 : Int)] 76)) w4.heap.size (k1, f1, m1) := hp_new _ _
  generalize w4.alloc (.cells #[.int .i64 (k1 : Int), .int .i64 (f1 : Int), .int .i64 (m1 : Int)] 76) = w5 at *
  have HRw5 := hid (HRw4.out.below hz2 HRw4.out.lt)
  have HTw5 := hid (HTw4.out.below hz2)
  have HGw5 := hid (gb_then HGw4.out (below_gb hz2 (some b)) (fun j e => Or.inr e))
  have HAw5 := hid (HAw4.out.below hz2 HAw4.out.lt)
  have HBw5 := hid hz1
  have gbb : w4.heap.size ≠ b := Nat.ne_of_gt (Nat.lt_of_lt_of_le HLT.out HGw4.out.size)
  clear hz1 hz2
  go_wp2_with (go_at_call 33; refine (H2.out _ HTw5.out HRw5.out).mono ?_; rintro r w6 ⟨rfl, hg⟩)
  exact ⟨rfl, rfl, gb_then (below_gb HBW.out (some b)) (gb_then HGw5.out hg (fun j e => Or.inr e)) (fun j e => Or.inr e)⟩

set_option maxRecDepth 20000 in
set_option maxHeartbeats 4000000 in
theorem inc_no3 {l : List UInt8} {a b k0 f0 m0 k1 f1 m1 k2 f2 m2 k f m : Nat} {e : Int} (hl : l.length ≤ 65536) (ha : a ≤ l.length) (p0 : plP l 0 a = ((k0, f0, m0), 0)) (h0 : m0 ≤ l.length) (p1 : plP l 1 m0 = ((k1, f1, m1), 0)) (h1 : m1 ≤ l.length) (p2 : plP l 2 m1 = ((k2, f2, m2), 0)) (h2 : m2 ≤ l.length) (p3 : plP l 3 m2 = ((k, f, m), e)) (he : e ≠ 0) (w : World) (hT : Tabs w) (hR : Rs w b l a) :
    Calls Tryz.prog 16 #[.pointer (some ⟨b, 0, none⟩)] w fun r w' => r = .panicked (ftV e f) ∧ w.grownBy w' (some b) := by
  have H0 := hid (fun W hT hR => take_ok (b := b) fit_0 hl ha p0 W hT hR)
  have H1 := hid (fun W hT hR => any_ok (b := b) fit_1 hl h0 p1 W hT hR)
  have H2 := hid (fun W hT hR => take_ok (b := b) fit_2 hl h1 p2 W hT hR)
  have H3 := hid (fun W hT hR => any_no (b := b) fit_3 hl h2 p3 he W hT hR)
  have HBW := hid (below_walk w (.cells #[.string ⟨#[]⟩, .string ⟨#[]⟩, .int .i64 0] 25))
  have HTw1 := hid (hT.below HBW.out)
  have HRw1 := hid (hR.below HBW.out hR.lt)
  have hsz := hp_size w (.cells #[.string ⟨#[]⟩, .string ⟨#[]⟩, .int .i64 0] 25)
  have HGw1 := hid (gb_refl (w.alloc (.cells #[.string ⟨#[]⟩, .string ⟨#[]⟩, .int .i64 0] 25)) (some b))
  have HN1 := hid (hp_new w (.cells #[.string ⟨#[]⟩, .string ⟨#[]⟩, .int .i64 0] 25))
  have HLT : Hid (b < (w.alloc (.cells #[.string ⟨#[]⟩, .string ⟨#[]⟩, .int .i64 0] 25)).heap.size) := Nat.lt_trans hR.lt (by rw [hp_size]; omega)
  have HLW := hid hR.lt
  clear hT hR p0 p1 p2 p3
  go_enter Tryz.func16, Tryz.ntmps16
  go_upto_region 1 with fail
  generalize w.alloc (.cells #[.string ⟨#[]⟩, .string ⟨#[]⟩, .int .i64 0] 25) = w1 at *
  go_upto_region 2 with first
    | (go_at_call 33; refine (H0.out _ HTw1.out HRw1.out).mono ?_; rintro r w2 ⟨rfl, hr, hg⟩; have HRw2 := hid hr; have HTw2 := hid (HTw1.out.gb HRw1.out hg); have HGw2 := hid (gb_then HGw1.out hg (fun j e => Or.inr e)); clear hr hg)
  have hz2 := below_walk w2 (.cells #[.int .i64 (k0 : Int), .int .i64 (f0 : Int), .int .i64 (m0 : Int)] 76)
  have hz1 : Tk (w2.alloc (.cells #[.int .i64 (k0 : Int), .int .i64 (f0 : Int), .int .i64 (m0 : Int)] 76)) w2.heap.size (k0, f0, m0) := hp_new _ _
  generalize w2.alloc (.cells #[.int .i64 (k0 : Int), .int .i64 (f0 : Int), .int .i64 (m0 : Int)] 76) = w3 at *
  have HRw3 := hid (HRw2.out.below hz2 HRw2.out.lt)
  have HTw3 := hid (HTw2.out.below hz2)
  have HGw3 := hid (gb_then HGw2.out (below_gb hz2 (some b)) (fun j e => Or.inr e))
  have HAw3 := hid hz1
  have gab : w2.heap.size ≠ b := Nat.ne_of_gt (Nat.lt_of_lt_of_le HLT.out HGw2.out.size)
  clear hz1 hz2
  go_upto_region 3 with first
    | (go_at_call 34; refine (H1.out _ HTw3.out HRw3.out).mono ?_; rintro r w4 ⟨rfl, hr, hg⟩; have HRw4 := hid hr; have HTw4 := hid (HTw3.out.gb HRw3.out hg); have HGw4 := hid (gb_then HGw3.out hg (fun j e => Or.inr e)); have HAw4 := hid (HAw3.out.gb hg gab); clear hr hg)
  have hz2 := below_walk w4 (.cells #[.int .i64 (k1 : Int), .int .i64 (f1 : Int), .int .i64 (m1 : Int)] 76)
  have hz1 : Tk (w4.alloc (.cells #[.int .i64 (k1 : Int), .int .i64 (f1 : Int), .int .i64 (m1 : Int)] 76)) w4.heap.size (k1, f1, m1) := hp_new _ _
  generalize w4.alloc (.cells #[.int .i64 (k1 : Int), .int .i64 (f1 : Int), .int .i64 (m1 : Int)] 76) = w5 at *
  have HRw5 := hid (HRw4.out.below hz2 HRw4.out.lt)
  have HTw5 := hid (HTw4.out.below hz2)
  have HGw5 := hid (gb_then HGw4.out (below_gb hz2 (some b)) (fun j e => Or.inr e))
  have HAw5 := hid (HAw4.out.below hz2 HAw4.out.lt)
  have HBw5 := hid hz1
  have gbb : w4.heap.size ≠ b := Nat.ne_of_gt (Nat.lt_of_lt_of_le HLT.out HGw4.out.size)
  clear hz1 hz2
  go_upto_region 4 with first
    | (go_at_call 33; refine (H2.out _ HTw5.out HRw5.out).mono ?_; rintro r w6 ⟨rfl, hr, hg⟩; have HRw6 := hid hr; have HTw6 := hid (HTw5.out.gb HRw5.out hg); have HGw6 := hid (gb_then HGw5.out hg (fun j e => Or.inr e)); have HAw6 := hid (HAw5.out.gb hg gab); have HBw6 := hid (HBw5.out.gb hg gbb); clear hr hg)
  go_wp2_with (go_at_call 34; refine (H3.out _ HTw6.out HRw6.out).mono ?_; rintro r w7 ⟨rfl, hg⟩)
  exact ⟨rfl, rfl, gb_then (below_gb HBW.out (some b)) (gb_then HGw6.out hg (fun j e => Or.inr e)) (fun j e => Or.inr e)⟩

set_option maxRecDepth 20000 in
set_option maxHeartbeats 4000000 in
theorem inc_no4 {l : List UInt8} {a b k0 f0 m0 k1 f1 m1 k2 f2 m2 k3 f3 m3 k f m : Nat} {e : Int} (hl : l.length ≤ 65536) (ha : a ≤ l.length) (p0 : plP l 0 a = ((k0, f0, m0), 0)) (h0 : m0 ≤ l.length) (p1 : plP l 1 m0 = ((k1, f1, m1), 0)) (h1 : m1 ≤ l.length) (p2 : plP l 2 m1 = ((k2, f2, m2), 0)) (h2 : m2 ≤ l.length) (p3 : plP l 3 m2 = ((k3, f3, m3), 0)) (h3 : m3 ≤ l.length) (p4 : plP l 4 m3 = ((k, f, m), e)) (he : e ≠ 0) (w : World) (hT : Tabs w) (hR : Rs w b l a) :
    Calls Tryz.prog 16 #[.pointer (some ⟨b, 0, none⟩)] w fun r w' => r = .panicked (ftV e f) ∧ w.grownBy w' (some b) := by
  have H0 := hid (fun W hT hR => take_ok (b := b) fit_0 hl ha p0 W hT hR)
  have H1 := hid (fun W hT hR => any_ok (b := b) fit_1 hl h0 p1 W hT hR)
  have H2 := hid (fun W hT hR => take_ok (b := b) fit_2 hl h1 p2 W hT hR)
  have H3 := hid (fun W hT hR => any_ok (b := b) fit_3 hl h2 p3 W hT hR)
  have H4 := hid (fun W hT hR => take_no (b := b) fit_4 hl h3 p4 he W hT hR)
  have HBW := hid (below_walk w (.cells #[.string ⟨#[]⟩, .string ⟨#[]⟩, .int .i64 0] 25))
  have HTw1 := hid (hT.below HBW.out)
  have HRw1 := hid (hR.below HBW.out hR.lt)
  have hsz := hp_size w (.cells #[.string ⟨#[]⟩, .string ⟨#[]⟩, .int .i64 0] 25)
  have HGw1 := hid (gb_refl (w.alloc (.cells #[.string ⟨#[]⟩, .string ⟨#[]⟩, .int .i64 0] 25)) (some b))
  have HN1 := hid (hp_new w (.cells #[.string ⟨#[]⟩, .string ⟨#[]⟩, .int .i64 0] 25))
  have HLT : Hid (b < (w.alloc (.cells #[.string ⟨#[]⟩, .string ⟨#[]⟩, .int .i64 0] 25)).heap.size) := Nat.lt_trans hR.lt (by rw [hp_size]; omega)
  have HLW := hid hR.lt
  clear hT hR p0 p1 p2 p3 p4
  go_enter Tryz.func16, Tryz.ntmps16
  go_upto_region 1 with fail
  generalize w.alloc (.cells #[.string ⟨#[]⟩, .string ⟨#[]⟩, .int .i64 0] 25) = w1 at *
  go_upto_region 2 with first
    | (go_at_call 33; refine (H0.out _ HTw1.out HRw1.out).mono ?_; rintro r w2 ⟨rfl, hr, hg⟩; have HRw2 := hid hr; have HTw2 := hid (HTw1.out.gb HRw1.out hg); have HGw2 := hid (gb_then HGw1.out hg (fun j e => Or.inr e)); clear hr hg)
  have hz2 := below_walk w2 (.cells #[.int .i64 (k0 : Int), .int .i64 (f0 : Int), .int .i64 (m0 : Int)] 76)
  have hz1 : Tk (w2.alloc (.cells #[.int .i64 (k0 : Int), .int .i64 (f0 : Int), .int .i64 (m0 : Int)] 76)) w2.heap.size (k0, f0, m0) := hp_new _ _
  generalize w2.alloc (.cells #[.int .i64 (k0 : Int), .int .i64 (f0 : Int), .int .i64 (m0 : Int)] 76) = w3 at *
  have HRw3 := hid (HRw2.out.below hz2 HRw2.out.lt)
  have HTw3 := hid (HTw2.out.below hz2)
  have HGw3 := hid (gb_then HGw2.out (below_gb hz2 (some b)) (fun j e => Or.inr e))
  have HAw3 := hid hz1
  have gab : w2.heap.size ≠ b := Nat.ne_of_gt (Nat.lt_of_lt_of_le HLT.out HGw2.out.size)
  clear hz1 hz2
  go_upto_region 3 with first
    | (go_at_call 34; refine (H1.out _ HTw3.out HRw3.out).mono ?_; rintro r w4 ⟨rfl, hr, hg⟩; have HRw4 := hid hr; have HTw4 := hid (HTw3.out.gb HRw3.out hg); have HGw4 := hid (gb_then HGw3.out hg (fun j e => Or.inr e)); have HAw4 := hid (HAw3.out.gb hg gab); clear hr hg)
  have hz2 := below_walk w4 (.cells #[.int .i64 (k1 : Int), .int .i64 (f1 : Int), .int .i64 (m1 : Int)] 76)
  have hz1 : Tk (w4.alloc (.cells #[.int .i64 (k1 : Int), .int .i64 (f1 : Int), .int .i64 (m1 : Int)] 76)) w4.heap.size (k1, f1, m1) := hp_new _ _
  generalize w4.alloc (.cells #[.int .i64 (k1 : Int), .int .i64 (f1 : Int), .int .i64 (m1 : Int)] 76) = w5 at *
  have HRw5 := hid (HRw4.out.below hz2 HRw4.out.lt)
  have HTw5 := hid (HTw4.out.below hz2)
  have HGw5 := hid (gb_then HGw4.out (below_gb hz2 (some b)) (fun j e => Or.inr e))
  have HAw5 := hid (HAw4.out.below hz2 HAw4.out.lt)
  have HBw5 := hid hz1
  have gbb : w4.heap.size ≠ b := Nat.ne_of_gt (Nat.lt_of_lt_of_le HLT.out HGw4.out.size)
  clear hz1 hz2
  go_upto_region 4 with first
    | (go_at_call 33; refine (H2.out _ HTw5.out HRw5.out).mono ?_; rintro r w6 ⟨rfl, hr, hg⟩; have HRw6 := hid hr; have HTw6 := hid (HTw5.out.gb HRw5.out hg); have HGw6 := hid (gb_then HGw5.out hg (fun j e => Or.inr e)); have HAw6 := hid (HAw5.out.gb hg gab); have HBw6 := hid (HBw5.out.gb hg gbb); clear hr hg)
  go_upto_region 5 with first
    | (go_at_call 34; refine (H3.out _ HTw6.out HRw6.out).mono ?_; rintro r w7 ⟨rfl, hr, hg⟩; have HRw7 := hid hr; have HTw7 := hid (HTw6.out.gb HRw6.out hg); have HGw7 := hid (gb_then HGw6.out hg (fun j e => Or.inr e)); have HAw7 := hid (HAw6.out.gb hg gab); have HBw7 := hid (HBw6.out.gb hg gbb); clear hr hg)
  have hz2 := below_walk w7 (.cells #[.int .i64 (k3 : Int), .int .i64 (f3 : Int), .int .i64 (m3 : Int)] 76)
  have hz1 : Tk (w7.alloc (.cells #[.int .i64 (k3 : Int), .int .i64 (f3 : Int), .int .i64 (m3 : Int)] 76)) w7.heap.size (k3, f3, m3) := hp_new _ _
  generalize w7.alloc (.cells #[.int .i64 (k3 : Int), .int .i64 (f3 : Int), .int .i64 (m3 : Int)] 76) = w8 at *
  have HRw8 := hid (HRw7.out.below hz2 HRw7.out.lt)
  have HTw8 := hid (HTw7.out.below hz2)
  have HGw8 := hid (gb_then HGw7.out (below_gb hz2 (some b)) (fun j e => Or.inr e))
  have HAw8 := hid (HAw7.out.below hz2 HAw7.out.lt)
  have HBw8 := hid (HBw7.out.below hz2 HBw7.out.lt)
  have HCw8 := hid hz1
  have gcb : w7.heap.size ≠ b := Nat.ne_of_gt (Nat.lt_of_lt_of_le HLT.out HGw7.out.size)
  clear hz1 hz2
  go_wp2_with (go_at_call 33; refine (H4.out _ HTw8.out HRw8.out).mono ?_; rintro r w9 ⟨rfl, hg⟩)
  exact ⟨rfl, rfl, gb_then (below_gb HBW.out (some b)) (gb_then HGw8.out hg (fun j e => Or.inr e)) (fun j e => Or.inr e)⟩

set_option maxRecDepth 20000 in
set_option maxHeartbeats 4000000 in
theorem inc_ok {l : List UInt8} {a b k0 f0 m0 k1 f1 m1 k2 f2 m2 k3 f3 m3 k4 f4 m4 : Nat} (hl : l.length ≤ 65536) (ha : a ≤ l.length) (p0 : plP l 0 a = ((k0, f0, m0), 0)) (h0 : m0 ≤ l.length) (p1 : plP l 1 m0 = ((k1, f1, m1), 0)) (h1 : m1 ≤ l.length) (p2 : plP l 2 m1 = ((k2, f2, m2), 0)) (h2 : m2 ≤ l.length) (p3 : plP l 3 m2 = ((k3, f3, m3), 0)) (h3 : m3 ≤ l.length) (p4 : plP l 4 m3 = ((k4, f4, m4), 0)) (hf1 : f1 ≤ m1) (hf3 : f3 ≤ m3)
    (hj : jsP 3 (ttP l f1 m1) = true) (w : World) (hT : Tabs w) (hR : Rs w b l a) :
    Calls Tryz.prog 16 #[.pointer (some ⟨b, 0, none⟩)] w fun r w' => r = .returned (.agg #[.string (mk (vlP (ttP l f1 m1))), .string (mk (ttP l f3 m3)), .int .i64 (f0 : Int)]) ∧ Rs w' b l m4 ∧ w.grownBy w' (some b) := by
  have H0 := hid (fun W hT hR => take_ok (b := b) fit_0 hl ha p0 W hT hR)
  have H1 := hid (fun W hT hR => any_ok (b := b) fit_1 hl h0 p1 W hT hR)
  have H2 := hid (fun W hT hR => take_ok (b := b) fit_2 hl h1 p2 W hT hR)
  have H3 := hid (fun W hT hR => any_ok (b := b) fit_3 hl h2 p3 W hT hR)
  have H4 := hid (fun W hT hR => take_ok (b := b) fit_4 hl h3 p4 W hT hR)
  have HX1 := hid (fun W (hW : Rs W b l m4) => rtx_any l m4 b k1 f1 m1 hf1 h1 W hW)
  have HX3 := hid (fun W (hW : Rs W b l m4) => rtx_any l m4 b k3 f3 m3 hf3 h3 W hW)
  have hq1 : (ttP l f1 m1).length ≤ 65536 := by unfold ttP; rw [List.length_take, List.length_drop]; omega
  have hq3 : (ttP l f3 m3).length ≤ 65536 := by unfold ttP; rw [List.length_take, List.length_drop]; omega
  have HV := hid (fun W hT => text_ok (ttP l f1 m1) (vlP (ttP l f1 m1)) (by omega) hj (vl_text hj) W hT)
  have HC := hid (sclone_any (mk (ttP l f3 m3)) (by rw [mk_size]; omega))
  obtain ⟨S3, HS3⟩ : ∃ S, Hid (ttP l f3 m3 = S) := ⟨_, rfl⟩
  obtain ⟨V1, HV1⟩ : ∃ S, Hid (vlP (ttP l f1 m1) = S) := ⟨_, rfl⟩
  rw [HV1.out] at HV
  rw [HS3.out] at HX3 HC
  rw [HS3.out, HV1.out]
  obtain ⟨S1, HS1⟩ : ∃ S, Hid (ttP l f1 m1 = S) := ⟨_, rfl⟩
  rw [HS1.out] at HX1 HV
  have HBW := hid (below_walk w (.cells #[.string ⟨#[]⟩, .string ⟨#[]⟩, .int .i64 0] 25))
  have HTw1 := hid (hT.below HBW.out)
  have HRw1 := hid (hR.below HBW.out hR.lt)
  have hsz := hp_size w (.cells #[.string ⟨#[]⟩, .string ⟨#[]⟩, .int .i64 0] 25)
  have HGw1 := hid (gb_refl (w.alloc (.cells #[.string ⟨#[]⟩, .string ⟨#[]⟩, .int .i64 0] 25)) (some b))
  have HN1 := hid (hp_new w (.cells #[.string ⟨#[]⟩, .string ⟨#[]⟩, .int .i64 0] 25))
  have HLT : Hid (b < (w.alloc (.cells #[.string ⟨#[]⟩, .string ⟨#[]⟩, .int .i64 0] 25)).heap.size) := Nat.lt_trans hR.lt (by rw [hp_size]; omega)
  have HLW := hid hR.lt
  clear hT hR hj hq1 hq3 p0 p1 p2 p3 p4
  go_enter Tryz.func16, Tryz.ntmps16
  go_upto_region 1 with fail
  generalize w.alloc (.cells #[.string ⟨#[]⟩, .string ⟨#[]⟩, .int .i64 0] 25) = w1 at *
  go_upto_region 2 with first
    | (go_at_call 33; refine (H0.out _ HTw1.out HRw1.out).mono ?_; rintro r w2 ⟨rfl, hr, hg⟩; have HRw2 := hid hr; have HTw2 := hid (HTw1.out.gb HRw1.out hg); have HGw2 := hid (gb_then HGw1.out hg (fun j e => Or.inr e)); clear hr hg)
  have hz2 := below_walk w2 (.cells #[.int .i64 (k0 : Int), .int .i64 (f0 : Int), .int .i64 (m0 : Int)] 76)
  have hz1 : Tk (w2.alloc (.cells #[.int .i64 (k0 : Int), .int .i64 (f0 : Int), .int .i64 (m0 : Int)] 76)) w2.heap.size (k0, f0, m0) := hp_new _ _
  generalize w2.alloc (.cells #[.int .i64 (k0 : Int), .int .i64 (f0 : Int), .int .i64 (m0 : Int)] 76) = w3 at *
  have HRw3 := hid (HRw2.out.below hz2 HRw2.out.lt)
  have HTw3 := hid (HTw2.out.below hz2)
  have HGw3 := hid (gb_then HGw2.out (below_gb hz2 (some b)) (fun j e => Or.inr e))
  have HAw3 := hid hz1
  have gab : w2.heap.size ≠ b := Nat.ne_of_gt (Nat.lt_of_lt_of_le HLT.out HGw2.out.size)
  clear hz1 hz2
  go_upto_region 3 with first
    | (go_at_call 34; refine (H1.out _ HTw3.out HRw3.out).mono ?_; rintro r w4 ⟨rfl, hr, hg⟩; have HRw4 := hid hr; have HTw4 := hid (HTw3.out.gb HRw3.out hg); have HGw4 := hid (gb_then HGw3.out hg (fun j e => Or.inr e)); have HAw4 := hid (HAw3.out.gb hg gab); clear hr hg)
  have hz2 := below_walk w4 (.cells #[.int .i64 (k1 : Int), .int .i64 (f1 : Int), .int .i64 (m1 : Int)] 76)
  have hz1 : Tk (w4.alloc (.cells #[.int .i64 (k1 : Int), .int .i64 (f1 : Int), .int .i64 (m1 : Int)] 76)) w4.heap.size (k1, f1, m1) := hp_new _ _
  generalize w4.alloc (.cells #[.int .i64 (k1 : Int), .int .i64 (f1 : Int), .int .i64 (m1 : Int)] 76) = w5 at *
  have HRw5 := hid (HRw4.out.below hz2 HRw4.out.lt)
  have HTw5 := hid (HTw4.out.below hz2)
  have HGw5 := hid (gb_then HGw4.out (below_gb hz2 (some b)) (fun j e => Or.inr e))
  have HAw5 := hid (HAw4.out.below hz2 HAw4.out.lt)
  have HBw5 := hid hz1
  have gbb : w4.heap.size ≠ b := Nat.ne_of_gt (Nat.lt_of_lt_of_le HLT.out HGw4.out.size)
  clear hz1 hz2
  go_upto_region 4 with first
    | (go_at_call 33; refine (H2.out _ HTw5.out HRw5.out).mono ?_; rintro r w6 ⟨rfl, hr, hg⟩; have HRw6 := hid hr; have HTw6 := hid (HTw5.out.gb HRw5.out hg); have HGw6 := hid (gb_then HGw5.out hg (fun j e => Or.inr e)); have HAw6 := hid (HAw5.out.gb hg gab); have HBw6 := hid (HBw5.out.gb hg gbb); clear hr hg)
  go_upto_region 5 with first
    | (go_at_call 34; refine (H3.out _ HTw6.out HRw6.out).mono ?_; rintro r w7 ⟨rfl, hr, hg⟩; have HRw7 := hid hr; have HTw7 := hid (HTw6.out.gb HRw6.out hg); have HGw7 := hid (gb_then HGw6.out hg (fun j e => Or.inr e)); have HAw7 := hid (HAw6.out.gb hg gab); have HBw7 := hid (HBw6.out.gb hg gbb); clear hr hg)
  have hz2 := below_walk w7 (.cells #[.int .i64 (k3 : Int), .int .i64 (f3 : Int), .int .i64 (m3 : Int)] 76)
  have hz1 : Tk (w7.alloc (.cells #[.int .i64 (k3 : Int), .int .i64 (f3 : Int), .int .i64 (m3 : Int)] 76)) w7.heap.size (k3, f3, m3) := hp_new _ _
  generalize w7.alloc (.cells #[.int .i64 (k3 : Int), .int .i64 (f3 : Int), .int .i64 (m3 : Int)] 76) = w8 at *
  have HRw8 := hid (HRw7.out.below hz2 HRw7.out.lt)
  have HTw8 := hid (HTw7.out.below hz2)
  have HGw8 := hid (gb_then HGw7.out (below_gb hz2 (some b)) (fun j e => Or.inr e))
  have HAw8 := hid (HAw7.out.below hz2 HAw7.out.lt)
  have HBw8 := hid (HBw7.out.below hz2 HBw7.out.lt)
  have HCw8 := hid hz1
  have gcb : w7.heap.size ≠ b := Nat.ne_of_gt (Nat.lt_of_lt_of_le HLT.out HGw7.out.size)
  clear hz1 hz2
  go_upto_region 6 with first
    | (go_at_call 33; refine (H4.out _ HTw8.out HRw8.out).mono ?_; rintro r w9 ⟨rfl, hr, hg⟩; have HRw9 := hid hr; have HTw9 := hid (HTw8.out.gb HRw8.out hg); have HGw9 := hid (gb_then HGw8.out hg (fun j e => Or.inr e)); have HAw9 := hid (HAw8.out.gb hg gab); have HBw9 := hid (HBw8.out.gb hg gbb); have HCw9 := hid (HCw8.out.gb hg gcb); clear hr hg)
  go_upto_region 7 with first
    | (refine ld_row (by rfl) 76 (.tmp 4) (by rfl) w4.heap.size (by rfl) (tkC (k1, f1, m1)) 76 HBw9.out _ Tryz.underlying76 rfl Tryz.infoTok ?_; unfold tkC)
    | (go_at_call 32; refine (HX1.out _ HRw9.out).mono ?_; rintro r wa ⟨rfl, hb⟩; have HRwa := hid (HRw9.out.below hb HRw9.out.lt); have HTwa := hid (HTw9.out.below hb); have HGwa := hid (gb_then HGw9.out (below_gb hb (some b)) (fun j e => Or.inr e)); have HAwa := hid (HAw9.out.below hb HAw9.out.lt); have HBwa := hid (HBw9.out.below hb HBw9.out.lt); have HCwa := hid (HCw9.out.below hb HCw9.out.lt); clear hb)
    | (go_at_call 35; refine (HV.out _ HTwa.out).mono ?_; rintro r wb ⟨rfl, hb⟩; have HRwb := hid (HRwa.out.below hb HRwa.out.lt); have HTwb := hid (HTwa.out.below hb); have HGwb := hid (gb_then HGwa.out (below_gb hb (some b)) (fun j e => Or.inr e)); have HAwb := hid (HAwa.out.below hb HAwa.out.lt); have HBwb := hid (HBwa.out.below hb HBwa.out.lt); have HCwb := hid (HCwa.out.below hb HCwa.out.lt); clear hb)
  have HNb := hid (show wb.heap[w.heap.size]? = _ from (HGwb.out.block w.heap.size (by omega) (by simp; have := HLW.out; omega)).trans HN1.out)
  have hga : w1.heap.size ≤ w2.heap.size := HGw2.out.size
  have hgc : w1.heap.size ≤ w7.heap.size := HGw7.out.size
  refine wp_noPanic (wp_region_held_drew (S := fun W => Rs W b l m4 ∧ Tk W w2.heap.size (k0, f0, m0) ∧ Tk W w7.heap.size (k3, f3, m3)) (by kernel_rfl) (show Rs wb b l m4 ∧ Tk wb w2.heap.size (k0, f0, m0) ∧ Tk wb w7.heap.size (k3, f3, m3) from ⟨HRwb.out, HAwb.out, HCwb.out⟩) ?_)
  intro hHeld
  refine wpAnyH_take (i := 0) (v := .string (mk V1)) rfl (by kernel_rfl) (by kernel_rfl) (by kernel_rfl) (fun _ _ _ h => h) (Or.inl ⟨by rfl, fun W _ => by go_simp⟩) hHeld ?_
  simp only [Act.put, List.getElem_toArray, List.getElem_cons_zero, List.setIfInBounds_toArray, List.set_cons_succ, List.set_cons_zero]
  refine wpAnyH_take (i := 1) (v := .pointer (some ⟨b, 0, none⟩)) rfl (by kernel_rfl) (by kernel_rfl) (by kernel_rfl) (fun _ _ _ h => h) (Or.inl ⟨by rfl, fun W _ => by go_simp⟩) hHeld ?_
  simp only [Act.put, List.getElem_toArray, List.getElem_cons_zero, List.getElem_cons_succ, List.setIfInBounds_toArray, List.set_cons_succ, List.set_cons_zero]
  refine wpAnyH_take (i := 2) (v := .agg #[.int .i64 (k3 : Int), .int .i64 (f3 : Int), .int .i64 (m3 : Int)]) rfl (by kernel_rfl) (by kernel_rfl) (by kernel_rfl) (fun _ _ _ h => h) (yieldsIf_load_mid (by rfl) 76 (.tmp 5) rfl w7.heap.size 0 rfl (tkC (k3, f3, m3)) _ (fun W hW => row_rng hW.2.2) Tryz.underlying76 rfl Tryz.infoTok) hHeld ?_
  simp only [Act.put, List.getElem_toArray, List.getElem_cons_zero, List.getElem_cons_succ, List.setIfInBounds_toArray, List.set_cons_succ, List.set_cons_zero]
  refine wpAnyH_take (i := 5) (v := .pointer (some ⟨w2.heap.size, 1, none⟩)) rfl (by kernel_rfl) (by kernel_rfl) (by kernel_rfl) (fun _ _ _ h => h) (Or.inl ⟨by rfl, fun W _ => by go_simp⟩) hHeld ?_
  simp only [Act.put, List.getElem_toArray, List.getElem_cons_zero, List.getElem_cons_succ, List.setIfInBounds_toArray, List.set_cons_succ, List.set_cons_zero]
  refine wpAnyH_take (i := 6) (v := .int .i64 (f0 : Int)) rfl (by kernel_rfl) (by kernel_rfl) (by kernel_rfl) (fun _ _ _ h => h) (Or.inl ⟨by rfl, fun W hW => by have hcell := Tk.c1 hW.2.1; clear hW; go_simp⟩) hHeld ?_
  simp only [Act.put, List.getElem_toArray, List.getElem_cons_zero, List.getElem_cons_succ, List.setIfInBounds_toArray, List.set_cons_succ, List.set_cons_zero]
  refine wpAnyH_ready (rs := [3]) (by kernel_rfl) (by simp) ?_
  refine AllReadyH.cons rfl (fun K hK => ?_) AllReadyH.nil
  go_simp
  refine (HX3.out _ hHeld.1).mono ?_
  rintro r wc ⟨rfl, hb⟩
  have HBc := hid (show Below wb.heap.size wb wc from (Below.refl wb.heap.size wb).drew.trans hb)
  have HHd := hid (show Rs wc b l m4 ∧ Tk wc w2.heap.size (k0, f0, m0) ∧ Tk wc w7.heap.size (k3, f3, m3) from ⟨HRwb.out.below HBc.out HRwb.out.lt, HAwb.out.below HBc.out HAwb.out.lt, HCwb.out.below HBc.out HCwb.out.lt⟩)
  clear hb
  go_wp2_with fail
  refine hK.out _ _ HHd.out (fun hHeld => ?_)
  clear hK K HHd
  try simp only [Act.put, List.getElem_toArray, List.getElem_cons_zero, List.getElem_cons_succ, List.setIfInBounds_toArray, List.set_cons_succ, List.set_cons_zero]
  refine wpAnyH_ready (rs := [4]) (by kernel_rfl) (by simp) ?_
  refine AllReadyH.cons rfl (fun K hK => ?_) AllReadyH.nil
  go_simp
  refine (HC.out _).mono ?_
  rintro r wd ⟨rfl, hb⟩
  have HBd := hid (HBc.out.trans (hb.mono HBc.out.size))
  have HHd := hid (show Rs wd b l m4 ∧ Tk wd w2.heap.size (k0, f0, m0) ∧ Tk wd w7.heap.size (k3, f3, m3) from ⟨HRwb.out.below HBd.out HRwb.out.lt, HAwb.out.below HBd.out HAwb.out.lt, HCwb.out.below HBd.out HCwb.out.lt⟩)
  clear hb
  go_wp2_with fail
  refine hK.out _ _ HHd.out (fun hHeld => ?_)
  clear hK K HHd
  try simp only [Act.put, List.getElem_toArray, List.getElem_cons_zero, List.getElem_cons_succ, List.setIfInBounds_toArray, List.set_cons_succ, List.set_cons_zero]
  refine wpAnyH_take (i := 7) (v := .agg #[.string (mk V1), .string (mk S3), .int .i64 (f0 : Int)]) rfl (by kernel_rfl) (by kernel_rfl) (by kernel_rfl) (fun _ _ _ h => h) (Or.inl ⟨by rfl, fun W _ => by go_simp⟩) hHeld ?_
  simp only [Act.put, List.getElem_toArray, List.getElem_cons_zero, List.getElem_cons_succ, List.setIfInBounds_toArray, List.set_cons_succ, List.set_cons_zero]
  refine wpAnyH_ready (rs := [8]) (by kernel_rfl) (by simp) ?_
  refine AllReadyH.cons rfl (fun K hK => ?_) AllReadyH.nil
  have HNd := hid (show wd.heap[w.heap.size]? = _ from (HBd.out.block w.heap.size (hp_lt HNb.out)).trans HNb.out)
  refine step_store_row (by rfl) 25 (.tmp 2) (.tmp 32) (by rfl) w.heap.size [.string (mk V1), .string (mk S3), .int .i64 (f0 : Int)] (by rfl) (by rfl) 25 _ HNd.out (by exact Tryz.infoInc1) (by rfl) (icC_one (V1, S3, (f0 : Int))) ?_
  intro we hs
  have HSe := hid hs.blk
  have HGe := hid (gb_new hs.grown (gb_then (below_gb HBW.out (some b)) (gb_then HGwb.out (below_gb HBd.out (some b)) (fun j e => Or.inr e)) (fun j e => Or.inr e)) (Nat.le_refl _))
  have HHe := hid (show Rs we b l m4 ∧ Tk we w2.heap.size (k0, f0, m0) ∧ Tk we w7.heap.size (k3, f3, m3) from ⟨(hs.grown.block b hHeld.1.lt (by simp; have := HLW.out; omega)).trans hHeld.1, (hs.grown.block _ hHeld.2.1.lt (by simp; omega)).trans hHeld.2.1, (hs.grown.block _ hHeld.2.2.lt (by simp; omega)).trans hHeld.2.2⟩)
  refine hK.out _ _ HHe.out (fun hHeld => ?_)
  clear hK K hs
  try simp only [Act.put]
  refine wpAnyH_done (by kernel_rfl) ?_ _
  simp only [noPanic]
  clear hHeld
  go_wp2_with fail
  exact ret_row 2 25 rfl w.heap.size rfl [.string (mk V1), .string (mk S3), .int .i64 (f0 : Int)] 25 HSe.out _ Tryz.underlying25 rfl (by kernel_rfl) rfl ⟨rfl, HHe.out.1, HGe.out⟩

end Go.Proofs.YtlpengaclkidiaaGreatDoor

/- The reader's atInclude (written by yread.py). -/
namespace Go.Proofs.YtlpengaclkidiaaGreatDoor
open Go.RowKit

theorem unguard {P : Program} {ops : Array Oper} {Q : Exit → Act → World → Prop} {a : Act} {w : World} {rest : List Oper} {d : Option Tmp} {op : Op} {ty : TypeId} {pos : String} {af : Array Edge} {g : Option (Nat × Bool)}
    (hw : Region.wanted ⟨d, op, ty, pos, af, g⟩ (yielded ops a.tmps) = true) (h : wpList P ops Q (⟨d, op, ty, pos, af, none⟩ :: rest) a w) : wpList P ops Q (⟨d, op, ty, pos, af, g⟩ :: rest) a w := by
  have hn : Region.wanted ⟨d, op, ty, pos, af, none⟩ (yielded ops a.tmps) = true := by simp [Region.wanted]
  simp only [wpList] at h ⊢
  rw [if_pos hn] at h
  rw [if_pos hw]
  exact h

set_option maxRecDepth 20000 in
set_option maxHeartbeats 4000000 in
theorem rat_bad (l : List UInt8) (a b : Nat) (e : Int) (f : Nat) (hl : l.length ≤ 65536) (he : e ≠ 0) (hn : nxP l (a : Int) = ((0, f, 0), e)) (w : World) (hT : Tabs w) (h : Rs w b l a) :
    Calls Tryz.prog 15 #[.pointer (some ⟨b, 0, none⟩)] w fun r w' => r = .returned (.bool false) ∧ Below w.heap.size w w' := by
  have HN : Hid (∀ W, Tabs W → Calls Tryz.prog 31 #[.string (mk l), .int .i64 (a : Int)] W fun r w' => r = .returned (.tuple #[.agg #[.int .i64 (0 : Nat), .int .i64 (f : Nat), .int .i64 (0 : Nat)], .int .i64 e]) ∧ Below W.heap.size W w') := fun W hW => by
    have := next_any l (by omega) (a : Int) W hW
    rw [hn] at this
    exact this
  have he0 : ¬ e = 0 := he
  have HT := hid hT
  have HR := hid h
  clear hn hT h
  go_enter Tryz.func15, Tryz.ntmps15
  go_upto_region 1 with fail
  refine wp_noPanic (wp_region_held_drew (S := fun W => Rs W b l a) (by kernel_rfl) (show Rs w b l a from HR.out) ?_)
  intro hHeld
  refine wpAnyH_take (i := 0) (v := .pointer (some ⟨b, 0, none⟩)) rfl (by kernel_rfl) (by kernel_rfl) (by kernel_rfl) (fun _ _ _ h => h) (Or.inl ⟨by rfl, fun W _ => by go_simp⟩) hHeld ?_
  simp only [Act.put, List.getElem_toArray, List.getElem_cons_zero, List.setIfInBounds_toArray, List.set_cons_succ, List.set_cons_zero]
  refine wpAnyH_take (i := 1) (v := .pointer (some ⟨b, 0, none⟩)) rfl (by kernel_rfl) (by kernel_rfl) (by kernel_rfl) (fun _ _ _ h => h) (Or.inl ⟨by rfl, fun W _ => by go_simp⟩) hHeld ?_
  simp only [Act.put, List.getElem_toArray, List.getElem_cons_zero, List.getElem_cons_succ, List.setIfInBounds_toArray, List.set_cons_succ, List.set_cons_zero]
  refine wpAnyH_take (i := 2) (v := .pointer (some ⟨b, 0, none⟩)) rfl (by kernel_rfl) (by kernel_rfl) (by kernel_rfl) (fun _ _ _ h => h) (Or.inl ⟨by rfl, fun W _ => by go_simp⟩) hHeld ?_
  simp only [Act.put, List.getElem_toArray, List.getElem_cons_zero, List.getElem_cons_succ, List.setIfInBounds_toArray, List.set_cons_succ, List.set_cons_zero]
  refine wpAnyH_take (i := 3) (v := .string (mk l)) rfl (by kernel_rfl) (by kernel_rfl) (by kernel_rfl) (fun _ _ _ h => h) (Or.inl ⟨by rfl, fun W hW => by have hcell := Rs.c0 hW; clear hW; go_simp⟩) hHeld ?_
  simp only [Act.put, List.getElem_toArray, List.getElem_cons_zero, List.getElem_cons_succ, List.setIfInBounds_toArray, List.set_cons_succ, List.set_cons_zero]
  refine wpAnyH_take (i := 4) (v := .pointer (some ⟨b, 0, none⟩)) rfl (by kernel_rfl) (by kernel_rfl) (by kernel_rfl) (fun _ _ _ h => h) (Or.inl ⟨by rfl, fun W _ => by go_simp⟩) hHeld ?_
  simp only [Act.put, List.getElem_toArray, List.getElem_cons_zero, List.getElem_cons_succ, List.setIfInBounds_toArray, List.set_cons_succ, List.set_cons_zero]
  refine wpAnyH_take (i := 5) (v := .pointer (some ⟨b, 0, none⟩)) rfl (by kernel_rfl) (by kernel_rfl) (by kernel_rfl) (fun _ _ _ h => h) (Or.inl ⟨by rfl, fun W _ => by go_simp⟩) hHeld ?_
  simp only [Act.put, List.getElem_toArray, List.getElem_cons_zero, List.getElem_cons_succ, List.setIfInBounds_toArray, List.set_cons_succ, List.set_cons_zero]
  refine wpAnyH_take (i := 6) (v := .pointer (some ⟨b, 1, none⟩)) rfl (by kernel_rfl) (by kernel_rfl) (by kernel_rfl) (fun _ _ _ h => h) (Or.inl ⟨by rfl, fun W _ => by go_simp⟩) hHeld ?_
  simp only [Act.put, List.getElem_toArray, List.getElem_cons_zero, List.getElem_cons_succ, List.setIfInBounds_toArray, List.set_cons_succ, List.set_cons_zero]
  refine wpAnyH_take (i := 7) (v := .int .i64 (a : Int)) rfl (by kernel_rfl) (by kernel_rfl) (by kernel_rfl) (fun _ _ _ h => h) (Or.inl ⟨by rfl, fun W hW => by have hcell := Rs.c1 hW; clear hW; go_simp⟩) hHeld ?_
  simp only [Act.put, List.getElem_toArray, List.getElem_cons_zero, List.getElem_cons_succ, List.setIfInBounds_toArray, List.set_cons_succ, List.set_cons_zero]
  refine wpAnyH_ready (rs := [8, 12]) (by kernel_rfl) (by simp) ?_
  refine AllReadyH.cons rfl (fun K hK => ?_) (AllReadyH.cons rfl (fun K hK => ?_) AllReadyH.nil)
  · skip
    have HTC := hid (HT.out.below (Below.refl w.heap.size w).drew)
    go_simp
    refine (HN.out _ HTC.out).mono ?_
    rintro r w2 ⟨rfl, hb2⟩
    have HC2 := hid hb2
    clear hb2 HTC
    go_wp2_with fail
    have HB2 : Hid (Below w.heap.size w w2) := ((Below.refl w.heap.size w).drew.trans HC2.out)
    have HR2 := hid (HR.out.below HB2.out HR.out.lt)
    refine hK.out _ _ HR2.out (fun hHeld => ?_)
    clear hK K
    try simp only [Act.put, List.getElem_toArray, List.getElem_cons_zero, List.getElem_cons_succ, List.setIfInBounds_toArray, List.set_cons_succ, List.set_cons_zero]
    refine wpAnyH_take (i := 9) (v := .tuple #[.agg #[.int .i64 (0 : Nat), .int .i64 (f : Nat), .int .i64 (0 : Nat)], .int .i64 e]) rfl (by kernel_rfl) (by kernel_rfl) (by kernel_rfl) (fun _ _ _ h => h) (Or.inl ⟨by rfl, fun W _ => by go_simp⟩) hHeld ?_
    simp only [Act.put, List.getElem_toArray, List.getElem_cons_zero, List.getElem_cons_succ, List.setIfInBounds_toArray, List.set_cons_succ, List.set_cons_zero]
    refine wpAnyH_take (i := 10) (v := .agg #[.int .i64 (0 : Nat), .int .i64 (f : Nat), .int .i64 (0 : Nat)]) rfl (by kernel_rfl) (by kernel_rfl) (by kernel_rfl) (fun _ _ _ h => h) (Or.inl ⟨by rfl, fun W _ => by go_simp⟩) hHeld ?_
    simp only [Act.put, List.getElem_toArray, List.getElem_cons_zero, List.getElem_cons_succ, List.setIfInBounds_toArray, List.set_cons_succ, List.set_cons_zero]
    refine wpAnyH_take (i := 11) (v := .int .i64 e) rfl (by kernel_rfl) (by kernel_rfl) (by kernel_rfl) (fun _ _ _ h => h) (Or.inl ⟨by rfl, fun W _ => by go_simp⟩) hHeld ?_
    simp only [Act.put, List.getElem_toArray, List.getElem_cons_zero, List.getElem_cons_succ, List.setIfInBounds_toArray, List.set_cons_succ, List.set_cons_zero]
    refine wpAnyH_ready (rs := [12]) (by kernel_rfl) (by simp) ?_
    refine AllReadyH.cons rfl (fun K hK => ?_) AllReadyH.nil
    refine step_alloc_row (by rfl) 76 (by rfl) _ Tryz.zeroTok ?_
    have HR3 := hid (HR2.out.below (below_walk w2 (.cells #[.int .i64 0, .int .i64 0, .int .i64 0] 76)) HR2.out.lt)
    have HNW := hid (hp_new w2 (.cells #[.int .i64 0, .int .i64 0, .int .i64 0] 76))
    have HB3 := hid (HB2.out.trans ((below_walk w2 (.cells #[.int .i64 0, .int .i64 0, .int .i64 0] 76)).mono HB2.out.size))
    have hgl : w.heap.size ≤ w2.heap.size := HB2.out.size
    refine hK.out _ _ HR3.out (fun hHeld => ?_)
    clear hK K
    try simp only [Act.put, List.getElem_toArray, List.getElem_cons_zero, List.getElem_cons_succ, List.setIfInBounds_toArray, List.set_cons_succ, List.set_cons_zero]
    obtain ⟨g, HGE⟩ : ∃ g, Hid (w2.heap.size = g) := ⟨_, rfl⟩
    rw [HGE.out] at HNW hgl
    rw [HGE.out]
    generalize w2.alloc (.cells #[.int .i64 0, .int .i64 0, .int .i64 0] 76) = w4 at *
    clear HGE
    refine wpAnyH_ready (rs := [13]) (by kernel_rfl) (by simp) ?_
    refine AllReadyH.cons rfl (fun K hK => ?_) AllReadyH.nil
    refine step_store_row (by rfl) 76 (.tmp 3) (.tmp 15) (by rfl) g [.int .i64 (0 : Nat), .int .i64 (f : Nat), .int .i64 (0 : Nat)] (by rfl) (by rfl) 76 _ HNW.out (by exact Tryz.infoTok) (by rfl) (tkC_one ((0 : Nat), (f : Nat), (0 : Nat))) ?_
    intro w3 hs3
    have HTK : Hid (Tk w3 g ((0 : Nat), (f : Nat), (0 : Nat))) := hs3.blk
    have hgb : b ≠ g := fun e => by have := HR.out.lt; omega
    have HR5 : Hid (Rs w3 b l a) := (hs3.grown.block b HR3.out.lt (by simpa using hgb)).trans HR3.out
    have HB5 := hid (HB3.out.grown hs3.grown HB3.out.size (fun q hq => by injection hq with hq; omega))
    refine hK.out _ _ HR5.out (fun hHeld => ?_)
    clear hK K hs3
    try simp only [Act.put]
    refine wpAnyH_take (i := 14) (v := .int .i64 e) rfl (by kernel_rfl) (by kernel_rfl) (by kernel_rfl) (fun _ _ _ h => h) (Or.inl ⟨by rfl, fun W _ => by go_simp⟩) hHeld ?_
    simp only [Act.put, List.getElem_toArray, List.getElem_cons_zero, List.getElem_cons_succ, List.setIfInBounds_toArray, List.set_cons_succ, List.set_cons_zero]
    refine wpAnyH_done (by kernel_rfl) ?_ _
    simp only [noPanic]
    clear hHeld
    go_wp2
    go_ret
    exact ⟨rfl, HB5.out⟩
  · skip
    refine step_alloc_row (by rfl) 76 (by rfl) _ Tryz.zeroTok ?_
    have HNW0 := hid (hp_new w.drew (.cells #[.int .i64 0, .int .i64 0, .int .i64 0] 76))
    have HB0 := hid (((Below.refl w.heap.size w).drew).alloc (Nat.le_refl _) (.cells #[.int .i64 0, .int .i64 0, .int .i64 0] 76))
    have hgl : w.heap.size ≤ w.drew.heap.size := Nat.le_refl _
    have hgu : w.drew.heap.size < (w.drew.alloc (.cells #[.int .i64 0, .int .i64 0, .int .i64 0] 76)).heap.size := by rw [hp_size]; omega
    have HR2 := hid (HR.out.below HB0.out HR.out.lt)
    refine hK.out _ _ HR2.out (fun hHeld => ?_)
    clear hK K
    try simp only [Act.put, List.getElem_toArray, List.getElem_cons_zero, List.getElem_cons_succ, List.setIfInBounds_toArray, List.set_cons_succ, List.set_cons_zero]
    obtain ⟨g, HGE⟩ : ∃ g, Hid (w.drew.heap.size = g) := ⟨_, rfl⟩
    rw [HGE.out] at HNW0 hgl hgu
    rw [HGE.out]
    generalize w.drew.alloc (.cells #[.int .i64 0, .int .i64 0, .int .i64 0] 76) = w2 at *
    clear HGE
    refine wpAnyH_ready (rs := [8]) (by kernel_rfl) (by simp) ?_
    refine AllReadyH.cons rfl (fun K hK => ?_) AllReadyH.nil
    have HTC := hid (HT.out.below HB0.out)
    go_simp
    refine (HN.out _ HTC.out).mono ?_
    rintro r w4 ⟨rfl, hb2⟩
    have HC2 := hid hb2
    clear hb2 HTC
    go_wp2_with fail
    have HB3 := hid (HB0.out.trans (HC2.out.mono HB0.out.size))
    have HR3 := hid (HR2.out.below HC2.out HR2.out.lt)
    have HNW := hid ((HC2.out.block g hgu).trans HNW0.out)
    refine hK.out _ _ HR3.out (fun hHeld => ?_)
    clear hK K
    try simp only [Act.put, List.getElem_toArray, List.getElem_cons_zero, List.getElem_cons_succ, List.setIfInBounds_toArray, List.set_cons_succ, List.set_cons_zero]
    refine wpAnyH_take (i := 9) (v := .tuple #[.agg #[.int .i64 (0 : Nat), .int .i64 (f : Nat), .int .i64 (0 : Nat)], .int .i64 e]) rfl (by kernel_rfl) (by kernel_rfl) (by kernel_rfl) (fun _ _ _ h => h) (Or.inl ⟨by rfl, fun W _ => by go_simp⟩) hHeld ?_
    simp only [Act.put, List.getElem_toArray, List.getElem_cons_zero, List.getElem_cons_succ, List.setIfInBounds_toArray, List.set_cons_succ, List.set_cons_zero]
    refine wpAnyH_take (i := 10) (v := .agg #[.int .i64 (0 : Nat), .int .i64 (f : Nat), .int .i64 (0 : Nat)]) rfl (by kernel_rfl) (by kernel_rfl) (by kernel_rfl) (fun _ _ _ h => h) (Or.inl ⟨by rfl, fun W _ => by go_simp⟩) hHeld ?_
    simp only [Act.put, List.getElem_toArray, List.getElem_cons_zero, List.getElem_cons_succ, List.setIfInBounds_toArray, List.set_cons_succ, List.set_cons_zero]
    refine wpAnyH_take (i := 11) (v := .int .i64 e) rfl (by kernel_rfl) (by kernel_rfl) (by kernel_rfl) (fun _ _ _ h => h) (Or.inl ⟨by rfl, fun W _ => by go_simp⟩) hHeld ?_
    simp only [Act.put, List.getElem_toArray, List.getElem_cons_zero, List.getElem_cons_succ, List.setIfInBounds_toArray, List.set_cons_succ, List.set_cons_zero]
    refine wpAnyH_ready (rs := [13]) (by kernel_rfl) (by simp) ?_
    refine AllReadyH.cons rfl (fun K hK => ?_) AllReadyH.nil
    refine step_store_row (by rfl) 76 (.tmp 3) (.tmp 15) (by rfl) g [.int .i64 (0 : Nat), .int .i64 (f : Nat), .int .i64 (0 : Nat)] (by rfl) (by rfl) 76 _ HNW.out (by exact Tryz.infoTok) (by rfl) (tkC_one ((0 : Nat), (f : Nat), (0 : Nat))) ?_
    intro w3 hs3
    have HTK : Hid (Tk w3 g ((0 : Nat), (f : Nat), (0 : Nat))) := hs3.blk
    have hgb : b ≠ g := fun e => by have := HR.out.lt; omega
    have HR5 : Hid (Rs w3 b l a) := (hs3.grown.block b HR3.out.lt (by simpa using hgb)).trans HR3.out
    have HB5 := hid (HB3.out.grown hs3.grown HB3.out.size (fun q hq => by injection hq with hq; omega))
    refine hK.out _ _ HR5.out (fun hHeld => ?_)
    clear hK K hs3
    try simp only [Act.put]
    refine wpAnyH_take (i := 14) (v := .int .i64 e) rfl (by kernel_rfl) (by kernel_rfl) (by kernel_rfl) (fun _ _ _ h => h) (Or.inl ⟨by rfl, fun W _ => by go_simp⟩) hHeld ?_
    simp only [Act.put, List.getElem_toArray, List.getElem_cons_zero, List.getElem_cons_succ, List.setIfInBounds_toArray, List.set_cons_succ, List.set_cons_zero]
    refine wpAnyH_done (by kernel_rfl) ?_ _
    simp only [noPanic]
    clear hHeld
    go_wp2
    go_ret
    exact ⟨rfl, HB5.out⟩

set_option maxRecDepth 20000 in
set_option maxHeartbeats 4000000 in
theorem rat_any (l : List UInt8) (a b k f m : Nat) (hl : l.length ≤ 65536) (hfm : f ≤ m) (hml : m ≤ l.length) (hn : nxP l (a : Int) = ((k, f, m), 0)) (w : World) (hT : Tabs w) (h : Rs w b l a) :
    Calls Tryz.prog 15 #[.pointer (some ⟨b, 0, none⟩)] w fun r w' => r = .returned (.bool (decide (ttP l f m = kInc))) ∧ Below w.heap.size w w' := by
  have HN : Hid (∀ W, Tabs W → Calls Tryz.prog 31 #[.string (mk l), .int .i64 (a : Int)] W fun r w' => r = .returned (.tuple #[.agg #[.int .i64 (k : Nat), .int .i64 (f : Nat), .int .i64 (m : Nat)], .int .i64 0]) ∧ Below W.heap.size W w') := fun W hW => by
    have := next_any l (by omega) (a : Int) W hW
    rw [hn] at this
    exact this
  have HX := hid (fun W (hW : Rs W b l a) => rtx_any l a b k f m hfm hml W hW)
  obtain ⟨S, HS⟩ : ∃ S, Hid (ttP l f m = S) := ⟨_, rfl⟩
  rw [HS.out] at HX
  rw [HS.out]
  have HT := hid hT
  have HR := hid h
  clear hn hT h
  by_cases hq : S = kInc
  · have q1 : ((mk S).toList == [105, 110, 99, 108, 117, 100, 101]) = true := by rw [tl_mk, hq]; decide
    rw [decide_eq_true hq]
    clear hq
    go_enter Tryz.func15, Tryz.ntmps15
    go_upto_region 1 with fail
    refine wp_noPanic (wp_region_held_drew (S := fun W => Rs W b l a) (by kernel_rfl) (show Rs w b l a from HR.out) ?_)
    intro hHeld
    refine wpAnyH_take (i := 0) (v := .pointer (some ⟨b, 0, none⟩)) rfl (by kernel_rfl) (by kernel_rfl) (by kernel_rfl) (fun _ _ _ h => h) (Or.inl ⟨by rfl, fun W _ => by go_simp⟩) hHeld ?_
    simp only [Act.put, List.getElem_toArray, List.getElem_cons_zero, List.setIfInBounds_toArray, List.set_cons_succ, List.set_cons_zero]
    refine wpAnyH_take (i := 1) (v := .pointer (some ⟨b, 0, none⟩)) rfl (by kernel_rfl) (by kernel_rfl) (by kernel_rfl) (fun _ _ _ h => h) (Or.inl ⟨by rfl, fun W _ => by go_simp⟩) hHeld ?_
    simp only [Act.put, List.getElem_toArray, List.getElem_cons_zero, List.getElem_cons_succ, List.setIfInBounds_toArray, List.set_cons_succ, List.set_cons_zero]
    refine wpAnyH_take (i := 2) (v := .pointer (some ⟨b, 0, none⟩)) rfl (by kernel_rfl) (by kernel_rfl) (by kernel_rfl) (fun _ _ _ h => h) (Or.inl ⟨by rfl, fun W _ => by go_simp⟩) hHeld ?_
    simp only [Act.put, List.getElem_toArray, List.getElem_cons_zero, List.getElem_cons_succ, List.setIfInBounds_toArray, List.set_cons_succ, List.set_cons_zero]
    refine wpAnyH_take (i := 3) (v := .string (mk l)) rfl (by kernel_rfl) (by kernel_rfl) (by kernel_rfl) (fun _ _ _ h => h) (Or.inl ⟨by rfl, fun W hW => by have hcell := Rs.c0 hW; clear hW; go_simp⟩) hHeld ?_
    simp only [Act.put, List.getElem_toArray, List.getElem_cons_zero, List.getElem_cons_succ, List.setIfInBounds_toArray, List.set_cons_succ, List.set_cons_zero]
    refine wpAnyH_take (i := 4) (v := .pointer (some ⟨b, 0, none⟩)) rfl (by kernel_rfl) (by kernel_rfl) (by kernel_rfl) (fun _ _ _ h => h) (Or.inl ⟨by rfl, fun W _ => by go_simp⟩) hHeld ?_
    simp only [Act.put, List.getElem_toArray, List.getElem_cons_zero, List.getElem_cons_succ, List.setIfInBounds_toArray, List.set_cons_succ, List.set_cons_zero]
    refine wpAnyH_take (i := 5) (v := .pointer (some ⟨b, 0, none⟩)) rfl (by kernel_rfl) (by kernel_rfl) (by kernel_rfl) (fun _ _ _ h => h) (Or.inl ⟨by rfl, fun W _ => by go_simp⟩) hHeld ?_
    simp only [Act.put, List.getElem_toArray, List.getElem_cons_zero, List.getElem_cons_succ, List.setIfInBounds_toArray, List.set_cons_succ, List.set_cons_zero]
    refine wpAnyH_take (i := 6) (v := .pointer (some ⟨b, 1, none⟩)) rfl (by kernel_rfl) (by kernel_rfl) (by kernel_rfl) (fun _ _ _ h => h) (Or.inl ⟨by rfl, fun W _ => by go_simp⟩) hHeld ?_
    simp only [Act.put, List.getElem_toArray, List.getElem_cons_zero, List.getElem_cons_succ, List.setIfInBounds_toArray, List.set_cons_succ, List.set_cons_zero]
    refine wpAnyH_take (i := 7) (v := .int .i64 (a : Int)) rfl (by kernel_rfl) (by kernel_rfl) (by kernel_rfl) (fun _ _ _ h => h) (Or.inl ⟨by rfl, fun W hW => by have hcell := Rs.c1 hW; clear hW; go_simp⟩) hHeld ?_
    simp only [Act.put, List.getElem_toArray, List.getElem_cons_zero, List.getElem_cons_succ, List.setIfInBounds_toArray, List.set_cons_succ, List.set_cons_zero]
    refine wpAnyH_ready (rs := [8, 12]) (by kernel_rfl) (by simp) ?_
    refine AllReadyH.cons rfl (fun K hK => ?_) (AllReadyH.cons rfl (fun K hK => ?_) AllReadyH.nil)
    · skip
      have HTC := hid (HT.out.below (Below.refl w.heap.size w).drew)
      go_simp
      refine (HN.out _ HTC.out).mono ?_
      rintro r w2 ⟨rfl, hb2⟩
      have HC2 := hid hb2
      clear hb2 HTC
      go_wp2_with fail
      have HB2 : Hid (Below w.heap.size w w2) := ((Below.refl w.heap.size w).drew.trans HC2.out)
      have HR2 := hid (HR.out.below HB2.out HR.out.lt)
      refine hK.out _ _ HR2.out (fun hHeld => ?_)
      clear hK K
      try simp only [Act.put, List.getElem_toArray, List.getElem_cons_zero, List.getElem_cons_succ, List.setIfInBounds_toArray, List.set_cons_succ, List.set_cons_zero]
      refine wpAnyH_take (i := 9) (v := .tuple #[.agg #[.int .i64 (k : Nat), .int .i64 (f : Nat), .int .i64 (m : Nat)], .int .i64 0]) rfl (by kernel_rfl) (by kernel_rfl) (by kernel_rfl) (fun _ _ _ h => h) (Or.inl ⟨by rfl, fun W _ => by go_simp⟩) hHeld ?_
      simp only [Act.put, List.getElem_toArray, List.getElem_cons_zero, List.getElem_cons_succ, List.setIfInBounds_toArray, List.set_cons_succ, List.set_cons_zero]
      refine wpAnyH_take (i := 10) (v := .agg #[.int .i64 (k : Nat), .int .i64 (f : Nat), .int .i64 (m : Nat)]) rfl (by kernel_rfl) (by kernel_rfl) (by kernel_rfl) (fun _ _ _ h => h) (Or.inl ⟨by rfl, fun W _ => by go_simp⟩) hHeld ?_
      simp only [Act.put, List.getElem_toArray, List.getElem_cons_zero, List.getElem_cons_succ, List.setIfInBounds_toArray, List.set_cons_succ, List.set_cons_zero]
      refine wpAnyH_take (i := 11) (v := .int .i64 0) rfl (by kernel_rfl) (by kernel_rfl) (by kernel_rfl) (fun _ _ _ h => h) (Or.inl ⟨by rfl, fun W _ => by go_simp⟩) hHeld ?_
      simp only [Act.put, List.getElem_toArray, List.getElem_cons_zero, List.getElem_cons_succ, List.setIfInBounds_toArray, List.set_cons_succ, List.set_cons_zero]
      refine wpAnyH_ready (rs := [12]) (by kernel_rfl) (by simp) ?_
      refine AllReadyH.cons rfl (fun K hK => ?_) AllReadyH.nil
      refine step_alloc_row (by rfl) 76 (by rfl) _ Tryz.zeroTok ?_
      have HR3 := hid (HR2.out.below (below_walk w2 (.cells #[.int .i64 0, .int .i64 0, .int .i64 0] 76)) HR2.out.lt)
      have HNW := hid (hp_new w2 (.cells #[.int .i64 0, .int .i64 0, .int .i64 0] 76))
      have HB3 := hid (HB2.out.trans ((below_walk w2 (.cells #[.int .i64 0, .int .i64 0, .int .i64 0] 76)).mono HB2.out.size))
      have hgl : w.heap.size ≤ w2.heap.size := HB2.out.size
      refine hK.out _ _ HR3.out (fun hHeld => ?_)
      clear hK K
      try simp only [Act.put, List.getElem_toArray, List.getElem_cons_zero, List.getElem_cons_succ, List.setIfInBounds_toArray, List.set_cons_succ, List.set_cons_zero]
      obtain ⟨g, HGE⟩ : ∃ g, Hid (w2.heap.size = g) := ⟨_, rfl⟩
      rw [HGE.out] at HNW hgl
      rw [HGE.out]
      generalize w2.alloc (.cells #[.int .i64 0, .int .i64 0, .int .i64 0] 76) = w4 at *
      clear HGE
      refine wpAnyH_ready (rs := [13]) (by kernel_rfl) (by simp) ?_
      refine AllReadyH.cons rfl (fun K hK => ?_) AllReadyH.nil
      refine step_store_row (by rfl) 76 (.tmp 3) (.tmp 15) (by rfl) g [.int .i64 (k : Nat), .int .i64 (f : Nat), .int .i64 (m : Nat)] (by rfl) (by rfl) 76 _ HNW.out (by exact Tryz.infoTok) (by rfl) (tkC_one ((k : Nat), (f : Nat), (m : Nat))) ?_
      intro w3 hs3
      have HTK : Hid (Tk w3 g ((k : Nat), (f : Nat), (m : Nat))) := hs3.blk
      have hgb : b ≠ g := fun e => by have := HR.out.lt; omega
      have HR5 : Hid (Rs w3 b l a) := (hs3.grown.block b HR3.out.lt (by simpa using hgb)).trans HR3.out
      have HB5 := hid (HB3.out.grown hs3.grown HB3.out.size (fun q hq => by injection hq with hq; omega))
      refine hK.out _ _ HR5.out (fun hHeld => ?_)
      clear hK K hs3
      try simp only [Act.put]
      refine wpAnyH_take (i := 14) (v := .int .i64 0) rfl (by kernel_rfl) (by kernel_rfl) (by kernel_rfl) (fun _ _ _ h => h) (Or.inl ⟨by rfl, fun W _ => by go_simp⟩) hHeld ?_
      simp only [Act.put, List.getElem_toArray, List.getElem_cons_zero, List.getElem_cons_succ, List.setIfInBounds_toArray, List.set_cons_succ, List.set_cons_zero]
      refine wpAnyH_done (by kernel_rfl) ?_ _
      simp only [noPanic]
      clear hHeld
      go_wp2_with first
        | (go_at_call 32; refine (HX.out _ HR5.out).mono ?_; rintro r w6 ⟨rfl, hb6⟩; have HB6 := hid hb6; clear hb6)
        | (refine unguard (by rfl) ?_; refine ld_row (by rfl) 76 (.tmp 3) (by rfl) g (by rfl) (tkC (k, f, m)) 76 HTK.out _ Tryz.underlying76 rfl Tryz.infoTok ?_; unfold tkC)
      go_ret
      exact ⟨rfl, HB5.out.trans (HB6.out.mono HB5.out.size)⟩
    · skip
      refine step_alloc_row (by rfl) 76 (by rfl) _ Tryz.zeroTok ?_
      have HNW0 := hid (hp_new w.drew (.cells #[.int .i64 0, .int .i64 0, .int .i64 0] 76))
      have HB0 := hid (((Below.refl w.heap.size w).drew).alloc (Nat.le_refl _) (.cells #[.int .i64 0, .int .i64 0, .int .i64 0] 76))
      have hgl : w.heap.size ≤ w.drew.heap.size := Nat.le_refl _
      have hgu : w.drew.heap.size < (w.drew.alloc (.cells #[.int .i64 0, .int .i64 0, .int .i64 0] 76)).heap.size := by rw [hp_size]; omega
      have HR2 := hid (HR.out.below HB0.out HR.out.lt)
      refine hK.out _ _ HR2.out (fun hHeld => ?_)
      clear hK K
      try simp only [Act.put, List.getElem_toArray, List.getElem_cons_zero, List.getElem_cons_succ, List.setIfInBounds_toArray, List.set_cons_succ, List.set_cons_zero]
      obtain ⟨g, HGE⟩ : ∃ g, Hid (w.drew.heap.size = g) := ⟨_, rfl⟩
      rw [HGE.out] at HNW0 hgl hgu
      rw [HGE.out]
      generalize w.drew.alloc (.cells #[.int .i64 0, .int .i64 0, .int .i64 0] 76) = w2 at *
      clear HGE
      refine wpAnyH_ready (rs := [8]) (by kernel_rfl) (by simp) ?_
      refine AllReadyH.cons rfl (fun K hK => ?_) AllReadyH.nil
      have HTC := hid (HT.out.below HB0.out)
      go_simp
      refine (HN.out _ HTC.out).mono ?_
      rintro r w4 ⟨rfl, hb2⟩
      have HC2 := hid hb2
      clear hb2 HTC
      go_wp2_with fail
      have HB3 := hid (HB0.out.trans (HC2.out.mono HB0.out.size))
      have HR3 := hid (HR2.out.below HC2.out HR2.out.lt)
      have HNW := hid ((HC2.out.block g hgu).trans HNW0.out)
      refine hK.out _ _ HR3.out (fun hHeld => ?_)
      clear hK K
      try simp only [Act.put, List.getElem_toArray, List.getElem_cons_zero, List.getElem_cons_succ, List.setIfInBounds_toArray, List.set_cons_succ, List.set_cons_zero]
      refine wpAnyH_take (i := 9) (v := .tuple #[.agg #[.int .i64 (k : Nat), .int .i64 (f : Nat), .int .i64 (m : Nat)], .int .i64 0]) rfl (by kernel_rfl) (by kernel_rfl) (by kernel_rfl) (fun _ _ _ h => h) (Or.inl ⟨by rfl, fun W _ => by go_simp⟩) hHeld ?_
      simp only [Act.put, List.getElem_toArray, List.getElem_cons_zero, List.getElem_cons_succ, List.setIfInBounds_toArray, List.set_cons_succ, List.set_cons_zero]
      refine wpAnyH_take (i := 10) (v := .agg #[.int .i64 (k : Nat), .int .i64 (f : Nat), .int .i64 (m : Nat)]) rfl (by kernel_rfl) (by kernel_rfl) (by kernel_rfl) (fun _ _ _ h => h) (Or.inl ⟨by rfl, fun W _ => by go_simp⟩) hHeld ?_
      simp only [Act.put, List.getElem_toArray, List.getElem_cons_zero, List.getElem_cons_succ, List.setIfInBounds_toArray, List.set_cons_succ, List.set_cons_zero]
      refine wpAnyH_take (i := 11) (v := .int .i64 0) rfl (by kernel_rfl) (by kernel_rfl) (by kernel_rfl) (fun _ _ _ h => h) (Or.inl ⟨by rfl, fun W _ => by go_simp⟩) hHeld ?_
      simp only [Act.put, List.getElem_toArray, List.getElem_cons_zero, List.getElem_cons_succ, List.setIfInBounds_toArray, List.set_cons_succ, List.set_cons_zero]
      refine wpAnyH_ready (rs := [13]) (by kernel_rfl) (by simp) ?_
      refine AllReadyH.cons rfl (fun K hK => ?_) AllReadyH.nil
      refine step_store_row (by rfl) 76 (.tmp 3) (.tmp 15) (by rfl) g [.int .i64 (k : Nat), .int .i64 (f : Nat), .int .i64 (m : Nat)] (by rfl) (by rfl) 76 _ HNW.out (by exact Tryz.infoTok) (by rfl) (tkC_one ((k : Nat), (f : Nat), (m : Nat))) ?_
      intro w3 hs3
      have HTK : Hid (Tk w3 g ((k : Nat), (f : Nat), (m : Nat))) := hs3.blk
      have hgb : b ≠ g := fun e => by have := HR.out.lt; omega
      have HR5 : Hid (Rs w3 b l a) := (hs3.grown.block b HR3.out.lt (by simpa using hgb)).trans HR3.out
      have HB5 := hid (HB3.out.grown hs3.grown HB3.out.size (fun q hq => by injection hq with hq; omega))
      refine hK.out _ _ HR5.out (fun hHeld => ?_)
      clear hK K hs3
      try simp only [Act.put]
      refine wpAnyH_take (i := 14) (v := .int .i64 0) rfl (by kernel_rfl) (by kernel_rfl) (by kernel_rfl) (fun _ _ _ h => h) (Or.inl ⟨by rfl, fun W _ => by go_simp⟩) hHeld ?_
      simp only [Act.put, List.getElem_toArray, List.getElem_cons_zero, List.getElem_cons_succ, List.setIfInBounds_toArray, List.set_cons_succ, List.set_cons_zero]
      refine wpAnyH_done (by kernel_rfl) ?_ _
      simp only [noPanic]
      clear hHeld
      go_wp2_with first
        | (go_at_call 32; refine (HX.out _ HR5.out).mono ?_; rintro r w6 ⟨rfl, hb6⟩; have HB6 := hid hb6; clear hb6)
        | (refine unguard (by rfl) ?_; refine ld_row (by rfl) 76 (.tmp 3) (by rfl) g (by rfl) (tkC (k, f, m)) 76 HTK.out _ Tryz.underlying76 rfl Tryz.infoTok ?_; unfold tkC)
      go_ret
      exact ⟨rfl, HB5.out.trans (HB6.out.mono HB5.out.size)⟩
  · have q1 : ((mk S).toList == [105, 110, 99, 108, 117, 100, 101]) = false := by rw [tl_mk, beq_eq_false_iff_ne]; exact hq
    rw [decide_eq_false hq]
    clear hq
    go_enter Tryz.func15, Tryz.ntmps15
    go_upto_region 1 with fail
    refine wp_noPanic (wp_region_held_drew (S := fun W => Rs W b l a) (by kernel_rfl) (show Rs w b l a from HR.out) ?_)
    intro hHeld
    refine wpAnyH_take (i := 0) (v := .pointer (some ⟨b, 0, none⟩)) rfl (by kernel_rfl) (by kernel_rfl) (by kernel_rfl) (fun _ _ _ h => h) (Or.inl ⟨by rfl, fun W _ => by go_simp⟩) hHeld ?_
    simp only [Act.put, List.getElem_toArray, List.getElem_cons_zero, List.setIfInBounds_toArray, List.set_cons_succ, List.set_cons_zero]
    refine wpAnyH_take (i := 1) (v := .pointer (some ⟨b, 0, none⟩)) rfl (by kernel_rfl) (by kernel_rfl) (by kernel_rfl) (fun _ _ _ h => h) (Or.inl ⟨by rfl, fun W _ => by go_simp⟩) hHeld ?_
    simp only [Act.put, List.getElem_toArray, List.getElem_cons_zero, List.getElem_cons_succ, List.setIfInBounds_toArray, List.set_cons_succ, List.set_cons_zero]
    refine wpAnyH_take (i := 2) (v := .pointer (some ⟨b, 0, none⟩)) rfl (by kernel_rfl) (by kernel_rfl) (by kernel_rfl) (fun _ _ _ h => h) (Or.inl ⟨by rfl, fun W _ => by go_simp⟩) hHeld ?_
    simp only [Act.put, List.getElem_toArray, List.getElem_cons_zero, List.getElem_cons_succ, List.setIfInBounds_toArray, List.set_cons_succ, List.set_cons_zero]
    refine wpAnyH_take (i := 3) (v := .string (mk l)) rfl (by kernel_rfl) (by kernel_rfl) (by kernel_rfl) (fun _ _ _ h => h) (Or.inl ⟨by rfl, fun W hW => by have hcell := Rs.c0 hW; clear hW; go_simp⟩) hHeld ?_
    simp only [Act.put, List.getElem_toArray, List.getElem_cons_zero, List.getElem_cons_succ, List.setIfInBounds_toArray, List.set_cons_succ, List.set_cons_zero]
    refine wpAnyH_take (i := 4) (v := .pointer (some ⟨b, 0, none⟩)) rfl (by kernel_rfl) (by kernel_rfl) (by kernel_rfl) (fun _ _ _ h => h) (Or.inl ⟨by rfl, fun W _ => by go_simp⟩) hHeld ?_
    simp only [Act.put, List.getElem_toArray, List.getElem_cons_zero, List.getElem_cons_succ, List.setIfInBounds_toArray, List.set_cons_succ, List.set_cons_zero]
    refine wpAnyH_take (i := 5) (v := .pointer (some ⟨b, 0, none⟩)) rfl (by kernel_rfl) (by kernel_rfl) (by kernel_rfl) (fun _ _ _ h => h) (Or.inl ⟨by rfl, fun W _ => by go_simp⟩) hHeld ?_
    simp only [Act.put, List.getElem_toArray, List.getElem_cons_zero, List.getElem_cons_succ, List.setIfInBounds_toArray, List.set_cons_succ, List.set_cons_zero]
    refine wpAnyH_take (i := 6) (v := .pointer (some ⟨b, 1, none⟩)) rfl (by kernel_rfl) (by kernel_rfl) (by kernel_rfl) (fun _ _ _ h => h) (Or.inl ⟨by rfl, fun W _ => by go_simp⟩) hHeld ?_
    simp only [Act.put, List.getElem_toArray, List.getElem_cons_zero, List.getElem_cons_succ, List.setIfInBounds_toArray, List.set_cons_succ, List.set_cons_zero]
    refine wpAnyH_take (i := 7) (v := .int .i64 (a : Int)) rfl (by kernel_rfl) (by kernel_rfl) (by kernel_rfl) (fun _ _ _ h => h) (Or.inl ⟨by rfl, fun W hW => by have hcell := Rs.c1 hW; clear hW; go_simp⟩) hHeld ?_
    simp only [Act.put, List.getElem_toArray, List.getElem_cons_zero, List.getElem_cons_succ, List.setIfInBounds_toArray, List.set_cons_succ, List.set_cons_zero]
    refine wpAnyH_ready (rs := [8, 12]) (by kernel_rfl) (by simp) ?_
    refine AllReadyH.cons rfl (fun K hK => ?_) (AllReadyH.cons rfl (fun K hK => ?_) AllReadyH.nil)
    · skip
      have HTC := hid (HT.out.below (Below.refl w.heap.size w).drew)
      go_simp
      refine (HN.out _ HTC.out).mono ?_
      rintro r w2 ⟨rfl, hb2⟩
      have HC2 := hid hb2
      clear hb2 HTC
      go_wp2_with fail
      have HB2 : Hid (Below w.heap.size w w2) := ((Below.refl w.heap.size w).drew.trans HC2.out)
      have HR2 := hid (HR.out.below HB2.out HR.out.lt)
      refine hK.out _ _ HR2.out (fun hHeld => ?_)
      clear hK K
      try simp only [Act.put, List.getElem_toArray, List.getElem_cons_zero, List.getElem_cons_succ, List.setIfInBounds_toArray, List.set_cons_succ, List.set_cons_zero]
      refine wpAnyH_take (i := 9) (v := .tuple #[.agg #[.int .i64 (k : Nat), .int .i64 (f : Nat), .int .i64 (m : Nat)], .int .i64 0]) rfl (by kernel_rfl) (by kernel_rfl) (by kernel_rfl) (fun _ _ _ h => h) (Or.inl ⟨by rfl, fun W _ => by go_simp⟩) hHeld ?_
      simp only [Act.put, List.getElem_toArray, List.getElem_cons_zero, List.getElem_cons_succ, List.setIfInBounds_toArray, List.set_cons_succ, List.set_cons_zero]
      refine wpAnyH_take (i := 10) (v := .agg #[.int .i64 (k : Nat), .int .i64 (f : Nat), .int .i64 (m : Nat)]) rfl (by kernel_rfl) (by kernel_rfl) (by kernel_rfl) (fun _ _ _ h => h) (Or.inl ⟨by rfl, fun W _ => by go_simp⟩) hHeld ?_
      simp only [Act.put, List.getElem_toArray, List.getElem_cons_zero, List.getElem_cons_succ, List.setIfInBounds_toArray, List.set_cons_succ, List.set_cons_zero]
      refine wpAnyH_take (i := 11) (v := .int .i64 0) rfl (by kernel_rfl) (by kernel_rfl) (by kernel_rfl) (fun _ _ _ h => h) (Or.inl ⟨by rfl, fun W _ => by go_simp⟩) hHeld ?_
      simp only [Act.put, List.getElem_toArray, List.getElem_cons_zero, List.getElem_cons_succ, List.setIfInBounds_toArray, List.set_cons_succ, List.set_cons_zero]
      refine wpAnyH_ready (rs := [12]) (by kernel_rfl) (by simp) ?_
      refine AllReadyH.cons rfl (fun K hK => ?_) AllReadyH.nil
      refine step_alloc_row (by rfl) 76 (by rfl) _ Tryz.zeroTok ?_
      have HR3 := hid (HR2.out.below (below_walk w2 (.cells #[.int .i64 0, .int .i64 0, .int .i64 0] 76)) HR2.out.lt)
      have HNW := hid (hp_new w2 (.cells #[.int .i64 0, .int .i64 0, .int .i64 0] 76))
      have HB3 := hid (HB2.out.trans ((below_walk w2 (.cells #[.int .i64 0, .int .i64 0, .int .i64 0] 76)).mono HB2.out.size))
      have hgl : w.heap.size ≤ w2.heap.size := HB2.out.size
      refine hK.out _ _ HR3.out (fun hHeld => ?_)
      clear hK K
      try simp only [Act.put, List.getElem_toArray, List.getElem_cons_zero, List.getElem_cons_succ, List.setIfInBounds_toArray, List.set_cons_succ, List.set_cons_zero]
      obtain ⟨g, HGE⟩ : ∃ g, Hid (w2.heap.size = g) := ⟨_, rfl⟩
      rw [HGE.out] at HNW hgl
      rw [HGE.out]
      generalize w2.alloc (.cells #[.int .i64 0, .int .i64 0, .int .i64 0] 76) = w4 at *
      clear HGE
      refine wpAnyH_ready (rs := [13]) (by kernel_rfl) (by simp) ?_
      refine AllReadyH.cons rfl (fun K hK => ?_) AllReadyH.nil
      refine step_store_row (by rfl) 76 (.tmp 3) (.tmp 15) (by rfl) g [.int .i64 (k : Nat), .int .i64 (f : Nat), .int .i64 (m : Nat)] (by rfl) (by rfl) 76 _ HNW.out (by exact Tryz.infoTok) (by rfl) (tkC_one ((k : Nat), (f : Nat), (m : Nat))) ?_
      intro w3 hs3
      have HTK : Hid (Tk w3 g ((k : Nat), (f : Nat), (m : Nat))) := hs3.blk
      have hgb : b ≠ g := fun e => by have := HR.out.lt; omega
      have HR5 : Hid (Rs w3 b l a) := (hs3.grown.block b HR3.out.lt (by simpa using hgb)).trans HR3.out
      have HB5 := hid (HB3.out.grown hs3.grown HB3.out.size (fun q hq => by injection hq with hq; omega))
      refine hK.out _ _ HR5.out (fun hHeld => ?_)
      clear hK K hs3
      try simp only [Act.put]
      refine wpAnyH_take (i := 14) (v := .int .i64 0) rfl (by kernel_rfl) (by kernel_rfl) (by kernel_rfl) (fun _ _ _ h => h) (Or.inl ⟨by rfl, fun W _ => by go_simp⟩) hHeld ?_
      simp only [Act.put, List.getElem_toArray, List.getElem_cons_zero, List.getElem_cons_succ, List.setIfInBounds_toArray, List.set_cons_succ, List.set_cons_zero]
      refine wpAnyH_done (by kernel_rfl) ?_ _
      simp only [noPanic]
      clear hHeld
      go_wp2_with first
        | (go_at_call 32; refine (HX.out _ HR5.out).mono ?_; rintro r w6 ⟨rfl, hb6⟩; have HB6 := hid hb6; clear hb6)
        | (refine unguard (by rfl) ?_; refine ld_row (by rfl) 76 (.tmp 3) (by rfl) g (by rfl) (tkC (k, f, m)) 76 HTK.out _ Tryz.underlying76 rfl Tryz.infoTok ?_; unfold tkC)
      go_ret
      exact ⟨rfl, HB5.out.trans (HB6.out.mono HB5.out.size)⟩
    · skip
      refine step_alloc_row (by rfl) 76 (by rfl) _ Tryz.zeroTok ?_
      have HNW0 := hid (hp_new w.drew (.cells #[.int .i64 0, .int .i64 0, .int .i64 0] 76))
      have HB0 := hid (((Below.refl w.heap.size w).drew).alloc (Nat.le_refl _) (.cells #[.int .i64 0, .int .i64 0, .int .i64 0] 76))
      have hgl : w.heap.size ≤ w.drew.heap.size := Nat.le_refl _
      have hgu : w.drew.heap.size < (w.drew.alloc (.cells #[.int .i64 0, .int .i64 0, .int .i64 0] 76)).heap.size := by rw [hp_size]; omega
      have HR2 := hid (HR.out.below HB0.out HR.out.lt)
      refine hK.out _ _ HR2.out (fun hHeld => ?_)
      clear hK K
      try simp only [Act.put, List.getElem_toArray, List.getElem_cons_zero, List.getElem_cons_succ, List.setIfInBounds_toArray, List.set_cons_succ, List.set_cons_zero]
      obtain ⟨g, HGE⟩ : ∃ g, Hid (w.drew.heap.size = g) := ⟨_, rfl⟩
      rw [HGE.out] at HNW0 hgl hgu
      rw [HGE.out]
      generalize w.drew.alloc (.cells #[.int .i64 0, .int .i64 0, .int .i64 0] 76) = w2 at *
      clear HGE
      refine wpAnyH_ready (rs := [8]) (by kernel_rfl) (by simp) ?_
      refine AllReadyH.cons rfl (fun K hK => ?_) AllReadyH.nil
      have HTC := hid (HT.out.below HB0.out)
      go_simp
      refine (HN.out _ HTC.out).mono ?_
      rintro r w4 ⟨rfl, hb2⟩
      have HC2 := hid hb2
      clear hb2 HTC
      go_wp2_with fail
      have HB3 := hid (HB0.out.trans (HC2.out.mono HB0.out.size))
      have HR3 := hid (HR2.out.below HC2.out HR2.out.lt)
      have HNW := hid ((HC2.out.block g hgu).trans HNW0.out)
      refine hK.out _ _ HR3.out (fun hHeld => ?_)
      clear hK K
      try simp only [Act.put, List.getElem_toArray, List.getElem_cons_zero, List.getElem_cons_succ, List.setIfInBounds_toArray, List.set_cons_succ, List.set_cons_zero]
      refine wpAnyH_take (i := 9) (v := .tuple #[.agg #[.int .i64 (k : Nat), .int .i64 (f : Nat), .int .i64 (m : Nat)], .int .i64 0]) rfl (by kernel_rfl) (by kernel_rfl) (by kernel_rfl) (fun _ _ _ h => h) (Or.inl ⟨by rfl, fun W _ => by go_simp⟩) hHeld ?_
      simp only [Act.put, List.getElem_toArray, List.getElem_cons_zero, List.getElem_cons_succ, List.setIfInBounds_toArray, List.set_cons_succ, List.set_cons_zero]
      refine wpAnyH_take (i := 10) (v := .agg #[.int .i64 (k : Nat), .int .i64 (f : Nat), .int .i64 (m : Nat)]) rfl (by kernel_rfl) (by kernel_rfl) (by kernel_rfl) (fun _ _ _ h => h) (Or.inl ⟨by rfl, fun W _ => by go_simp⟩) hHeld ?_
      simp only [Act.put, List.getElem_toArray, List.getElem_cons_zero, List.getElem_cons_succ, List.setIfInBounds_toArray, List.set_cons_succ, List.set_cons_zero]
      refine wpAnyH_take (i := 11) (v := .int .i64 0) rfl (by kernel_rfl) (by kernel_rfl) (by kernel_rfl) (fun _ _ _ h => h) (Or.inl ⟨by rfl, fun W _ => by go_simp⟩) hHeld ?_
      simp only [Act.put, List.getElem_toArray, List.getElem_cons_zero, List.getElem_cons_succ, List.setIfInBounds_toArray, List.set_cons_succ, List.set_cons_zero]
      refine wpAnyH_ready (rs := [13]) (by kernel_rfl) (by simp) ?_
      refine AllReadyH.cons rfl (fun K hK => ?_) AllReadyH.nil
      refine step_store_row (by rfl) 76 (.tmp 3) (.tmp 15) (by rfl) g [.int .i64 (k : Nat), .int .i64 (f : Nat), .int .i64 (m : Nat)] (by rfl) (by rfl) 76 _ HNW.out (by exact Tryz.infoTok) (by rfl) (tkC_one ((k : Nat), (f : Nat), (m : Nat))) ?_
      intro w3 hs3
      have HTK : Hid (Tk w3 g ((k : Nat), (f : Nat), (m : Nat))) := hs3.blk
      have hgb : b ≠ g := fun e => by have := HR.out.lt; omega
      have HR5 : Hid (Rs w3 b l a) := (hs3.grown.block b HR3.out.lt (by simpa using hgb)).trans HR3.out
      have HB5 := hid (HB3.out.grown hs3.grown HB3.out.size (fun q hq => by injection hq with hq; omega))
      refine hK.out _ _ HR5.out (fun hHeld => ?_)
      clear hK K hs3
      try simp only [Act.put]
      refine wpAnyH_take (i := 14) (v := .int .i64 0) rfl (by kernel_rfl) (by kernel_rfl) (by kernel_rfl) (fun _ _ _ h => h) (Or.inl ⟨by rfl, fun W _ => by go_simp⟩) hHeld ?_
      simp only [Act.put, List.getElem_toArray, List.getElem_cons_zero, List.getElem_cons_succ, List.setIfInBounds_toArray, List.set_cons_succ, List.set_cons_zero]
      refine wpAnyH_done (by kernel_rfl) ?_ _
      simp only [noPanic]
      clear hHeld
      go_wp2_with first
        | (go_at_call 32; refine (HX.out _ HR5.out).mono ?_; rintro r w6 ⟨rfl, hb6⟩; have HB6 := hid hb6; clear hb6)
        | (refine unguard (by rfl) ?_; refine ld_row (by rfl) 76 (.tmp 3) (by rfl) g (by rfl) (tkC (k, f, m)) 76 HTK.out _ Tryz.underlying76 rfl Tryz.infoTok ?_; unfold tkC)
      go_ret
      exact ⟨rfl, HB5.out.trans (HB6.out.mono HB5.out.size)⟩

/-- does an include begin here? -/
theorem rat_is (l : List UInt8) (a b : Nat) (hl : l.length ≤ 65536) (ha : a ≤ l.length) (w : World) (hT : Tabs w) (h : Rs w b l a) :
    Calls Tryz.prog 15 #[.pointer (some ⟨b, 0, none⟩)] w fun r w' => r = .returned (.bool (decide ((plP l 0 a).2 = 0))) ∧ Below w.heap.size w w' := by
  rcases pl_view 0 hl ha with ⟨e, f, h0, _, _, _, hf, hn, hp⟩ | ⟨k, f, m, _, hfm, hm, hn, hb, hp⟩ | ⟨k, f, m, _, hfm, hm, hn, hb, hp, _⟩
  · rw [hp, decide_eq_false h0]
    exact rat_bad l a b e f hl h0 hn w hT h
  · have := rat_any l a b k f m hl hfm hm hn w hT h
    rw [hp, decide_eq_false (by simp)]
    have hb : decide (ttP l f m = kInc) = false := hb
    rw [hb] at this
    exact this
  · have := rat_any l a b k f m hl (by omega) hm hn w hT h
    rw [hp, decide_eq_true rfl]
    have hb : decide (ttP l f m = kInc) = true := hb
    rw [hb] at this
    exact this

end Go.Proofs.YtlpengaclkidiaaGreatDoor

/- The deferred closure of Includes. -/
namespace Go.Proofs.YtlpengaclkidiaaGreatDoor
open Go.RowKit

theorem ta_fault (v : Value) (xT : TypeId) (w : World) : (Instr.typeAssert (.iface 28 v) xT 28 false).run Tryz.prog w = .ok v w := by
  simp [Instr.typeAssert, run_underlying Tryz.underlying28]

set_option maxRecDepth 20000 in
set_option maxHeartbeats 1000000 in
theorem catch_idle (p q : Addr) (w : World) :
    CallsD Tryz.prog 14 #[.pointer (some p), .pointer (some q)] .returning w fun e u' w' => e = .returned (.tuple #[]) ∧ u' = .returning ∧ w' = w := by
  refine callsD_of_wpS Tryz.func14 rfl fun c₀ cs hu => ?_
  apply wpS_seq
  apply wpS_region
  simp [wpOpsS, go_sem, recoverD, hu, Tryz.ntmps14, Exit.thenS]
  refine wpS_of_wp ?_
  rw [show (#[Value.pointer (some p), Value.pointer (some q)] ++ ((Array.replicate 6 undef).setIfInBounds 1 Value.nilIface).setIfInBounds 0 Value.nilIface) = #[Value.pointer (some p), Value.pointer (some q), Value.nilIface, Value.nilIface, undef, undef, undef, undef] from rfl]
  go_wp2
  cases c₀
  simp_all [bodyPostS, results, Tryz.results14]

set_option maxRecDepth 20000 in
set_option maxHeartbeats 1000000 in
theorem catch_fault (p q : Nat) (e : Int) (a : Nat) (w : World) (B : Nat) (vp : Value) (vq : Array Value) (hpq : p ≠ q) (hp : w.heap[p]? = some (.cells #[vp] 22 (0, 0))) (hq : w.heap[q]? = some (.cells vq 28 (0, 0))) (hvq : vq.size = 2) (hBp : B ≤ p) (hBq : B ≤ q) :
    CallsD Tryz.prog 14 #[.pointer (some ⟨p, 0, none⟩), .pointer (some ⟨q, 0, none⟩)] (.panicking (ftV e a)) w fun r u' w' =>
      r = .returned (.tuple #[]) ∧ u' = .panicking [{ v := .iface 28 (.agg #[.int .i64 e, .int .i64 (a : Int)]), recovered := true }] ∧ w'.heap[p]? = some (.cells #[.slice none 0 0] 22 (0, 0)) ∧ w'.heap[q]? = some (.cells #[.int .i64 e, .int .i64 (a : Int)] 28 (0, 0)) ∧ Below B w w' := by
  refine callsD_of_wpS Tryz.func14 rfl fun c₀ cs hu => ?_
  apply wpS_seq
  apply wpS_region
  unfold ftV at hu
  simp [wpOpsS, go_sem, recoverD, hu, Tryz.ntmps14, Exit.thenS]
  refine wpS_of_wp ?_
  rw [show (#[Value.pointer (some (⟨p, 0, none⟩ : Addr)), Value.pointer (some (⟨q, 0, none⟩ : Addr))] ++ ((Array.replicate 6 undef).setIfInBounds 1 (Value.iface 28 (Value.agg #[Value.int IntKind.i64 e, Value.int IntKind.i64 (a : Int)]))).setIfInBounds 0 (Value.iface 28 (Value.agg #[Value.int IntKind.i64 e, Value.int IntKind.i64 (a : Int)]))) = #[Value.pointer (some ⟨p, 0, none⟩), Value.pointer (some ⟨q, 0, none⟩), Value.iface 28 (Value.agg #[Value.int IntKind.i64 e, Value.int IntKind.i64 (a : Int)]), Value.iface 28 (Value.agg #[Value.int IntKind.i64 e, Value.int IntKind.i64 (a : Int)]), undef, undef, undef, undef] from rfl]
  go_wp2
  clear hu
  have cp : w.cell? ⟨p, 0, none⟩ = some vp := by rw [cell_of_row _ _ _ _ _ _ hp]; rfl
  have zp : w.frozen? ⟨p, 0, none⟩ = false := by simp [World.frozen?, hp]
  have HQ := hid ((hp_set w q p 0 (.slice none 0 0) hpq.symm).trans hq)
  have HP := hid (show (w.setCell ⟨p, 0, none⟩ (.slice none 0 0)).heap[p]? = some (.cells #[.slice none 0 0] 22 (0, 0)) from blk_set hp _)
  have HB := hid ((Below.refl B w).setCell (p := ⟨p, 0, none⟩) hBp (.slice none 0 0))
  have HPQ := hid hpq
  have hpl := hp_lt hp
  clear hp hq hpq
  refine wp_noPanic (wp_region_held_drew (S := fun _ => True) (by kernel_rfl) trivial ?_)
  intro hHeld
  refine wpAnyH_take (i := 0) (v := .iface 28 (.agg #[.int .i64 e, .int .i64 (a : Int)])) rfl (by kernel_rfl) (by kernel_rfl) (by kernel_rfl) (fun _ _ _ h => h) (Or.inl ⟨by rfl, fun W _ => by go_simp⟩) hHeld ?_
  simp only [Act.put, List.getElem_toArray, List.getElem_cons_zero, List.setIfInBounds_toArray, List.set_cons_succ, List.set_cons_zero]
  refine wpAnyH_take (i := 1) (v := .agg #[.int .i64 e, .int .i64 (a : Int)]) rfl (by kernel_rfl) (by kernel_rfl) (by kernel_rfl) (fun _ _ _ h => h) (Or.inl ⟨by rfl, fun W _ => by have hf := fun xT => ta_fault (.agg #[.int .i64 e, .int .i64 (a : Int)]) xT W; go_simp⟩) hHeld ?_
  simp only [Act.put, List.getElem_toArray, List.getElem_cons_zero, List.getElem_cons_succ, List.setIfInBounds_toArray, List.set_cons_succ, List.set_cons_zero]
  refine wpAnyH_ready (rs := [2]) (by kernel_rfl) (by simp) ?_
  refine AllReadyH.cons rfl (fun K hK => ?_) AllReadyH.nil
  go_simp
  refine hK.out _ _ trivial (fun hHeld => ?_)
  clear hK K
  refine wpAnyH_ready (rs := [3]) (by kernel_rfl) (by simp) ?_
  refine AllReadyH.cons rfl (fun K hK => ?_) AllReadyH.nil
  refine step_store_row (by rfl) 28 (.tmp 1) (.tmp 7) (by rfl) q [.int .i64 e, .int .i64 (a : Int)] (by rfl) (by rfl) 28 vq (by exact HQ.out) (by kernel_rfl) hvq (by intro v hv; simp at hv; rcases hv with rfl | rfl <;> rfl) ?_
  intro w3 hs
  refine hK.out _ _ trivial (fun hHeld => ?_)
  clear hK K
  refine wpAnyH_done (by kernel_rfl) ?_ _
  simp only [noPanic]
  clear hHeld
  go_wp2
  have hP3 : w3.heap[p]? = some (.cells #[.slice none 0 0] 22 (0, 0)) := (hs.grown.block p (by have := (hp_lt HP.out); exact this) (by simpa using HPQ.out)).trans HP.out
  have hB3 : Below B w w3 := (show Below B w (w.setCell ⟨p, 0, none⟩ (.slice none 0 0)).drew from HB.out.drew).grown hs.grown (by have := (hp_lt HP.out); exact Nat.le_of_lt (Nat.lt_of_le_of_lt hBp this)) (fun k hk => by injection hk with hk; omega)
  simp [bodyPostS, results, Tryz.results14]
  exact ⟨rfl, hP3, hs.blk, hB3⟩

end Go.Proofs.YtlpengaclkidiaaGreatDoor

/- The program's Includes (written by yincl.py). -/
namespace Go.Proofs.YtlpengaclkidiaaGreatDoor
open Go.RowKit

def toI (L : List (List UInt8 × List UInt8 × Nat)) : List (List UInt8 × List UInt8 × Int) := L.map fun x => (x.1, x.2.1, (x.2.2 : Int))
theorem toI_len (L : List (List UInt8 × List UInt8 × Nat)) : (toI L).length = L.length := by simp [toI]
theorem toI_app (L : List (List UInt8 × List UInt8 × Nat)) (x : List UInt8 × List UInt8 × Nat) : toI (L ++ [x]) = toI L ++ [(x.1, x.2.1, (x.2.2 : Int))] := by simp [toI]

theorem results_cc {fn : Func} {p q : Tmp} {ty ty2 : TypeId} (h : fn.results = #[.cell p ty, .cell q ty2]) (tmps : Array Value) (P : Program) (w : World) :
    (results fn tmps).run P w = ((asAddr (tmps.getD p undef)).run P w).andThen fun a w₁ => ((loadVar ty a).run P w₁).andThen fun v w₂ => ((asAddr (tmps.getD q undef)).run P w₂).andThen fun a2 w₃ => ((loadVar ty2 a2).run P w₃).andThen fun v2 w₄ => .ok (.tuple #[v, v2]) w₄ := by
  simp only [results, h]
  simp [Sem.run_bind, Result.andThen]
/-- the answers: a slice, and a fault, in variables -/
theorem leave_lf {R : Ending → World → Prop} {tmps : Array Value} {w : World} {g g2 : Nat} {v x y : Value} (hp : tmps.getD 2 undef = .pointer (some ⟨g, 0, none⟩)) (hq : tmps.getD 3 undef = .pointer (some ⟨g2, 0, none⟩))
    (h1 : w.heap[g]? = some (.cells #[v] 22 (0, 0))) (h2 : w.heap[g2]? = some (.cells #[x, y] 28 (0, 0))) (hR : R (.returned (.tuple #[v, .agg #[x, y]])) w) : Leaves Tryz.prog Tryz.f5 tmps R [] .returning w := by
  refine ⟨_, ?_, hR⟩
  rw [results_cc Tryz.results5, hp, hq]
  have e1 : w.cell? ⟨g, 0, none⟩ = some v := by rw [cell_of_row _ _ _ _ _ _ h1]; rfl
  have k2 := run_loadVar_mid (P := Tryz.prog) w g2 0 28 [x, y] _ (fun j v hv => by rw [Nat.zero_add, cell_of_row w g2 j #[x, y] 28 (0, 0) h2]; simpa using hv) Tryz.underlying28 rfl (by kernel_rfl)
  have k1 : (loadVar 22 ⟨g, 0, none⟩).run Tryz.prog w = .ok v w := by simp [go_sem, loadVar, e1]
  simp [asAddr, k1, k2]

/-- a reader's place, out of the world -/
def rdAt (w : World) (b : Nat) : Nat := match w.cell? ⟨b, 1, none⟩ with | some (.int _ n) => n.toNat | _ => 0
theorem Rs.rd {w : World} {b a : Nat} {l : List UInt8} (h : Rs w b l a) : rdAt w b = a := by unfold rdAt; rw [h.c1]; simp

/-- append(own, one include), as a step of a region that draws -/
theorem step_app_inc {ops : Array Oper} {o : Oper} {a : Act} {w : World} {K : Act → World → Prop} {Q : Exit → Act → World → Prop} {E : Prop} (hgd : o.guard = none) (s x : Operand)
    (ho : o.op = .call { callee := .builtin .append, args := #[s, x], argTypes := #[22, 22] })
    (base : Nat) (v : Value) (L : List (List UInt8 × List UInt8 × Int)) (hs : a.eval s = v) (hown : OwnN w base v L) (g c : Nat) (M : List (List UInt8 × List UInt8 × Int)) (hx : a.eval x = .slice (some ⟨g, 0, none⟩) M.length c)
    (hsrc : ∀ j u, (iv M)[j]? = some u → w.cell? ⟨g, j, none⟩ = some u) (hlen : L.length + M.length ≤ 1000000000000) (hbase : base ≤ w.heap.size)
    (h : ∀ v' w', OwnN w' base v' (L ++ M) → w.grownBy w' v.ownBlock → K (a.put o.dst v') w') : if Region.wanted o (yielded ops a.tmps) = true then Oper.wp Tryz.prog o a w K Q else E := by
  rw [if_pos (by simp [Region.wanted, hgd])]
  obtain ⟨i0, hi, hz0, hz1, hz2⟩ := info_parts Tryz.infoInc
  obtain ⟨v', w', hr, h1, h2, _⟩ := run_append_own (P := Tryz.prog) w base 22 o.type 25 i0 (.agg #[.string ⟨#[]⟩, .string ⟨#[]⟩, .int .i64 0]) 3 40 Tryz.underlying22 hi hz0 hz1 hz2 rfl (by decide) v L.length (iv L) hown ⟨g, 0, none⟩ M.length c (iv M) (iv_len M) (fun j u hj => by rw [addr_add]; exact hsrc j u hj) (iv_one M) (by unfold maxLen; omega) (by omega) hbase
  unfold Oper.wp
  simp [execOp, ho, resolve, invoke, builtin, hs, hx, hr, Result.andThen]
  refine h v' w' ?_ h2
  unfold OwnN
  rw [iv_app, List.length_append]
  exact h1

set_option maxRecDepth 20000 in
set_option maxHeartbeats 2000000 in
theorem incls_long (l : List UInt8) (hl : 65536 < l.length) (w : World) :
    Calls Tryz.prog 5 #[.string (mk l)] w fun r w' => ∃ v, r = .returned (.tuple #[v, .agg #[.int .i64 3, .int .i64 0]]) ∧ OwnN w' w.heap.size v [] ∧ Below w.heap.size w w' := by
  have hmk := mk_size l
  have q0 : (65536 : Int) < (l.length : Int) := by omega
  have hmf : ∀ (fn : Fn) (first cap : Array Value) (w : World), (Instr.makeFunc fn first cap).run Tryz.prog w = .ok (.func fn first cap) w := fun _ _ _ _ => rfl
  go_enter_defers Tryz.func5, Tryz.ntmps5
  go_wp2
  have e2 : ((w.alloc (.cells #[.slice none 0 0] 22)).alloc (.cells #[.int .i64 3, .int .i64 0] 28)).heap[w.heap.size + 1]? = some (.cells #[.int .i64 3, .int .i64 0] 28 (0, 0)) := by
    have := hp_new (w.alloc (.cells #[.slice none 0 0] 22)) (.cells #[.int .i64 3, .int .i64 0] 28)
    rw [hp_size] at this
    exact this
  have e1 : ((w.alloc (.cells #[.slice none 0 0] 22)).alloc (.cells #[.int .i64 3, .int .i64 0] 28)).heap[w.heap.size]? = some (.cells #[.slice none 0 0] 22 (0, 0)) := (hp_old _ _ _ (by rw [hp_size]; omega)).trans (hp_new w (.cells #[.slice none 0 0] 22))
  simp only [bodyPostD]
  refine leave_lf (g := w.heap.size) (g2 := w.heap.size + 1) (v := .slice none 0 0) (x := .int .i64 3) (y := .int .i64 0) ?_ ?_ e1 e2 ?_
  · rfl
  · rfl
  · exact ⟨_, rfl, OwnN.nil _ _, below_walk2 w _ _⟩

set_option maxRecDepth 20000 in
set_option maxHeartbeats 4000000 in
theorem incls_ok (l : List UInt8) (hl : l.length ≤ 65536) (w : World) (hT : Tabs w) :
    Calls Tryz.prog 5 #[.string (mk l)] w fun r w' => ∃ v, r = .returned (.tuple #[v, .agg #[.int .i64 (scP l 0).2.2.1, .int .i64 ((scP l 0).2.2.2 : Nat)]]) ∧ OwnN w' w.heap.size v (toI (scP l 0).1) ∧ Below w.heap.size w w' := by
  have hmk := mk_size l
  have q0 : ¬ (65536 : Int) < (l.length : Int) := by omega
  have hmf : ∀ (fn : Fn) (first cap : Array Value) (w : World), (Instr.makeFunc fn first cap).run Tryz.prog w = .ok (.func fn first cap) w := fun _ _ _ _ => rfl
  have HT := hid hT
  have H0 := hid (Sg.zero hl)
  have HW0 : Hid (((w.alloc (.cells #[.slice none 0 0] 22)).alloc (.cells #[.int .i64 0, .int .i64 0] 28)).alloc (.cells #[.string (mk l), .int .i64 0] 46) |>.heap[w.heap.size]? |> (· = some (.cells #[.slice none 0 0] 22 (0, 0)))) := ((hp_old _ _ _ (by rw [hp_size, hp_size]; omega)).trans ((hp_old _ _ _ (by rw [hp_size]; omega)).trans (hp_new w (.cells #[.slice none 0 0] 22))))
  have HW1 : Hid (((w.alloc (.cells #[.slice none 0 0] 22)).alloc (.cells #[.int .i64 0, .int .i64 0] 28)).alloc (.cells #[.string (mk l), .int .i64 0] 46) |>.heap[w.heap.size + 1]? |> (· = some (.cells #[.int .i64 0, .int .i64 0] 28 (0, 0)))) := by
    have := hp_new (w.alloc (.cells #[.slice none 0 0] 22)) (.cells #[.int .i64 0, .int .i64 0] 28)
    rw [hp_size] at this
    exact (hp_old _ _ _ (by rw [hp_size, hp_size]; omega)).trans this
  have HW2 : Hid (Rs (((w.alloc (.cells #[.slice none 0 0] 22)).alloc (.cells #[.int .i64 0, .int .i64 0] 28)).alloc (.cells #[.string (mk l), .int .i64 0] 46)) (w.heap.size + 1 + 1) l 0) := by
    have := hp_new ((w.alloc (.cells #[.slice none 0 0] 22)).alloc (.cells #[.int .i64 0, .int .i64 0] 28)) (.cells #[.string (mk l), .int .i64 0] 46)
    rw [hp_size, hp_size] at this
    exact this
  have HBW := hid ((below_walk2 w (.cells #[.slice none 0 0] 22) (.cells #[.int .i64 0, .int .i64 0] 28)).alloc (by rw [hp_size, hp_size]; omega) (.cells #[.string (mk l), .int .i64 0] 46))
  have hsz : (((w.alloc (.cells #[.slice none 0 0] 22)).alloc (.cells #[.int .i64 0, .int .i64 0] 28)).alloc (.cells #[.string (mk l), .int .i64 0] 46)).heap.size = w.heap.size + 3 := by rw [hp_size, hp_size, hp_size]
  clear hT
  go_enter_defers Tryz.func5, Tryz.ntmps5
  go_wp2
  generalize ((w.alloc (.cells #[.slice none 0 0] 22)).alloc (.cells #[.int .i64 0, .int .i64 0] 28)).alloc (.cells #[.string (mk l), .int .i64 0] 46) = w0 at *
  go_loopw [12] (fun _ wr => ∃ (a : Nat) (L : List (List UInt8 × List UInt8 × Nat)) (v : Value), Sg l a L ∧ Rs wr (w.heap.size + 1 + 1) l a ∧ wr.heap[w.heap.size]? = some (.cells #[v] 22 (0, 0)) ∧ wr.heap[w.heap.size + 1]? = some (.cells #[.int .i64 0, .int .i64 0] 28 (0, 0)) ∧ OwnN wr (w.heap.size + 3) v (toI L) ∧ Below w.heap.size w wr) (fun _ wr => l.length - rdAt wr (w.heap.size + 1 + 1))
  case atStart => exact ⟨0, [], .slice none 0 0, H0.out, HW2.out, HW0.out, HW1.out, OwnN.nil _ _, HBW.out⟩
  case round =>
    obtain ⟨a, L, v, hS, hR, h0, h1, hO, hB⟩ := hrel
    have HS := hid hS
    have HR := hid hR
    have H0c := hid h0
    have H1c := hid h1
    have HO := hid hO
    have HB := hid hB
    have HTr := hid (HT.out.below HB.out)
    have HA := hid (rat_is l a (w.heap.size + 1 + 1) hl HS.out.1 wr HTr.out HR.out)
    have HRD := hid HR.out.rd
    obtain ⟨sa, sc, hv⟩ := HO.out.shape
    rw [toI_len] at hv
    subst hv
    clear hS hR h0 h1 hO hB
    rcases sc_view hl HS.out.1 with ⟨t, e, he, hp⟩ | ⟨k, f, m, x1, x2, x3, hp, e, g, he, x4, hi⟩ | ⟨k, f, m, v1, n1, tz, x1, x2, x3, x4, hp, hi⟩
    · have FIN := hid (HS.out.last hp he)
      rw [hp, decide_eq_false he] at HA
      clear hp
      go_wp2_with (go_at_call 15; refine HA.out.mono ?_; rintro r w2 ⟨rfl, hb2⟩; have HB2 := hid (HB.out.trans (hb2.mono HB.out.size)); have k0 := (hb2.block _ (hp_lt H0c.out)).trans H0c.out; have k1 := (hb2.block _ (hp_lt H1c.out)).trans H1c.out; have HO2 := hid (HO.out.below hb2); have HK0 := hid k0; have HK1 := hid k1; have c0 : w2.cell? ⟨w.heap.size, 0, none⟩ = some (.slice sa L.length sc) := (by rw [cell_of_row _ _ _ _ _ _ k0]; rfl); have z0 : w2.frozen? ⟨w.heap.size, 0, none⟩ = false := (by simp [World.frozen?, k0]); have d0 : w2.cell? ⟨w.heap.size + 1, 0, none⟩ = some (.int .i64 0) := (by rw [cell_of_row _ _ _ _ _ _ k1]; rfl); have d1 : w2.cell? ⟨w.heap.size + 1, 1, none⟩ = some (.int .i64 0) := (by rw [cell_of_row _ _ _ _ _ _ k1]; rfl); have y0 : w2.frozen? ⟨w.heap.size + 1, 0, none⟩ = false := (by simp [World.frozen?, k1]); have y1 : w2.frozen? ⟨w.heap.size + 1, 1, none⟩ = false := (by simp [World.frozen?, k1]); clear hb2 k0 k1)
      have e0 : (((w2.setCell ⟨w.heap.size, 0, none⟩ (.slice sa L.length sc)).setCell ⟨w.heap.size + 1, 0, none⟩ (.int .i64 0)).setCell ⟨w.heap.size + 1, 1, none⟩ (.int .i64 0)).heap[w.heap.size]? = some (.cells #[.slice sa L.length sc] 22 (0, 0)) := (hp_set _ _ _ _ _ (by omega)).trans ((hp_set _ _ _ _ _ (by omega)).trans (blk_set HK0.out _))
      have e1 : (((w2.setCell ⟨w.heap.size, 0, none⟩ (.slice sa L.length sc)).setCell ⟨w.heap.size + 1, 0, none⟩ (.int .i64 0)).setCell ⟨w.heap.size + 1, 1, none⟩ (.int .i64 0)).heap[w.heap.size + 1]? = some (.cells #[.int .i64 0, .int .i64 0] 28 (0, 0)) := blk_set (blk_set ((hp_set _ _ _ _ _ (by omega)).trans HK1.out) _) _
      have e2 : OwnN (((w2.setCell ⟨w.heap.size, 0, none⟩ (.slice sa L.length sc)).setCell ⟨w.heap.size + 1, 0, none⟩ (.int .i64 0)).setCell ⟨w.heap.size + 1, 1, none⟩ (.int .i64 0)) (w.heap.size + 3) (.slice sa L.length sc) (toI L) := ((HO2.out.kept (gb_set w2 ⟨w.heap.size, 0, none⟩ _) (Or.inr (fun x => absurd (HO2.out.lt _ x).1 (show ¬ w.heap.size + 3 ≤ w.heap.size by omega)))).kept (gb_set _ ⟨w.heap.size + 1, 0, none⟩ _) (Or.inr (fun x => absurd (HO2.out.lt _ x).1 (show ¬ w.heap.size + 3 ≤ w.heap.size + 1 by omega)))).kept (gb_set _ ⟨w.heap.size + 1, 1, none⟩ _) (Or.inr (fun x => absurd (HO2.out.lt _ x).1 (show ¬ w.heap.size + 3 ≤ w.heap.size + 1 by omega)))
      have e3 : Below w.heap.size w (((w2.setCell ⟨w.heap.size, 0, none⟩ (.slice sa L.length sc)).setCell ⟨w.heap.size + 1, 0, none⟩ (.int .i64 0)).setCell ⟨w.heap.size + 1, 1, none⟩ (.int .i64 0)) := ((HB2.out.setCell (p := ⟨w.heap.size, 0, none⟩) (Nat.le_refl _) _).setCell (p := ⟨w.heap.size + 1, 0, none⟩) (by show w.heap.size ≤ w.heap.size + 1; omega) _).setCell (p := ⟨w.heap.size + 1, 1, none⟩) (by show w.heap.size ≤ w.heap.size + 1; omega) _
      generalize (((w2.setCell ⟨w.heap.size, 0, none⟩ (.slice sa L.length sc)).setCell ⟨w.heap.size + 1, 0, none⟩ (.int .i64 0)).setCell ⟨w.heap.size + 1, 1, none⟩ (.int .i64 0)) = w3 at *
      refine leaves_cons (f := 14) (args := #[.pointer (some ⟨w.heap.size, 0, none⟩), .pointer (some ⟨w.heap.size + 1, 0, none⟩)]) (by simp) (by simp [go_sem]) ?_
      refine (catch_idle ⟨w.heap.size, 0, none⟩ ⟨w.heap.size + 1, 0, none⟩ w3).mono ?_
      rintro r u' w4 ⟨rfl, rfl, rfl⟩
      refine leave_lf (g := w.heap.size) (g2 := w.heap.size + 1) ?_ ?_ e0 e1 ?_
      · rfl
      · rfl
      · rw [FIN.out]
        exact ⟨_, rfl, e2.le (by omega), e3⟩
    · have FIN := hid (HS.out.bad hp hi he)
      rw [hp, decide_eq_true rfl] at HA
      have HI : Hid (∀ W, Tabs W → Rs W (w.heap.size + 1 + 1) l a → Calls Tryz.prog 16 #[.pointer (some ⟨w.heap.size + 1 + 1, 0, none⟩)] W fun r w' => r = .panicked (ftV e g) ∧ W.grownBy w' (some (w.heap.size + 1 + 1))) := fun W hT hR => by
        rcases in_cases hl x3 hi he with ⟨k1, m1, p1⟩ | ⟨k1, f1, m1, k2, m2, l1, p1, p2⟩ | ⟨k1, f1, m1, k2, f2, m2, k3, m3, l1, l2, p1, p2, p3⟩ | ⟨k1, f1, m1, k2, f2, m2, k3, f3, m3, k4, m4, l1, l2, l3, p1, p2, p3, p4⟩
        · exact inc_no1 hl HS.out.1 hp x3 p1 he W hT hR
        · exact inc_no2 hl HS.out.1 hp x3 p1 l1 p2 he W hT hR
        · exact inc_no3 hl HS.out.1 hp x3 p1 l1 p2 l2 p3 he W hT hR
        · exact inc_no4 hl HS.out.1 hp x3 p1 l1 p2 l2 p3 l3 p4 he W hT hR
      clear hp hi
      go_wp2_with (go_at_call 15; refine HA.out.mono ?_; rintro r w2 ⟨rfl, hb2⟩; have HB2 := hid (HB.out.trans (hb2.mono HB.out.size)); have HT2 := hid (HTr.out.below hb2); have HR2 := hid (HR.out.below hb2 HR.out.lt); have k0 := (hb2.block _ (hp_lt H0c.out)).trans H0c.out; have k1 := (hb2.block _ (hp_lt H1c.out)).trans H1c.out; have HK0 := hid k0; have HK1 := hid k1; have c0 : w2.cell? ⟨w.heap.size, 0, none⟩ = some (.slice sa L.length sc) := (by rw [cell_of_row _ _ _ _ _ _ k0]; rfl); clear hb2 k0 k1)
      have HT2d := hid (HT2.out.below (Below.refl _ _).drew)
      have HR2d : Hid (Rs w2.drew (w.heap.size + 1 + 1) l a) := HR2.out
      have c0d : w2.drew.cell? ⟨w.heap.size, 0, none⟩ = some (.slice sa L.length sc) := c0
      refine wp_region_held_drew (S := fun _ => True) (by kernel_rfl) trivial ?_
      intro hHeld
      refine wpAnyH_ready (rs := [0, 1]) (by kernel_rfl) (by simp) ?_
      refine AllReadyH.cons rfl (fun K hK => ?_) (AllReadyH.cons rfl (fun K hK => ?_) AllReadyH.nil)
      · go_simp
        refine hK.out _ _ trivial (fun hHeld => ?_)
        clear hK K
        try simp only [Act.put, List.getElem_toArray, List.getElem_cons_zero, List.getElem_cons_succ, List.setIfInBounds_toArray, List.set_cons_succ, List.set_cons_zero]
        refine wpAnyH_ready (rs := [1]) (by kernel_rfl) (by simp) ?_
        refine AllReadyH.cons rfl (fun K hK => ?_) AllReadyH.nil
        go_simp
        refine (HI.out _ HT2d.out HR2d.out).mono ?_
        rintro r w3 ⟨rfl, hg⟩
        go_wp2_with fail
        refine leaves_cons (f := 14) (args := #[.pointer (some ⟨w.heap.size, 0, none⟩), .pointer (some ⟨w.heap.size + 1, 0, none⟩)]) (by simp [ftV]) (by simp [go_sem]) ?_
        refine (catch_fault w.heap.size (w.heap.size + 1) e g w3 w.heap.size _ _ (by omega) ((hg.block _ (hp_lt HK0.out) (by intro e; injection e with e; omega)).trans HK0.out) ((hg.block _ (hp_lt HK1.out) (by intro e; injection e with e; omega)).trans HK1.out) rfl (Nat.le_refl _) (by omega)).mono ?_
        rintro r u' w4 ⟨rfl, rfl, e0, e1, e3⟩
        show Leaves Tryz.prog Tryz.f5 _ _ [] .returning _
        refine leave_lf (g := w.heap.size) (g2 := w.heap.size + 1) ?_ ?_ e0 e1 ?_
        · rfl
        · rfl
        · rw [FIN.out]
          exact ⟨_, rfl, OwnN.nil _ _, (((HB2.out.drew).grown hg HB2.out.size (fun k hk => by injection hk with hk; omega)).trans e3)⟩
      · go_simp
        refine (HI.out _ HT2d.out HR2d.out).mono ?_
        rintro r w3 ⟨rfl, hg⟩
        go_wp2_with fail
        refine leaves_cons (f := 14) (args := #[.pointer (some ⟨w.heap.size, 0, none⟩), .pointer (some ⟨w.heap.size + 1, 0, none⟩)]) (by simp [ftV]) (by simp [go_sem]) ?_
        refine (catch_fault w.heap.size (w.heap.size + 1) e g w3 w.heap.size _ _ (by omega) ((hg.block _ (hp_lt HK0.out) (by intro e; injection e with e; omega)).trans HK0.out) ((hg.block _ (hp_lt HK1.out) (by intro e; injection e with e; omega)).trans HK1.out) rfl (Nat.le_refl _) (by omega)).mono ?_
        rintro r u' w4 ⟨rfl, rfl, e0, e1, e3⟩
        show Leaves Tryz.prog Tryz.f5 _ _ [] .returning _
        refine leave_lf (g := w.heap.size) (g2 := w.heap.size + 1) ?_ ?_ e0 e1 ?_
        · rfl
        · rfl
        · rw [FIN.out]
          exact ⟨_, rfl, OwnN.nil _ _, (((HB2.out.drew).grown hg HB2.out.size (fun k hk => by injection hk with hk; omega)).trans e3)⟩
    · have FIN := hid (HS.out.more hl (by omega) x4 hp hi)
      rw [hp, decide_eq_true rfl] at HA
      have HI : Hid (∀ W, Tabs W → Rs W (w.heap.size + 1 + 1) l a → Calls Tryz.prog 16 #[.pointer (some ⟨w.heap.size + 1 + 1, 0, none⟩)] W fun r w' => r = .returned (.agg #[.string (mk v1), .string (mk n1), .int .i64 (f : Int)]) ∧ Rs w' (w.heap.size + 1 + 1) l tz ∧ W.grownBy w' (some (w.heap.size + 1 + 1))) := fun W hT hR => by
        rcases in_view hl (a := m) (by omega) with ⟨e, g, h0, hg, hi2⟩ | ⟨f1, m1, k2, f2, m2, f3, m3, k4, f4, m4, i1, i2, i3, i4, i5, i6, i7, i8, i9, p1, p2, p3, p4, j3, j1, hi2⟩
        · rw [hi] at hi2
          simp only [Prod.mk.injEq] at hi2
          exact absurd hi2.1.symm h0
        · rw [hi] at hi2
          simp only [Prod.mk.injEq, true_and] at hi2
          obtain ⟨rfl, rfl, rfl⟩ := hi2
          exact inc_ok hl HS.out.1 hp (by omega) p1 (by omega) p2 (by omega) p3 (by omega) p4 (by omega) (by omega) j3 W hT hR
      clear hp hi
      go_wp2_with (go_at_call 15; refine HA.out.mono ?_; rintro r w2 ⟨rfl, hb2⟩; have HB2 := hid (HB.out.trans (hb2.mono HB.out.size)); have HT2 := hid (HTr.out.below hb2); have HR2 := hid (HR.out.below hb2 HR.out.lt); have HO2 := hid (HO.out.below hb2); have k0 := (hb2.block _ (hp_lt H0c.out)).trans H0c.out; have k1 := (hb2.block _ (hp_lt H1c.out)).trans H1c.out; have HK0 := hid k0; have HK1 := hid k1; have c0 : w2.cell? ⟨w.heap.size, 0, none⟩ = some (.slice sa L.length sc) := (by rw [cell_of_row _ _ _ _ _ _ k0]; rfl); clear hb2 k0 k1)
      have HT2d := hid (HT2.out.below (Below.refl _ _).drew)
      have HR2d : Hid (Rs w2.drew (w.heap.size + 1 + 1) l a) := HR2.out
      have c0d : w2.drew.cell? ⟨w.heap.size, 0, none⟩ = some (.slice sa L.length sc) := c0
      refine wp_noPanic (wp_region_held_drew (S := fun _ => True) (by kernel_rfl) trivial ?_)
      intro hHeld
      refine wpAnyH_ready (rs := [0, 1]) (by kernel_rfl) (by simp) ?_
      refine AllReadyH.cons rfl (fun K hK => ?_) (AllReadyH.cons rfl (fun K hK => ?_) AllReadyH.nil)
      · go_simp
        refine hK.out _ _ trivial (fun hHeld => ?_)
        clear hK K
        try simp only [Act.put, List.getElem_toArray, List.getElem_cons_zero, List.getElem_cons_succ, List.setIfInBounds_toArray, List.set_cons_succ, List.set_cons_zero]
        refine wpAnyH_ready (rs := [1]) (by kernel_rfl) (by simp) ?_
        refine AllReadyH.cons rfl (fun K hK => ?_) AllReadyH.nil
        go_simp
        refine (HI.out _ HT2d.out HR2d.out).mono ?_
        rintro r w3 ⟨rfl, hr3, hg⟩
        have HR3 := hid hr3
        have HL0 := hid ((hg.block _ (hp_lt HK0.out) (by intro e; injection e with e; omega)).trans HK0.out)
        have HL1 := hid ((hg.block _ (hp_lt HK1.out) (by intro e; injection e with e; omega)).trans HK1.out)
        have HO3 := hid (OwnN.kept (show OwnN w2.drew _ _ _ from HO2.out) hg (Or.inr (fun x => absurd (HO2.out.lt _ x).1 (show ¬ w.heap.size + 3 ≤ w.heap.size + 1 + 1 by omega))))
        have HB3 := hid ((HB2.out.drew).grown hg HB2.out.size (fun k hk => by injection hk with hk; omega))
        have HZ3 := hid (show w.heap.size + 3 ≤ w3.heap.size from Nat.le_trans (show w.heap.size + 3 ≤ w2.heap.size from HR2.out.lt) hg.size)
        clear hg hr3
        go_wp2_with fail
        refine hK.out _ _ trivial (fun hHeld => ?_)
        clear hK K
        try simp only [Act.put, List.getElem_toArray, List.getElem_cons_zero, List.getElem_cons_succ, List.setIfInBounds_toArray, List.set_cons_succ, List.set_cons_zero]
        refine wpAnyH_ready (rs := [2]) (by kernel_rfl) (by simp) ?_
        refine AllReadyH.cons rfl (fun K hK => ?_) AllReadyH.nil
        go_simp
        have HWA := hid (below_walk w3 (.cells #[.string (mk v1), .string (mk n1), .int .i64 (f : Int)] 25))
        have HSR := hid (src_inc w3 (v1, n1, (f : Int)))
        have HM0 := hid ((HWA.out.block _ (hp_lt HL0.out)).trans HL0.out)
        have HM1 := hid ((HWA.out.block _ (hp_lt HL1.out)).trans HL1.out)
        have HR4 := hid (HR3.out.below HWA.out HR3.out.lt)
        have HO4 := hid (HO3.out.below HWA.out)
        have HB4 := hid (HB3.out.trans (HWA.out.mono HB3.out.size))
        have HZ4 := hid (show w.heap.size + 3 ≤ (w3.alloc (.cells #[.string (mk v1), .string (mk n1), .int .i64 (f : Int)] 25)).heap.size by rw [hp_size]; have := HZ3.out; omega)
        refine hK.out _ _ trivial (fun hHeld => ?_)
        clear hK K
        try simp only [Act.put, List.getElem_toArray, List.getElem_cons_zero, List.getElem_cons_succ, List.setIfInBounds_toArray, List.set_cons_succ, List.set_cons_zero]
        refine wpAnyH_ready (rs := [3]) (by kernel_rfl) (by simp) ?_
        refine AllReadyH.cons rfl (fun K hK => ?_) AllReadyH.nil
        refine step_app_inc (by rfl) (.tmp 13) (.tmp 15) (by rfl) (w.heap.size + 3) _ (toI L) (by rfl) HO4.out w3.heap.size 1 [(v1, n1, (f : Int))] (by rfl) HSR.out (by rw [toI_len]; have := HS.out.2.1; have := HS.out.1; simp; omega) HZ4.out ?_
        generalize w3.alloc (.cells #[.string (mk v1), .string (mk n1), .int .i64 (f : Int)] 25) = w4 at *
        intro v' w5 hO5 hG5
        have hlo : ∀ k, (Value.slice sa L.length sc).ownBlock = some k → w.heap.size + 3 ≤ k := fun k hk => (HO.out.lt k hk).1
        have HN0 := hid ((hG5.block _ (hp_lt HM0.out) (fun e => by have := hlo _ e.symm; omega)).trans HM0.out)
        have HN1 := hid ((hG5.block _ (hp_lt HM1.out) (fun e => by have := hlo _ e.symm; omega)).trans HM1.out)
        have HR5 := hid (show Rs w5 (w.heap.size + 1 + 1) l tz from (hG5.block _ HR4.out.lt (fun e => by have := hlo _ e.symm; omega)).trans HR4.out)
        have HB5 := hid (HB4.out.grown hG5 (by have := HZ4.out; omega) (fun k hk => by have := hlo _ hk; omega))
        have HO5 := hid hO5
        obtain ⟨sa2, sc2, hv2⟩ := hO5.shape
        have HLE : Hid ((toI L ++ [(v1, n1, (f : Int))]).length = L.length + 1) := by show _ = _; rw [List.length_append, toI_len]; rfl
        rw [HLE.out] at hv2
        subst hv2
        clear hG5 hO5 hlo
        refine hK.out _ _ trivial (fun hHeld => ?_)
        clear hK K
        try simp only [Act.put, List.getElem_toArray, List.getElem_cons_zero, List.getElem_cons_succ, List.setIfInBounds_toArray, List.set_cons_succ, List.set_cons_zero]
        refine wpAnyH_ready (rs := [4]) (by kernel_rfl) (by simp) ?_
        refine AllReadyH.cons rfl (fun K hK => ?_) AllReadyH.nil
        have c5 : w5.cell? ⟨w.heap.size, 0, none⟩ = some (.slice sa L.length sc) := by rw [cell_of_row _ _ _ _ _ _ HN0.out]; rfl
        have z5 : w5.frozen? ⟨w.heap.size, 0, none⟩ = false := by simp [World.frozen?, HN0.out]
        go_simp
        refine hK.out _ _ trivial (fun hHeld => ?_)
        clear hK K c5 z5
        have HX0 := hid (show (w5.setCell ⟨w.heap.size, 0, none⟩ (.slice sa2 (L.length + 1) sc2)).heap[w.heap.size]? = some (.cells #[.slice sa2 (L.length + 1) sc2] 22 (0, 0)) from blk_set HN0.out _)
        have HX1 := hid (show (w5.setCell ⟨w.heap.size, 0, none⟩ (.slice sa2 (L.length + 1) sc2)).heap[w.heap.size + 1]? = some (.cells #[.int .i64 0, .int .i64 0] 28 (0, 0)) from (hp_set _ _ _ _ _ (by omega)).trans HN1.out)
        have HX2 := hid (show Rs (w5.setCell ⟨w.heap.size, 0, none⟩ (.slice sa2 (L.length + 1) sc2)) (w.heap.size + 1 + 1) l tz from (hp_set _ _ _ _ _ (by omega)).trans HR5.out)
        have HX3 := hid (HO5.out.kept (gb_set w5 ⟨w.heap.size, 0, none⟩ (.slice sa2 (L.length + 1) sc2)) (Or.inr (fun x => absurd (HO5.out.lt _ x).1 (show ¬ w.heap.size + 3 ≤ w.heap.size by omega))))
        have HX4 := hid (HB5.out.setCell (p := ⟨w.heap.size, 0, none⟩) (Nat.le_refl _) (.slice sa2 (L.length + 1) sc2))
        generalize w5.setCell ⟨w.heap.size, 0, none⟩ (.slice sa2 (L.length + 1) sc2) = w6 at *
        refine wpAnyH_done (by kernel_rfl) ?_ _
        simp only [noPanic]
        clear hHeld
        go_wp2_with fail
        refine ⟨⟨tz, L ++ [(v1, n1, f)], _, FIN.out, HX2.out, HX0.out, HX1.out, by rw [toI_app]; exact HX3.out, HX4.out⟩, ?_⟩
        rw [HX2.out.rd, HRD.out]
        omega
      · go_simp
        refine (HI.out _ HT2d.out HR2d.out).mono ?_
        rintro r w3 ⟨rfl, hr3, hg⟩
        have HR3 := hid hr3
        have HL0 := hid ((hg.block _ (hp_lt HK0.out) (by intro e; injection e with e; omega)).trans HK0.out)
        have HL1 := hid ((hg.block _ (hp_lt HK1.out) (by intro e; injection e with e; omega)).trans HK1.out)
        have HO3 := hid (OwnN.kept (show OwnN w2.drew _ _ _ from HO2.out) hg (Or.inr (fun x => absurd (HO2.out.lt _ x).1 (show ¬ w.heap.size + 3 ≤ w.heap.size + 1 + 1 by omega))))
        have HB3 := hid ((HB2.out.drew).grown hg HB2.out.size (fun k hk => by injection hk with hk; omega))
        have HZ3 := hid (show w.heap.size + 3 ≤ w3.heap.size from Nat.le_trans (show w.heap.size + 3 ≤ w2.heap.size from HR2.out.lt) hg.size)
        clear hg hr3
        go_wp2_with fail
        refine hK.out _ _ trivial (fun hHeld => ?_)
        clear hK K
        try simp only [Act.put, List.getElem_toArray, List.getElem_cons_zero, List.getElem_cons_succ, List.setIfInBounds_toArray, List.set_cons_succ, List.set_cons_zero]
        refine wpAnyH_ready (rs := [0, 2]) (by kernel_rfl) (by simp) ?_
        refine AllReadyH.cons rfl (fun K hK => ?_) (AllReadyH.cons rfl (fun K hK => ?_) AllReadyH.nil)
        · skip
          have c3 : w3.cell? ⟨w.heap.size, 0, none⟩ = some (.slice sa L.length sc) := by rw [cell_of_row _ _ _ _ _ _ HL0.out]; rfl
          go_simp
          refine hK.out _ _ trivial (fun hHeld => ?_)
          clear hK K c3
          try simp only [Act.put, List.getElem_toArray, List.getElem_cons_zero, List.getElem_cons_succ, List.setIfInBounds_toArray, List.set_cons_succ, List.set_cons_zero]
          refine wpAnyH_ready (rs := [2]) (by kernel_rfl) (by simp) ?_
          refine AllReadyH.cons rfl (fun K hK => ?_) AllReadyH.nil
          go_simp
          have HWA := hid (below_walk w3 (.cells #[.string (mk v1), .string (mk n1), .int .i64 (f : Int)] 25))
          have HSR := hid (src_inc w3 (v1, n1, (f : Int)))
          have HM0 := hid ((HWA.out.block _ (hp_lt HL0.out)).trans HL0.out)
          have HM1 := hid ((HWA.out.block _ (hp_lt HL1.out)).trans HL1.out)
          have HR4 := hid (HR3.out.below HWA.out HR3.out.lt)
          have HO4 := hid (HO3.out.below HWA.out)
          have HB4 := hid (HB3.out.trans (HWA.out.mono HB3.out.size))
          have HZ4 := hid (show w.heap.size + 3 ≤ (w3.alloc (.cells #[.string (mk v1), .string (mk n1), .int .i64 (f : Int)] 25)).heap.size by rw [hp_size]; have := HZ3.out; omega)
          refine hK.out _ _ trivial (fun hHeld => ?_)
          clear hK K
          try simp only [Act.put, List.getElem_toArray, List.getElem_cons_zero, List.getElem_cons_succ, List.setIfInBounds_toArray, List.set_cons_succ, List.set_cons_zero]
          refine wpAnyH_ready (rs := [3]) (by kernel_rfl) (by simp) ?_
          refine AllReadyH.cons rfl (fun K hK => ?_) AllReadyH.nil
          refine step_app_inc (by rfl) (.tmp 13) (.tmp 15) (by rfl) (w.heap.size + 3) _ (toI L) (by rfl) HO4.out w3.heap.size 1 [(v1, n1, (f : Int))] (by rfl) HSR.out (by rw [toI_len]; have := HS.out.2.1; have := HS.out.1; simp; omega) HZ4.out ?_
          generalize w3.alloc (.cells #[.string (mk v1), .string (mk n1), .int .i64 (f : Int)] 25) = w4 at *
          intro v' w5 hO5 hG5
          have hlo : ∀ k, (Value.slice sa L.length sc).ownBlock = some k → w.heap.size + 3 ≤ k := fun k hk => (HO.out.lt k hk).1
          have HN0 := hid ((hG5.block _ (hp_lt HM0.out) (fun e => by have := hlo _ e.symm; omega)).trans HM0.out)
          have HN1 := hid ((hG5.block _ (hp_lt HM1.out) (fun e => by have := hlo _ e.symm; omega)).trans HM1.out)
          have HR5 := hid (show Rs w5 (w.heap.size + 1 + 1) l tz from (hG5.block _ HR4.out.lt (fun e => by have := hlo _ e.symm; omega)).trans HR4.out)
          have HB5 := hid (HB4.out.grown hG5 (by have := HZ4.out; omega) (fun k hk => by have := hlo _ hk; omega))
          have HO5 := hid hO5
          obtain ⟨sa2, sc2, hv2⟩ := hO5.shape
          have HLE : Hid ((toI L ++ [(v1, n1, (f : Int))]).length = L.length + 1) := by show _ = _; rw [List.length_append, toI_len]; rfl
          rw [HLE.out] at hv2
          subst hv2
          clear hG5 hO5 hlo
          refine hK.out _ _ trivial (fun hHeld => ?_)
          clear hK K
          try simp only [Act.put, List.getElem_toArray, List.getElem_cons_zero, List.getElem_cons_succ, List.setIfInBounds_toArray, List.set_cons_succ, List.set_cons_zero]
          refine wpAnyH_ready (rs := [4]) (by kernel_rfl) (by simp) ?_
          refine AllReadyH.cons rfl (fun K hK => ?_) AllReadyH.nil
          have c5 : w5.cell? ⟨w.heap.size, 0, none⟩ = some (.slice sa L.length sc) := by rw [cell_of_row _ _ _ _ _ _ HN0.out]; rfl
          have z5 : w5.frozen? ⟨w.heap.size, 0, none⟩ = false := by simp [World.frozen?, HN0.out]
          go_simp
          refine hK.out _ _ trivial (fun hHeld => ?_)
          clear hK K c5 z5
          have HX0 := hid (show (w5.setCell ⟨w.heap.size, 0, none⟩ (.slice sa2 (L.length + 1) sc2)).heap[w.heap.size]? = some (.cells #[.slice sa2 (L.length + 1) sc2] 22 (0, 0)) from blk_set HN0.out _)
          have HX1 := hid (show (w5.setCell ⟨w.heap.size, 0, none⟩ (.slice sa2 (L.length + 1) sc2)).heap[w.heap.size + 1]? = some (.cells #[.int .i64 0, .int .i64 0] 28 (0, 0)) from (hp_set _ _ _ _ _ (by omega)).trans HN1.out)
          have HX2 := hid (show Rs (w5.setCell ⟨w.heap.size, 0, none⟩ (.slice sa2 (L.length + 1) sc2)) (w.heap.size + 1 + 1) l tz from (hp_set _ _ _ _ _ (by omega)).trans HR5.out)
          have HX3 := hid (HO5.out.kept (gb_set w5 ⟨w.heap.size, 0, none⟩ (.slice sa2 (L.length + 1) sc2)) (Or.inr (fun x => absurd (HO5.out.lt _ x).1 (show ¬ w.heap.size + 3 ≤ w.heap.size by omega))))
          have HX4 := hid (HB5.out.setCell (p := ⟨w.heap.size, 0, none⟩) (Nat.le_refl _) (.slice sa2 (L.length + 1) sc2))
          generalize w5.setCell ⟨w.heap.size, 0, none⟩ (.slice sa2 (L.length + 1) sc2) = w6 at *
          refine wpAnyH_done (by kernel_rfl) ?_ _
          simp only [noPanic]
          clear hHeld
          go_wp2_with fail
          refine ⟨⟨tz, L ++ [(v1, n1, f)], _, FIN.out, HX2.out, HX0.out, HX1.out, by rw [toI_app]; exact HX3.out, HX4.out⟩, ?_⟩
          rw [HX2.out.rd, HRD.out]
          omega
        · skip
          go_simp
          have HWA := hid (below_walk w3 (.cells #[.string (mk v1), .string (mk n1), .int .i64 (f : Int)] 25))
          have HSR := hid (src_inc w3 (v1, n1, (f : Int)))
          have HM0 := hid ((HWA.out.block _ (hp_lt HL0.out)).trans HL0.out)
          have HM1 := hid ((HWA.out.block _ (hp_lt HL1.out)).trans HL1.out)
          have HR4 := hid (HR3.out.below HWA.out HR3.out.lt)
          have HO4 := hid (HO3.out.below HWA.out)
          have HB4 := hid (HB3.out.trans (HWA.out.mono HB3.out.size))
          have HZ4 := hid (show w.heap.size + 3 ≤ (w3.alloc (.cells #[.string (mk v1), .string (mk n1), .int .i64 (f : Int)] 25)).heap.size by rw [hp_size]; have := HZ3.out; omega)
          refine hK.out _ _ trivial (fun hHeld => ?_)
          clear hK K
          try simp only [Act.put, List.getElem_toArray, List.getElem_cons_zero, List.getElem_cons_succ, List.setIfInBounds_toArray, List.set_cons_succ, List.set_cons_zero]
          have c3 : (w3.alloc (.cells #[.string (mk v1), .string (mk n1), .int .i64 (f : Int)] 25)).cell? ⟨w.heap.size, 0, none⟩ = some (.slice sa L.length sc) := by rw [cell_of_row _ _ _ _ _ _ HM0.out]; rfl
          refine wpAnyH_ready (rs := [0]) (by kernel_rfl) (by simp) ?_
          refine AllReadyH.cons rfl (fun K hK => ?_) AllReadyH.nil
          go_simp
          refine hK.out _ _ trivial (fun hHeld => ?_)
          clear hK K c3
          try simp only [Act.put, List.getElem_toArray, List.getElem_cons_zero, List.getElem_cons_succ, List.setIfInBounds_toArray, List.set_cons_succ, List.set_cons_zero]
          refine wpAnyH_ready (rs := [3]) (by kernel_rfl) (by simp) ?_
          refine AllReadyH.cons rfl (fun K hK => ?_) AllReadyH.nil
          refine step_app_inc (by rfl) (.tmp 13) (.tmp 15) (by rfl) (w.heap.size + 3) _ (toI L) (by rfl) HO4.out w3.heap.size 1 [(v1, n1, (f : Int))] (by rfl) HSR.out (by rw [toI_len]; have := HS.out.2.1; have := HS.out.1; simp; omega) HZ4.out ?_
          generalize w3.alloc (.cells #[.string (mk v1), .string (mk n1), .int .i64 (f : Int)] 25) = w4 at *
          intro v' w5 hO5 hG5
          have hlo : ∀ k, (Value.slice sa L.length sc).ownBlock = some k → w.heap.size + 3 ≤ k := fun k hk => (HO.out.lt k hk).1
          have HN0 := hid ((hG5.block _ (hp_lt HM0.out) (fun e => by have := hlo _ e.symm; omega)).trans HM0.out)
          have HN1 := hid ((hG5.block _ (hp_lt HM1.out) (fun e => by have := hlo _ e.symm; omega)).trans HM1.out)
          have HR5 := hid (show Rs w5 (w.heap.size + 1 + 1) l tz from (hG5.block _ HR4.out.lt (fun e => by have := hlo _ e.symm; omega)).trans HR4.out)
          have HB5 := hid (HB4.out.grown hG5 (by have := HZ4.out; omega) (fun k hk => by have := hlo _ hk; omega))
          have HO5 := hid hO5
          obtain ⟨sa2, sc2, hv2⟩ := hO5.shape
          have HLE : Hid ((toI L ++ [(v1, n1, (f : Int))]).length = L.length + 1) := by show _ = _; rw [List.length_append, toI_len]; rfl
          rw [HLE.out] at hv2
          subst hv2
          clear hG5 hO5 hlo
          refine hK.out _ _ trivial (fun hHeld => ?_)
          clear hK K
          try simp only [Act.put, List.getElem_toArray, List.getElem_cons_zero, List.getElem_cons_succ, List.setIfInBounds_toArray, List.set_cons_succ, List.set_cons_zero]
          refine wpAnyH_ready (rs := [4]) (by kernel_rfl) (by simp) ?_
          refine AllReadyH.cons rfl (fun K hK => ?_) AllReadyH.nil
          have c5 : w5.cell? ⟨w.heap.size, 0, none⟩ = some (.slice sa L.length sc) := by rw [cell_of_row _ _ _ _ _ _ HN0.out]; rfl
          have z5 : w5.frozen? ⟨w.heap.size, 0, none⟩ = false := by simp [World.frozen?, HN0.out]
          go_simp
          refine hK.out _ _ trivial (fun hHeld => ?_)
          clear hK K c5 z5
          have HX0 := hid (show (w5.setCell ⟨w.heap.size, 0, none⟩ (.slice sa2 (L.length + 1) sc2)).heap[w.heap.size]? = some (.cells #[.slice sa2 (L.length + 1) sc2] 22 (0, 0)) from blk_set HN0.out _)
          have HX1 := hid (show (w5.setCell ⟨w.heap.size, 0, none⟩ (.slice sa2 (L.length + 1) sc2)).heap[w.heap.size + 1]? = some (.cells #[.int .i64 0, .int .i64 0] 28 (0, 0)) from (hp_set _ _ _ _ _ (by omega)).trans HN1.out)
          have HX2 := hid (show Rs (w5.setCell ⟨w.heap.size, 0, none⟩ (.slice sa2 (L.length + 1) sc2)) (w.heap.size + 1 + 1) l tz from (hp_set _ _ _ _ _ (by omega)).trans HR5.out)
          have HX3 := hid (HO5.out.kept (gb_set w5 ⟨w.heap.size, 0, none⟩ (.slice sa2 (L.length + 1) sc2)) (Or.inr (fun x => absurd (HO5.out.lt _ x).1 (show ¬ w.heap.size + 3 ≤ w.heap.size by omega))))
          have HX4 := hid (HB5.out.setCell (p := ⟨w.heap.size, 0, none⟩) (Nat.le_refl _) (.slice sa2 (L.length + 1) sc2))
          generalize w5.setCell ⟨w.heap.size, 0, none⟩ (.slice sa2 (L.length + 1) sc2) = w6 at *
          refine wpAnyH_done (by kernel_rfl) ?_ _
          simp only [noPanic]
          clear hHeld
          go_wp2_with fail
          refine ⟨⟨tz, L ++ [(v1, n1, f)], _, FIN.out, HX2.out, HX0.out, HX1.out, by rw [toI_app]; exact HX3.out, HX4.out⟩, ?_⟩
          rw [HX2.out.rd, HRD.out]
          omega

end Go.Proofs.YtlpengaclkidiaaGreatDoor
