/- Contracts and pure facts that the proof needs, joined. -/
import Derived.Test.YtgldmepmeampeaaG3
import Derived.Test.YtgldmepmeampeaaG2

/- TreeApplies answers true. -/
namespace Go.Proofs.Ytgldmepmeampeaa
open Go.RowKit

/-- what two answers that are one give -/
theorem ansA_two {w1 w2 : World} {b1 b2 : Nat} {r1 r2 : Ending} {x : Except Int (List Ent)} (h1 : AnsE w1 b1 r1 x) (h2 : AnsE w2 b2 r2 x) (hb : Below w1.heap.size w1 w2) :
    ∃ (v1 v2 : Value) (l : List Ent) (n : Int), r1 = .returned (.tuple #[v1, .int .i64 n]) ∧ r2 = .returned (.tuple #[v2, .int .i64 n]) ∧ Ents w2 v1 l ∧ Ents w2 v2 l ∧ (x = .ok l ∨ l = []) := by
  cases x with
  | ok l =>
    obtain ⟨v1, e1, o1⟩ := h1
    obtain ⟨v2, e2, o2⟩ := h2
    exact ⟨v1, v2, l, 0, e1, e2, o1.ents.below hb, o2.ents, Or.inl rfl⟩
  | error e => exact ⟨_, _, [], e, h1, h2, Ents.nil _, Ents.nil _, Or.inr rfl⟩
theorem apP_len {t l : List Ent} {cs : List Chg} (h : apP t cs = .ok l) : l.length ≤ 1024 := by
  unfold apP at h
  split at h
  · cases h
  · split at h
    · cases h
    · split at h
      · cases h
      · split at h
        · cases h
        · rename_i h1
          cases h
          exact (rgt_iff.1 (by simpa using h1)).many

set_option maxRecDepth 100000 in
set_option maxHeartbeats 1000000 in
theorem lawApplies_any (va vb : Value) (t : List Ent) (cs : List Chg) (w : World) (ha : Ents w va t) (hb : Chgs w vb cs) (ka : EBk t) (kb : CBk cs) :
    Calls Try.prog 7 #[va, vb] w fun e w' => e = .returned (.bool true) ∧ Below w.heap.size w w' := by
  have hsc : ShortC cs := fun c hc => by have := kb.bulk c hc; omega
  have H1 := hid (apply_any va vb t cs w ha hb (fun e he => by have := ka.bulk e he; constructor <;> omega) (by have := ka.len; omega) hsc (by have := kb.len; omega))
  have H2 := hid (fun w2 (hw : Below w.heap.size w w2) => rapply_any va vb t cs w2 (ha.below hw) (hb.below hw) ka.bulk ka.len kb.bulk kb.len)
  have HAW := hid alive_any
  have HLN := hid (fun l => apP_len (t := t) (cs := cs) (l := l))
  obtain ⟨ao, ca, rfl⟩ := ha.shape
  obtain ⟨bo, cb, rfl⟩ := hb.shape
  generalize apP t cs = D at *
  clear ha hb ka kb hsc
  go_enter Try.func7, Try.ntmps7
  go_wp2_with fail
  refine H1.out.mono ?_
  rintro e1 w1 ⟨ha1, hb1⟩
  have HB1 := hid hb1
  have HAS := hid (fun (e2 : Ending) w2 (h2 : AnsE w2 w1.heap.size e2 D) (hb2 : Below w1.heap.size w1 w2) => ansA_two ha1 h2 hb2)
  have H3 := hid (H2.out w1 hb1)
  obtain ⟨v1, v1', l1, n1, he1, _, hc1, _, _⟩ := ansA_two ha1 ha1 (Below.refl _ _)
  obtain ⟨a1, c1, hv1⟩ := hc1.shape
  generalize l1.length = m1 at hv1
  subst hv1
  subst he1
  clear ha1 hb1 H1 H2 hc1
  go_wp2_with fail
  refine H3.out.mono ?_
  rintro e2 w2 ⟨ha2, hb2⟩
  obtain ⟨v1', v2, l, n, he1, he2, hv1, hv2, htl⟩ := HAS.out e2 w2 ha2 hb2
  have hl : l.length ≤ 1024 := by
    rcases htl with h | h
    · exact HLN.out l h
    · rw [h]; simp
  obtain ⟨rfl, rfl⟩ : v1' = .slice a1 m1 c1 ∧ n = n1 := by
    injection he1 with h
    injection h with h
    injection h with h
    injection h with h1 h2
    injection h2 with h2
    injection h2 with _ h2
    exact ⟨h1.symm, h2.symm⟩
  subst he2
  have HB2 := hid (HB1.out.trans (hb2.mono HB1.out.size))
  have HSM := hid (rsame_any _ _ l l w2 hv1 hv2 (by omega))
  rw [decide_eq_true rfl] at HSM
  obtain ⟨a2, c2, rfl⟩ := hv2.shape
  generalize l.length = m2 at *
  clear ha2 hb2 hv1 hv2 htl hl he1 HAS H3 HB1 HLN
  go_wp2_with (first | (go_at_call 13; refine HSM.out.mono ?_; rintro r w3 ⟨rfl, q3, rfl⟩) | (go_at_call 10; refine (HAW.out _).mono ?_; rintro r w4 ⟨rfl, hb4⟩))
  go_ret
  exact ⟨rfl, below_then (below_n HB2.out _) hb4⟩

end Go.Proofs.Ytgldmepmeampeaa
