/- Contracts and pure facts that the proof needs, joined. -/
import Derived.Test.YteijkbanlpodpaaGreatDoorG4
import Derived.Test.YteijkbanlpodpaaGreatDoorG3
import Derived.Test.YteijkbanlpodpaaGreatDoorG2
import Derived.Deep.RegionHeld3
import Derived.Deep.RegionHeldLaw
import Derived.Deep.MidRow

/- TreeEdits answers true. -/
namespace Go.Proofs.YteijkbanlpodpaaGreatDoor
open Go.RowKit Go.BigFrame

theorem EBk.short {t : List Ent} (h : EBk t) : Short t := fun e he => by have := h.bulk e he; omega
theorem rgt_ebk {t : List Ent} (h : Rgt t) : EBk t := ⟨by have := h.many; omega, fun e he => by
  have h1 := okP_short (mayP_ok (h.may e he))
  have h2 := (may_shr' (h.may e he)).2
  have h3 : e.2.2.length ≤ szP t := by
    clear h1 h2
    have : ∀ (t : List Ent), e ∈ t → e.2.2.length ≤ szP t := by
      intro t
      induction t with
      | nil => intro h; cases h
      | cons x t ih =>
        intro h
        have hc : szP (x :: t) = x.2.2.length + szP t := by simp [szP]
        rcases List.mem_cons.1 h with rfl | h
        · omega
        · have := ih h; omega
    exact this t he
  have h4 := h.big
  omega, h.big⟩

theorem putP_err {t : List Ent} {x : Ent} {E : Int} (h : putP t x = .error E) : E ≠ 0 := by
  unfold putP at h
  split at h
  · injection h with h; rw [← h]; assumption
  · split at h
    · injection h with h; rw [← h]; decide
    · split at h
      · injection h with h; rw [← h]; decide
      · split at h
        · injection h with h; rw [← h]; decide
        · unfold fitP at h
          split at h
          · injection h with h; rw [← h]; decide
          · split at h
            · injection h with h; rw [← h]; decide
            · cases h
theorem rmP_err {t : List Ent} {p : List UInt8} {E : Int} (h : rmP t p = .error E) : E ≠ 0 := by
  unfold rmP at h
  split at h
  · injection h with h; rw [← h]; assumption
  · split at h
    · injection h with h; rw [← h]; decide
    · split at h
      · injection h with h; rw [← h]; decide
      · cases h
theorem mod4 (K : Int) : (wrap64 (K.tmod 4 + 4)).tmod 4 = 0 ∨ (wrap64 (K.tmod 4 + 4)).tmod 4 = 1 ∨ (wrap64 (K.tmod 4 + 4)).tmod 4 = 2 ∨ (wrap64 (K.tmod 4 + 4)).tmod 4 = 3 := by
  have h1 : K.tmod 4 < 4 := Int.tmod_lt_of_pos _ (by decide)
  have h2 : -4 < K.tmod 4 := Int.lt_tmod_of_pos _ (by decide)
  have h3 : wrap64 (K.tmod 4 + 4) = K.tmod 4 + 4 := by unfold wrap64; omega
  rw [h3]
  have h4 : 0 ≤ (K.tmod 4 + 4).tmod 4 := Int.tmod_nonneg _ (by omega)
  have h5 : (K.tmod 4 + 4).tmod 4 < 4 := Int.tmod_lt_of_pos _ (by decide)
  omega
/-- an answer, as its values -/
theorem ansR_ok {w : World} {r : Ending} {l : List Ent} (h : AnsR w r (.ok l)) : ∃ a c, r = .returned (.tuple #[.slice a l.length c, .int .i64 0]) ∧ Ents w (.slice a l.length c) l := by
  obtain ⟨v, e, ho⟩ := h
  obtain ⟨a, c, ev⟩ := ho.shape
  subst ev
  exact ⟨a, c, e, ho⟩
theorem ansE_r {w : World} {b : Nat} {r : Ending} {x : Except Int (List Ent)} (h : AnsE w b r x) : AnsR w r x := by
  cases x with
  | ok l => obtain ⟨v, e, ho⟩ := h; exact ⟨v, e, ho.ents⟩
  | error E => exact h
/-- both sides' contracts of a call, as an answer -/
def BothR (f g : Nat) (args : Array Value) (w : World) (X : Except Int (List Ent)) : Prop :=
  (∀ W, Below w.heap.size w W → Calls Tryz.prog f args W fun r w' => AnsR w' r X ∧ Below W.heap.size W w') ∧ (∀ W, Below w.heap.size w W → Calls Tryz.prog g args W fun r w' => AnsR w' r X ∧ Below W.heap.size W w')
theorem BothR.err {f g : Nat} {args : Array Value} {w : World} {E : Int} (h : BothR f g args w (.error E)) :
    (∀ W, Below w.heap.size w W → Calls Tryz.prog f args W fun r w' => r = .returned (.tuple #[.slice none 0 0, .int .i64 E]) ∧ Below W.heap.size W w') ∧ (∀ W, Below w.heap.size w W → Calls Tryz.prog g args W fun r w' => r = .returned (.tuple #[.slice none 0 0, .int .i64 E]) ∧ Below W.heap.size W w') := h
theorem BothR.ok {f g : Nat} {args : Array Value} {w : World} {l : List Ent} (h : BothR f g args w (.ok l)) :
    (∀ W, Below w.heap.size w W → Calls Tryz.prog f args W fun r w' => (∃ a c, r = .returned (.tuple #[.slice a l.length c, .int .i64 0]) ∧ Ents w' (.slice a l.length c) l) ∧ Below W.heap.size W w') ∧ (∀ W, Below w.heap.size w W → Calls Tryz.prog g args W fun r w' => (∃ a c, r = .returned (.tuple #[.slice a l.length c, .int .i64 0]) ∧ Ents w' (.slice a l.length c) l) ∧ Below W.heap.size W w') :=
  ⟨fun W hW => (h.1 W hW).mono (fun _ _ ⟨h1, h2⟩ => ⟨ansR_ok h1, h2⟩), fun W hW => (h.2 W hW).mono (fun _ _ ⟨h1, h2⟩ => ⟨ansR_ok h1, h2⟩)⟩

set_option maxRecDepth 100000 in
set_option maxHeartbeats 8000000 in
theorem lawEdits_any (vt vs : Value) (t : List Ent) (es : List Edt) (w : World) (ht : Ents w vt t) (hs : Edts w vs es) (hbt : EBk t) (hn : es.length ≤ 1048576) (hbe : ∀ e ∈ es, EdBk w e) :
    Calls Tryz.prog 3 #[vt, vs] w fun e w' => e = .returned (.bool true) ∧ Below w.heap.size w w' := by
  have HAW := hid alive_any
  have HET := hid ht
  have HES := hid hs
  have HBT := hid hbt
  have HBE := hid hbe
  obtain ⟨ao, c, e0⟩ := ht.shape
  obtain ⟨az, cz, e1⟩ := hs.shape
  subst e0 e1
  clear ht hs hbt hbe
  go_enter Tryz.func3, Tryz.ntmps3
  go_wp2
  go_loopw [0, 13] (fun x i wr => ∃ (k : Nat) (T : List Ent), i = .int .i64 k ∧ k ≤ es.length ∧ Ents wr x T ∧ EBk T ∧ Below w.heap.size w wr) (fun _ i _ => es.length - (intOf i).toNat)
  case atStart => exact ⟨0, t, rfl, Nat.zero_le _, HET.out, HBT.out, Below.refl _ _⟩
  case round =>
    obtain ⟨k, T, rfl, hk, hT, hBT, hb⟩ := hrel
    have HT := hid hT
    have HBK := hid hBT
    have HB := hid hb
    obtain ⟨aT, cT, eT⟩ := hT.shape
    subst eT
    clear hT hBT hb HET HBT
    by_cases hlt : k < es.length
    · have q1 : (k : Int) < (es.length : Int) := by omega
      have hw1 : IntKind.i64.wrap ((k : Int) + 1) = ((k + 1 : Nat) : Int) := by rw [IntKind.wrap_i64]; omega
      obtain ⟨g, o, rfl, hgl, hat⟩ := (HES.out.below HB.out).at k hlt
      obtain ⟨e, HED⟩ : ∃ e, Hid (es.getD k zEd = e) := ⟨_, rfl⟩
      rw [HED.out] at hat
      have HEB := hid (HBE.out e (by rw [← HED.out, List.getD_eq_getElem?_getD, List.getElem?_eq_getElem hlt]; exact List.getElem_mem hlt))
      obtain ⟨⟨d0, d1, d2⟩, d3, d4, d5⟩ := hat
      obtain ⟨av, cv, ev⟩ := HEB.out.1.shape
      rw [ev] at d5
      obtain ⟨K, HK⟩ : ∃ K, Hid (e.k = K) := ⟨_, rfl⟩
      rw [HK.out] at d0
      go_upto_region 8 with fail
      have HEV := hid (show Ents wr (.slice av e.s.length cv) e.s from by rw [← ev]; exact HEB.out.1.below HB.out)
      have HA0 := hid (below_walk wr (.cells #[.int .i64 K, .string (mk e.x.1), .int .i64 e.x.2.1, .string (mk e.x.2.2), .string (mk e.p), .slice av e.s.length cv] 27))
      have HAT0 : Hid (∀ W, Below (wr.alloc (.cells #[.int .i64 K, .string (mk e.x.1), .int .i64 e.x.2.1, .string (mk e.x.2.2), .string (mk e.p), .slice av e.s.length cv] 27)).heap.size (wr.alloc (.cells #[.int .i64 K, .string (mk e.x.1), .int .i64 e.x.2.1, .string (mk e.x.2.2), .string (mk e.p), .slice av e.s.length cv] 27)) W → (W.cell? ⟨wr.heap.size, 0, none⟩ = some (.int .i64 K) ∧ W.cell? ⟨wr.heap.size, 1, none⟩ = some (.string (mk e.x.1)) ∧ W.cell? ⟨wr.heap.size, 2, none⟩ = some (.int .i64 e.x.2.1)) ∧ W.cell? ⟨wr.heap.size, 3, none⟩ = some (.string (mk e.x.2.2)) ∧ W.cell? ⟨wr.heap.size, 4, none⟩ = some (.string (mk e.p)) ∧ W.cell? ⟨wr.heap.size, 5, none⟩ = some (.slice av e.s.length cv)) := hid (fun W hW => by
        have hb := (hW.block wr.heap.size (by simp)).trans (hp_new wr (.cells #[.int .i64 K, .string (mk e.x.1), .int .i64 e.x.2.1, .string (mk e.x.2.2), .string (mk e.p), .slice av e.s.length cv] 27))
        simp [World.cell?, hb])
      obtain ⟨m, HM⟩ : ∃ m, Hid ((wrap64 (K.tmod 4 + 4)).tmod 4 = m) := ⟨_, rfl⟩
      have hm := mod4 K
      rw [HM.out] at hm ⊢
      clear ev d0 d1 d2 d3 d4 d5 HED
      rcases hm with rfl | rfl | rfl | rfl
      · have HBR := hid (show BothR 6 7 #[.slice aT T.length cT, entA e.x] wr (putP T e.x) from ⟨fun W hW => (put_any _ T e.x W (HT.out.below hW) HBK.out.short (by have := HBK.out.len; omega) (by have := HEB.out.2.2.1; omega)).mono (fun _ _ ⟨h1, h2⟩ => ⟨ansE_r h1, h2⟩), fun W hW => rput_any _ T e.x W (HT.out.below hW) HBK.out.bulk (by have := HBK.out.len; omega) HEB.out.2.2.1⟩)
        cases hX : putP T e.x with
        | error E =>
          have hE := putP_err hX
          have b1 : (E == 0) = false := by simpa using hE
          rw [hX] at HBR
          obtain ⟨hp, hr⟩ := HBR.out.err
          have HP := hid hp
          have HRR := hid hr
          have HSM : Hid (∀ W, Calls Tryz.prog 14 #[.slice none 0 0, .slice none 0 0] W fun r w' => r = .returned (.bool true) ∧ ∃ q, w' = W.drewN q) := hid (fun W => (rsame_any (.slice none 0 0) (.slice none 0 0) [] [] W (Ents.nil W) (Ents.nil W) (by simp)).mono (fun r w' ⟨h1, h2⟩ => ⟨by rw [h1]; simp, h2⟩))
          clear hX hp hr HBR HAW
          go_wp2_with (first | (go_at_call 6; refine (HP.out _ HA0.out).mono ?_; rintro r w5 ⟨rfl, hb5⟩; have HB5 := hid (below_then HA0.out hb5); obtain ⟨⟨x0, x1, x2⟩, x3, x4, x5⟩ := HAT0.out w5 hb5; clear hb5) | (go_at_call 7; refine (HRR.out _ HB5.out).mono ?_; rintro r w6 ⟨rfl, hb6⟩; have HB6 := hid (below_then HB5.out hb6); clear hb6) | (go_at_call 14; refine (HSM.out _).mono ?_; rintro r w7 ⟨rfl, q7, rfl⟩; have HB7 := hid (below_n HB6.out q7)))
          exact ⟨⟨k + 1, T, by simp, by omega, HT.out.below HB7.out, HBK.out, HB.out.trans (HB7.out.mono HB.out.size)⟩, by simp [intOf]; omega⟩
        | ok l =>
          have HRL := hid (rgt_ebk ((putP_ok hX).2.1))
          rw [hX] at HBR
          obtain ⟨hp, hr⟩ := HBR.out.ok
          have HP := hid hp
          have HRR := hid hr
          have HSM : Hid (∀ W va vb, Ents W va l → Ents W vb l → Calls Tryz.prog 14 #[va, vb] W fun r w' => r = .returned (.bool true) ∧ ∃ q, w' = W.drewN q) := hid (fun W va vb ha hb => (rsame_any va vb l l W ha hb (by have := HRL.out.len; omega)).mono (fun r w' ⟨h1, h2⟩ => ⟨by rw [h1]; simp, h2⟩))
          clear hX hp hr HBR HAW
          go_wp2_with (first | (go_at_call 6; refine (HP.out _ HA0.out).mono ?_; rintro r w5 ⟨⟨a5, c5, rfl, ho5⟩, hb5⟩; have HB5 := hid (below_then HA0.out hb5); have HO5 := hid ho5; obtain ⟨⟨x0, x1, x2⟩, x3, x4, x5⟩ := HAT0.out w5 hb5; clear hb5 ho5) | (go_at_call 7; refine (HRR.out _ HB5.out).mono ?_; rintro r w6 ⟨⟨a6, c6, rfl, ho6⟩, hb6⟩; have HB6 := hid (below_then HB5.out hb6); have HO6 := hid ho6; have HP6 := hid (HO5.out.below hb6); clear hb6 ho6) | (go_at_call 14; refine (HSM.out _ _ _ HP6.out HO6.out).mono ?_; rintro r w7 ⟨rfl, q7, rfl⟩; have HB7 := hid (below_n HB6.out q7)))
          exact ⟨⟨k + 1, l, by simp, by omega, HO6.out.drew q7, HRL.out, HB.out.trans (HB7.out.mono HB.out.size)⟩, by simp [intOf]; omega⟩
      · have HBR := hid (show BothR 8 9 #[.slice aT T.length cT, .string (mk e.p)] wr (rmP T e.p) from ⟨fun W hW => (remove_any _ T e.p W (HT.out.below hW) HBK.out.short (by have := HBK.out.len; omega) (by have := HEB.out.2.2.2.2; omega)).mono (fun _ _ ⟨h1, h2⟩ => ⟨ansE_r h1, h2⟩), fun W hW => (rremove_any _ T e.p W (HT.out.below hW) HBK.out.bulk (by have := HBK.out.len; omega) (by have := HEB.out.2.2.2.2; omega)).mono (fun _ _ ⟨h1, h2⟩ => ⟨ansE_r h1, h2⟩)⟩)
        cases hX : rmP T e.p with
        | error E =>
          have hE := rmP_err hX
          have b1 : (E == 0) = false := by simpa using hE
          rw [hX] at HBR
          obtain ⟨hp, hr⟩ := HBR.out.err
          have HP := hid hp
          have HRR := hid hr
          have HSM : Hid (∀ W, Calls Tryz.prog 14 #[.slice none 0 0, .slice none 0 0] W fun r w' => r = .returned (.bool true) ∧ ∃ q, w' = W.drewN q) := hid (fun W => (rsame_any (.slice none 0 0) (.slice none 0 0) [] [] W (Ents.nil W) (Ents.nil W) (by simp)).mono (fun r w' ⟨h1, h2⟩ => ⟨by rw [h1]; simp, h2⟩))
          clear hX hp hr HBR HAW
          go_wp2_with (first | (go_at_call 8; refine (HP.out _ HA0.out).mono ?_; rintro r w5 ⟨rfl, hb5⟩; have HB5 := hid (below_then HA0.out hb5); obtain ⟨⟨x0, x1, x2⟩, x3, x4, x5⟩ := HAT0.out w5 hb5; clear hb5) | (go_at_call 9; refine (HRR.out _ HB5.out).mono ?_; rintro r w6 ⟨rfl, hb6⟩; have HB6 := hid (below_then HB5.out hb6); clear hb6) | (go_at_call 14; refine (HSM.out _).mono ?_; rintro r w7 ⟨rfl, q7, rfl⟩; have HB7 := hid (below_n HB6.out q7)))
          exact ⟨⟨k + 1, T, by simp, by omega, HT.out.below HB7.out, HBK.out, HB.out.trans (HB7.out.mono HB.out.size)⟩, by simp [intOf]; omega⟩
        | ok l =>
          have HRL := hid (rgt_ebk ((rmP_ok hX).2.1))
          rw [hX] at HBR
          obtain ⟨hp, hr⟩ := HBR.out.ok
          have HP := hid hp
          have HRR := hid hr
          have HSM : Hid (∀ W va vb, Ents W va l → Ents W vb l → Calls Tryz.prog 14 #[va, vb] W fun r w' => r = .returned (.bool true) ∧ ∃ q, w' = W.drewN q) := hid (fun W va vb ha hb => (rsame_any va vb l l W ha hb (by have := HRL.out.len; omega)).mono (fun r w' ⟨h1, h2⟩ => ⟨by rw [h1]; simp, h2⟩))
          clear hX hp hr HBR HAW
          go_wp2_with (first | (go_at_call 8; refine (HP.out _ HA0.out).mono ?_; rintro r w5 ⟨⟨a5, c5, rfl, ho5⟩, hb5⟩; have HB5 := hid (below_then HA0.out hb5); have HO5 := hid ho5; obtain ⟨⟨x0, x1, x2⟩, x3, x4, x5⟩ := HAT0.out w5 hb5; clear hb5 ho5) | (go_at_call 9; refine (HRR.out _ HB5.out).mono ?_; rintro r w6 ⟨⟨a6, c6, rfl, ho6⟩, hb6⟩; have HB6 := hid (below_then HB5.out hb6); have HO6 := hid ho6; have HP6 := hid (HO5.out.below hb6); clear hb6 ho6) | (go_at_call 14; refine (HSM.out _ _ _ HP6.out HO6.out).mono ?_; rintro r w7 ⟨rfl, q7, rfl⟩; have HB7 := hid (below_n HB6.out q7)))
          exact ⟨⟨k + 1, l, by simp, by omega, HO6.out.drew q7, HRL.out, HB.out.trans (HB7.out.mono HB.out.size)⟩, by simp [intOf]; omega⟩
      · have HBR := hid (show BothR 10 11 #[.slice aT T.length cT, .string (mk e.p)] wr (sbP T e.p) from ⟨fun W hW => (sub_any _ T e.p W (HT.out.below hW) HBK.out.short (by have := HBK.out.len; omega) (by have := HEB.out.2.2.2.2; omega)).mono (fun _ _ ⟨h1, h2⟩ => ⟨ansE_r h1, h2⟩), fun W hW => (rsub_any _ T e.p W (HT.out.below hW) HBK.out.bulk (by have := HBK.out.len; omega) (by have := HEB.out.2.2.2.2; omega)).mono (fun _ _ ⟨h1, h2⟩ => ⟨ansE_r h1, h2⟩)⟩)
        cases hX : sbP T e.p with
        | error E =>
          have hE := sbP_err hX
          have b1 : (E == 0) = false := by simpa using hE
          rw [hX] at HBR
          obtain ⟨hp, hr⟩ := HBR.out.err
          have HP := hid hp
          have HRR := hid hr
          have HSM : Hid (∀ W, Calls Tryz.prog 14 #[.slice none 0 0, .slice none 0 0] W fun r w' => r = .returned (.bool true) ∧ ∃ q, w' = W.drewN q) := hid (fun W => (rsame_any (.slice none 0 0) (.slice none 0 0) [] [] W (Ents.nil W) (Ents.nil W) (by simp)).mono (fun r w' ⟨h1, h2⟩ => ⟨by rw [h1]; simp, h2⟩))
          clear hX hp hr HBR HAW
          go_wp2_with (first | (go_at_call 10; refine (HP.out _ HA0.out).mono ?_; rintro r w5 ⟨rfl, hb5⟩; have HB5 := hid (below_then HA0.out hb5); obtain ⟨⟨x0, x1, x2⟩, x3, x4, x5⟩ := HAT0.out w5 hb5; clear hb5) | (go_at_call 11; refine (HRR.out _ HB5.out).mono ?_; rintro r w6 ⟨rfl, hb6⟩; have HB6 := hid (below_then HB5.out hb6); clear hb6) | (go_at_call 14; refine (HSM.out _).mono ?_; rintro r w7 ⟨rfl, q7, rfl⟩; have HB7 := hid (below_n HB6.out q7)))
          exact ⟨⟨k + 1, T, by simp, by omega, HT.out.below HB7.out, HBK.out, HB.out.trans (HB7.out.mono HB.out.size)⟩, by simp [intOf]; omega⟩
        | ok l =>
          have HRL := hid (show EBk l from by have h9 := sb_ok hX; rw [h9.2.2.2]; exact rgt_ebk (sub_rgt e.p h9.1))
          rw [hX] at HBR
          obtain ⟨hp, hr⟩ := HBR.out.ok
          have HP := hid hp
          have HRR := hid hr
          have HSM : Hid (∀ W va vb, Ents W va l → Ents W vb l → Calls Tryz.prog 14 #[va, vb] W fun r w' => r = .returned (.bool true) ∧ ∃ q, w' = W.drewN q) := hid (fun W va vb ha hb => (rsame_any va vb l l W ha hb (by have := HRL.out.len; omega)).mono (fun r w' ⟨h1, h2⟩ => ⟨by rw [h1]; simp, h2⟩))
          clear hX hp hr HBR HAW
          go_wp2_with (first | (go_at_call 10; refine (HP.out _ HA0.out).mono ?_; rintro r w5 ⟨⟨a5, c5, rfl, ho5⟩, hb5⟩; have HB5 := hid (below_then HA0.out hb5); have HO5 := hid ho5; obtain ⟨⟨x0, x1, x2⟩, x3, x4, x5⟩ := HAT0.out w5 hb5; clear hb5 ho5) | (go_at_call 11; refine (HRR.out _ HB5.out).mono ?_; rintro r w6 ⟨⟨a6, c6, rfl, ho6⟩, hb6⟩; have HB6 := hid (below_then HB5.out hb6); have HO6 := hid ho6; have HP6 := hid (HO5.out.below hb6); clear hb6 ho6) | (go_at_call 14; refine (HSM.out _ _ _ HP6.out HO6.out).mono ?_; rintro r w7 ⟨rfl, q7, rfl⟩; have HB7 := hid (below_n HB6.out q7)))
          exact ⟨⟨k + 1, l, by simp, by omega, HO6.out.drew q7, HRL.out, HB.out.trans (HB7.out.mono HB.out.size)⟩, by simp [intOf]; omega⟩
      · have HBR := hid (show BothR 12 13 #[.slice aT T.length cT, .string (mk e.p), .slice av e.s.length cv] wr (grP T e.p e.s) from ⟨fun W hW => (graft_any _ _ T e.s e.p W (HT.out.below hW) (HEV.out.below hW) HBK.out.short HEB.out.2.1.short (by have := HBK.out.len; omega) (by have := HEB.out.2.1.len; omega) (by have := HEB.out.2.2.2.2; omega)).mono (fun _ _ ⟨h1, h2⟩ => ⟨ansE_r h1, h2⟩), fun W hW => rgraft_any _ _ T e.s e.p W (HT.out.below hW) (HEV.out.below hW) HBK.out.bulk HEB.out.2.1.bulk (by have := HBK.out.len; omega) (by have := HEB.out.2.1.len; omega) (by have := HEB.out.2.2.2.2; omega)⟩)
        cases hX : grP T e.p e.s with
        | error E =>
          have hE := grP_err hX
          have b1 : (E == 0) = false := by simpa using hE
          rw [hX] at HBR
          obtain ⟨hp, hr⟩ := HBR.out.err
          have HP := hid hp
          have HRR := hid hr
          have HSM : Hid (∀ W, Calls Tryz.prog 14 #[.slice none 0 0, .slice none 0 0] W fun r w' => r = .returned (.bool true) ∧ ∃ q, w' = W.drewN q) := hid (fun W => (rsame_any (.slice none 0 0) (.slice none 0 0) [] [] W (Ents.nil W) (Ents.nil W) (by simp)).mono (fun r w' ⟨h1, h2⟩ => ⟨by rw [h1]; simp, h2⟩))
          clear hX hp hr HBR HAW
          go_wp2_with (first | (go_at_call 12; refine (HP.out _ HA0.out).mono ?_; rintro r w5 ⟨rfl, hb5⟩; have HB5 := hid (below_then HA0.out hb5); obtain ⟨⟨x0, x1, x2⟩, x3, x4, x5⟩ := HAT0.out w5 hb5; clear hb5) | (go_at_call 13; refine (HRR.out _ HB5.out).mono ?_; rintro r w6 ⟨rfl, hb6⟩; have HB6 := hid (below_then HB5.out hb6); clear hb6) | (go_at_call 14; refine (HSM.out _).mono ?_; rintro r w7 ⟨rfl, q7, rfl⟩; have HB7 := hid (below_n HB6.out q7)))
          exact ⟨⟨k + 1, T, by simp, by omega, HT.out.below HB7.out, HBK.out, HB.out.trans (HB7.out.mono HB.out.size)⟩, by simp [intOf]; omega⟩
        | ok l =>
          have HRL := hid (rgt_ebk ((sb_ok (sub_back hX)).1))
          rw [hX] at HBR
          obtain ⟨hp, hr⟩ := HBR.out.ok
          have HP := hid hp
          have HRR := hid hr
          have HSM : Hid (∀ W va vb, Ents W va l → Ents W vb l → Calls Tryz.prog 14 #[va, vb] W fun r w' => r = .returned (.bool true) ∧ ∃ q, w' = W.drewN q) := hid (fun W va vb ha hb => (rsame_any va vb l l W ha hb (by have := HRL.out.len; omega)).mono (fun r w' ⟨h1, h2⟩ => ⟨by rw [h1]; simp, h2⟩))
          clear hX hp hr HBR HAW
          go_wp2_with (first | (go_at_call 12; refine (HP.out _ HA0.out).mono ?_; rintro r w5 ⟨⟨a5, c5, rfl, ho5⟩, hb5⟩; have HB5 := hid (below_then HA0.out hb5); have HO5 := hid ho5; obtain ⟨⟨x0, x1, x2⟩, x3, x4, x5⟩ := HAT0.out w5 hb5; clear hb5 ho5) | (go_at_call 13; refine (HRR.out _ HB5.out).mono ?_; rintro r w6 ⟨⟨a6, c6, rfl, ho6⟩, hb6⟩; have HB6 := hid (below_then HB5.out hb6); have HO6 := hid ho6; have HP6 := hid (HO5.out.below hb6); clear hb6 ho6) | (go_at_call 14; refine (HSM.out _ _ _ HP6.out HO6.out).mono ?_; rintro r w7 ⟨rfl, q7, rfl⟩; have HB7 := hid (below_n HB6.out q7)))
          exact ⟨⟨k + 1, l, by simp, by omega, HO6.out.drew q7, HRL.out, HB.out.trans (HB7.out.mono HB.out.size)⟩, by simp [intOf]; omega⟩
    · have q1 : ¬ (k : Int) < (es.length : Int) := by omega
      go_wp2_with (go_at_call 15; refine (HAW.out _).mono ?_; rintro r w1 ⟨rfl, hb1⟩; have HB1 := hid (HB.out.trans (hb1.mono HB.out.size)); clear hb1)
      go_ret
      exact ⟨rfl, HB1.out⟩

end Go.Proofs.YteijkbanlpodpaaGreatDoor

/- The document's Make, plainly: the way up, neighbours. -/
namespace Go.Proofs.YteijkbanlpodpaaGreatDoor
open Go.RowKit Go.BigFrame

/-- which directories were asked for: of k entries, and of a path p those with more than j names -/
def DnIn (t : List Ent) (k : Nat) (p : List UInt8) (j : Nat) (dn : List (List UInt8)) : Prop :=
  ∀ x, x ∈ dn ↔ (∃ e ∈ t.take k, x ∈ ancs e.1) ∨ ∃ i, j < i ∧ i < (nms p).length ∧ x = txt ((nms p).take i)
theorem DnIn.start {t : List Ent} {k : Nat} {dn : List (List UInt8)} (h : dnAll t k dn) (p : List UInt8) : DnIn t k p ((nms p).length - 1) dn := by
  intro x
  rw [h x]
  constructor
  · exact Or.inl
  · rintro (h1 | ⟨i, h1, h2, _⟩)
    · exact h1
    · omega
theorem DnIn.step {t : List Ent} {k j : Nat} {p : List UInt8} {dn : List (List UInt8)} (h : DnIn t k p j dn) (h1 : 1 ≤ j) (h2 : j < (nms p).length) : DnIn t k p (j - 1) (dn ++ [txt ((nms p).take j)]) := by
  intro x
  rw [List.mem_append, List.mem_singleton, h x]
  constructor
  · rintro ((h3 | ⟨i, h3, h4, h5⟩) | rfl)
    · exact Or.inl h3
    · exact Or.inr ⟨i, by omega, h4, h5⟩
    · exact Or.inr ⟨j, by omega, h2, rfl⟩
  · rintro (h3 | ⟨i, h3, h4, rfl⟩)
    · exact Or.inl (Or.inl h3)
    · by_cases hij : i = j
      · subst hij; exact Or.inr rfl
      · exact Or.inl (Or.inr ⟨i, by omega, h4, rfl⟩)
theorem DnIn.done {t : List Ent} {k : Nat} {dn : List (List UInt8)} (hk : k < t.length) (h : DnIn t k (t.getD k zE).1 0 dn) : dnAll t (k + 1) dn := by
  intro x
  rw [h x, take_snoc t k hk]
  constructor
  · rintro (⟨e, h1, h2⟩ | ⟨i, h1, h2, rfl⟩)
    · exact ⟨e, by simp [h1], h2⟩
    · exact ⟨_, by rw [List.mem_append, List.mem_singleton]; exact Or.inr rfl, mem_ancs.2 ⟨i, by omega, h2, rfl⟩⟩
  · rintro ⟨e, h1, h2⟩
    rw [List.mem_append, List.mem_singleton] at h1
    rcases h1 with h1 | rfl
    · exact Or.inl ⟨e, h1, h2⟩
    · obtain ⟨j, h3, h4, rfl⟩ := mem_ancs.1 h2
      exact Or.inr ⟨j, by omega, h4, rfl⟩
/-- a directory on the way up -/
theorem up_first {p : List UInt8} (h : okP p = true) : spD p = txt ((nms p).take ((nms p).length - 1)) := by rw [spD_nms h, List.dropLast_eq_take]
theorem up_step {p : List UInt8} (h : okP p = true) {j : Nat} (h1 : 1 ≤ j) (h2 : j < (nms p).length) : spD (txt ((nms p).take j)) = txt ((nms p).take (j - 1)) := by
  have hd := ancs_ok h (mem_ancs.2 ⟨j, h1, h2, rfl⟩)
  rw [spD_nms hd.1, nms_take h, List.dropLast_eq_take, List.take_take, List.length_take]
  congr 2
  omega
theorem up_nil {p : List UInt8} (h : okP p = true) {j : Nat} (h2 : j < (nms p).length) : txt ((nms p).take j) = [] ↔ j = 0 := by
  constructor
  · intro e
    by_cases h1 : j = 0
    · exact h1
    · exact absurd e (ancs_ok h (mem_ancs.2 ⟨j, by omega, h2, rfl⟩)).2
  · rintro rfl; rfl
theorem Rmk.hit {t : List Ent} {dn ds : List (List UInt8)} {m w : Bool} (h : Rmk t dn ds m w) (hn : (t.map (·.1)).Nodup) (x : Ent) (hx : x ∈ t ++ ds.map dirE) : Rmk t (dn ++ [x.1]) ds m (w || decide (x.2.1 ≠ 2)) := by
  rw [List.mem_append] at hx
  rcases hx with hx | hx
  · exact h.there hn x hx
  · obtain ⟨d, hd, rfl⟩ := List.mem_map.1 hx
    have := h.put d hd
    unfold dirE
    simpa using this
theorem all_new {t : List Ent} {ds : List (List UInt8)} {d : List UInt8} (h : fiP (t ++ ds.map dirE) d = none) : (∀ y ∈ t, y.1 ≠ d) ∧ d ∉ ds := by
  have h := fiP_none.1 h
  refine ⟨fun y hy => h y (by simp [hy]), fun hd => ?_⟩
  exact h (dirE d) (by rw [List.mem_append]; exact Or.inr (List.mem_map.2 ⟨d, hd, rfl⟩)) rfl
/-- neighbours that rise and differ -/
theorem adj_lt {t : List Ent} (hu : UpE t) (ha : ∀ i, 1 ≤ i → i < t.length → (t.getD i zE).1 ≠ (t.getD (i - 1) zE).1) : t.Pairwise ltE := by
  have up : ∀ i j, i < j → j < t.length → cmpL (nms (t.getD i zE).1) (nms (t.getD j zE).1) ≤ 0 := by
    intro i j hij hj
    have := List.pairwise_iff_getElem.1 hu i j (by omega) hj hij
    rw [cmpL_nlt] at this
    simpa [List.getD_eq_getElem?_getD, show i < t.length by omega, hj] using this
  rw [List.pairwise_iff_getElem]
  intro i j hi hj hij
  have e1 : t[i] = t.getD i zE := by simp [List.getD_eq_getElem?_getD, hi]
  have e2 : t[j] = t.getD j zE := by simp [List.getD_eq_getElem?_getD, hj]
  rw [e1, e2]
  unfold ltE
  rcases cmpL_range (nms (t.getD i zE).1) (nms (t.getD j zE).1) with e | e | e
  · omega
  · exfalso
    have hp : (t.getD i zE).1 = (t.getD j zE).1 := nms_inj (cmpL_zero e)
    by_cases hij2 : i = j - 1
    · exact ha j (by omega) hj (by rw [← hij2, hp])
    · have a1 := up i (j - 1) (by omega) (by omega)
      have a2 := up (j - 1) j (by omega) hj
      rw [hp] at a1
      have a3 := cmpL_anti (nms (t.getD (j - 1) zE).1) (nms (t.getD j zE).1)
      have a4 : cmpL (nms (t.getD (j - 1) zE).1) (nms (t.getD j zE).1) = 0 := by omega
      exact ha j (by omega) hj (nms_inj (cmpL_zero a4)).symm
  · have := up i j hij hj
    omega
theorem adj_dup {t : List Ent} {i : Nat} (h1 : 1 ≤ i) (h2 : i < t.length) (h : (t.getD i zE).1 = (t.getD (i - 1) zE).1) : ¬ (t.map (·.1)).Nodup := by
  intro hn
  rw [List.Nodup, List.pairwise_map] at hn
  have := List.pairwise_iff_getElem.1 hn (i - 1) i (by omega) h2 (by omega)
  apply this
  have e1 : t[i - 1] = t.getD (i - 1) zE := by simp [List.getD_eq_getElem?_getD, show i - 1 < t.length by omega]
  have e2 : t[i] = t.getD i zE := by simp [List.getD_eq_getElem?_getD, h2]
  rw [e1, e2, h]

/-- how far the document's Make has come -/
structure RmS (w0 : World) (t : List Ent) (dn ds : List (List UInt8)) (m wg : Bool) (x : Value) (wr : World) : Prop where
  rmk : Rmk t dn ds m wg
  own : OwnE wr w0.heap.size x (t ++ ds.map dirE)
  bel : Below w0.heap.size w0 wr
  len : ds.length ≤ 1025
theorem RmS.below {w0 wr wr' : World} {t : List Ent} {dn ds : List (List UInt8)} {m wg : Bool} {x : Value} (h : RmS w0 t dn ds m wg x wr) (hb : Below wr.heap.size wr wr') : RmS w0 t dn ds m wg x wr' :=
  ⟨h.rmk, h.own.below hb, h.bel.trans (hb.mono h.bel.size), h.len⟩

theorem mkP_dup {l : List Ent} (hm : ∀ e ∈ l, mayP e = true) (hn : ¬ (l.map (·.1)).Nodup) : mkP l = .error 9 := by
  unfold mkP
  rw [List.all_eq_true.2 hm, if_neg (show ¬ (true = false) by simp), if_pos hn]
theorem mkP_wrong {l : List Ent} (hm : ∀ e ∈ l, mayP e = true) (hn : (l.map (·.1)).Nodup) (hw : wrongP l = true) : mkP l = .error 52 := by
  unfold mkP
  rw [List.all_eq_true.2 hm, if_neg (show ¬ (true = false) by simp), if_neg (fun h => h hn), if_pos hw]
theorem mkP_many {l : List Ent} (hm : ∀ e ∈ l, mayP e = true) (hn : (l.map (·.1)).Nodup) (hw : wrongP l = false) (h : 1024 < l.length + (lackL l).length) : mkP l = .error 53 := by
  unfold mkP
  rw [List.all_eq_true.2 hm, if_neg (show ¬ (true = false) by simp), if_neg (fun h => h hn), hw, if_neg (show ¬ (false = true) by simp), if_pos h]
theorem mkP_may {l : List Ent} {e : Ent} (he : e ∈ l) (hm : mayP e = false) : mkP l = .error 50 := by
  unfold mkP
  rw [if_pos]
  rw [← Bool.not_eq_true, List.all_eq_true]
  intro h
  have := h e he
  rw [hm] at this
  cases this
theorem mkP_big {l : List Ent} (hm : ∀ e ∈ l, mayP e = true) (hn : (l.map (·.1)).Nodup) (hw : wrongP l = false) (h : ¬ 1024 < l.length + (lackL l).length) (hb : 1048576 < szP l) : mkP l = .error 54 := by
  unfold mkP
  rw [List.all_eq_true.2 hm, if_neg (show ¬ (true = false) by simp), if_neg (fun h => h hn), hw, if_neg (show ¬ (false = true) by simp), if_neg h, if_pos hb]
/-- how it ends -/
theorem RmS.end {l t : List Ent} {w0 wr : World} {dn ds : List (List UInt8)} {m wg : Bool} {x : Value} (h : RmS w0 t dn ds m wg x wr) (hdn : dnAll t t.length dn) (hp : t.Perm l) (hm : ∀ e ∈ l, mayP e = true) (hn : (l.map (·.1)).Nodup) :
    (wg = true → mkP l = .error 52) ∧ (wg = false → (m || decide (1024 < (t ++ ds.map dirE).length)) = true → mkP l = .error 53) ∧
    (wg = false → (m || decide (1024 < (t ++ ds.map dirE).length)) = false → szP (t ++ ds.map dirE) = szP l ∧ (1048576 < szP l → mkP l = .error 54) ∧ (¬ 1048576 < szP l → ∀ l', l'.Perm (t ++ ds.map dirE) → UpE l' → mkP l = .ok l') ∧ ∀ e ∈ t ++ ds.map dirE, okP e.1 = true) := by
  obtain ⟨h1, h2, h3⟩ := h.rmk.done hdn (fun e => hp.mem_iff)
  have hlen : (t ++ ds.map dirE).length = t.length + ds.length := by simp
  rw [hlen, h2, decide_eq_true_iff, decide_eq_false_iff_not, hp.length_eq]
  refine ⟨fun e => mkP_wrong hm hn (by rw [← h1]; exact e), fun e h4 => mkP_many hm hn (by rw [← h1]; exact e) h4, fun e h4 => ?_⟩
  have hm0 : m = false := by
    cases m with
    | false => rfl
    | true =>
      rw [Bool.true_or, eq_comm, decide_eq_true_iff, hp.length_eq] at h2
      exact absurd h2 h4
  obtain ⟨h5, h6⟩ := h3 hm0
  have hz : szP (t ++ ds.map dirE) = szP l := by rw [szP_app, szP_dirs, szP_perm hp]; omega
  refine ⟨hz, fun hb => mkP_big hm hn (by rw [← h1]; exact e) h4 hb, fun hb l' hp' hu => ?_, ?_⟩
  · have hp2 : l'.Perm (l ++ ds.map dirE) := hp'.trans (List.Perm.append_right _ hp)
    rw [← mk_fit hm hn (by rw [← h1]; exact e) h.rmk.nd h5 h6 hp2 hu]
    unfold fitP
    rw [hp'.length_eq, hlen, szP_perm hp', hz, if_neg (by rw [hp.length_eq, h5]; exact h4), if_neg hb]
  · intro x hx
    rw [List.mem_append] at hx
    rcases hx with hx | hx
    · exact mayP_ok (hm x (hp.mem_iff.1 hx))
    · obtain ⟨d, hd, rfl⟩ := List.mem_map.1 hx
      obtain ⟨⟨y, hy, hya⟩, _⟩ := mem_lackL.1 ((h6 d).1 hd)
      exact (ancs_ok (mayP_ok (hm y hy)) hya).1

end Go.Proofs.YteijkbanlpodpaaGreatDoor

/- The document's Make. -/
namespace Go.Proofs.YteijkbanlpodpaaGreatDoor
open Go.RowKit Go.BigFrame

set_option maxRecDepth 100000 in
set_option maxHeartbeats 40000000 in
theorem rmake_any (v : Value) (l : List Ent) (w : World) (h : Ents w v l) (hl : Bulk l) (hn : l.length ≤ 1099511627776) (hz : szP l ≤ 4611686018427387904) :
    Calls Tryz.prog 17 #[v] w fun r w' => AnsE w' w.heap.size r (mkP l) ∧ Below w.heap.size w w' := by
  obtain ⟨ao, c, rfl⟩ := h.shape
  have H := hid h
  have HL := hid hl
  have HZ := hid hz
  clear h hl hz
  go_enter Tryz.func17, Tryz.ntmps17
  go_wp2
  go_loopw [4] (fun i wr => ∃ k : Nat, i = .int .i64 k ∧ k ≤ l.length ∧ (∀ e ∈ l.take k, mayP e = true) ∧ Below w.heap.size w wr) (fun i _ => l.length - (intOf i).toNat)
  case atStart => exact ⟨0, rfl, Nat.zero_le _, fun e he => (by simp at he), Below.refl _ _⟩
  case round =>
    obtain ⟨k, rfl, hk, hmy, hb⟩ := hrel
    have HMY := hid hmy
    have HB := hid hb
    clear hmy hb
    by_cases hlt : k < l.length
    · have q2 : (k : Int) < (l.length : Int) := by omega
      obtain ⟨g, o, rfl, hgl, hcell⟩ := (H.out.below HB.out).at k hlt
      obtain ⟨e, HE⟩ : ∃ e, Hid (l.getD k zE = e) := ⟨_, rfl⟩
      have HEM := hid (getD_mem hlt)
      have HTK := hid (take_snoc l k hlt)
      rw [HE.out] at hcell HEM HTK
      obtain ⟨c0, c1, c2⟩ := hcell
      have HMB := hid (rmay_any e wr (HL.out e HEM.out).1)
      unfold entA at HMB
      go_wp2_with fail
      refine HMB.out.mono ?_
      rintro r w2 ⟨rfl, hb2⟩
      have HBW := hid (HB.out.trans (hb2.mono HB.out.size))
      clear hb2 HMB HB c0 c1 c2
      cases hm : mayP e with
      | false =>
        have HP := hid (mkP_may HEM.out hm)
        clear hm
        go_wp2
        go_ret2
        rw [HP.out]
        exact ⟨rfl, HBW.out⟩
      | true =>
        have HMA := hid (show ∀ x ∈ l.take (k + 1), mayP x = true by
          intro x hx
          rw [HTK.out, List.mem_append, List.mem_singleton] at hx
          rcases hx with hx | rfl
          · exact HMY.out x hx
          · exact hm)
        clear hm
        go_wp2
        exact ⟨⟨k + 1, by simp, by omega, HMA.out, HBW.out⟩, by simp [intOf]; omega⟩
    · have q2 : ¬ (k : Int) < (l.length : Int) := by omega
      obtain rfl : k = l.length := by omega
      rw [List.take_length] at HMY
      have HSO := hid (rsort_any l.length l (Nat.le_refl _) hn (fun e he => mayP_ok (HMY.out e he)) _ wr (H.out.below HB.out))
      go_wp2_with fail
      refine HSO.out.mono ?_
      rintro r w2 ⟨vt, t, rfl, ho2, hp2, hu2, hb2⟩
      have HO2 := hid (ho2.le HB.out.size)
      have HP2 := hid hp2
      have HU2 := hid hu2
      have HB2 := hid (HB.out.trans (hb2.mono HB.out.size))
      obtain ⟨at', ct, ht⟩ := ho2.ents.shape
      have HTL := hid (show t.length ≤ 1099511627776 by rw [hp2.length_eq]; exact hn)
      subst ht
      clear ho2 hp2 hu2 hb2 HSO HB H
      have HE2 := hid HO2.out.ents
      go_wp2_with fail
      go_loopw [6] (fun i wr => ∃ k : Nat, i = .int .i64 k ∧ 1 ≤ k ∧ k ≤ t.length + 1 ∧ (∀ i, 1 ≤ i → i < k → (t.getD i zE).1 ≠ (t.getD (i - 1) zE).1) ∧ ∃ q, wr = w2.drewN q) (fun i _ => t.length + 1 - (intOf i).toNat)
      case atStart => exact ⟨1, rfl, Nat.le_refl _, by omega, fun i h1 h2 => by omega, 0, rfl⟩
      case round =>
        obtain ⟨k, rfl, hk1, hk2, hne, q, rfl⟩ := hrel
        have HNE := hid hne
        have hk3 : k ≤ 1099511627777 := by have := HTL.out; omega
        clear hne
        by_cases hlt : k < t.length
        · have q3 : (k : Int) < (t.length : Int) := by omega
          obtain ⟨I, HI⟩ : ∃ I : Nat, Hid (I = k - 1) := ⟨_, rfl⟩
          have i1 : IntKind.i64.wrap ((k : Int) - 1) = (I : Int) := by rw [IntKind.wrap_i64, HI.out]; have := HTL.out; omega
          have q4 : (I : Int) < (t.length : Int) := by rw [HI.out]; omega
          obtain ⟨g, o, rfl, hgl, hcell⟩ := HE2.out.at k hlt
          obtain ⟨g', o', hgg, hgl', hcell'⟩ := HE2.out.at I (by rw [HI.out]; omega)
          have hgg' : g = g' ∧ o = o' := by injection hgg with h; injection h with h1 h2; exact ⟨h1, h2⟩
          obtain ⟨rfl, rfl⟩ := hgg'
          obtain ⟨e, HE⟩ : ∃ e, Hid (t.getD k zE = e) := ⟨_, rfl⟩
          obtain ⟨f, HF⟩ : ∃ f, Hid (t.getD I zE = f) := ⟨_, rfl⟩
          rw [HE.out] at hcell
          rw [HF.out] at hcell'
          obtain ⟨c0, _, _⟩ := hcell
          obtain ⟨d0, _, _⟩ := hcell'
          clear hgg hgl hgl'
          by_cases hx : e.1 = f.1
          · have HP := hid (mkP_dup HMY.out (fun hnd => adj_dup hk1 hlt (by rw [HE.out, ← HI.out, HF.out]; exact hx) ((HP2.out.map _).nodup_iff.2 hnd)))
            have e1 : (mk e.1).toList = (mk f.1).toList := by rw [hx]
            clear hx
            generalize mk e.1 = s1 at *
            generalize mk f.1 = s2 at *
            go_wp2_with fail
            go_quiet (fail)
            go_wp2
            go_ret2
            rw [HP.out]
            exact ⟨rfl, below_n (below_n HB2.out _) _⟩
          · have HN := hid (show ∀ i, 1 ≤ i → i < k + 1 → (t.getD i zE).1 ≠ (t.getD (i - 1) zE).1 by
              intro i h1 h2
              by_cases hik : i = k
              · subst hik; rw [HE.out, ← HI.out, HF.out]; exact hx
              · exact HNE.out i h1 (by omega))
            have e1 : ¬ (mk e.1).toList = (mk f.1).toList := fun h => hx ((bl_mk e.1).symm.trans (h.trans (bl_mk f.1)))
            have e2 : ((mk e.1).toList == (mk f.1).toList) = false := by simpa using e1
            clear hx
            generalize mk e.1 = s1 at *
            generalize mk f.1 = s2 at *
            go_wp2_with fail
            go_quiet (fail)
            go_wp2
            exact ⟨⟨k + 1, by simp, by omega, by omega, HN.out, q + nq, by simp⟩, by simp [intOf]; omega⟩
        · have q3 : ¬ (k : Int) < (t.length : Int) := by omega
          have HLT := hid (adj_lt HU2.out (fun i h1 h2 => HNE.out i h1 (by omega)))
          have HND := hid (show (l.map (·.1)).Nodup from (HP2.out.map _).nodup_iff.1 (pair_nodup HLT.out))
          have HET := hid (HE2.out.drew q)
          have HBW := hid (below_n HB2.out q)
          generalize w2.drewN q = W2 at *
          have HLN := hid (show ([] : List Ent).length + t.length ≤ 3298534883328 by have := HTL.out; simp; omega)
          clear HO2 HE2 HB2 HNE HU2
          go_wp2_with (at_builtin; refine app_ent rfl _ _ rfl W2.heap.size _ [] rfl (OwnE.nil _ _) t _ rfl HET.out HLN.out (Nat.le_refl _) ?_)
          intro v5 w5 ho5 hg5 _
          have HS0 : Hid (RmS W2 t [] [] false false v5 w5) := ⟨Rmk.start t, by rw [List.map_nil, List.append_nil]; exact ho5, gb_below hg5, by simp⟩
          obtain ⟨a5, c5, h5⟩ := ho5.ents.shape
          generalize ([] ++ t).length = n5 at h5
          subst h5
          clear ho5 hg5
          go_wp2
          go_loopw [7, 8, 9, 10] (fun x m wg i wr => ∃ k : Nat, i = .int .i64 k ∧ k ≤ t.length ∧ ∃ dn ds mb wb, m = .bool mb ∧ wg = .bool wb ∧ RmS W2 t dn ds mb wb x wr ∧ dnAll t k dn) (fun _ _ _ i _ => t.length - (intOf i).toNat)
          case atStart => exact ⟨0, rfl, Nat.zero_le _, [], [], false, false, rfl, rfl, HS0.out, fun d => by simp⟩
          case round =>
            obtain ⟨k, rfl, hk, dn, ds, mb, wb, rfl, rfl, hst, hdn⟩ := hrel
            have HST := hid hst
            have HDN := hid hdn
            obtain ⟨nx, HNX⟩ : ∃ n : Nat, Hid ((t ++ ds.map dirE).length = n) := ⟨_, rfl⟩
            obtain ⟨ax, cx, hx⟩ := hst.own.ents.shape
            rw [HNX.out] at hx
            subst hx
            clear hst hdn HS0
            by_cases hlt : k < t.length
            · have q4 : (k : Int) < (t.length : Int) := by omega
              obtain ⟨g, o, rfl, hgl, hcell⟩ := (HET.out.below HST.out.bel).at k hlt
              obtain ⟨e, HE⟩ : ∃ e, Hid (t.getD k zE = e) := ⟨_, rfl⟩
              have HEM := hid (HP2.out.mem_iff.1 (getD_mem hlt))
              rw [HE.out] at hcell HEM
              obtain ⟨c0, _, _⟩ := hcell
              have HME := hid (HMY.out e HEM.out)
              have HOK := hid (mayP_ok HME.out)
              have HNL := hid (List.length_pos_iff.2 (mayP_nms HME.out))
              obtain ⟨p, HPP⟩ : ∃ p, Hid (e.1 = p) := ⟨_, rfl⟩
              have HPL := hid (HL.out e HEM.out).1
              rw [HPP.out] at c0 HOK HNL HPL
              have HUP := hid (fun W => rup_any p W HPL.out)
              rw [up_first HOK.out] at HUP
              clear hgl
              go_wp2_with (go_at_call 28; refine (HUP.out _).mono ?_; rintro r w6 ⟨rfl, hb6⟩)
              have HS6 := hid (HST.out.below hb6)
              clear hb6 HUP HST c0
              go_loopw [7, 8, 9, 11] (fun x m wg s wr => ∃ j : Nat, j < (nms p).length ∧ s = .string (mk (txt ((nms p).take j))) ∧ ∃ dn ds mb wb, m = .bool mb ∧ wg = .bool wb ∧ RmS W2 t dn ds mb wb x wr ∧ DnIn t k p j dn) (fun _ _ _ s _ => szOf s)
              case atStart => exact ⟨_, by have := HNL.out; omega, rfl, dn, ds, mb, wb, rfl, rfl, HS6.out, DnIn.start HDN.out p⟩
              case round =>
                obtain ⟨j, hj, rfl, dn, ds, mb, wb, rfl, rfl, hst, hdn⟩ := hrel
                have HST := hid hst
                have HDI := hid hdn
                obtain ⟨nx, HNX⟩ : ∃ n : Nat, Hid ((t ++ ds.map dirE).length = n) := ⟨_, rfl⟩
                obtain ⟨ax, cx, hx⟩ := hst.own.ents.shape
                rw [HNX.out] at hx
                subst hx
                have HNN := hid (show nx = t.length + ds.length by rw [← HNX.out]; simp)
                clear hst hdn HS6 HDN
                by_cases hj0 : j = 0
                · have HN := hid (show dnAll t (k + 1) dn from DnIn.done hlt (by rw [HE.out, HPP.out, ← hj0]; exact HDI.out))
                  subst hj0
                  have e1 : (mk (txt ((nms p).take 0))).toList = [] := bl_mk []
                  generalize mk (txt ((nms p).take 0)) = sd at *
                  clear HDI
                  go_wp2
                  exact ⟨⟨k + 1, by simp, by omega, dn, ds, mb, wb, rfl, rfl, HST.out, HN.out⟩, by simp [intOf]; omega⟩
                · obtain ⟨d, HD⟩ : ∃ d, Hid (txt ((nms p).take j) = d) := ⟨_, rfl⟩
                  have HAN := hid (show d ∈ ancs p from mem_ancs.2 ⟨j, by omega, hj, HD.out.symm⟩)
                  have HOD := hid (ancs_ok HOK.out HAN.out)
                  have HUN := hid (up_step HOK.out (show 1 ≤ j by omega) hj)
                  have HDN2 := hid (HDI.out.step (by omega) hj)
                  have HDL := hid (okP_short HOD.out.1)
                  have HSH := hid (spD_short HOD.out.1 HOD.out.2)
                  rw [HD.out] at HUN HDN2 ⊢
                  have e1 : ¬ (mk d).toList = [] := fun h => HOD.out.2 ((bl_mk d).symm.trans h)
                  have e2 : ((mk d).toList == []) = false := by simpa using e1
                  have e3 : (mk d).toList.isEmpty = false := by simpa using e1
                  have HFA := hid (rfind_any _ _ d wr HST.out.own.ents (by rw [HNX.out]; have := HNN.out; have := HTL.out; have := HST.out.len; omega))
                  have HFT := hid (rfind_any _ _ d wr (HET.out.below HST.out.bel) (by have := HTL.out; omega))
                  have HUD := hid (fun W => rup_any d W (by have := HDL.out; omega))
                  have hsz : (mk (spD d)).size < (mk d).size := by rw [mk_size, mk_size]; exact HSH.out
                  rw [HUN.out] at HUD hsz HSH
                  cases hf : fiP (t ++ ds.map dirE) d with
                  | none =>
                    obtain ⟨hnw, hnd⟩ := all_new hf
                    have hf1 : fiN (t ++ ds.map dirE) d = -1 := by unfold fiN; rw [hf]
                    have hf2 : fiN t d = -1 := by unfold fiN; rw [fiP_none.2 hnw]
                    rw [hf1] at HFA
                    rw [hf2] at HFT
                    by_cases hmn : 1024 < nx
                    · have q5 : (1024 : Int) < (nx : Int) := by omega
                      have HR := hid (HST.out.rmk.many d (by rw [← HNN.out]; exact hmn) hnw)
                      have HB7 := hid HST.out.bel
                      have HO7 := hid HST.out.own
                      have HL7 := hid HST.out.len
                      clear hf hf1 hf2 hnw hnd hmn HST HDI
                      generalize mk d = sd at *
                      cases wb with
                      | true =>
                        go_wp2_with fail
                        refine HFA.out.mono ?_
                        rintro r w7 ⟨rfl, rfl⟩
                        clear HFA
                        go_wp2_with (first | (go_at_call 29; refine HFT.out.mono ?_; rintro r w7 ⟨rfl, rfl⟩) | (go_at_call 28; refine (HUD.out _).mono ?_; rintro r w8 ⟨rfl, hb8⟩))
                        exact ⟨⟨j - 1, by omega, rfl, _, ds, true, true, rfl, rfl, RmS.below ⟨HR.out, HO7.out, HB7.out, HL7.out⟩ hb8, HDN2.out⟩, by simpa [szOf] using hsz⟩
                      | false =>
                        go_wp2_with fail
                        refine HFA.out.mono ?_
                        rintro r w7 ⟨rfl, rfl⟩
                        clear HFA
                        go_wp2_with (first | (go_at_call 29; refine HFT.out.mono ?_; rintro r w7 ⟨rfl, rfl⟩) | (go_at_call 28; refine (HUD.out _).mono ?_; rintro r w8 ⟨rfl, hb8⟩))
                        exact ⟨⟨j - 1, by omega, rfl, _, ds, true, false, rfl, rfl, RmS.below ⟨HR.out, HO7.out, HB7.out, HL7.out⟩ hb8, HDN2.out⟩, by simpa [szOf] using hsz⟩
                    · have q5 : ¬ (1024 : Int) < (nx : Int) := by omega
                      have HR := hid (HST.out.rmk.add d hnd hnw)
                      have HLA := hid (show (t ++ ds.map dirE).length + [dirE d].length ≤ 3298534883328 by rw [HNX.out]; simp; omega)
                      have HLD := hid (show (ds ++ [d]).length ≤ 1025 by have := HNN.out; simp; omega)
                      have HOB := hid (below_walk wr (.cells #[.string (mk d), .int .i64 2, .string ⟨#[]⟩] 25))
                      have HO7 := hid (HST.out.own.below HOB.out)
                      have HE7 : Hid (Ents (wr.alloc (.cells #[.string (mk d), .int .i64 2, .string ⟨#[]⟩] 25)) (.slice (some ⟨wr.heap.size, 0, none⟩) 1 1) [dirE d]) := ents_one wr (dirE d)
                      have HB7 := hid (HST.out.bel.trans (HOB.out.mono HST.out.bel.size))
                      have HEL := hid (show t ++ (ds.map dirE ++ [dirE d]) = t ++ (ds ++ [d]).map dirE by simp)
                      clear hf hf1 hf2 hnw hnd hmn HST HDI HFT
                      generalize mk d = sd at *
                      go_wp2_with fail
                      refine HFA.out.mono ?_
                      rintro r w7 ⟨rfl, rfl⟩
                      clear HFA
                      go_wp2_with (first | (at_builtin; refine app_ent rfl _ _ rfl W2.heap.size _ (t ++ ds.map dirE) rfl HO7.out [dirE d] _ rfl HE7.out HLA.out HB7.out.size ?_))
                      intro v8 w8 ho8 hg8 _
                      rw [HEL.out] at ho8
                      have HS8 := hid (⟨HR.out, ho8, HB7.out.grown hg8 HB7.out.size (fun j hj => (HO7.out.lt j hj).1), HLD.out⟩ : RmS W2 t _ (ds ++ [d]) mb wb v8 w8)
                      obtain ⟨a8, c8, h8⟩ := ho8.ents.shape
                      generalize (t ++ (ds ++ [d]).map dirE).length = n8 at h8
                      subst h8
                      clear ho8 hg8 HR HO7 HE7 HB7 HOB
                      go_wp2_with (go_at_call 28; refine (HUD.out _).mono ?_; rintro r w9 ⟨rfl, hb9⟩)
                      exact ⟨⟨j - 1, by omega, rfl, _, _, mb, wb, rfl, rfl, HS8.out.below hb9, HDN2.out⟩, by simpa [szOf] using hsz⟩
                  | some i =>
                    obtain ⟨hi1, hi2, _⟩ := fiP_some.1 hf
                    have hf1 : fiN (t ++ ds.map dirE) d = (i : Int) := by unfold fiN; rw [hf]
                    rw [hf1] at HFA
                    obtain ⟨g7, o7, rfl, hg7, hcell7⟩ := HST.out.own.ents.at i hi1
                    obtain ⟨y, HY⟩ : ∃ y, Hid ((t ++ ds.map dirE).getD i zE = y) := ⟨_, rfl⟩
                    have HYM := hid (getD_mem hi1)
                    rw [HY.out] at hcell7 HYM hi2
                    obtain ⟨_, x1, _⟩ := hcell7
                    have q6 : (i : Int) < (nx : Int) := by rw [HNX.out] at hi1; omega
                    have HR := hid (HST.out.rmk.hit (pair_nodup HLT.out) y HYM.out)
                    rw [hi2] at HR
                    have HB7 := hid HST.out.bel
                    have HO7 := hid HST.out.own
                    have HL7 := hid HST.out.len
                    clear hf hf1 hi1 hi2 hg7 HST HDI HFT
                    generalize mk d = sd at *
                    cases wb with
                    | true =>
                      go_wp2_with fail
                      refine HFA.out.mono ?_
                      rintro r w7 ⟨rfl, rfl⟩
                      clear HFA
                      go_wp2_with (first | (go_at_call 28; refine (HUD.out _).mono ?_; rintro r w8 ⟨rfl, hb8⟩))
                      exact ⟨⟨j - 1, by omega, rfl, _, ds, mb, true, rfl, rfl, RmS.below ⟨HR.out, HO7.out, HB7.out, HL7.out⟩ hb8, HDN2.out⟩, by simpa [szOf] using hsz⟩
                    | false =>
                      obtain ⟨K, HK⟩ : ∃ K : Int, Hid (y.2.1 = K) := ⟨_, rfl⟩
                      rw [HK.out] at x1 HR
                      by_cases hK : K = 2
                      · subst hK
                        go_wp2_with fail
                        refine HFA.out.mono ?_
                        rintro r w7 ⟨rfl, rfl⟩
                        clear HFA
                        go_wp2_with (first | (go_at_call 28; refine (HUD.out _).mono ?_; rintro r w8 ⟨rfl, hb8⟩))
                        exact ⟨⟨j - 1, by omega, rfl, _, ds, mb, false, rfl, rfl, RmS.below ⟨by simpa using HR.out, HO7.out, HB7.out, HL7.out⟩ hb8, HDN2.out⟩, by simpa [szOf] using hsz⟩
                      · have hK2 : (K == 2) = false := by simpa using hK
                        have HR2 := hid HR.out
                        rw [show (false || decide (K ≠ 2)) = true by simpa using hK] at HR2
                        go_wp2_with fail
                        refine HFA.out.mono ?_
                        rintro r w7 ⟨rfl, rfl⟩
                        clear HFA
                        go_wp2_with (first | (go_at_call 28; refine (HUD.out _).mono ?_; rintro r w8 ⟨rfl, hb8⟩))
                        exact ⟨⟨j - 1, by omega, rfl, _, ds, mb, true, rfl, by simp [bne, hK2], RmS.below ⟨HR2.out, HO7.out, HB7.out, HL7.out⟩ hb8, HDN2.out⟩, by simpa [szOf] using hsz⟩
            · have q4 : ¬ (k : Int) < (t.length : Int) := by omega
              obtain rfl : k = t.length := by omega
              have HEND := hid (HST.out.end HDN.out HP2.out HMY.out HND.out)
              rw [HNX.out] at HEND
              have HBF := hid (show Below w.heap.size w wr from HBW.out.trans (HST.out.bel.mono HBW.out.size))
              have HNN := hid (show nx = t.length + ds.length by rw [← HNX.out]; simp)
              cases wb with
              | true =>
                have HP := hid (HEND.out.1 rfl)
                go_wp2
                go_ret2
                rw [HP.out]
                exact ⟨rfl, HBF.out⟩
              | false =>
                by_cases hmn : (mb || decide (1024 < nx)) = true
                · have HP := hid (HEND.out.2.1 rfl hmn)
                  cases mb with
                  | true =>
                    go_wp2
                    go_ret2
                    rw [HP.out]
                    exact ⟨rfl, HBF.out⟩
                  | false =>
                    have q5 : (1024 : Int) < (nx : Int) := by simp at hmn; omega
                    clear hmn
                    go_wp2
                    go_ret2
                    rw [HP.out]
                    exact ⟨rfl, HBF.out⟩
                · rw [Bool.not_eq_true] at hmn
                  obtain ⟨z1, z2, z3, z4⟩ := HEND.out.2.2 rfl hmn
                  obtain ⟨rfl, hm2⟩ : mb = false ∧ decide (1024 < nx) = false := by simpa using hmn
                  have q5 : ¬ (1024 : Int) < (nx : Int) := by simp at hm2; omega
                  have HSZ := hid (rsize_any _ _ wr HST.out.own.ents (by rw [HNX.out]; omega) (by rw [z1]; exact HZ.out))
                  rw [z1] at HSZ
                  obtain ⟨Z, HZZ⟩ : ∃ Z : Nat, Hid (szP l = Z) := ⟨_, rfl⟩
                  have HSO := hid (rsort_any _ _ (Nat.le_refl _) (by rw [HNX.out]; omega) z4 _ wr HST.out.own.ents)
                  rw [HZZ.out] at HSZ z2 z3
                  have Z2 := hid z2
                  have Z3 := hid z3
                  clear z1 z2 z3 z4 hmn hm2 HEND
                  by_cases hbig : 1048576 < Z
                  · have q6 : (1048576 : Int) < (Z : Int) := by omega
                    have HP := hid (Z2.out hbig)
                    clear hbig Z2 Z3
                    go_wp2_with (go_at_call 46; refine HSZ.out.mono ?_; rintro r w7 ⟨rfl, rfl⟩)
                    go_ret2
                    rw [HP.out]
                    exact ⟨rfl, HBF.out⟩
                  · have q6 : ¬ (1048576 : Int) < (Z : Int) := by omega
                    have HP := hid (Z3.out hbig)
                    clear hbig Z2 Z3
                    go_wp2_with (first | (go_at_call 46; refine HSZ.out.mono ?_; rintro r w7 ⟨rfl, rfl⟩) | (go_at_call 31; refine HSO.out.mono ?_; rintro r w8 ⟨v8, l8, rfl, ho8, hp8, hu8, hb8⟩))
                    go_ret2
                    rw [HP.out l8 hp8 hu8]
                    exact ⟨⟨v8, rfl, ho8.le HBF.out.size⟩, HBF.out.trans (hb8.mono HBF.out.size)⟩

end Go.Proofs.YteijkbanlpodpaaGreatDoor

/- made: a tree made of one. -/
namespace Go.Proofs.YteijkbanlpodpaaGreatDoor
open Go.RowKit Go.BigFrame

/-- what made answers -/
def mdP (k : Nat) (t : List Ent) (x : Ent) (d : List UInt8) : Except Int (List Ent) := if k = 0 then putP t x else if k = 1 then sbP t d else if k = 2 then mkP t else grP t d []
theorem EBk.tre' {t : List Ent} (h : EBk t) : Tre t := ⟨by have := h.len; omega, fun e he => by have := h.bulk e he; unfold Shr; omega, by have := h.sz; omega⟩

set_option maxRecDepth 100000 in
set_option maxHeartbeats 4000000 in
theorem made_any (k : Nat) (hk : k < 4) (v : Value) (t : List Ent) (x : Ent) (d : List UInt8) (w : World) (h : Ents w v t) (hb : EBk t) (hx : x.1.length ≤ 1048576) (hd : d.length ≤ 1048576) :
    Calls Tryz.prog 16 #[.int .i64 k, v, entA x, .string (mk d)] w fun r w' => AnsE w' w.heap.size r (mdP k t x d) ∧ Below w.heap.size w w' := by
  have HB0 := hid (below_walk w (.cells #[.string (mk x.1), .int .i64 x.2.1, .string (mk x.2.2)] 25))
  have HE := hid (h.below HB0.out)
  have HL := hid hb.len
  have HP := hid (put_any v t x _ HE.out hb.short (by have := hb.len; omega) (by omega))
  have HS := hid (sub_any v t d _ HE.out hb.short (by have := hb.len; omega) (by omega))
  have HM := hid (make_any v t _ HE.out hb.tre')
  have HG := hid (graft_any v (.slice none 0 0) t [] d _ HE.out (Ents.nil _) hb.short (fun e he => by cases he) (by have := hb.len; omega) (by simp) (by omega))
  obtain ⟨ao, c, e0⟩ := h.shape
  subst e0
  clear h hb
  unfold entA at HP ⊢
  rcases (show k = 0 ∨ k = 1 ∨ k = 2 ∨ k = 3 by omega) with rfl | rfl | rfl | rfl
  · go_enter Tryz.func16, Tryz.ntmps16
    go_wp2_with (go_at_call 6; refine HP.out.mono ?_; rintro r w1 ⟨ha, hb1⟩; have HA := hid (ansE_le ha HB0.out.size); have HB1 := hid (below_then HB0.out hb1); obtain ⟨a1, n1, c1, E1, e1⟩ := ansE_shape ha; subst e1; clear ha hb1)
    go_ret2
    exact ⟨HA.out, HB1.out⟩
  · go_enter Tryz.func16, Tryz.ntmps16
    go_wp2_with (go_at_call 10; refine HS.out.mono ?_; rintro r w1 ⟨ha, hb1⟩; have HA := hid (ansE_le ha HB0.out.size); have HB1 := hid (below_then HB0.out hb1); obtain ⟨a1, n1, c1, E1, e1⟩ := ansE_shape ha; subst e1; clear ha hb1)
    go_ret2
    exact ⟨HA.out, HB1.out⟩
  · go_enter Tryz.func16, Tryz.ntmps16
    go_wp2_with (go_at_call 43; refine HM.out.mono ?_; rintro r w1 ⟨ha, hb1⟩; have HA := hid (ansE_le ha HB0.out.size); have HB1 := hid (below_then HB0.out hb1); obtain ⟨a1, n1, c1, E1, e1⟩ := ansE_shape ha; subst e1; clear ha hb1)
    go_ret2
    exact ⟨HA.out, HB1.out⟩
  · go_enter Tryz.func16, Tryz.ntmps16
    go_wp2_with (go_at_call 12; refine HG.out.mono ?_; rintro r w1 ⟨ha, hb1⟩; have HA := hid (ansE_le ha HB0.out.size); have HB1 := hid (below_then HB0.out hb1); obtain ⟨a1, n1, c1, E1, e1⟩ := ansE_shape ha; subst e1; clear ha hb1)
    go_ret2
    exact ⟨HA.out, HB1.out⟩

/-- a row of one's own, to be written over: only which block, and what kind -/
structure Own1 (W : World) (base : Nat) (a : Option Addr) (n c : Nat) : Prop where
  none' : a = none → n = 0
  row : ∀ ad, a = some ad → ∃ g cur, ad = ⟨g, 0, none⟩ ∧ base ≤ g ∧ W.heap[g]? = some (.cells cur 25 (0, 0)) ∧ cur.size = c * 3 ∧ n ≤ c
theorem OwnE.own1 {W : World} {base : Nat} {a : Option Addr} {n c : Nat} {es : List Ent} (h : OwnE W base (.slice a n c) es) : Own1 W base a n c := by
  rcases h.2 with ⟨h0, _⟩ | ⟨g, cap, cur, hv, hb, hh, h1, h2, h3, _⟩
  · injection h0 with h0 h1 _
    exact ⟨fun _ => h1, fun ad e => by rw [h0] at e; cases e⟩
  · injection hv with hv1 hv2 hv3
    subst hv1 hv3
    exact ⟨fun e => by (cases e), fun ad e => by injection e with e; exact ⟨g, cur, e.symm, hb, hh, h3, by omega⟩⟩

end Go.Proofs.YteijkbanlpodpaaGreatDoor

/- TreeMakes answers true. -/
namespace Go.Proofs.YteijkbanlpodpaaGreatDoor
open Go.RowKit

/-- what two answers that are one give -/
theorem ans_two {w1 w2 : World} {b1 b2 : Nat} {r1 r2 : Ending} {x : Except Int (List Ent)} (h1 : AnsE w1 b1 r1 x) (h2 : AnsE w2 b2 r2 x) (hb : Below w1.heap.size w1 w2) :
    ∃ (v1 v2 : Value) (l : List Ent) (n : Int), r1 = .returned (.tuple #[v1, .int .i64 n]) ∧ r2 = .returned (.tuple #[v2, .int .i64 n]) ∧ Ents w2 v1 l ∧ Ents w2 v2 l ∧ (x = .ok l ∨ l = []) := by
  cases x with
  | ok l =>
    obtain ⟨v1, e1, o1⟩ := h1
    obtain ⟨v2, e2, o2⟩ := h2
    exact ⟨v1, v2, l, 0, e1, e2, o1.ents.below hb, o2.ents, Or.inl rfl⟩
  | error e => exact ⟨_, _, [], e, h1, h2, Ents.nil _, Ents.nil _, Or.inr rfl⟩
theorem mkP_len {l t : List Ent} (h : mkP l = .ok t) : t.length ≤ 1024 := by
  unfold mkP at h
  split at h
  · cases h
  · split at h
    · cases h
    · split at h
      · cases h
      · split at h
        · cases h
        · split at h
          · cases h
          · cases h
            rw [(sortE_perm _).length_eq, List.length_append, List.length_map]
            omega

end Go.Proofs.YteijkbanlpodpaaGreatDoor

/- Rows of one's own that are written over; entries appended from anywhere; what stands meanwhile. -/
namespace Go.Proofs.YteijkbanlpodpaaGreatDoor
open Go.RowKit Go.BigFrame

/-- the mark -/
def mkM : Ent := ([109, 97, 114, 107], 9, [])
/-- what is written over -/
def otM : Ent := ([111, 116, 104, 101, 114], 8, [])
def ecs (x : Ent) : List Value := [.string (mk x.1), .int .i64 x.2.1, .string (mk x.2.2)]
theorem Tryz.infoEnt1 : (Tryz.prog.info? 25).map (·.size) = some 3 := by kernel_rfl
theorem row_rng {w : World} {b : Nat} {cs : List Value} {T : TypeId} (h : w.heap[b]? = some (.cells cs.toArray T (0, 0))) : w.rangeAt b 0 cs := fun j v hv => by
  rw [Nat.zero_add, cell_of_row w b j cs.toArray T (0, 0) h]; simpa using hv

theorem step_app_ent {ops : Array Oper} {o : Oper} {a : Act} {w : World} {K : Act → World → Prop} {Q : Exit → Act → World → Prop} {E : Prop} (hgd : o.guard = none) (s x : Operand)
    (ho : o.op = .call { callee := .builtin .append, args := #[s, x], argTypes := #[22, 22] })
    (base : Nat) (v : Value) (ts : List Ent) (hs : a.eval s = v) (hown : OwnE w base v ts) (vx : Value) (us : List Ent) (hx : a.eval x = vx) (hc : Ents w vx us)
    (hlen : ts.length + us.length ≤ 3298534883328) (hbase : base ≤ w.heap.size)
    (h : ∀ v' w', OwnE w' base v' (ts ++ us) → w.grownBy w' v.ownBlock → K (a.put o.dst v') w') : if Region.wanted o (yielded ops a.tmps) = true then Oper.wp Tryz.prog o a w K Q else E := by
  rw [if_pos (by simp [Region.wanted, hgd])]
  obtain ⟨i0, hi, hz0, hz1, hz2⟩ := info_parts Tryz.infoEnt
  have fin : ∀ (ad : Addr) (m c : Nat) (news : List Value), news = entsV us → vx = .slice (some ad) m c → m = us.length → (∀ j u, news[j]? = some u → w.cell? (ad.add j) = some u) → Oper.wp Tryz.prog o a w K Q := by
    intro ad m c news hn hv hm hcl
    subst hn hv hm
    have hl : (entsV us).length = us.length * 3 := entsV_length us
    obtain ⟨v', w', hr, h2, h3, _⟩ := run_append_own (P := Tryz.prog) w base 22 o.type 25 i0 (.agg #[.string ⟨#[]⟩, .int .i64 0, .string ⟨#[]⟩]) 3 40 Tryz.underlying22 hi hz0 hz1 hz2 rfl (by decide) v ts.length (entsV ts) hown ad us.length c (entsV us) hl hcl (entsV_one us) (by unfold maxLen; omega) (by omega) hbase
    unfold Oper.wp
    simp [execOp, ho, resolve, invoke, builtin, hs, hx, hr, Result.andThen]
    refine h v' w' ?_ h3
    unfold OwnE
    rw [List.length_append, entsV_app]
    exact h2
  rcases hc with ⟨ao, c, rfl, rfl, h0⟩ | ⟨g, off, c, rfl, hlt, h1, h2⟩
  · cases ao with
    | none =>
      obtain rfl := h0 rfl
      have hrun := run_append_owned_none (P := Tryz.prog) (w := w) base 22 o.type 25 i0 3 Tryz.underlying22 hi v ts.length (entsV ts) hown
      unfold Oper.wp
      simp [execOp, ho, resolve, invoke, builtin, hs, hx, hrun, Result.andThen]
      exact h v w (by simpa using hown) (gb_refl _ _)
    | some ad => exact fin ad 0 c [] rfl rfl rfl (fun j u hj => by simp at hj)
  · refine fin ⟨g, off, none⟩ _ c _ rfl rfl rfl ?_
    intro i u hi
    obtain ⟨j, hj, h3⟩ := entsV_inv hi
    obtain ⟨c0, c1, c2⟩ := h2 j hj
    rw [show (⟨g, off, none⟩ : Addr).add i = ⟨g, off + i, none⟩ by by_cases h0 : i = 0 <;> simp [Addr.add, h0]]
    rcases h3 with ⟨rfl, rfl⟩ | ⟨rfl, rfl⟩ | ⟨rfl, rfl⟩
    · exact c0
    · rw [← Nat.add_assoc]; exact c1
    · rw [← Nat.add_assoc]; exact c2

/-- a row that may be written over: how many it has, not which -/
def RoE (w : World) (base : Nat) (v : Value) (n : Nat) : Prop := ∃ xs, w.ownsRow base 25 3 v n xs
theorem OwnE.ro {w : World} {base : Nat} {v : Value} {es : List Ent} (h : OwnE w base v es) : RoE w base v es.length := ⟨_, h⟩
theorem RoE.kept {base n : Nat} {w w' : World} {v : Value} {row : Option Nat} (h : RoE w base v n) (hg : w.grownBy w' row) (hne : v.ownBlock = none ∨ v.ownBlock ≠ row) : RoE w' base v n := let ⟨xs, hx⟩ := h; ⟨xs, World.ownsRow.kept hx hg hne⟩
theorem RoE.below {base n : Nat} {w w' : World} {v : Value} (h : RoE w base v n) (hb : Below w.heap.size w w') : RoE w' base v n :=
  h.kept (below_gb hb none) (by cases e : v.ownBlock <;> simp)
theorem RoE.lt {base n : Nat} {w : World} {v : Value} (h : RoE w base v n) : ∀ k, v.ownBlock = some k → base ≤ k ∧ k < w.heap.size := let ⟨_, hx⟩ := h; World.ownsRow.lt hx
theorem RoE.form {base n : Nat} {w : World} {v : Value} (h : RoE w base v n) (hn : 0 < n) : ∃ g cap, v = .slice (some ⟨g, 0, none⟩) n cap ∧ base ≤ g ∧ g < w.heap.size := by
  obtain ⟨xs, hx⟩ := h
  rcases hx.2 with ⟨_, h0⟩ | ⟨g, cap, cur, hv, hb, hh, _⟩
  · omega
  · exact ⟨g, cap, hv, hb, hp_lt hh⟩
theorem RoE.set {base n g cap : Nat} {w : World} (h : RoE w base (.slice (some ⟨g, 0, none⟩) n cap) n) (j : Nat) (u : Value) : RoE (w.setCell ⟨g, j, none⟩ u) base (.slice (some ⟨g, 0, none⟩) n cap) n := by
  obtain ⟨xs, hx⟩ := h
  obtain ⟨hl, h0 | ⟨g', cap', cur, hv, hb, hh, h1, h2, h3, h4⟩⟩ := hx
  · cases h0.1
  · injection hv with e1 e2 e3
    injection e1 with e1
    injection e1 with e1
    subst e1 e3
    refine ⟨(cur.setIfInBounds j u).toList.take (n * 3), ?_, Or.inr ⟨g, cap, cur.setIfInBounds j u, rfl, hb, blk_set hh u, h1, h2, by simpa using h3, rfl⟩⟩
    rw [List.length_take, Array.length_toList, Array.size_setIfInBounds]
    rw [← h4, List.length_take, Array.length_toList] at hl
    exact hl
theorem RoE.cell {base n g cap : Nat} {w : World} (h : RoE w base (.slice (some ⟨g, 0, none⟩) n cap) n) (j : Nat) (hj : j < n * 3) : (∃ u, w.cell? ⟨g, j, none⟩ = some u) ∧ w.frozen? ⟨g, j, none⟩ = false := by
  obtain ⟨xs, hx⟩ := h
  have hx' := hx
  obtain ⟨hl, h0 | ⟨g', cap', cur, hv, hb, hh, h1, h2, h3, h4⟩⟩ := hx
  · cases h0.1
  · injection hv with e1 e2 e3
    injection e1 with e1
    injection e1 with e1
    subst e1
    refine ⟨?_, by simp [World.frozen?, hh]⟩
    have := World.ownsRow.cells hx' (g := g) rfl j _ (List.getElem?_eq_getElem (by omega))
    rw [show (⟨g, 0, none⟩ : Addr).add j = ⟨g, j, none⟩ by by_cases h0 : j = 0 <;> simp [Addr.add, h0]] at this
    exact ⟨_, this⟩
theorem RoE.there3 {base n g cap : Nat} {w : World} (h : RoE w base (.slice (some ⟨g, 0, none⟩) n cap) n) (i : Nat) (hi : i < n) : w.there g (i * 3) 3 := fun j hj => by
  obtain ⟨⟨u, hu⟩, hf⟩ := h.cell (i * 3 + j) (by omega)
  exact ⟨by rw [hu]; rfl, hf⟩
theorem gb_sets3 (w : World) (g o : Nat) (a b c : Value) : w.grownBy (w.setCells g o [a, b, c]) (some g) :=
  gb_trans (gb_trans (gb_set w ⟨g, o, none⟩ a) (gb_set _ ⟨g, o + 1, none⟩ b)) (gb_set _ ⟨g, o + 1 + 1, none⟩ c)
set_option maxRecDepth 20000 in
theorem RoE.sets3 {base n g cap : Nat} {w : World} (h : RoE w base (.slice (some ⟨g, 0, none⟩) n cap) n) (o : Nat) (a b c : Value) : RoE (w.setCells g o [a, b, c]) base (.slice (some ⟨g, 0, none⟩) n cap) n :=
  ((h.set o a).set (o + 1) b).set (o + 1 + 1) c
set_option maxRecDepth 20000 in
/-- append onto such a row: what comes of it is not asked -/
theorem app_roE {w : World} {ops : Array Oper} {rest : List Oper} {o : Oper} {a : Act} {Q : Exit → Act → World → Prop} (hgd : o.guard = none) (s x : Operand)
    (ho : o.op = .call { callee := .builtin .append, args := #[s, x], argTypes := #[22, 22] })
    (base : Nat) (v : Value) (n : Nat) (hs : a.eval s = v) (hown : RoE w base v n) (g c : Nat) (us : List Ent) (hx : a.eval x = .slice (some ⟨g, 0, none⟩) us.length c)
    (hc : Ents w (.slice (some ⟨g, 0, none⟩) us.length c) us) (hlen : n + us.length ≤ 1000000000000) (hbase : base ≤ w.heap.size)
    (h : ∀ v' w', w.grownBy w' v.ownBlock → wpList Tryz.prog ops Q rest (a.put o.dst v') w') : wpList Tryz.prog ops Q (o :: rest) a w := by
  refine wpList_plain hgd fun K hK => ?_
  obtain ⟨i0, hi, hz0, hz1, hz2⟩ := info_parts Tryz.infoEnt
  obtain ⟨xs, hx0⟩ := hown
  have hcl : ∀ j u, (entsV us)[j]? = some u → w.cell? ((⟨g, 0, none⟩ : Addr).add j) = some u := by
    intro i u hi
    obtain ⟨j, hj, h3⟩ := entsV_inv hi
    obtain ⟨g1, o1, e1, _, c0, c1, c2⟩ := hc.at j hj
    injection e1 with e1
    injection e1 with e1 e2
    subst e1 e2
    rw [show (⟨g, 0, none⟩ : Addr).add i = ⟨g, 0 + i, none⟩ by by_cases h0 : i = 0 <;> simp [Addr.add, h0]]
    rcases h3 with ⟨rfl, rfl⟩ | ⟨rfl, rfl⟩ | ⟨rfl, rfl⟩
    · exact c0
    · rw [← Nat.add_assoc]; exact c1
    · rw [← Nat.add_assoc]; exact c2
  obtain ⟨v', w', hr, h1, h2, _⟩ := run_append_own (P := Tryz.prog) w base 22 o.type 25 i0 (.agg #[.string ⟨#[]⟩, .int .i64 0, .string ⟨#[]⟩]) 3 40 Tryz.underlying22 hi hz0 hz1 hz2 rfl (by decide) v n xs hx0 ⟨g, 0, none⟩ us.length c (entsV us) (entsV_length us) hcl (entsV_one us) (by unfold maxLen; omega) (by omega) hbase
  unfold Oper.wp
  simp [execOp, ho, resolve, invoke, builtin, hs, hx, hr, Result.andThen]
  exact hK _ _ (h v' w' h2)

/-- three marks -/
def mk3 : List Ent := [mkM, mkM, mkM]
def mk3c : Array Value := #[.string (mk mkM.1), .int .i64 9, .string (mk mkM.2.2), .string (mk mkM.1), .int .i64 9, .string (mk mkM.2.2), .string (mk mkM.1), .int .i64 9, .string (mk mkM.2.2)]
theorem ents_three (w : World) : Ents (w.alloc (.cells mk3c 25)) (.slice (some ⟨w.heap.size, 0, none⟩) 3 3) mk3 :=
  Or.inr ⟨w.heap.size, 0, 3, rfl, by simp, by decide, fun j hj => by
    have hj2 : j = 0 ∨ j = 1 ∨ j = 2 := by simp [mk3] at hj; omega
    have hh := hp_new w (.cells mk3c 25)
    rcases hj2 with rfl | rfl | rfl
    · exact ⟨by rw [cell_of_row _ _ _ _ _ _ hh]; rfl, by rw [cell_of_row _ _ _ _ _ _ hh]; rfl, by rw [cell_of_row _ _ _ _ _ _ hh]; rfl⟩
    · exact ⟨by rw [cell_of_row _ _ _ _ _ _ hh]; rfl, by rw [cell_of_row _ _ _ _ _ _ hh]; rfl, by rw [cell_of_row _ _ _ _ _ _ hh]; rfl⟩
    · exact ⟨by rw [cell_of_row _ _ _ _ _ _ hh]; rfl, by rw [cell_of_row _ _ _ _ _ _ hh]; rfl, by rw [cell_of_row _ _ _ _ _ _ hh]; rfl⟩⟩
theorem apart_hi {v : Value} {b : Nat} {row : Option Nat} (h : ∀ k, v.ownBlock = some k → b ≤ k) (hr : ∀ k, row = some k → k < b) : v.ownBlock = none ∨ v.ownBlock ≠ row := by
  cases e : v.ownBlock with
  | none => exact Or.inl rfl
  | some k => exact Or.inr (fun x => by have := hr k x.symm; have := h k e; omega)
theorem apart_lo {v : Value} {b : Nat} {row : Option Nat} (h : ∀ k, v.ownBlock = some k → k < b) (hr : ∀ k, row = some k → b ≤ k) : v.ownBlock = none ∨ v.ownBlock ≠ row := by
  cases e : v.ownBlock with
  | none => exact Or.inl rfl
  | some k => exact Or.inr (fun x => by have := hr k x.symm; have := h k e; omega)

/-- the box, the mark and the room stand -/
structure Km (w : World) (gx gm nr na : Nat) (x : Ent) (v8 : Value) (R : List Ent) : Prop where
  intro ::
  box : w.heap[gx]? = some (.cells #[.string (mk x.1), .int .i64 x.2.1, .string (mk x.2.2)] 25 (0, 0))
  mark : w.heap[gm]? = some (.cells #[.string (mk mkM.1), .int .i64 9, .string (mk mkM.2.2)] 25 (0, 0))
  room : OwnE w nr v8 R
  low : gm < nr
  lowx : gx < nr
  top : ∀ k, v8.ownBlock = some k → k < na
theorem Km.grown {w w' : World} {gx gm nr na : Nat} {x : Ent} {v8 : Value} {R : List Ent} {row : Option Nat} (h : Km w gx gm nr na x v8 R) (hg : w.grownBy w' row) (hr : ∀ k, row = some k → na ≤ k) (hnn : nr ≤ na) : Km w' gx gm nr na x v8 R :=
  ⟨(hg.block gx (hp_lt h.box) (fun e => by have := hr gx e.symm; have := h.lowx; omega)).trans h.box,
    (hg.block gm (hp_lt h.mark) (fun e => by have := hr gm e.symm; have := h.low; omega)).trans h.mark,
    h.room.kept hg (by
      cases e : v8.ownBlock with
      | none => exact Or.inl rfl
      | some k => exact Or.inr (fun x => by have := hr k x.symm; have := h.top k e; omega)), h.low, h.lowx, h.top⟩
theorem Km.below {w w' : World} {gx gm nr na : Nat} {x : Ent} {v8 : Value} {R : List Ent} (h : Km w gx gm nr na x v8 R) (hb : Below w.heap.size w w') : Km w' gx gm nr na x v8 R :=
  ⟨(hb.block gx (hp_lt h.box)).trans h.box, (hb.block gm (hp_lt h.mark)).trans h.mark, h.room.below hb, h.low, h.lowx, h.top⟩
theorem Km.c {w : World} {gx gm nr na : Nat} {x : Ent} {v8 : Value} {R : List Ent} (h : Km w gx gm nr na x v8 R) : w.cell? ⟨gm, 0, none⟩ = some (.string (mk mkM.1)) ∧ w.cell? ⟨gm, 1, none⟩ = some (.int .i64 9) ∧ w.cell? ⟨gm, 2, none⟩ = some (.string (mk mkM.2.2)) :=
  ⟨by rw [cell_of_row _ _ _ _ _ _ h.mark]; rfl, by rw [cell_of_row _ _ _ _ _ _ h.mark]; rfl, by rw [cell_of_row _ _ _ _ _ _ h.mark]; rfl⟩
theorem Km.x {w : World} {gx gm nr na : Nat} {x : Ent} {v8 : Value} {R : List Ent} (h : Km w gx gm nr na x v8 R) : w.cell? ⟨gx, 0, none⟩ = some (.string (mk x.1)) ∧ w.cell? ⟨gx, 1, none⟩ = some (.int .i64 x.2.1) ∧ w.cell? ⟨gx, 2, none⟩ = some (.string (mk x.2.2)) :=
  ⟨by rw [cell_of_row _ _ _ _ _ _ h.box]; rfl, by rw [cell_of_row _ _ _ _ _ _ h.box]; rfl, by rw [cell_of_row _ _ _ _ _ _ h.box]; rfl⟩
/-- the beginning of a row -/
theorem Ents.take {w : World} {ad : Option Addr} {n cap : Nat} {A B : List Ent} (h : Ents w (.slice ad n cap) (A ++ B)) (hB : B ≠ []) : Ents w (.slice ad A.length cap) A := by
  rcases h with ⟨_, _, _, h0, _⟩ | ⟨g, o, c, hv, hlt, h1, h2⟩
  · exact absurd (List.append_eq_nil_iff.1 h0).2 hB
  · injection hv with e1 e2 e3
    subst e1 e3
    refine Or.inr ⟨g, o, cap, rfl, hlt, by rw [List.length_append] at h1; omega, fun j hj => ?_⟩
    have := h2 j (by rw [List.length_append]; omega)
    have e : (A ++ B).getD j zE = A.getD j zE := by rw [List.getD_eq_getElem?_getD, List.getD_eq_getElem?_getD, List.getElem?_append_left hj]
    rw [e] at this
    exact this

/-- what an answer holds, wrong or not -/
def okL (X : Except Int (List Ent)) : List Ent := match X with | .ok l => l | .error _ => []
theorem ansE_own {w : World} {b : Nat} {r : Ending} {X : Except Int (List Ent)} (h : AnsE w b r X) : ∃ (a : Option Addr) (c : Nat) (E : Int), r = .returned (.tuple #[.slice a (okL X).length c, .int .i64 E]) ∧ OwnE w b (.slice a (okL X).length c) (okL X) := by
  cases X with
  | ok l =>
    obtain ⟨v, e, ho⟩ := h
    obtain ⟨a, c, ev⟩ := ho.ents.shape
    subst ev
    exact ⟨a, c, 0, e, ho⟩
  | error E => exact ⟨none, 0, E, h, OwnE.nil _ _⟩
theorem ansR_ents {w : World} {r : Ending} {X : Except Int (List Ent)} (h : AnsR w r X) : ∃ (a : Option Addr) (c : Nat) (E : Int), r = .returned (.tuple #[.slice a (okL X).length c, .int .i64 E]) ∧ Ents w (.slice a (okL X).length c) (okL X) := by
  cases X with
  | ok l =>
    obtain ⟨a, c, e, ho⟩ := ansR_ok h
    exact ⟨a, c, 0, e, ho⟩
  | error E => exact ⟨none, 0, E, h, Ents.nil _⟩
theorem md_len (k : Nat) (t : List Ent) (x : Ent) (d : List UInt8) : (okL (mdP k t x d)).length ≤ 1024 := by
  unfold mdP
  split
  · cases hX : putP t x with
    | ok l => exact ((putP_ok hX).2.1).many
    | error E => exact Nat.zero_le _
  · split
    · cases hX : sbP t d with
      | ok l =>
        have h := sb_ok hX
        rw [h.2.2.2]
        exact (sub_rgt d h.1).many
      | error E => exact Nat.zero_le _
    · split
      · cases hX : mkP t with
        | ok l => exact mkP_len hX
        | error E => exact Nat.zero_le _
      · cases hX : grP t d [] with
        | ok l => exact (sb_ok (sub_back hX)).1.many
        | error E => exact Nat.zero_le _

end Go.Proofs.YteijkbanlpodpaaGreatDoor

/- TreeOwn answers true (written by town.py). -/
namespace Go.Proofs.YteijkbanlpodpaaGreatDoor
open Go.RowKit Go.BigFrame

theorem hp_sz (w : World) (o : Obj) : (w.alloc o).heap.size = w.heap.size + 1 := by simp

set_option maxRecDepth 100000 in
set_option maxHeartbeats 8000000 in
theorem lawOwn_any (vt : Value) (t : List Ent) (x : Ent) (d : List UInt8) (w : World) (h : Ents w vt t) (hbt : EBk t) (hx : x.1.length ≤ 1048576) (hd : d.length ≤ 1048576) :
    Calls Tryz.prog 5 #[vt, entA x, .string (mk d)] w fun e w' => e = .returned (.bool true) ∧ Below w.heap.size w w' := by
  have HAL := hid alive_any
  have HBT := hid hbt
  have hlt := hbt.len
  have HMD := hid (fun (k : Nat) (hk : k < 4) (v : Value) (W : World) (h : Ents W v t) => made_any k hk v t x d W h hbt hx hd)
  have HD := hid (fun (k : Nat) => md_len k t x d)
  have HRM := hid (fun W => rmake_any (.slice none 0 0) [] W (Ents.nil _) (fun e he => by cases he) (by simp) (by simp [szP]))
  have HRP := hid (fun (v : Value) (W : World) (h : Ents W v t) => rput_any v t x W h hbt.bulk (by omega) hx)
  have HRS := hid (fun (v : Value) (W : World) (h : Ents W v t) => rsub_any v t d W h hbt.bulk (by omega) (by omega))
  have HRK := hid (fun (v : Value) (W : World) (h : Ents W v t) => rmake_any v t W h hbt.bulk (by omega) (by have := hbt.sz; omega))
  have HRG := hid (fun (v : Value) (W : World) (h : Ents W v t) => rgraft_any v (.slice none 0 0) t [] d W h (Ents.nil _) hbt.bulk (fun e he => by cases he) (by omega) (by simp) (by omega))
  have HST : Hid (∀ (W : World) (v1 v2 : Value), Ents W v1 t → Ents W v2 t → Calls Tryz.prog 14 #[v1, v2] W fun r w' => r = .returned (.bool true) ∧ ∃ q, w' = W.drewN q) := hid (fun W v1 v2 h1 h2 => (rsame_any v1 v2 t t W h1 h2 (by omega)).mono (fun r w' ⟨e, q⟩ => ⟨by rw [e]; simp, q⟩))
  have n3 : ∀ W, (binOp .eql 25 (.agg #[.string (mk mkM.1), .int .i64 9, .string (mk mkM.2.2)]) (.agg #[.string (mk mkM.1), .int .i64 9, .string (mk mkM.2.2)])).run Tryz.prog W = .ok (.bool true) W := fun W => by
    have h9 := eql_ent mkM mkM W
    rw [decide_eq_true (rfl : mkM = mkM)] at h9
    exact h9
  have HIN := hid h
  obtain ⟨ao, c, e0⟩ := h.shape
  subst e0
  have HB0 := hid (below_walk w (.cells #[.string (mk x.1), .int .i64 x.2.1, .string (mk x.2.2)] 25))
  have HX0 := hid (hp_new w (.cells #[.string (mk x.1), .int .i64 x.2.1, .string (mk x.2.2)] 25))
  clear h hbt
  unfold entA at HMD HRP ⊢
  go_enter Tryz.func5, Tryz.ntmps5
  go_upto_region 3 with (go_at_call 15; refine (HAL.out _).mono ?_; rintro r w1 ⟨rfl, hb⟩; have HB1 := hid (below_then HB0.out hb); have HX1 := hid ((hb.block _ (hp_lt HX0.out)).trans HX0.out); clear hb)
  clear HB0 HX0
  go_upto_region 4 with fail
  have HA2 := hid (below_walk w1 (.cells #[.string (mk mkM.1), .int .i64 9, .string (mk mkM.2.2)] 25))
  have HB2 := hid (HB1.out.trans (HA2.out.mono HB1.out.size))
  have HX2 := hid ((HA2.out.block _ (hp_lt HX1.out)).trans HX1.out)
  have HM2 := hid (hp_new w1 (.cells #[.string (mk mkM.1), .int .i64 9, .string (mk mkM.2.2)] 25))
  have HZ2 := hid (hp_sz w1 (.cells #[.string (mk mkM.1), .int .i64 9, .string (mk mkM.2.2)] 25))
  change Code.wp _ _ _ _ (w1.alloc (.cells #[.string (mk mkM.1), .int .i64 9, .string (mk mkM.2.2)] 25))
  generalize w1.alloc (.cells #[.string (mk mkM.1), .int .i64 9, .string (mk mkM.2.2)] 25) = w2 at *
  obtain ⟨gm, HGM⟩ : ∃ g, Hid (w1.heap.size = g) := ⟨_, rfl⟩
  rw [HGM.out] at HM2 HZ2
  rw [HGM.out]
  have hxg : w.heap.size < gm := by have := hp_lt HX1.out; have := HGM.out; omega
  clear HA2 HX1
  have key : ∀ (v8 : Value) (w5 : World), OwnE w5 (gm + 1) v8 (t ++ mk3) → w5.heap[gm]? = some (.cells #[.string (mk mkM.1), .int .i64 9, .string (mk mkM.2.2)] 25 (0, 0)) → w5.heap[w.heap.size]? = some (.cells #[.string (mk x.1), .int .i64 x.2.1, .string (mk x.2.2)] 25 (0, 0)) → Hid (∃ g8 cap8, v8 = .slice (some ⟨g8, 0, none⟩) (t.length + 3) cap8 ∧ t.length + 3 ≤ cap8 ∧ Km w5 w.heap.size gm (gm + 1) w5.heap.size x v8 (t ++ mk3)) := fun v8 w5 ho hmk hbx => by
    show ∃ g8 cap8, _
    have hl2 : (t ++ mk3).length = t.length + 3 := by simp [mk3]
    have hk : Km w5 w.heap.size gm (gm + 1) w5.heap.size x v8 (t ++ mk3) := ⟨hbx, hmk, ho, by omega, by omega, fun k hk => (ho.lt k hk).2⟩
    rcases ho.2 with ⟨_, h0⟩ | ⟨g8, cap8, cur, hv, _, _, h1, _⟩
    · omega
    · rw [hl2] at hv h1
      exact ⟨g8, cap8, hv, h1, hk⟩
  refine wp_noPanic (wp_region_held_drew (S := fun W => W.heap[gm]? = some (.cells #[.string (mk mkM.1), .int .i64 9, .string (mk mkM.2.2)] 25 (0, 0))) (by kernel_rfl) (by exact HM2.out) ?_)
  intro hHeld
  refine wpAnyH_take (i := 0) (v := .slice ao t.length c) rfl (by kernel_rfl) (by kernel_rfl) (by kernel_rfl) (fun _ _ _ h => h) (Or.inl ⟨by rfl, fun W _ => by go_simp⟩) hHeld ?_
  simp only [Act.put, List.getElem_toArray, List.getElem_cons_zero, List.setIfInBounds_toArray, List.set_cons_succ, List.set_cons_zero]
  refine wpAnyH_take (i := 2) (v := .agg #[.string (mk mkM.1), .int .i64 9, .string (mk mkM.2.2)]) rfl (by kernel_rfl) (by kernel_rfl) (by kernel_rfl) (fun _ _ _ h => h) (yieldsIf_load_mid (by rfl) 25 (.tmp 7) rfl gm 0 rfl (ecs mkM) _ (fun W hW => row_rng hW) Tryz.underlying25 rfl Tryz.infoEnt1) hHeld ?_
  simp only [Act.put, List.getElem_toArray, List.getElem_cons_zero, List.getElem_cons_succ, List.setIfInBounds_toArray, List.set_cons_succ, List.set_cons_zero]
  refine wpAnyH_take (i := 3) (v := .agg #[.string (mk mkM.1), .int .i64 9, .string (mk mkM.2.2)]) rfl (by kernel_rfl) (by kernel_rfl) (by kernel_rfl) (fun _ _ _ h => h) (yieldsIf_load_mid (by rfl) 25 (.tmp 7) rfl gm 0 rfl (ecs mkM) _ (fun W hW => row_rng hW) Tryz.underlying25 rfl Tryz.infoEnt1) hHeld ?_
  simp only [Act.put, List.getElem_toArray, List.getElem_cons_zero, List.getElem_cons_succ, List.setIfInBounds_toArray, List.set_cons_succ, List.set_cons_zero]
  refine wpAnyH_take (i := 4) (v := .agg #[.string (mk mkM.1), .int .i64 9, .string (mk mkM.2.2)]) rfl (by kernel_rfl) (by kernel_rfl) (by kernel_rfl) (fun _ _ _ h => h) (yieldsIf_load_mid (by rfl) 25 (.tmp 7) rfl gm 0 rfl (ecs mkM) _ (fun W hW => row_rng hW) Tryz.underlying25 rfl Tryz.infoEnt1) hHeld ?_
  simp only [Act.put, List.getElem_toArray, List.getElem_cons_zero, List.getElem_cons_succ, List.setIfInBounds_toArray, List.set_cons_succ, List.set_cons_zero]
  refine wpAnyH_ready (rs := [1, 5]) (by kernel_rfl) (by simp) ?_
  refine AllReadyH.cons rfl (fun K hK => ?_) (AllReadyH.cons rfl (fun K hK => ?_) AllReadyH.nil)
  · refine step_app_ent (by rfl) (.const (.slice none 0 0)) (.tmp 21) (by rfl) (gm + 1) _ [] (by rfl) (OwnE.nil _ _) _ t (by rfl) ((HIN.out.below HB2.out).below (Below.refl _ _).drew) (by simp; omega) (by show gm + 1 ≤ w2.heap.size; have := HZ2.out; omega) ?_
    intro v35 w3 ho3 hg3
    have HB3 := hid ((HB2.out.drew).grown hg3 HB2.out.size (fun k hk => by simp [Value.ownBlock] at hk))
    have HM3 := hid ((hg3.block gm (hp_lt HM2.out) (by simp [Value.ownBlock])).trans HM2.out)
    have HX3 := hid ((hg3.block w.heap.size (hp_lt HX2.out) (by simp [Value.ownBlock])).trans HX2.out)
    have HO3 : Hid (OwnE w3 (gm + 1) v35 t) := hid ho3
    have HS3 := hid (show gm + 1 ≤ w3.heap.size by have := hg3.size; have h5 : w2.drew.heap.size = w2.heap.size := rfl; have := HZ2.out; omega)
    obtain ⟨a35, c35, hv35⟩ := HO3.out.ents.shape
    subst hv35
    clear ho3 hg3
    refine hK.out _ _ HM3.out (fun hHeld => ?_)
    clear hK K
    try simp only [Act.put, List.getElem_toArray, List.getElem_cons_zero, List.getElem_cons_succ, List.setIfInBounds_toArray, List.set_cons_succ, List.set_cons_zero]
    refine wpAnyH_ready (rs := [5]) (by kernel_rfl) (by simp) ?_
    refine AllReadyH.cons rfl (fun K hK => ?_) AllReadyH.nil
    go_simp
    have HBA := hid (below_walk w3 (.cells #[.string (mk mkM.1), .int .i64 9, .string (mk mkM.2.2), .string (mk mkM.1), .int .i64 9, .string (mk mkM.2.2), .string (mk mkM.1), .int .i64 9, .string (mk mkM.2.2)] 25))
    have HI4 : Hid (Ents (w3.alloc (.cells #[.string (mk mkM.1), .int .i64 9, .string (mk mkM.2.2), .string (mk mkM.1), .int .i64 9, .string (mk mkM.2.2), .string (mk mkM.1), .int .i64 9, .string (mk mkM.2.2)] 25)) (.slice (some ⟨w3.heap.size, 0, none⟩) 3 3) mk3) := hid (ents_three w3)
    have HM4 := hid ((HBA.out.block gm (hp_lt HM3.out)).trans HM3.out)
    have HX4 := hid ((HBA.out.block _ (hp_lt HX3.out)).trans HX3.out)
    have HO4 := hid (HO3.out.below HBA.out)
    have HB4 := hid (HB3.out.trans (HBA.out.mono HB3.out.size))
    have HS4 := hid (show gm + 1 ≤ (w3.alloc (.cells #[.string (mk mkM.1), .int .i64 9, .string (mk mkM.2.2), .string (mk mkM.1), .int .i64 9, .string (mk mkM.2.2), .string (mk mkM.1), .int .i64 9, .string (mk mkM.2.2)] 25)).heap.size by rw [hp_sz]; have := HS3.out; omega)
    refine hK.out _ _ HM4.out (fun hHeld => ?_)
    clear hK K
    try simp only [Act.put, List.getElem_toArray, List.getElem_cons_zero, List.getElem_cons_succ, List.setIfInBounds_toArray, List.set_cons_succ, List.set_cons_zero]
    generalize w3.alloc (.cells #[.string (mk mkM.1), .int .i64 9, .string (mk mkM.2.2), .string (mk mkM.1), .int .i64 9, .string (mk mkM.2.2), .string (mk mkM.1), .int .i64 9, .string (mk mkM.2.2)] 25) = w4 at *
    refine wpAnyH_ready (rs := [6]) (by kernel_rfl) (by simp) ?_
    refine AllReadyH.cons rfl (fun K hK => ?_) AllReadyH.nil
    refine step_app_ent (by rfl) (.tmp 22) (.tmp 26) (by rfl) (gm + 1) _ t (by rfl) HO4.out _ mk3 (by rfl) HI4.out (by simp [mk3]; omega) HS4.out ?_
    intro v8 w5 ho5 hg5
    have HM5 := hid ((hg5.block gm (hp_lt HM4.out) (fun e => by have := (HO4.out.lt gm e.symm).1; omega)).trans HM4.out)
    have HX5 := hid ((hg5.block w.heap.size (hp_lt HX4.out) (fun e => by have := (HO4.out.lt _ e.symm).1; omega)).trans HX4.out)
    have HB5 := hid (HB4.out.grown hg5 HB4.out.size (fun k hk => by have := (HO4.out.lt k hk).1; omega))
    obtain ⟨g8, cap8, hv8, hcap8, hkp⟩ := (key v8 w5 ho5 HM5.out HX5.out).out
    subst hv8
    have HK5 := hid hkp
    clear ho5 hg5 hkp
    refine hK.out _ _ HM5.out (fun hHeld => ?_)
    clear hK K
    try simp only [Act.put, List.getElem_toArray, List.getElem_cons_zero, List.getElem_cons_succ, List.setIfInBounds_toArray, List.set_cons_succ, List.set_cons_zero]
    refine wpAnyH_take (i := 7) (v := (.slice (some ⟨g8, 0, none⟩) (t.length + 3) cap8)) rfl (by kernel_rfl) (by kernel_rfl) (by kernel_rfl) (fun _ _ _ h => h) (Or.inl ⟨by rfl, fun W _ => by go_simp⟩) hHeld ?_
    simp only [Act.put, List.getElem_toArray, List.getElem_cons_zero, List.getElem_cons_succ, List.setIfInBounds_toArray, List.set_cons_succ, List.set_cons_zero]
    refine wpAnyH_done (by kernel_rfl) ?_ _
    simp only [noPanic]
    clear hHeld
    have sl := fun W => esl_to ⟨g8, 0, none⟩ (t.length + 3) cap8 t.length (by omega) W
    obtain ⟨nA, HnA⟩ : ∃ n, Hid (w5.heap.size = n) := ⟨_, rfl⟩
    have hgm := hp_lt HM5.out
    rw [HnA.out] at hgm HK5
    have HMI := hid (fun (wr : World) (h : Km wr w.heap.size gm (gm + 1) nA x (.slice (some ⟨g8, 0, none⟩) (t.length + 3) cap8) (t ++ mk3)) => (h.room.ents).take (by simp [mk3]))
    have hwA : w.heap.size ≤ nA := by have := HB5.out.size; have := HnA.out; omega
    have hsz5 : nA ≤ w5.heap.size := by have := HnA.out; omega
    clear HO4 HI4 HM4 HX4 HB4 HS4 HM5 HX5 HM2 HX2 HB2 HZ2 key HnA HB1 HGM
    go_upto_region 6 with fail
    clear sl
    go_wp2
    go_loopw [32] (fun i wr => ∃ k : Nat, i = .int .i64 k ∧ k ≤ 4 ∧ Hid (Km wr w.heap.size gm (gm + 1) nA x (.slice (some ⟨g8, 0, none⟩) (t.length + 3) cap8) (t ++ mk3)) ∧ Hid (Below w.heap.size w wr) ∧ nA ≤ wr.heap.size) (fun i _ => 4 - (intOf i).toNat)
    case atStart => exact ⟨0, rfl, Nat.zero_le _, HK5, HB5, hsz5⟩
    case round =>
      clear HK5 HB5 hsz5
      obtain ⟨k, rfl, hk, HK, HB, hsz⟩ := hrel
      by_cases hlt4 : k < 4
      · have q1 : (k : Int) < 4 := by omega
        have HM := hid (fun (v : Value) (W : World) (h : Ents W v t) => HMD.out k hlt4 v W h)
        have hML := HD.out k
        have HSL : Hid (∀ (W : World) (v1 v2 : Value) (h1 : Ents W v1 (okL (mdP k t x d))) (h2 : Ents W v2 (okL (mdP k t x d))), Calls Tryz.prog 14 #[v1, v2] W fun r w' => r = .returned (.bool true) ∧ ∃ q, w' = W.drewN q) := hid (fun W v1 v2 h1 h2 => (rsame_any v1 v2 _ _ W h1 h2 (by omega)).mono (fun r w' ⟨e, q⟩ => ⟨by rw [e]; simp, q⟩))
        obtain ⟨L, HLL⟩ : ∃ l, Hid (okL (mdP k t x d) = l) := ⟨_, rfl⟩
        have HAE : Hid (∀ (W : World) (b : Nat) (r : Ending), AnsE W b r (mdP k t x d) → ∃ (a : Option Addr) (c : Nat) (E : Int), r = .returned (.tuple #[.slice a L.length c, .int .i64 E]) ∧ OwnE W b (.slice a L.length c) L) := hid (fun W b r h => by rw [← HLL.out]; exact ansE_own h)
        rw [HLL.out] at HSL hML
        obtain ⟨x0, x1, x2⟩ := HK.out.x
        go_upto_region 10 with (go_at_call 16; refine (HM.out _ _ (HMI.out _ HK.out)).mono ?_; rintro r w3 ⟨ha, hb⟩; have HAN := hid (HAE.out _ _ _ ha); have HB3 := hid hb; clear ha hb; obtain ⟨sa, sca, EA, e, ho⟩ := HAN.out; subst e; have HO3 := hid (ho.le hsz); clear ho HAN)
        have HK3 := hid (HK.out.below HB3.out)
        have HC3 := hid (HB.out.trans (HB3.out.mono HB.out.size))
        have hs3 : nA ≤ w3.heap.size := by have := HB3.out.size; omega
        obtain ⟨nB, HnB⟩ : ∃ n, Hid (w3.heap.size = n) := ⟨_, rfl⟩
        have hva := HO3.out.lt
        have hAB : nA ≤ nB := by have := HnB.out; omega
        clear HK HB hsz HB3 x0 x1 x2
        obtain ⟨x0, x1, x2⟩ := HK3.out.x
        go_upto_region 11 with (go_at_call 16; refine (HM.out _ _ (HMI.out _ HK3.out)).mono ?_; rintro r w4 ⟨ha, hb⟩; have HAN := hid (HAE.out _ _ _ ha); have HB4 := hid hb; clear ha hb; obtain ⟨sb, scb, EB, e, ho⟩ := HAN.out; subst e; have HO4 := hid ho; clear ho HAN)
        have HK4 := hid (HK3.out.below HB4.out)
        have HC4 := hid (HC3.out.trans (HB4.out.mono HC3.out.size))
        have HR4 := hid ((HO3.out.below HB4.out).ro)
        have hs4 : nB ≤ w4.heap.size := by have := HB4.out.size; have := HnB.out; omega
        rw [HnB.out] at hva HO4
        clear HK3 HC3 HO3 HB4 hs3 HnB x0 x1 x2 HM HAE
        go_wp2
        go_loopw [53] (fun i wr => ∃ j : Nat, i = .int .i64 j ∧ j ≤ L.length ∧ Hid (RoE wr nA (.slice sa L.length sca) L.length) ∧ Hid (OwnE wr nB (.slice sb L.length scb) L) ∧ Hid (Km wr w.heap.size gm (gm + 1) nA x (.slice (some ⟨g8, 0, none⟩) (t.length + 3) cap8) (t ++ mk3)) ∧ Hid (Below w.heap.size w wr) ∧ nB ≤ wr.heap.size) (fun i _ => L.length - (intOf i).toNat)
        case atStart => exact ⟨0, rfl, Nat.zero_le _, HR4, HO4, HK4, HC4, hs4⟩
        case round =>
          clear HR4 HO4 HK4 HC4 hs4
          obtain ⟨j, rfl, hj, HR, HO, HK, HB, hsz⟩ := hrel
          by_cases hltj : j < L.length
          · have q2 : (j : Int) < (L.length : Int) := by omega
            obtain ⟨ga, ca, hv, _, _⟩ := HR.out.form (by omega)
            injection hv with e1 _ e3
            subst e1 e3
            have hga := hva ga rfl
            have HTH := hid (HR.out.there3 j hltj)
            have gb := gb_sets3 wr ga (j * 3) (.string (mk otM.1)) (.int .i64 8) (.string (mk otM.2.2))
            have HR' := hid (HR.out.sets3 (j * 3) (.string (mk otM.1)) (.int .i64 8) (.string (mk otM.2.2)))
            have HO' := hid (HO.out.kept gb (apart_hi (fun k hk => (HO.out.lt k hk).1) (fun k hk => by cases hk; exact hga.2)))
            have HK' := hid (HK.out.grown gb (fun k hk => by cases hk; exact hga.1) (by omega))
            have HB' := hid (HB.out.grown gb HB.out.size (fun k hk => by cases hk; have := hga.1; omega))
            have hsz' := Nat.le_trans hsz gb.size
            clear gb
            go_wp2_with (refine wpList_store_mid (by rfl) 25 (.tmp 59) (.tmp 58) (by rfl) ga (j * 3) [.string (mk otM.1), .int .i64 8, .string (mk otM.2.2)].toArray (by rfl) (by rfl) HTH.out (by exact Tryz.infoEnt1) (all_oneCell_toArray (by simp [Value.oneCell'])) ?_)
            exact ⟨⟨j + 1, by simp, by omega, HR', HO', HK', HB', hsz'⟩, by simp [intOf]; omega⟩
          · have q2 : ¬ (j : Int) < (L.length : Int) := by omega
            obtain ⟨k0, k1, k2⟩ := HK.out.c
            have HBa := hid (below_walk wr (.cells #[.string (mk mkM.1), .int .i64 9, .string (mk mkM.2.2), .string (mk mkM.1), .int .i64 9, .string (mk mkM.2.2), .string (mk mkM.1), .int .i64 9, .string (mk mkM.2.2)] 25))
            have HRa := hid (HR.out.below HBa.out)
            have HSa : Hid (Ents (wr.alloc (.cells #[.string (mk mkM.1), .int .i64 9, .string (mk mkM.2.2), .string (mk mkM.1), .int .i64 9, .string (mk mkM.2.2), .string (mk mkM.1), .int .i64 9, .string (mk mkM.2.2)] 25)) (.slice (some ⟨wr.heap.size, 0, none⟩) 3 3) mk3) := hid (ents_three wr)
            have hsa : nB ≤ (wr.alloc (.cells #[.string (mk mkM.1), .int .i64 9, .string (mk mkM.2.2), .string (mk mkM.1), .int .i64 9, .string (mk mkM.2.2), .string (mk mkM.1), .int .i64 9, .string (mk mkM.2.2)] 25)).heap.size := Nat.le_trans hsz HBa.out.size
            have HOa := hid (HO.out.below HBa.out)
            have HKa := hid (HK.out.below HBa.out)
            have HCa := hid (HB.out.trans (HBa.out.mono HB.out.size))
            clear HR HO HK HB
            go_upto_region 17 with (refine app_roE (by rfl) (.tmp 61) (.tmp 65) (by rfl) nA _ L.length (by rfl) HRa.out wr.heap.size 3 mk3 (by rfl) HSa.out (by simp [mk3]; omega) (by omega) ?_; intro v13 w10 hg10; have HG10 := hid hg10; clear hg10)
            have HO10 := hid (HOa.out.kept HG10.out (apart_hi (fun k hk => (HOa.out.lt k hk).1) (fun k hk => (hva k hk).2)))
            have HK10 := hid (HKa.out.grown HG10.out (fun k hk => (hva k hk).1) (by omega))
            have HC10 := hid (HCa.out.grown HG10.out HCa.out.size (fun k hk => by have := (hva k hk).1; omega))
            have hs10 := Nat.le_trans hsa HG10.out.size
            clear HOa HKa HCa HG10 HRa HSa HBa hsa k0 k1 k2 hsz
            go_upto_region 18 with (go_at_call 17; refine (HRM.out _).mono ?_; rintro r w11 ⟨ha, hb⟩; have HAN := hid (ansE_own ha); have HB11 := hid hb; clear ha hb; obtain ⟨sm, scm, EM, e, _⟩ := HAN.out; subst e; clear HAN)
            have HO11 := hid (HO10.out.below HB11.out)
            have HK11 := hid (HK10.out.below HB11.out)
            have HC11 := hid (HC10.out.trans (HB11.out.mono HC10.out.size))
            have hs11 : nA ≤ w11.heap.size := by have := HB11.out.size; omega
            clear HO10 HK10 HC10 HB11 hs10 hva hj q1 q2 hltj
            rcases (show k = 0 ∨ k = 1 ∨ k = 2 ∨ k = 3 by omega) with rfl | rfl | rfl | rfl
            · have HW := hid (HRP.out _ _ (HIN.out.below HC11.out))
              obtain ⟨x0, x1, x2⟩ := HK11.out.x
              go_upto_region 27 with (go_at_call 7; refine HW.out.mono ?_; rintro r w12 ⟨ha, hb⟩; have HAN := hid (ansR_ents ha); have HB12 := hid hb; clear ha hb; obtain ⟨sw, scw, EW, e, hw⟩ := HAN.out; subst e; have HW12 := hid hw; clear hw HAN)
              have HL2 := hid (show okL (mdP 0 t x d) = L from by rw [← HLL.out])
              have HW13 : Hid (Ents w12 (.slice sw L.length scw) L) := hid (by rw [← HL2.out]; exact HW12.out)
              have hsl : (okL (putP t x)).length = L.length := by rw [← HL2.out]; rfl
              rw [hsl]
              have HO12 := hid (HO11.out.below HB12.out)
              have HK12 := hid (HK11.out.below HB12.out)
              have HC12 := hid (HC11.out.trans (HB12.out.mono HC11.out.size))
              have hs12 : nA ≤ w12.heap.size := by have := HB12.out.size; omega
              clear HW HW12 HL2 hsl HO11 HK11 HB12
              go_upto_region 29 with (go_at_call 14; refine (HSL.out _ _ _ HO12.out.ents HW13.out).mono ?_; rintro r w13 ⟨rfl, q, rfl⟩)
              have HK13 := hid (HK12.out.below (below_n (Below.refl _ _) q))
              have HC13 := hid (below_n HC12.out q)
              have hs13 : nA ≤ (w12.drewN q).heap.size := hs12
              generalize w12.drewN q = w13 at *
              clear HO12 HW13 HK12 HC12 hs12
              go_wp2
              exact ⟨⟨1, by simp, by omega, HK13, HC13, hs13⟩, by simp [intOf]⟩
            · have HW := hid (HRS.out _ _ (HIN.out.below HC11.out))
              go_upto_region 27 with (go_at_call 11; refine HW.out.mono ?_; rintro r w12 ⟨ha, hb⟩; have HAN := hid (ansR_ents (ansE_r ha)); have HB12 := hid hb; clear ha hb; obtain ⟨sw, scw, EW, e, hw⟩ := HAN.out; subst e; have HW12 := hid hw; clear hw HAN)
              have HL2 := hid (show okL (mdP 1 t x d) = L from by rw [← HLL.out])
              have HW13 : Hid (Ents w12 (.slice sw L.length scw) L) := hid (by rw [← HL2.out]; exact HW12.out)
              have hsl : (okL (sbP t d)).length = L.length := by rw [← HL2.out]; rfl
              rw [hsl]
              have HO12 := hid (HO11.out.below HB12.out)
              have HK12 := hid (HK11.out.below HB12.out)
              have HC12 := hid (HC11.out.trans (HB12.out.mono HC11.out.size))
              have hs12 : nA ≤ w12.heap.size := by have := HB12.out.size; omega
              clear HW HW12 HL2 hsl HO11 HK11 HB12
              go_upto_region 29 with (go_at_call 14; refine (HSL.out _ _ _ HO12.out.ents HW13.out).mono ?_; rintro r w13 ⟨rfl, q, rfl⟩)
              have HK13 := hid (HK12.out.below (below_n (Below.refl _ _) q))
              have HC13 := hid (below_n HC12.out q)
              have hs13 : nA ≤ (w12.drewN q).heap.size := hs12
              generalize w12.drewN q = w13 at *
              clear HO12 HW13 HK12 HC12 hs12
              go_wp2
              exact ⟨⟨2, by simp, by omega, HK13, HC13, hs13⟩, by simp [intOf]⟩
            · have HW := hid (HRK.out _ _ (HIN.out.below HC11.out))
              go_upto_region 27 with (go_at_call 17; refine HW.out.mono ?_; rintro r w12 ⟨ha, hb⟩; have HAN := hid (ansR_ents (ansE_r ha)); have HB12 := hid hb; clear ha hb; obtain ⟨sw, scw, EW, e, hw⟩ := HAN.out; subst e; have HW12 := hid hw; clear hw HAN)
              have HL2 := hid (show okL (mdP 2 t x d) = L from by rw [← HLL.out])
              have HW13 : Hid (Ents w12 (.slice sw L.length scw) L) := hid (by rw [← HL2.out]; exact HW12.out)
              have hsl : (okL (mkP t)).length = L.length := by rw [← HL2.out]; rfl
              rw [hsl]
              have HO12 := hid (HO11.out.below HB12.out)
              have HK12 := hid (HK11.out.below HB12.out)
              have HC12 := hid (HC11.out.trans (HB12.out.mono HC11.out.size))
              have hs12 : nA ≤ w12.heap.size := by have := HB12.out.size; omega
              clear HW HW12 HL2 hsl HO11 HK11 HB12
              go_upto_region 29 with (go_at_call 14; refine (HSL.out _ _ _ HO12.out.ents HW13.out).mono ?_; rintro r w13 ⟨rfl, q, rfl⟩)
              have HK13 := hid (HK12.out.below (below_n (Below.refl _ _) q))
              have HC13 := hid (below_n HC12.out q)
              have hs13 : nA ≤ (w12.drewN q).heap.size := hs12
              generalize w12.drewN q = w13 at *
              clear HO12 HW13 HK12 HC12 hs12
              go_wp2
              exact ⟨⟨3, by simp, by omega, HK13, HC13, hs13⟩, by simp [intOf]⟩
            · have HW := hid (HRG.out _ _ (HIN.out.below HC11.out))
              go_upto_region 27 with (go_at_call 13; refine HW.out.mono ?_; rintro r w12 ⟨ha, hb⟩; have HAN := hid (ansR_ents ha); have HB12 := hid hb; clear ha hb; obtain ⟨sw, scw, EW, e, hw⟩ := HAN.out; subst e; have HW12 := hid hw; clear hw HAN)
              have HL2 := hid (show okL (mdP 3 t x d) = L from by rw [← HLL.out])
              have HW13 : Hid (Ents w12 (.slice sw L.length scw) L) := hid (by rw [← HL2.out]; exact HW12.out)
              have hsl : (okL (grP t d [])).length = L.length := by rw [← HL2.out]; rfl
              rw [hsl]
              have HO12 := hid (HO11.out.below HB12.out)
              have HK12 := hid (HK11.out.below HB12.out)
              have HC12 := hid (HC11.out.trans (HB12.out.mono HC11.out.size))
              have hs12 : nA ≤ w12.heap.size := by have := HB12.out.size; omega
              clear HW HW12 HL2 hsl HO11 HK11 HB12
              go_upto_region 29 with (go_at_call 14; refine (HSL.out _ _ _ HO12.out.ents HW13.out).mono ?_; rintro r w13 ⟨rfl, q, rfl⟩)
              have HK13 := hid (HK12.out.below (below_n (Below.refl _ _) q))
              have HC13 := hid (below_n HC12.out q)
              have hs13 : nA ≤ (w12.drewN q).heap.size := hs12
              generalize w12.drewN q = w13 at *
              clear HO12 HW13 HK12 HC12 hs12
              go_wp2
              exact ⟨⟨4, by simp, by omega, HK13, HC13, hs13⟩, by simp [intOf]⟩
      · have q1 : ¬ (k : Int) < 4 := by omega
        have hk4 : k = 4 := by omega
        subst hk4
        have hroom := HK.out.room.ents
        have hg0 : (t ++ mk3).getD t.length zE = mkM := by rw [List.getD_eq_getElem?_getD, List.getElem?_append_right (by omega), Nat.sub_self]; rfl
        have hg1 : (t ++ mk3).getD (t.length + 2) zE = mkM := by rw [List.getD_eq_getElem?_getD, List.getElem?_append_right (by omega), show t.length + 2 - t.length = 2 by omega]; rfl
        obtain ⟨gx, ox, hx, _, r0, r1, r2⟩ := hroom.at t.length (by simp [mk3])
        injection hx with hx
        injection hx with hx1 hx2
        subst hx1 hx2
        obtain ⟨gy, oy, hy, _, r3, r4, r5⟩ := hroom.at (t.length + 2) (by simp [mk3])
        injection hy with hy
        injection hy with hy1 hy2
        subst hy1 hy2
        rw [hg0] at r0 r1 r2
        rw [hg1] at r3 r4 r5
        simp only [Nat.zero_add] at r0 r1 r2 r3 r4 r5
        change _ = some (Value.int .i64 9) at r1 r4
        obtain ⟨k0, k1, k2⟩ := HK.out.c
        clear hroom hg0 hg1
        have hw1 : IntKind.i64.wrap ((t.length : Int) + 2) = (t.length : Int) + 2 := by rw [IntKind.wrap_i64]; omega
        have HMI24 := hid (HMI.out _ HK.out)
        have HI24 := hid (HIN.out.below HB.out)
        have f0 : (t.length : Int) < ((t.length + 3 : Nat) : Int) := by omega
        have f1 : (t.length : Int) < (t.length : Int) + 3 := by omega
        have f2 : (t.length : Int) + 2 < ((t.length + 3 : Nat) : Int) := by omega
        have f3 : (t.length : Int) + 2 < (t.length : Int) + 3 := by omega
        have f4 : (0 : Int) ≤ (t.length : Int) + 2 := by omega
        have f5 : ((t.length : Int) + 2).toNat = t.length + 2 := by omega
        go_wp2_with fail
        go_quiet (first | (go_at_call 14; exact Calls.quiet_of (HST.out _ _ _ (HMI24.out.below (below_n (Below.refl _ _) _)) (HI24.out.below (below_n (Below.refl _ _) _)))))
        go_wp2
        go_ret
        exact ⟨rfl, below_n HB.out _⟩
  · go_simp
    have HBA : Hid (Below w2.heap.size w2.drew ((w2.alloc (.cells #[.string (mk mkM.1), .int .i64 9, .string (mk mkM.2.2), .string (mk mkM.1), .int .i64 9, .string (mk mkM.2.2), .string (mk mkM.1), .int .i64 9, .string (mk mkM.2.2)] 25)).drew)) := hid (below_walk w2.drew (.cells #[.string (mk mkM.1), .int .i64 9, .string (mk mkM.2.2), .string (mk mkM.1), .int .i64 9, .string (mk mkM.2.2), .string (mk mkM.1), .int .i64 9, .string (mk mkM.2.2)] 25))
    have HI3 : Hid (Ents ((w2.alloc (.cells #[.string (mk mkM.1), .int .i64 9, .string (mk mkM.2.2), .string (mk mkM.1), .int .i64 9, .string (mk mkM.2.2), .string (mk mkM.1), .int .i64 9, .string (mk mkM.2.2)] 25)).drew) (.slice (some ⟨w2.heap.size, 0, none⟩) 3 3) mk3) := hid (ents_three w2.drew)
    have HM3 := hid ((HBA.out.block gm (hp_lt HM2.out)).trans HM2.out)
    have HX3 := hid ((HBA.out.block _ (hp_lt HX2.out)).trans HX2.out)
    have HB3 := hid ((HB2.out.drew).trans (HBA.out.mono HB2.out.size))
    have HS3 := hid (show gm + 1 ≤ ((w2.alloc (.cells #[.string (mk mkM.1), .int .i64 9, .string (mk mkM.2.2), .string (mk mkM.1), .int .i64 9, .string (mk mkM.2.2), .string (mk mkM.1), .int .i64 9, .string (mk mkM.2.2)] 25)).drew).heap.size by show gm + 1 ≤ (w2.alloc (.cells #[.string (mk mkM.1), .int .i64 9, .string (mk mkM.2.2), .string (mk mkM.1), .int .i64 9, .string (mk mkM.2.2), .string (mk mkM.1), .int .i64 9, .string (mk mkM.2.2)] 25)).heap.size; rw [hp_sz]; have := HZ2.out; omega)
    refine hK.out _ _ HM3.out (fun hHeld => ?_)
    clear hK K
    try simp only [Act.put, List.getElem_toArray, List.getElem_cons_zero, List.getElem_cons_succ, List.setIfInBounds_toArray, List.set_cons_succ, List.set_cons_zero]
    generalize (w2.alloc (.cells #[.string (mk mkM.1), .int .i64 9, .string (mk mkM.2.2), .string (mk mkM.1), .int .i64 9, .string (mk mkM.2.2), .string (mk mkM.1), .int .i64 9, .string (mk mkM.2.2)] 25)).drew = w3 at *
    refine wpAnyH_ready (rs := [1]) (by kernel_rfl) (by simp) ?_
    refine AllReadyH.cons rfl (fun K hK => ?_) AllReadyH.nil
    refine step_app_ent (by rfl) (.const (.slice none 0 0)) (.tmp 21) (by rfl) (gm + 1) _ [] (by rfl) (OwnE.nil _ _) _ t (by rfl) (HIN.out.below HB3.out) (by simp; omega) HS3.out ?_
    intro v35 w4 ho3 hg3
    have HG3 : Hid (Below w3.heap.size w3 w4) := ⟨hg3.os, hg3.tape, hg3.output, hg3.size, fun k hk => hg3.block k hk (by simp [Value.ownBlock])⟩
    have HB4 := hid (HB3.out.trans (HG3.out.mono HB3.out.size))
    have HM4 := hid ((HG3.out.block gm (hp_lt HM3.out)).trans HM3.out)
    have HX4 := hid ((HG3.out.block _ (hp_lt HX3.out)).trans HX3.out)
    have HO4 : Hid (OwnE w4 (gm + 1) v35 t) := hid ho3
    have HI4 := hid (HI3.out.below HG3.out)
    have HS4 := hid (Nat.le_trans HS3.out hg3.size)
    obtain ⟨a35, c35, hv35⟩ := HO4.out.ents.shape
    subst hv35
    clear ho3 hg3
    refine hK.out _ _ HM4.out (fun hHeld => ?_)
    clear hK K
    try simp only [Act.put, List.getElem_toArray, List.getElem_cons_zero, List.getElem_cons_succ, List.setIfInBounds_toArray, List.set_cons_succ, List.set_cons_zero]
    refine wpAnyH_ready (rs := [6]) (by kernel_rfl) (by simp) ?_
    refine AllReadyH.cons rfl (fun K hK => ?_) AllReadyH.nil
    refine step_app_ent (by rfl) (.tmp 22) (.tmp 26) (by rfl) (gm + 1) _ t (by rfl) HO4.out _ mk3 (by rfl) HI4.out (by simp [mk3]; omega) HS4.out ?_
    intro v8 w5 ho5 hg5
    have HM5 := hid ((hg5.block gm (hp_lt HM4.out) (fun e => by have := (HO4.out.lt gm e.symm).1; omega)).trans HM4.out)
    have HX5 := hid ((hg5.block w.heap.size (hp_lt HX4.out) (fun e => by have := (HO4.out.lt _ e.symm).1; omega)).trans HX4.out)
    have HB5 := hid (HB4.out.grown hg5 HB4.out.size (fun k hk => by have := (HO4.out.lt k hk).1; omega))
    obtain ⟨g8, cap8, hv8, hcap8, hkp⟩ := (key v8 w5 ho5 HM5.out HX5.out).out
    subst hv8
    have HK5 := hid hkp
    clear ho5 hg5 hkp
    refine hK.out _ _ HM5.out (fun hHeld => ?_)
    clear hK K
    try simp only [Act.put, List.getElem_toArray, List.getElem_cons_zero, List.getElem_cons_succ, List.setIfInBounds_toArray, List.set_cons_succ, List.set_cons_zero]
    refine wpAnyH_take (i := 7) (v := (.slice (some ⟨g8, 0, none⟩) (t.length + 3) cap8)) rfl (by kernel_rfl) (by kernel_rfl) (by kernel_rfl) (fun _ _ _ h => h) (Or.inl ⟨by rfl, fun W _ => by go_simp⟩) hHeld ?_
    simp only [Act.put, List.getElem_toArray, List.getElem_cons_zero, List.getElem_cons_succ, List.setIfInBounds_toArray, List.set_cons_succ, List.set_cons_zero]
    refine wpAnyH_done (by kernel_rfl) ?_ _
    simp only [noPanic]
    clear hHeld
    have sl := fun W => esl_to ⟨g8, 0, none⟩ (t.length + 3) cap8 t.length (by omega) W
    obtain ⟨nA, HnA⟩ : ∃ n, Hid (w5.heap.size = n) := ⟨_, rfl⟩
    have hgm := hp_lt HM5.out
    rw [HnA.out] at hgm HK5
    have HMI := hid (fun (wr : World) (h : Km wr w.heap.size gm (gm + 1) nA x (.slice (some ⟨g8, 0, none⟩) (t.length + 3) cap8) (t ++ mk3)) => (h.room.ents).take (by simp [mk3]))
    have hwA : w.heap.size ≤ nA := by have := HB5.out.size; have := HnA.out; omega
    have hsz5 : nA ≤ w5.heap.size := by have := HnA.out; omega
    clear HO4 HI4 HM4 HX4 HB4 HS4 HM5 HX5 HM2 HX2 HB2 HZ2 key HnA HB1 HGM
    go_upto_region 6 with fail
    clear sl
    go_wp2
    go_loopw [32] (fun i wr => ∃ k : Nat, i = .int .i64 k ∧ k ≤ 4 ∧ Hid (Km wr w.heap.size gm (gm + 1) nA x (.slice (some ⟨g8, 0, none⟩) (t.length + 3) cap8) (t ++ mk3)) ∧ Hid (Below w.heap.size w wr) ∧ nA ≤ wr.heap.size) (fun i _ => 4 - (intOf i).toNat)
    case atStart => exact ⟨0, rfl, Nat.zero_le _, HK5, HB5, hsz5⟩
    case round =>
      clear HK5 HB5 hsz5
      obtain ⟨k, rfl, hk, HK, HB, hsz⟩ := hrel
      by_cases hlt4 : k < 4
      · have q1 : (k : Int) < 4 := by omega
        have HM := hid (fun (v : Value) (W : World) (h : Ents W v t) => HMD.out k hlt4 v W h)
        have hML := HD.out k
        have HSL : Hid (∀ (W : World) (v1 v2 : Value) (h1 : Ents W v1 (okL (mdP k t x d))) (h2 : Ents W v2 (okL (mdP k t x d))), Calls Tryz.prog 14 #[v1, v2] W fun r w' => r = .returned (.bool true) ∧ ∃ q, w' = W.drewN q) := hid (fun W v1 v2 h1 h2 => (rsame_any v1 v2 _ _ W h1 h2 (by omega)).mono (fun r w' ⟨e, q⟩ => ⟨by rw [e]; simp, q⟩))
        obtain ⟨L, HLL⟩ : ∃ l, Hid (okL (mdP k t x d) = l) := ⟨_, rfl⟩
        have HAE : Hid (∀ (W : World) (b : Nat) (r : Ending), AnsE W b r (mdP k t x d) → ∃ (a : Option Addr) (c : Nat) (E : Int), r = .returned (.tuple #[.slice a L.length c, .int .i64 E]) ∧ OwnE W b (.slice a L.length c) L) := hid (fun W b r h => by rw [← HLL.out]; exact ansE_own h)
        rw [HLL.out] at HSL hML
        obtain ⟨x0, x1, x2⟩ := HK.out.x
        go_upto_region 10 with (go_at_call 16; refine (HM.out _ _ (HMI.out _ HK.out)).mono ?_; rintro r w3 ⟨ha, hb⟩; have HAN := hid (HAE.out _ _ _ ha); have HB3 := hid hb; clear ha hb; obtain ⟨sa, sca, EA, e, ho⟩ := HAN.out; subst e; have HO3 := hid (ho.le hsz); clear ho HAN)
        have HK3 := hid (HK.out.below HB3.out)
        have HC3 := hid (HB.out.trans (HB3.out.mono HB.out.size))
        have hs3 : nA ≤ w3.heap.size := by have := HB3.out.size; omega
        obtain ⟨nB, HnB⟩ : ∃ n, Hid (w3.heap.size = n) := ⟨_, rfl⟩
        have hva := HO3.out.lt
        have hAB : nA ≤ nB := by have := HnB.out; omega
        clear HK HB hsz HB3 x0 x1 x2
        obtain ⟨x0, x1, x2⟩ := HK3.out.x
        go_upto_region 11 with (go_at_call 16; refine (HM.out _ _ (HMI.out _ HK3.out)).mono ?_; rintro r w4 ⟨ha, hb⟩; have HAN := hid (HAE.out _ _ _ ha); have HB4 := hid hb; clear ha hb; obtain ⟨sb, scb, EB, e, ho⟩ := HAN.out; subst e; have HO4 := hid ho; clear ho HAN)
        have HK4 := hid (HK3.out.below HB4.out)
        have HC4 := hid (HC3.out.trans (HB4.out.mono HC3.out.size))
        have HR4 := hid ((HO3.out.below HB4.out).ro)
        have hs4 : nB ≤ w4.heap.size := by have := HB4.out.size; have := HnB.out; omega
        rw [HnB.out] at hva HO4
        clear HK3 HC3 HO3 HB4 hs3 HnB x0 x1 x2 HM HAE
        go_wp2
        go_loopw [53] (fun i wr => ∃ j : Nat, i = .int .i64 j ∧ j ≤ L.length ∧ Hid (RoE wr nA (.slice sa L.length sca) L.length) ∧ Hid (OwnE wr nB (.slice sb L.length scb) L) ∧ Hid (Km wr w.heap.size gm (gm + 1) nA x (.slice (some ⟨g8, 0, none⟩) (t.length + 3) cap8) (t ++ mk3)) ∧ Hid (Below w.heap.size w wr) ∧ nB ≤ wr.heap.size) (fun i _ => L.length - (intOf i).toNat)
        case atStart => exact ⟨0, rfl, Nat.zero_le _, HR4, HO4, HK4, HC4, hs4⟩
        case round =>
          clear HR4 HO4 HK4 HC4 hs4
          obtain ⟨j, rfl, hj, HR, HO, HK, HB, hsz⟩ := hrel
          by_cases hltj : j < L.length
          · have q2 : (j : Int) < (L.length : Int) := by omega
            obtain ⟨ga, ca, hv, _, _⟩ := HR.out.form (by omega)
            injection hv with e1 _ e3
            subst e1 e3
            have hga := hva ga rfl
            have HTH := hid (HR.out.there3 j hltj)
            have gb := gb_sets3 wr ga (j * 3) (.string (mk otM.1)) (.int .i64 8) (.string (mk otM.2.2))
            have HR' := hid (HR.out.sets3 (j * 3) (.string (mk otM.1)) (.int .i64 8) (.string (mk otM.2.2)))
            have HO' := hid (HO.out.kept gb (apart_hi (fun k hk => (HO.out.lt k hk).1) (fun k hk => by cases hk; exact hga.2)))
            have HK' := hid (HK.out.grown gb (fun k hk => by cases hk; exact hga.1) (by omega))
            have HB' := hid (HB.out.grown gb HB.out.size (fun k hk => by cases hk; have := hga.1; omega))
            have hsz' := Nat.le_trans hsz gb.size
            clear gb
            go_wp2_with (refine wpList_store_mid (by rfl) 25 (.tmp 59) (.tmp 58) (by rfl) ga (j * 3) [.string (mk otM.1), .int .i64 8, .string (mk otM.2.2)].toArray (by rfl) (by rfl) HTH.out (by exact Tryz.infoEnt1) (all_oneCell_toArray (by simp [Value.oneCell'])) ?_)
            exact ⟨⟨j + 1, by simp, by omega, HR', HO', HK', HB', hsz'⟩, by simp [intOf]; omega⟩
          · have q2 : ¬ (j : Int) < (L.length : Int) := by omega
            obtain ⟨k0, k1, k2⟩ := HK.out.c
            have HBa := hid (below_walk wr (.cells #[.string (mk mkM.1), .int .i64 9, .string (mk mkM.2.2), .string (mk mkM.1), .int .i64 9, .string (mk mkM.2.2), .string (mk mkM.1), .int .i64 9, .string (mk mkM.2.2)] 25))
            have HRa := hid (HR.out.below HBa.out)
            have HSa : Hid (Ents (wr.alloc (.cells #[.string (mk mkM.1), .int .i64 9, .string (mk mkM.2.2), .string (mk mkM.1), .int .i64 9, .string (mk mkM.2.2), .string (mk mkM.1), .int .i64 9, .string (mk mkM.2.2)] 25)) (.slice (some ⟨wr.heap.size, 0, none⟩) 3 3) mk3) := hid (ents_three wr)
            have hsa : nB ≤ (wr.alloc (.cells #[.string (mk mkM.1), .int .i64 9, .string (mk mkM.2.2), .string (mk mkM.1), .int .i64 9, .string (mk mkM.2.2), .string (mk mkM.1), .int .i64 9, .string (mk mkM.2.2)] 25)).heap.size := Nat.le_trans hsz HBa.out.size
            have HOa := hid (HO.out.below HBa.out)
            have HKa := hid (HK.out.below HBa.out)
            have HCa := hid (HB.out.trans (HBa.out.mono HB.out.size))
            clear HR HO HK HB
            go_upto_region 17 with (refine app_roE (by rfl) (.tmp 61) (.tmp 65) (by rfl) nA _ L.length (by rfl) HRa.out wr.heap.size 3 mk3 (by rfl) HSa.out (by simp [mk3]; omega) (by omega) ?_; intro v13 w10 hg10; have HG10 := hid hg10; clear hg10)
            have HO10 := hid (HOa.out.kept HG10.out (apart_hi (fun k hk => (HOa.out.lt k hk).1) (fun k hk => (hva k hk).2)))
            have HK10 := hid (HKa.out.grown HG10.out (fun k hk => (hva k hk).1) (by omega))
            have HC10 := hid (HCa.out.grown HG10.out HCa.out.size (fun k hk => by have := (hva k hk).1; omega))
            have hs10 := Nat.le_trans hsa HG10.out.size
            clear HOa HKa HCa HG10 HRa HSa HBa hsa k0 k1 k2 hsz
            go_upto_region 18 with (go_at_call 17; refine (HRM.out _).mono ?_; rintro r w11 ⟨ha, hb⟩; have HAN := hid (ansE_own ha); have HB11 := hid hb; clear ha hb; obtain ⟨sm, scm, EM, e, _⟩ := HAN.out; subst e; clear HAN)
            have HO11 := hid (HO10.out.below HB11.out)
            have HK11 := hid (HK10.out.below HB11.out)
            have HC11 := hid (HC10.out.trans (HB11.out.mono HC10.out.size))
            have hs11 : nA ≤ w11.heap.size := by have := HB11.out.size; omega
            clear HO10 HK10 HC10 HB11 hs10 hva hj q1 q2 hltj
            rcases (show k = 0 ∨ k = 1 ∨ k = 2 ∨ k = 3 by omega) with rfl | rfl | rfl | rfl
            · have HW := hid (HRP.out _ _ (HIN.out.below HC11.out))
              obtain ⟨x0, x1, x2⟩ := HK11.out.x
              go_upto_region 27 with (go_at_call 7; refine HW.out.mono ?_; rintro r w12 ⟨ha, hb⟩; have HAN := hid (ansR_ents ha); have HB12 := hid hb; clear ha hb; obtain ⟨sw, scw, EW, e, hw⟩ := HAN.out; subst e; have HW12 := hid hw; clear hw HAN)
              have HL2 := hid (show okL (mdP 0 t x d) = L from by rw [← HLL.out])
              have HW13 : Hid (Ents w12 (.slice sw L.length scw) L) := hid (by rw [← HL2.out]; exact HW12.out)
              have hsl : (okL (putP t x)).length = L.length := by rw [← HL2.out]; rfl
              rw [hsl]
              have HO12 := hid (HO11.out.below HB12.out)
              have HK12 := hid (HK11.out.below HB12.out)
              have HC12 := hid (HC11.out.trans (HB12.out.mono HC11.out.size))
              have hs12 : nA ≤ w12.heap.size := by have := HB12.out.size; omega
              clear HW HW12 HL2 hsl HO11 HK11 HB12
              go_upto_region 29 with (go_at_call 14; refine (HSL.out _ _ _ HO12.out.ents HW13.out).mono ?_; rintro r w13 ⟨rfl, q, rfl⟩)
              have HK13 := hid (HK12.out.below (below_n (Below.refl _ _) q))
              have HC13 := hid (below_n HC12.out q)
              have hs13 : nA ≤ (w12.drewN q).heap.size := hs12
              generalize w12.drewN q = w13 at *
              clear HO12 HW13 HK12 HC12 hs12
              go_wp2
              exact ⟨⟨1, by simp, by omega, HK13, HC13, hs13⟩, by simp [intOf]⟩
            · have HW := hid (HRS.out _ _ (HIN.out.below HC11.out))
              go_upto_region 27 with (go_at_call 11; refine HW.out.mono ?_; rintro r w12 ⟨ha, hb⟩; have HAN := hid (ansR_ents (ansE_r ha)); have HB12 := hid hb; clear ha hb; obtain ⟨sw, scw, EW, e, hw⟩ := HAN.out; subst e; have HW12 := hid hw; clear hw HAN)
              have HL2 := hid (show okL (mdP 1 t x d) = L from by rw [← HLL.out])
              have HW13 : Hid (Ents w12 (.slice sw L.length scw) L) := hid (by rw [← HL2.out]; exact HW12.out)
              have hsl : (okL (sbP t d)).length = L.length := by rw [← HL2.out]; rfl
              rw [hsl]
              have HO12 := hid (HO11.out.below HB12.out)
              have HK12 := hid (HK11.out.below HB12.out)
              have HC12 := hid (HC11.out.trans (HB12.out.mono HC11.out.size))
              have hs12 : nA ≤ w12.heap.size := by have := HB12.out.size; omega
              clear HW HW12 HL2 hsl HO11 HK11 HB12
              go_upto_region 29 with (go_at_call 14; refine (HSL.out _ _ _ HO12.out.ents HW13.out).mono ?_; rintro r w13 ⟨rfl, q, rfl⟩)
              have HK13 := hid (HK12.out.below (below_n (Below.refl _ _) q))
              have HC13 := hid (below_n HC12.out q)
              have hs13 : nA ≤ (w12.drewN q).heap.size := hs12
              generalize w12.drewN q = w13 at *
              clear HO12 HW13 HK12 HC12 hs12
              go_wp2
              exact ⟨⟨2, by simp, by omega, HK13, HC13, hs13⟩, by simp [intOf]⟩
            · have HW := hid (HRK.out _ _ (HIN.out.below HC11.out))
              go_upto_region 27 with (go_at_call 17; refine HW.out.mono ?_; rintro r w12 ⟨ha, hb⟩; have HAN := hid (ansR_ents (ansE_r ha)); have HB12 := hid hb; clear ha hb; obtain ⟨sw, scw, EW, e, hw⟩ := HAN.out; subst e; have HW12 := hid hw; clear hw HAN)
              have HL2 := hid (show okL (mdP 2 t x d) = L from by rw [← HLL.out])
              have HW13 : Hid (Ents w12 (.slice sw L.length scw) L) := hid (by rw [← HL2.out]; exact HW12.out)
              have hsl : (okL (mkP t)).length = L.length := by rw [← HL2.out]; rfl
              rw [hsl]
              have HO12 := hid (HO11.out.below HB12.out)
              have HK12 := hid (HK11.out.below HB12.out)
              have HC12 := hid (HC11.out.trans (HB12.out.mono HC11.out.size))
              have hs12 : nA ≤ w12.heap.size := by have := HB12.out.size; omega
              clear HW HW12 HL2 hsl HO11 HK11 HB12
              go_upto_region 29 with (go_at_call 14; refine (HSL.out _ _ _ HO12.out.ents HW13.out).mono ?_; rintro r w13 ⟨rfl, q, rfl⟩)
              have HK13 := hid (HK12.out.below (below_n (Below.refl _ _) q))
              have HC13 := hid (below_n HC12.out q)
              have hs13 : nA ≤ (w12.drewN q).heap.size := hs12
              generalize w12.drewN q = w13 at *
              clear HO12 HW13 HK12 HC12 hs12
              go_wp2
              exact ⟨⟨3, by simp, by omega, HK13, HC13, hs13⟩, by simp [intOf]⟩
            · have HW := hid (HRG.out _ _ (HIN.out.below HC11.out))
              go_upto_region 27 with (go_at_call 13; refine HW.out.mono ?_; rintro r w12 ⟨ha, hb⟩; have HAN := hid (ansR_ents ha); have HB12 := hid hb; clear ha hb; obtain ⟨sw, scw, EW, e, hw⟩ := HAN.out; subst e; have HW12 := hid hw; clear hw HAN)
              have HL2 := hid (show okL (mdP 3 t x d) = L from by rw [← HLL.out])
              have HW13 : Hid (Ents w12 (.slice sw L.length scw) L) := hid (by rw [← HL2.out]; exact HW12.out)
              have hsl : (okL (grP t d [])).length = L.length := by rw [← HL2.out]; rfl
              rw [hsl]
              have HO12 := hid (HO11.out.below HB12.out)
              have HK12 := hid (HK11.out.below HB12.out)
              have HC12 := hid (HC11.out.trans (HB12.out.mono HC11.out.size))
              have hs12 : nA ≤ w12.heap.size := by have := HB12.out.size; omega
              clear HW HW12 HL2 hsl HO11 HK11 HB12
              go_upto_region 29 with (go_at_call 14; refine (HSL.out _ _ _ HO12.out.ents HW13.out).mono ?_; rintro r w13 ⟨rfl, q, rfl⟩)
              have HK13 := hid (HK12.out.below (below_n (Below.refl _ _) q))
              have HC13 := hid (below_n HC12.out q)
              have hs13 : nA ≤ (w12.drewN q).heap.size := hs12
              generalize w12.drewN q = w13 at *
              clear HO12 HW13 HK12 HC12 hs12
              go_wp2
              exact ⟨⟨4, by simp, by omega, HK13, HC13, hs13⟩, by simp [intOf]⟩
      · have q1 : ¬ (k : Int) < 4 := by omega
        have hk4 : k = 4 := by omega
        subst hk4
        have hroom := HK.out.room.ents
        have hg0 : (t ++ mk3).getD t.length zE = mkM := by rw [List.getD_eq_getElem?_getD, List.getElem?_append_right (by omega), Nat.sub_self]; rfl
        have hg1 : (t ++ mk3).getD (t.length + 2) zE = mkM := by rw [List.getD_eq_getElem?_getD, List.getElem?_append_right (by omega), show t.length + 2 - t.length = 2 by omega]; rfl
        obtain ⟨gx, ox, hx, _, r0, r1, r2⟩ := hroom.at t.length (by simp [mk3])
        injection hx with hx
        injection hx with hx1 hx2
        subst hx1 hx2
        obtain ⟨gy, oy, hy, _, r3, r4, r5⟩ := hroom.at (t.length + 2) (by simp [mk3])
        injection hy with hy
        injection hy with hy1 hy2
        subst hy1 hy2
        rw [hg0] at r0 r1 r2
        rw [hg1] at r3 r4 r5
        simp only [Nat.zero_add] at r0 r1 r2 r3 r4 r5
        change _ = some (Value.int .i64 9) at r1 r4
        obtain ⟨k0, k1, k2⟩ := HK.out.c
        clear hroom hg0 hg1
        have hw1 : IntKind.i64.wrap ((t.length : Int) + 2) = (t.length : Int) + 2 := by rw [IntKind.wrap_i64]; omega
        have HMI24 := hid (HMI.out _ HK.out)
        have HI24 := hid (HIN.out.below HB.out)
        have f0 : (t.length : Int) < ((t.length + 3 : Nat) : Int) := by omega
        have f1 : (t.length : Int) < (t.length : Int) + 3 := by omega
        have f2 : (t.length : Int) + 2 < ((t.length + 3 : Nat) : Int) := by omega
        have f3 : (t.length : Int) + 2 < (t.length : Int) + 3 := by omega
        have f4 : (0 : Int) ≤ (t.length : Int) + 2 := by omega
        have f5 : ((t.length : Int) + 2).toNat = t.length + 2 := by omega
        go_wp2_with fail
        go_quiet (first | (go_at_call 14; exact Calls.quiet_of (HST.out _ _ _ (HMI24.out.below (below_n (Below.refl _ _) _)) (HI24.out.below (below_n (Below.refl _ _) _)))))
        go_wp2
        go_ret
        exact ⟨rfl, below_n HB.out _⟩

end Go.Proofs.YteijkbanlpodpaaGreatDoor
