/- Contracts and pure facts that the proof needs, joined. -/
import Derived.Test.YteijkbanlpodpaaGreatDoorG4
import Derived.Test.YteijkbanlpodpaaGreatDoorG3

/- TreeEdits answers true. -/
namespace Go.Proofs.YteijkbanlpodpaaGreatDoor
open Go.RowKit Go.BigFrame

theorem EBk.short {t : List Ent} (h : EBk t) : Short t := fun e he => by have := h.bulk e he; omega
theorem rgt_ebk {t : List Ent} (h : Rgt t) : EBk t := ⟨by have := h.many; omega, fun e he => by
  have h1 := okP_short (mayP_ok (h.may e he))
  have h2 := (may_shr' (h.may e he)).2
  have h3 : e.2.2.length ≤ szP t := by
    clear h1 h2
    have : ∀ (t : List Ent), e ∈ t → e.2.2.length ≤ szP t := by
      intro t
      induction t with
      | nil => intro h; cases h
      | cons x t ih =>
        intro h
        have hc : szP (x :: t) = x.2.2.length + szP t := by simp [szP]
        rcases List.mem_cons.1 h with rfl | h
        · omega
        · have := ih h; omega
    exact this t he
  have h4 := h.big
  omega, h.big⟩

theorem putP_err {t : List Ent} {x : Ent} {E : Int} (h : putP t x = .error E) : E ≠ 0 := by
  unfold putP at h
  split at h
  · injection h with h; rw [← h]; assumption
  · split at h
    · injection h with h; rw [← h]; decide
    · split at h
      · injection h with h; rw [← h]; decide
      · split at h
        · injection h with h; rw [← h]; decide
        · unfold fitP at h
          split at h
          · injection h with h; rw [← h]; decide
          · split at h
            · injection h with h; rw [← h]; decide
            · cases h
theorem rmP_err {t : List Ent} {p : List UInt8} {E : Int} (h : rmP t p = .error E) : E ≠ 0 := by
  unfold rmP at h
  split at h
  · injection h with h; rw [← h]; assumption
  · split at h
    · injection h with h; rw [← h]; decide
    · split at h
      · injection h with h; rw [← h]; decide
      · cases h
theorem mod4 (K : Int) : (wrap64 (K.tmod 4 + 4)).tmod 4 = 0 ∨ (wrap64 (K.tmod 4 + 4)).tmod 4 = 1 ∨ (wrap64 (K.tmod 4 + 4)).tmod 4 = 2 ∨ (wrap64 (K.tmod 4 + 4)).tmod 4 = 3 := by
  have h1 : K.tmod 4 < 4 := Int.tmod_lt_of_pos _ (by decide)
  have h2 : -4 < K.tmod 4 := Int.lt_tmod_of_pos _ (by decide)
  have h3 : wrap64 (K.tmod 4 + 4) = K.tmod 4 + 4 := by unfold wrap64; omega
  rw [h3]
  have h4 : 0 ≤ (K.tmod 4 + 4).tmod 4 := Int.tmod_nonneg _ (by omega)
  have h5 : (K.tmod 4 + 4).tmod 4 < 4 := Int.tmod_lt_of_pos _ (by decide)
  omega
/-- an answer, as its values -/
theorem ansR_ok {w : World} {r : Ending} {l : List Ent} (h : AnsR w r (.ok l)) : ∃ a c, r = .returned (.tuple #[.slice a l.length c, .int .i64 0]) ∧ Ents w (.slice a l.length c) l := by
  obtain ⟨v, e, ho⟩ := h
  obtain ⟨a, c, ev⟩ := ho.shape
  subst ev
  exact ⟨a, c, e, ho⟩
theorem ansE_r {w : World} {b : Nat} {r : Ending} {x : Except Int (List Ent)} (h : AnsE w b r x) : AnsR w r x := by
  cases x with
  | ok l => obtain ⟨v, e, ho⟩ := h; exact ⟨v, e, ho.ents⟩
  | error E => exact h
/-- both sides' contracts of a call, as an answer -/
def BothR (f g : Nat) (args : Array Value) (w : World) (X : Except Int (List Ent)) : Prop :=
  (∀ W, Below w.heap.size w W → Calls Tryz.prog f args W fun r w' => AnsR w' r X ∧ Below W.heap.size W w') ∧ (∀ W, Below w.heap.size w W → Calls Tryz.prog g args W fun r w' => AnsR w' r X ∧ Below W.heap.size W w')
theorem BothR.err {f g : Nat} {args : Array Value} {w : World} {E : Int} (h : BothR f g args w (.error E)) :
    (∀ W, Below w.heap.size w W → Calls Tryz.prog f args W fun r w' => r = .returned (.tuple #[.slice none 0 0, .int .i64 E]) ∧ Below W.heap.size W w') ∧ (∀ W, Below w.heap.size w W → Calls Tryz.prog g args W fun r w' => r = .returned (.tuple #[.slice none 0 0, .int .i64 E]) ∧ Below W.heap.size W w') := h
theorem BothR.ok {f g : Nat} {args : Array Value} {w : World} {l : List Ent} (h : BothR f g args w (.ok l)) :
    (∀ W, Below w.heap.size w W → Calls Tryz.prog f args W fun r w' => (∃ a c, r = .returned (.tuple #[.slice a l.length c, .int .i64 0]) ∧ Ents w' (.slice a l.length c) l) ∧ Below W.heap.size W w') ∧ (∀ W, Below w.heap.size w W → Calls Tryz.prog g args W fun r w' => (∃ a c, r = .returned (.tuple #[.slice a l.length c, .int .i64 0]) ∧ Ents w' (.slice a l.length c) l) ∧ Below W.heap.size W w') :=
  ⟨fun W hW => (h.1 W hW).mono (fun _ _ ⟨h1, h2⟩ => ⟨ansR_ok h1, h2⟩), fun W hW => (h.2 W hW).mono (fun _ _ ⟨h1, h2⟩ => ⟨ansR_ok h1, h2⟩)⟩

set_option maxRecDepth 100000 in
set_option maxHeartbeats 8000000 in
theorem lawEdits_any (vt vs : Value) (t : List Ent) (es : List Edt) (w : World) (ht : Ents w vt t) (hs : Edts w vs es) (hbt : EBk t) (hn : es.length ≤ 1048576) (hbe : ∀ e ∈ es, EdBk w e) :
    Calls Tryz.prog 3 #[vt, vs] w fun e w' => e = .returned (.bool true) ∧ Below w.heap.size w w' := by
  have HAW := hid alive_any
  have HET := hid ht
  have HES := hid hs
  have HBT := hid hbt
  have HBE := hid hbe
  obtain ⟨ao, c, e0⟩ := ht.shape
  obtain ⟨az, cz, e1⟩ := hs.shape
  subst e0 e1
  clear ht hs hbt hbe
  go_enter Tryz.func3, Tryz.ntmps3
  go_wp2
  go_loopw [0, 13] (fun x i wr => ∃ (k : Nat) (T : List Ent), i = .int .i64 k ∧ k ≤ es.length ∧ Ents wr x T ∧ EBk T ∧ Below w.heap.size w wr) (fun _ i _ => es.length - (intOf i).toNat)
  case atStart => exact ⟨0, t, rfl, Nat.zero_le _, HET.out, HBT.out, Below.refl _ _⟩
  case round =>
    obtain ⟨k, T, rfl, hk, hT, hBT, hb⟩ := hrel
    have HT := hid hT
    have HBK := hid hBT
    have HB := hid hb
    obtain ⟨aT, cT, eT⟩ := hT.shape
    subst eT
    clear hT hBT hb HET HBT
    by_cases hlt : k < es.length
    · have q1 : (k : Int) < (es.length : Int) := by omega
      have hw1 : IntKind.i64.wrap ((k : Int) + 1) = ((k + 1 : Nat) : Int) := by rw [IntKind.wrap_i64]; omega
      obtain ⟨g, o, rfl, hgl, hat⟩ := (HES.out.below HB.out).at k hlt
      obtain ⟨e, HED⟩ : ∃ e, Hid (es.getD k zEd = e) := ⟨_, rfl⟩
      rw [HED.out] at hat
      have HEB := hid (HBE.out e (by rw [← HED.out, List.getD_eq_getElem?_getD, List.getElem?_eq_getElem hlt]; exact List.getElem_mem hlt))
      obtain ⟨⟨d0, d1, d2⟩, d3, d4, d5⟩ := hat
      obtain ⟨av, cv, ev⟩ := HEB.out.1.shape
      rw [ev] at d5
      obtain ⟨K, HK⟩ : ∃ K, Hid (e.k = K) := ⟨_, rfl⟩
      rw [HK.out] at d0
      go_upto_region 8 with fail
      have HEV := hid (show Ents wr (.slice av e.s.length cv) e.s from by rw [← ev]; exact HEB.out.1.below HB.out)
      have HA0 := hid (below_walk wr (.cells #[.int .i64 K, .string (mk e.x.1), .int .i64 e.x.2.1, .string (mk e.x.2.2), .string (mk e.p), .slice av e.s.length cv] 27))
      have HAT0 : Hid (∀ W, Below (wr.alloc (.cells #[.int .i64 K, .string (mk e.x.1), .int .i64 e.x.2.1, .string (mk e.x.2.2), .string (mk e.p), .slice av e.s.length cv] 27)).heap.size (wr.alloc (.cells #[.int .i64 K, .string (mk e.x.1), .int .i64 e.x.2.1, .string (mk e.x.2.2), .string (mk e.p), .slice av e.s.length cv] 27)) W → (W.cell? ⟨wr.heap.size, 0, none⟩ = some (.int .i64 K) ∧ W.cell? ⟨wr.heap.size, 1, none⟩ = some (.string (mk e.x.1)) ∧ W.cell? ⟨wr.heap.size, 2, none⟩ = some (.int .i64 e.x.2.1)) ∧ W.cell? ⟨wr.heap.size, 3, none⟩ = some (.string (mk e.x.2.2)) ∧ W.cell? ⟨wr.heap.size, 4, none⟩ = some (.string (mk e.p)) ∧ W.cell? ⟨wr.heap.size, 5, none⟩ = some (.slice av e.s.length cv)) := hid (fun W hW => by
        have hb := (hW.block wr.heap.size (by simp)).trans (hp_new wr (.cells #[.int .i64 K, .string (mk e.x.1), .int .i64 e.x.2.1, .string (mk e.x.2.2), .string (mk e.p), .slice av e.s.length cv] 27))
        simp [World.cell?, hb])
      obtain ⟨m, HM⟩ : ∃ m, Hid ((wrap64 (K.tmod 4 + 4)).tmod 4 = m) := ⟨_, rfl⟩
      have hm := mod4 K
      rw [HM.out] at hm ⊢
      clear ev d0 d1 d2 d3 d4 d5 HED
      rcases hm with rfl | rfl | rfl | rfl
      · have HBR := hid (show BothR 6 7 #[.slice aT T.length cT, entA e.x] wr (putP T e.x) from ⟨fun W hW => (put_any _ T e.x W (HT.out.below hW) HBK.out.short (by have := HBK.out.len; omega) (by have := HEB.out.2.2.1; omega)).mono (fun _ _ ⟨h1, h2⟩ => ⟨ansE_r h1, h2⟩), fun W hW => rput_any _ T e.x W (HT.out.below hW) HBK.out.bulk (by have := HBK.out.len; omega) HEB.out.2.2.1⟩)
        cases hX : putP T e.x with
        | error E =>
          have hE := putP_err hX
          have b1 : (E == 0) = false := by simpa using hE
          rw [hX] at HBR
          obtain ⟨hp, hr⟩ := HBR.out.err
          have HP := hid hp
          have HRR := hid hr
          have HSM : Hid (∀ W, Calls Tryz.prog 14 #[.slice none 0 0, .slice none 0 0] W fun r w' => r = .returned (.bool true) ∧ ∃ q, w' = W.drewN q) := hid (fun W => (rsame_any (.slice none 0 0) (.slice none 0 0) [] [] W (Ents.nil W) (Ents.nil W) (by simp)).mono (fun r w' ⟨h1, h2⟩ => ⟨by rw [h1]; simp, h2⟩))
          clear hX hp hr HBR HAW
          go_wp2_with (first | (go_at_call 6; refine (HP.out _ HA0.out).mono ?_; rintro r w5 ⟨rfl, hb5⟩; have HB5 := hid (below_then HA0.out hb5); obtain ⟨⟨x0, x1, x2⟩, x3, x4, x5⟩ := HAT0.out w5 hb5; clear hb5) | (go_at_call 7; refine (HRR.out _ HB5.out).mono ?_; rintro r w6 ⟨rfl, hb6⟩; have HB6 := hid (below_then HB5.out hb6); clear hb6) | (go_at_call 14; refine (HSM.out _).mono ?_; rintro r w7 ⟨rfl, q7, rfl⟩; have HB7 := hid (below_n HB6.out q7)))
          exact ⟨⟨k + 1, T, by simp, by omega, HT.out.below HB7.out, HBK.out, HB.out.trans (HB7.out.mono HB.out.size)⟩, by simp [intOf]; omega⟩
        | ok l =>
          have HRL := hid (rgt_ebk ((putP_ok hX).2.1))
          rw [hX] at HBR
          obtain ⟨hp, hr⟩ := HBR.out.ok
          have HP := hid hp
          have HRR := hid hr
          have HSM : Hid (∀ W va vb, Ents W va l → Ents W vb l → Calls Tryz.prog 14 #[va, vb] W fun r w' => r = .returned (.bool true) ∧ ∃ q, w' = W.drewN q) := hid (fun W va vb ha hb => (rsame_any va vb l l W ha hb (by have := HRL.out.len; omega)).mono (fun r w' ⟨h1, h2⟩ => ⟨by rw [h1]; simp, h2⟩))
          clear hX hp hr HBR HAW
          go_wp2_with (first | (go_at_call 6; refine (HP.out _ HA0.out).mono ?_; rintro r w5 ⟨⟨a5, c5, rfl, ho5⟩, hb5⟩; have HB5 := hid (below_then HA0.out hb5); have HO5 := hid ho5; obtain ⟨⟨x0, x1, x2⟩, x3, x4, x5⟩ := HAT0.out w5 hb5; clear hb5 ho5) | (go_at_call 7; refine (HRR.out _ HB5.out).mono ?_; rintro r w6 ⟨⟨a6, c6, rfl, ho6⟩, hb6⟩; have HB6 := hid (below_then HB5.out hb6); have HO6 := hid ho6; have HP6 := hid (HO5.out.below hb6); clear hb6 ho6) | (go_at_call 14; refine (HSM.out _ _ _ HP6.out HO6.out).mono ?_; rintro r w7 ⟨rfl, q7, rfl⟩; have HB7 := hid (below_n HB6.out q7)))
          exact ⟨⟨k + 1, l, by simp, by omega, HO6.out.drew q7, HRL.out, HB.out.trans (HB7.out.mono HB.out.size)⟩, by simp [intOf]; omega⟩
      · have HBR := hid (show BothR 8 9 #[.slice aT T.length cT, .string (mk e.p)] wr (rmP T e.p) from ⟨fun W hW => (remove_any _ T e.p W (HT.out.below hW) HBK.out.short (by have := HBK.out.len; omega) (by have := HEB.out.2.2.2.2; omega)).mono (fun _ _ ⟨h1, h2⟩ => ⟨ansE_r h1, h2⟩), fun W hW => (rremove_any _ T e.p W (HT.out.below hW) HBK.out.bulk (by have := HBK.out.len; omega) (by have := HEB.out.2.2.2.2; omega)).mono (fun _ _ ⟨h1, h2⟩ => ⟨ansE_r h1, h2⟩)⟩)
        cases hX : rmP T e.p with
        | error E =>
          have hE := rmP_err hX
          have b1 : (E == 0) = false := by simpa using hE
          rw [hX] at HBR
          obtain ⟨hp, hr⟩ := HBR.out.err
          have HP := hid hp
          have HRR := hid hr
          have HSM : Hid (∀ W, Calls Tryz.prog 14 #[.slice none 0 0, .slice none 0 0] W fun r w' => r = .returned (.bool true) ∧ ∃ q, w' = W.drewN q) := hid (fun W => (rsame_any (.slice none 0 0) (.slice none 0 0) [] [] W (Ents.nil W) (Ents.nil W) (by simp)).mono (fun r w' ⟨h1, h2⟩ => ⟨by rw [h1]; simp, h2⟩))
          clear hX hp hr HBR HAW
          go_wp2_with (first | (go_at_call 8; refine (HP.out _ HA0.out).mono ?_; rintro r w5 ⟨rfl, hb5⟩; have HB5 := hid (below_then HA0.out hb5); obtain ⟨⟨x0, x1, x2⟩, x3, x4, x5⟩ := HAT0.out w5 hb5; clear hb5) | (go_at_call 9; refine (HRR.out _ HB5.out).mono ?_; rintro r w6 ⟨rfl, hb6⟩; have HB6 := hid (below_then HB5.out hb6); clear hb6) | (go_at_call 14; refine (HSM.out _).mono ?_; rintro r w7 ⟨rfl, q7, rfl⟩; have HB7 := hid (below_n HB6.out q7)))
          exact ⟨⟨k + 1, T, by simp, by omega, HT.out.below HB7.out, HBK.out, HB.out.trans (HB7.out.mono HB.out.size)⟩, by simp [intOf]; omega⟩
        | ok l =>
          have HRL := hid (rgt_ebk ((rmP_ok hX).2.1))
          rw [hX] at HBR
          obtain ⟨hp, hr⟩ := HBR.out.ok
          have HP := hid hp
          have HRR := hid hr
          have HSM : Hid (∀ W va vb, Ents W va l → Ents W vb l → Calls Tryz.prog 14 #[va, vb] W fun r w' => r = .returned (.bool true) ∧ ∃ q, w' = W.drewN q) := hid (fun W va vb ha hb => (rsame_any va vb l l W ha hb (by have := HRL.out.len; omega)).mono (fun r w' ⟨h1, h2⟩ => ⟨by rw [h1]; simp, h2⟩))
          clear hX hp hr HBR HAW
          go_wp2_with (first | (go_at_call 8; refine (HP.out _ HA0.out).mono ?_; rintro r w5 ⟨⟨a5, c5, rfl, ho5⟩, hb5⟩; have HB5 := hid (below_then HA0.out hb5); have HO5 := hid ho5; obtain ⟨⟨x0, x1, x2⟩, x3, x4, x5⟩ := HAT0.out w5 hb5; clear hb5 ho5) | (go_at_call 9; refine (HRR.out _ HB5.out).mono ?_; rintro r w6 ⟨⟨a6, c6, rfl, ho6⟩, hb6⟩; have HB6 := hid (below_then HB5.out hb6); have HO6 := hid ho6; have HP6 := hid (HO5.out.below hb6); clear hb6 ho6) | (go_at_call 14; refine (HSM.out _ _ _ HP6.out HO6.out).mono ?_; rintro r w7 ⟨rfl, q7, rfl⟩; have HB7 := hid (below_n HB6.out q7)))
          exact ⟨⟨k + 1, l, by simp, by omega, HO6.out.drew q7, HRL.out, HB.out.trans (HB7.out.mono HB.out.size)⟩, by simp [intOf]; omega⟩
      · have HBR := hid (show BothR 10 11 #[.slice aT T.length cT, .string (mk e.p)] wr (sbP T e.p) from ⟨fun W hW => (sub_any _ T e.p W (HT.out.below hW) HBK.out.short (by have := HBK.out.len; omega) (by have := HEB.out.2.2.2.2; omega)).mono (fun _ _ ⟨h1, h2⟩ => ⟨ansE_r h1, h2⟩), fun W hW => (rsub_any _ T e.p W (HT.out.below hW) HBK.out.bulk (by have := HBK.out.len; omega) (by have := HEB.out.2.2.2.2; omega)).mono (fun _ _ ⟨h1, h2⟩ => ⟨ansE_r h1, h2⟩)⟩)
        cases hX : sbP T e.p with
        | error E =>
          have hE := sbP_err hX
          have b1 : (E == 0) = false := by simpa using hE
          rw [hX] at HBR
          obtain ⟨hp, hr⟩ := HBR.out.err
          have HP := hid hp
          have HRR := hid hr
          have HSM : Hid (∀ W, Calls Tryz.prog 14 #[.slice none 0 0, .slice none 0 0] W fun r w' => r = .returned (.bool true) ∧ ∃ q, w' = W.drewN q) := hid (fun W => (rsame_any (.slice none 0 0) (.slice none 0 0) [] [] W (Ents.nil W) (Ents.nil W) (by simp)).mono (fun r w' ⟨h1, h2⟩ => ⟨by rw [h1]; simp, h2⟩))
          clear hX hp hr HBR HAW
          go_wp2_with (first | (go_at_call 10; refine (HP.out _ HA0.out).mono ?_; rintro r w5 ⟨rfl, hb5⟩; have HB5 := hid (below_then HA0.out hb5); obtain ⟨⟨x0, x1, x2⟩, x3, x4, x5⟩ := HAT0.out w5 hb5; clear hb5) | (go_at_call 11; refine (HRR.out _ HB5.out).mono ?_; rintro r w6 ⟨rfl, hb6⟩; have HB6 := hid (below_then HB5.out hb6); clear hb6) | (go_at_call 14; refine (HSM.out _).mono ?_; rintro r w7 ⟨rfl, q7, rfl⟩; have HB7 := hid (below_n HB6.out q7)))
          exact ⟨⟨k + 1, T, by simp, by omega, HT.out.below HB7.out, HBK.out, HB.out.trans (HB7.out.mono HB.out.size)⟩, by simp [intOf]; omega⟩
        | ok l =>
          have HRL := hid (show EBk l from by have h9 := sb_ok hX; rw [h9.2.2.2]; exact rgt_ebk (sub_rgt e.p h9.1))
          rw [hX] at HBR
          obtain ⟨hp, hr⟩ := HBR.out.ok
          have HP := hid hp
          have HRR := hid hr
          have HSM : Hid (∀ W va vb, Ents W va l → Ents W vb l → Calls Tryz.prog 14 #[va, vb] W fun r w' => r = .returned (.bool true) ∧ ∃ q, w' = W.drewN q) := hid (fun W va vb ha hb => (rsame_any va vb l l W ha hb (by have := HRL.out.len; omega)).mono (fun r w' ⟨h1, h2⟩ => ⟨by rw [h1]; simp, h2⟩))
          clear hX hp hr HBR HAW
          go_wp2_with (first | (go_at_call 10; refine (HP.out _ HA0.out).mono ?_; rintro r w5 ⟨⟨a5, c5, rfl, ho5⟩, hb5⟩; have HB5 := hid (below_then HA0.out hb5); have HO5 := hid ho5; obtain ⟨⟨x0, x1, x2⟩, x3, x4, x5⟩ := HAT0.out w5 hb5; clear hb5 ho5) | (go_at_call 11; refine (HRR.out _ HB5.out).mono ?_; rintro r w6 ⟨⟨a6, c6, rfl, ho6⟩, hb6⟩; have HB6 := hid (below_then HB5.out hb6); have HO6 := hid ho6; have HP6 := hid (HO5.out.below hb6); clear hb6 ho6) | (go_at_call 14; refine (HSM.out _ _ _ HP6.out HO6.out).mono ?_; rintro r w7 ⟨rfl, q7, rfl⟩; have HB7 := hid (below_n HB6.out q7)))
          exact ⟨⟨k + 1, l, by simp, by omega, HO6.out.drew q7, HRL.out, HB.out.trans (HB7.out.mono HB.out.size)⟩, by simp [intOf]; omega⟩
      · have HBR := hid (show BothR 12 13 #[.slice aT T.length cT, .string (mk e.p), .slice av e.s.length cv] wr (grP T e.p e.s) from ⟨fun W hW => (graft_any _ _ T e.s e.p W (HT.out.below hW) (HEV.out.below hW) HBK.out.short HEB.out.2.1.short (by have := HBK.out.len; omega) (by have := HEB.out.2.1.len; omega) (by have := HEB.out.2.2.2.2; omega)).mono (fun _ _ ⟨h1, h2⟩ => ⟨ansE_r h1, h2⟩), fun W hW => rgraft_any _ _ T e.s e.p W (HT.out.below hW) (HEV.out.below hW) HBK.out.bulk HEB.out.2.1.bulk (by have := HBK.out.len; omega) (by have := HEB.out.2.1.len; omega) (by have := HEB.out.2.2.2.2; omega)⟩)
        cases hX : grP T e.p e.s with
        | error E =>
          have hE := grP_err hX
          have b1 : (E == 0) = false := by simpa using hE
          rw [hX] at HBR
          obtain ⟨hp, hr⟩ := HBR.out.err
          have HP := hid hp
          have HRR := hid hr
          have HSM : Hid (∀ W, Calls Tryz.prog 14 #[.slice none 0 0, .slice none 0 0] W fun r w' => r = .returned (.bool true) ∧ ∃ q, w' = W.drewN q) := hid (fun W => (rsame_any (.slice none 0 0) (.slice none 0 0) [] [] W (Ents.nil W) (Ents.nil W) (by simp)).mono (fun r w' ⟨h1, h2⟩ => ⟨by rw [h1]; simp, h2⟩))
          clear hX hp hr HBR HAW
          go_wp2_with (first | (go_at_call 12; refine (HP.out _ HA0.out).mono ?_; rintro r w5 ⟨rfl, hb5⟩; have HB5 := hid (below_then HA0.out hb5); obtain ⟨⟨x0, x1, x2⟩, x3, x4, x5⟩ := HAT0.out w5 hb5; clear hb5) | (go_at_call 13; refine (HRR.out _ HB5.out).mono ?_; rintro r w6 ⟨rfl, hb6⟩; have HB6 := hid (below_then HB5.out hb6); clear hb6) | (go_at_call 14; refine (HSM.out _).mono ?_; rintro r w7 ⟨rfl, q7, rfl⟩; have HB7 := hid (below_n HB6.out q7)))
          exact ⟨⟨k + 1, T, by simp, by omega, HT.out.below HB7.out, HBK.out, HB.out.trans (HB7.out.mono HB.out.size)⟩, by simp [intOf]; omega⟩
        | ok l =>
          have HRL := hid (rgt_ebk ((sb_ok (sub_back hX)).1))
          rw [hX] at HBR
          obtain ⟨hp, hr⟩ := HBR.out.ok
          have HP := hid hp
          have HRR := hid hr
          have HSM : Hid (∀ W va vb, Ents W va l → Ents W vb l → Calls Tryz.prog 14 #[va, vb] W fun r w' => r = .returned (.bool true) ∧ ∃ q, w' = W.drewN q) := hid (fun W va vb ha hb => (rsame_any va vb l l W ha hb (by have := HRL.out.len; omega)).mono (fun r w' ⟨h1, h2⟩ => ⟨by rw [h1]; simp, h2⟩))
          clear hX hp hr HBR HAW
          go_wp2_with (first | (go_at_call 12; refine (HP.out _ HA0.out).mono ?_; rintro r w5 ⟨⟨a5, c5, rfl, ho5⟩, hb5⟩; have HB5 := hid (below_then HA0.out hb5); have HO5 := hid ho5; obtain ⟨⟨x0, x1, x2⟩, x3, x4, x5⟩ := HAT0.out w5 hb5; clear hb5 ho5) | (go_at_call 13; refine (HRR.out _ HB5.out).mono ?_; rintro r w6 ⟨⟨a6, c6, rfl, ho6⟩, hb6⟩; have HB6 := hid (below_then HB5.out hb6); have HO6 := hid ho6; have HP6 := hid (HO5.out.below hb6); clear hb6 ho6) | (go_at_call 14; refine (HSM.out _ _ _ HP6.out HO6.out).mono ?_; rintro r w7 ⟨rfl, q7, rfl⟩; have HB7 := hid (below_n HB6.out q7)))
          exact ⟨⟨k + 1, l, by simp, by omega, HO6.out.drew q7, HRL.out, HB.out.trans (HB7.out.mono HB.out.size)⟩, by simp [intOf]; omega⟩
    · have q1 : ¬ (k : Int) < (es.length : Int) := by omega
      go_wp2_with (go_at_call 15; refine (HAW.out _).mono ?_; rintro r w1 ⟨rfl, hb1⟩; have HB1 := hid (HB.out.trans (hb1.mono HB.out.size)); clear hb1)
      go_ret
      exact ⟨rfl, HB1.out⟩

end Go.Proofs.YteijkbanlpodpaaGreatDoor
