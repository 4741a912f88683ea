/- Contracts and pure facts that the proof needs, joined. -/
import Derived.Test.YtgihbllkjoegcabDoorG1
import Derived.Deep.QuietTactic
import Derived.Lib.LaidU8
import Derived.Lib.LaidTab

/- LexLost: tokens rise; between them, ahead of them and behind them there are gaps alone. -/
namespace Go.Proofs.YtgihbllkjoegcabDoor
open Go.RowKit

theorem drop_tok {ts : List (Nat × Nat × Nat)} {i : Nat} (h : i < ts.length) : ts.drop i = ts.getD i (0, 0, 0) :: ts.drop (i + 1) := by
  rw [List.drop_eq_getElem_cons h]
  simp [List.getD_eq_getElem?_getD, h]
/-- where a walk over the tokens stands -/
def Lw (l : List UInt8) (ts : List (Nat × Nat × Nat)) (i a : Nat) : Prop := a ≤ l.length ∧ (i < ts.length ∧ Lx l a (ts.drop i) ∨ i = ts.length ∧ a = l.length)
theorem Lw.zero {l : List UInt8} {ts : List (Nat × Nat × Nat)} (h : Lx l 0 ts) : Lw l ts 0 0 := ⟨Nat.zero_le _, Or.inl ⟨h.len.2, h⟩⟩
theorem Lw.step {l : List UInt8} {ts : List (Nat × Nat × Nat)} {i a : Nat} (h : Lw l ts i a) (hi : i < ts.length) :
    (ts.getD i (0, 0, 0) = (0, l.length, l.length) ∧ frP l a = l.length ∧ tkP l a = (0, 0, 0) ∧ i + 1 = ts.length ∧ Lw l ts (i + 1) l.length) ∨
    (∃ k n, ts.getD i (0, 0, 0) = (k, frP l a, frP l a + n) ∧ tkP l a = (k, n, 0) ∧ 1 ≤ k ∧ k ≤ 5 ∧ 1 ≤ n ∧ frP l a + n ≤ l.length ∧ i + 1 < ts.length ∧ Lw l ts (i + 1) (frP l a + n)) := by
  obtain ⟨ha, ⟨_, hx⟩ | ⟨h1, _⟩⟩ := h
  · rw [drop_tok hi] at hx
    generalize htt : ts.getD i (0, 0, 0) = t at hx ⊢
    generalize hrr : ts.drop (i + 1) = r at hx
    rcases hx with ⟨e0, e9, h1, h2⟩ | ⟨k, n, e0, h0, h1, h2, h3, h4, h5, h6⟩
    · have e := congrArg List.length hrr
      rw [List.length_drop, e9] at e
      simp only [List.length_nil] at e
      exact Or.inl ⟨e0, h2, h1, by omega, Nat.le_refl _, Or.inr ⟨by omega, rfl⟩⟩
    · have e := congrArg List.length hrr
      rw [List.length_drop] at e
      have := h6.len.2
      exact Or.inr ⟨k, n, e0, h1, h2, h3, h4, h5, by omega, h5, Or.inl ⟨by omega, by rw [hrr]; exact h6⟩⟩
  · omega

set_option maxHeartbeats 4000000 in
theorem lost_any (w : World) (l : List UInt8) (hl : l.length ≤ 140737488355328) (hT : Tabs w) :
    Calls Tryd.prog 4 #[.string (mk l)] w fun e w' => e = .returned (.bool true) ∧ Below w.heap.size w w' := by
  have hsz := mk_size l
  have H1 := hid (all_any l hl w hT)
  have HA := hid awake_any
  have HT := hid hT
  clear hT
  rcases al_view l with ⟨e, p, he, h1, _⟩ | ⟨ts, hs, h1, h2⟩
  · rw [h1] at H1
    have he0 : ¬ e = 0 := he
    clear h1 he
    go_enter Tryd.func4, Tryd.ntmps4
    go_wp2_with first
      | (go_at_call 9; refine H1.out.mono ?_; rintro e1 w2 ⟨v, rfl, ho, hb⟩
         obtain ⟨sa, sc, rfl⟩ := ho.shape
         have HB := hid hb
         clear ho hb)
      | (go_at_call 10; refine (HA.out _ (HT.out.below (HB.out.alloc HB.out.size _))).mono ?_; rintro e1 w3 ⟨rfl, hb3⟩)
    go_ret
    exact ⟨rfl, (HB.out.alloc HB.out.size _).trans (hb3.mono (by rw [hp_size]; have := HB.out.size; omega))⟩
  · rw [h2] at H1
    have HS := hid h1
    have hlen : (ts.length : Int) ≤ 65537 := by have := h1.len; omega
    have hlen0 : (0 : Int) < (ts.length : Int) := by have := h1.len; omega
    clear h1 h2
    go_enter Tryd.func4, Tryd.ntmps4
    go_wp2_with (go_at_call 9; refine H1.out.mono ?_; rintro e1 w2 ⟨v, rfl, ho, hb⟩
                 obtain ⟨sa, sc, rfl⟩ := ho.shape
                 have HB := hid hb
                 have HO := hid ho
                 clear ho hb)
    go_loopw [5, 6] (fun x i wr => ∃ k a : Nat, i = .int .i64 k ∧ x = .int .i64 a ∧ k ≤ ts.length ∧ Lw l ts k a ∧ Below w2.heap.size w2 wr) (fun _ i _ => ts.length - (intOf i).toNat)
    case atStart => exact ⟨0, 0, rfl, rfl, Nat.zero_le _, Lw.zero HS.out, below_walk _ _⟩
    case round =>
      obtain ⟨i, a, rfl, rfl, hi, HL, HB2⟩ := hrel
      have HB2 : Hid (Below w2.heap.size w2 wr) := HB2
      have HL : Hid (Lw l ts i a) := HL
      by_cases hlt : i < ts.length
      · have q1 : (i : Int) < (ts.length : Int) := by omega
        obtain ⟨g, rfl, hc⟩ := (HO.out.below HB2.out).at i hlt
        have HG := hid (rgap_any l a HL.out.1 hl)
        rcases HL.out.step hlt with ⟨e1, e2, _, e3, e4⟩ | ⟨k, n, e1, _, e2, e3, e4, e5, e6, e7⟩
        · rw [e1] at hc
          rw [e2] at HG
          have c0 : wr.cell? ⟨g, i * 3, none⟩ = some (.int .i64 0) := hc 0 _ rfl
          have c1 : wr.cell? ⟨g, i * 3 + 1, none⟩ = some (.int .i64 (l.length : Nat)) := hc 1 _ rfl
          have c2 : wr.cell? ⟨g, i * 3 + 2, none⟩ = some (.int .i64 (l.length : Nat)) := hc 2 _ rfl
          have HE := hid e4
          have q2 : (ts.length : Int) - 1 = (i : Int) := by omega
          clear hc e1 e2 e3 e4
          go_wp2_with fail
          go_quiet (first | (go_at_call 11; exact Calls.quiet_of_same (HG.out _)))
          go_wp2
          exact ⟨⟨i + 1, l.length, by simp, rfl, by omega, HE.out, below_drewN HB2.out _⟩, by simp [intOf]; omega⟩
        · rw [e1] at hc
          obtain ⟨f, HF⟩ : ∃ f, Hid (frP l a = f) := ⟨_, rfl⟩
          rw [HF.out] at HG hc e5 e7
          obtain ⟨m, hm⟩ : ∃ m, f + n = m := ⟨_, rfl⟩
          have q3 : ¬ m < f := by omega
          rw [hm] at hc e5 e7
          have c0 : wr.cell? ⟨g, i * 3, none⟩ = some (.int .i64 (k : Nat)) := hc 0 _ rfl
          have c1 : wr.cell? ⟨g, i * 3 + 1, none⟩ = some (.int .i64 (f : Nat)) := hc 1 _ rfl
          have c2 : wr.cell? ⟨g, i * 3 + 2, none⟩ = some (.int .i64 (m : Nat)) := hc 2 _ rfl
          have HE := hid e7
          have q2 : ¬ (i : Int) = (ts.length : Int) - 1 := by omega
          have q4 : ¬ l.length < m := by omega
          have q5 : ¬ (k : Int) = 0 := by omega
          have b5 : ((k : Int) == 0) = false := by simpa using q5
          have b2 : ((i : Int) == (ts.length : Int) - 1) = false := by simpa using q2
          clear hc e1 e2 e3 e4 e5 e6 e7 hm
          go_wp2_with fail
          go_quiet (first | (go_at_call 11; exact Calls.quiet_of_same (HG.out _)))
          go_wp2
          exact ⟨⟨i + 1, m, by simp, rfl, by omega, HE.out, below_drewN HB2.out _⟩, by simp [intOf]; omega⟩
      · have q1 : ¬ (i : Int) < (ts.length : Int) := by omega
        have HTR := hid (HT.out.below (HB.out.trans (HB2.out.mono HB.out.size)))
        have hal : a = l.length := by
          rcases HL.out.2 with ⟨h, _⟩ | ⟨_, h⟩
          · omega
          · exact h
        subst hal
        go_wp2_with (go_at_call 10; refine (HA.out _ HTR.out).mono ?_; rintro e1 w3 ⟨rfl, hb3⟩)
        go_ret
        exact ⟨rfl, (HB.out.trans (HB2.out.mono HB.out.size)).trans (hb3.mono (Nat.le_trans HB.out.size HB2.out.size))⟩

end Go.Proofs.YtgihbllkjoegcabDoor

/- LexFirst: the first wrong byte is found, and nothing ahead of it is. -/
namespace Go.Proofs.YtgihbllkjoegcabDoor
open Go.RowKit

/-- what stands ahead of the first wrong byte has tokens alone -/
theorem Lb.cut {l : List UInt8} {a : Nat} {ts : List (Nat × Nat × Nat)} {e : Int} {p : Nat} (h : Lb l a ts e p) : Lx (l.take p) a (ts ++ [(0, p, p)]) := by
  have hn := h.num
  have hlen : (l.take p).length = p := by rw [List.length_take]; omega
  refine Lb.ind (M := fun a ts => Lx (l.take p) a (ts ++ [(0, p, p)])) ?_ ?_ ts h
  · intro a ha h he he2 hl hp
    have hf := frP_le ha
    rw [hp] at hlen ⊢
    have ed : (l.take (frP l a)).drop a = (l.drop a).take (gapP (l.drop a)) := by
      rw [List.drop_take]
      congr 1
      unfold frP
      omega
    have e1 : frP (l.take (frP l a)) a = frP l a := by
      show a + gapP ((l.take (frP l a)).drop a) = _
      rw [ed, gapP_take (Nat.le_refl _)]
      rfl
    have e2 : tkP (l.take (frP l a)) a = (0, 0, 0) := by
      unfold tkP
      rw [e1, List.drop_eq_nil_of_le (by rw [hlen]; exact Nat.le_refl _)]
      rfl
    have := Lx.last (l := l.take (frP l a)) e2 (by rw [e1, hlen])
    rw [hlen] at this
    exact this
  · intro a k n ts ha h hk hk5 hn1 hl ht ih
    have hf := frP_le ha
    have hn2 := ht.num
    have ap : a ≤ p := by omega
    have e1 : frP (l.take p) a = frP l a := by
      show a + gapP ((l.take p).drop a) = _
      rw [List.drop_take, gapP_take (by unfold frP at hn2; omega)]
      rfl
    have e2 : tkP (l.take p) a = (k, n, 0) := by
      unfold tkP at h ⊢
      rw [e1, List.drop_take]
      have hle : n ≤ p - frP l a := by omega
      have hs : (l.drop (frP l a)).take (p - frP l a) = (l.drop (frP l a)).take n ++ ((l.drop (frP l a)).drop n).take (p - frP l a - n) := by
        rw [← List.take_append_drop n ((l.drop (frP l a)).take (p - frP l a)), List.take_take, Nat.min_eq_left hle, List.drop_take]
      rw [hs]
      refine tok_cut h (by omega) ?_
      cases hq : ((l.drop (frP l a)).drop n).take (p - frP l a - n) with
      | nil => exact Or.inl rfl
      | cons c r =>
        refine Or.inr (Or.inl ?_)
        rw [← hq]
        cases hm : p - frP l a - n with
        | zero => rw [hm] at hq; simp at hq
        | succ m => cases (l.drop (frP l a)).drop n <;> rfl
    have := Lx.more (l := l.take p) (by rw [hlen]; exact ap) e2 hk hk5 hn1 (by rw [e1, hlen]; omega) (by rw [e1]; exact ih)
    rw [e1] at this
    exact this
theorem Lx.al {l : List UInt8} {ts : List (Nat × Nat × Nat)} (h : Lx l 0 ts) (hl : l.length ≤ 65536) : alP l = (ts, 0, 0) := by
  unfold alP
  rw [if_neg (by omega), h.all, if_pos rfl]
theorem Lb.end_tok {l : List UInt8} {a : Nat} {ts : List (Nat × Nat × Nat)} {e : Int} {p : Nat} (h : Lb l a ts e p) : frP l p = p ∧ tkP l p = (0, 0, e) :=
  Lb.ind (M := fun _ _ => frP l p = p ∧ tkP l p = (0, 0, e)) (fun {a} _ h _ _ _ hp => by
    have e1 := frP_frP l a
    rw [hp]
    refine ⟨e1, ?_⟩
    unfold tkP at h ⊢
    rw [e1]; exact h) (fun _ _ _ _ _ _ _ ih => ih) ts h
theorem nx_bad {l : List UInt8} {p : Nat} {e : Int} (hl : l.length ≤ 65536) (hp : p ≤ l.length) (h1 : frP l p = p) (h2 : tkP l p = (0, 0, e)) (he : e ≠ 0) : nxP l (p : Int) = ((0, p, 0), e) := by
  have hpl : plN l (p : Int) = 0 := by unfold plN; rw [if_neg (by omega), if_neg (by omega)]
  unfold nxP
  rw [hpl, if_neg (by simp)]
  simp only [Int.toNat_natCast]
  rw [h2, h1, if_pos (by simpa using he)]
theorem nx_good {l : List UInt8} {p k n : Nat} (hl : l.length ≤ 65536) (hp : p ≤ l.length) (h2 : tkP l p = (k, n, 0)) : nxP l (p : Int) = ((k, frP l p, frP l p + n), 0) := by
  have hpl : plN l (p : Int) = 0 := by unfold plN; rw [if_neg (by omega), if_neg (by omega)]
  unfold nxP
  rw [hpl, if_neg (by simp)]
  simp only [Int.toNat_natCast]
  rw [h2, if_neg (by simp)]

set_option maxHeartbeats 4000000 in
theorem first_any (w : World) (l : List UInt8) (hl : l.length ≤ 140737488355328) (hT : Tabs w) :
    Calls Tryd.prog 5 #[.string (mk l)] w fun e w' => e = .returned (.bool true) ∧ Below w.heap.size w w' := by
  have hsz := mk_size l
  have H1 := hid (all_any l hl w hT)
  have HA := hid awake_any
  have HT := hid hT
  clear hT
  rcases al_view l with ⟨e, p, he, h1, ⟨h2, rfl, rfl⟩ | ⟨hs, ts, h2⟩⟩ | ⟨ts, hs, h1, h2⟩
  · rw [h1] at H1
    have q1 : (65536 : Int) < (l.length : Int) := by omega
    clear h1 he h2
    as_aux_lemma =>
      go_enter Tryd.func5, Tryd.ntmps5
      go_wp2_with first
        | (go_at_call 9; refine H1.out.mono ?_; rintro e1 w2 ⟨v, rfl, ho, hb⟩
           obtain ⟨sa, sc, rfl⟩ := ho.shape
           have HB := hid hb
           clear ho hb)
        | (go_at_call 10; refine (HA.out _ (HT.out.below (HB.out.alloc HB.out.size _))).mono ?_; rintro e1 w3 ⟨rfl, hb3⟩)
      go_ret
      exact ⟨rfl, (HB.out.alloc HB.out.size _).trans (hb3.mono (by rw [hp_size]; have := HB.out.size; omega))⟩
  · rw [h1] at H1
    have hn := h2.num
    have he0 : ¬ e = 0 := he
    have he3 : ¬ e = 3 := by omega
    have q1 : (p : Int) < (l.length : Int) := by omega
    have q2 : (p : Int) ≤ 65536 := by omega
    have s1 := sl_upto l p (by omega)
    have hcut : (l.take p).length = p := by rw [List.length_take]; omega
    have H2 : Hid (∀ W, Tabs W → Calls Tryd.prog 9 #[.string (mk (l.take p))] W fun e w' => ∃ v, e = .returned (.tuple #[v, .agg #[.int .i64 0, .int .i64 0]]) ∧ OwnT w' W.heap.size v (ts ++ [(0, p, p)]) ∧ Below W.heap.size W w') := fun W hW => by
      have := all_any (l.take p) (by omega) W hW
      rw [h2.cut.al (by omega)] at this
      exact this
    have H3 : Hid (∀ W, Tabs W → Calls Tryd.prog 12 #[.string (mk l), .int .i64 (p : Int)] W fun e1 w' => e1 = .returned (.tuple #[.agg #[.int .i64 0, .int .i64 (p : Int), .int .i64 0], .int .i64 e]) ∧ Below W.heap.size W w') := fun W hW => by
      have := next_any l hl (p : Int) W hW
      rw [nx_bad hs (by omega) h2.end_tok.1 h2.end_tok.2 he] at this
      exact this
    have hlen0 : (0 : Int) < ((ts ++ [(0, p, p)]).length : Int) := by rw [List.length_append]; simp only [List.length_singleton]; omega
    obtain ⟨T, HTT⟩ : ∃ T : List (Nat × Nat × Nat), Hid (ts ++ [(0, p, p)] = T) := ⟨ts ++ [(0, p, p)], hid rfl⟩
    rw [HTT.out] at H2 hlen0
    clear h1 he h2 hn hcut
    as_aux_lemma =>
      go_enter Tryd.func5, Tryd.ntmps5
      go_wp2_with first
        | (go_at_call 9; refine H1.out.mono ?_; clear H1; rintro e1 w2 ⟨v, rfl, ho, hb⟩
           obtain ⟨sa, sc, rfl⟩ := ho.shape
           have HB := hid hb
           have HB1 := hid (hb.alloc hb.size (.cells #[.int .i64 e, .int .i64 (p : Int)] 28))
           clear ho hb)
        | (go_at_call 9; refine (H2.out _ (HT.out.below HB1.out)).mono ?_; clear H2; rintro e1 w3 ⟨v, rfl, ho, hb⟩
           obtain ⟨sa2, sc2, rfl⟩ := ho.shape
           have HB2 := hid (HB1.out.trans (hb.mono HB1.out.size))
           have HF3 : Hid (w3.heap[w2.heap.size]? = some (.cells #[.int .i64 e, .int .i64 (p : Int)] 28 (0, 0))) := by
             show w3.heap[w2.heap.size]? = _
             rw [hb.block _ (by rw [hp_size]; omega)]; exact hp_new _ _
           have HB3 := hid (HB2.out.alloc HB2.out.size (.cells #[.int .i64 0, .int .i64 0] 28))
           have hlt3 : w2.heap.size < w3.heap.size := hp_lt HF3.out
           have c0 : w3.cell? ⟨w2.heap.size, 0, none⟩ = some (.int .i64 e) := by rw [cell_of_row _ _ _ _ _ _ HF3.out]; rfl
           have c1 : w3.cell? ⟨w2.heap.size, 1, none⟩ = some (.int .i64 (p : Int)) := by rw [cell_of_row _ _ _ _ _ _ HF3.out]; rfl
           clear ho hb)
        | (go_at_call 12; refine (H3.out _ (HT.out.below HB3.out)).mono ?_; clear H3; rintro e1 w4 ⟨rfl, hb⟩
           have HB4 := hid (HB3.out.trans (hb.mono HB3.out.size))
           have HF4 : Hid (w4.heap[w2.heap.size]? = some (.cells #[.int .i64 e, .int .i64 (p : Int)] 28 (0, 0))) := by
             show w4.heap[w2.heap.size]? = _
             rw [hb.block _ (by rw [hp_size]; omega), hp_old _ _ _ hlt3]; exact HF3.out
           have HZ4 : Hid (w4.heap[w3.heap.size]? = some (.cells #[.int .i64 0, .int .i64 0] 28 (0, 0))) := by
             show w4.heap[w3.heap.size]? = _
             rw [hb.block _ (by rw [hp_size]; omega)]; exact hp_new _ _
           have hlt4 : w3.heap.size < w4.heap.size := hp_lt HZ4.out
           clear hb c0 c1)
        | (refine st_tk (by rfl) (.tmp 7) (.tmp 58) (by rfl) (0, p, 0) (by rfl) (by rfl) _ (by rfl) ?_
           intro wz htk hb
           have HB5 := hid (HB4.out.trans (hb.mono HB4.out.size))
           have HF5 : Hid (wz.heap[w2.heap.size]? = some (.cells #[.int .i64 e, .int .i64 (p : Int)] 28 (0, 0))) := by
             show wz.heap[w2.heap.size]? = _
             rw [hb.block _ (by omega)]; exact HF4.out
           have HZ5 : Hid (wz.heap[w3.heap.size]? = some (.cells #[.int .i64 0, .int .i64 0] 28 (0, 0))) := by
             show wz.heap[w3.heap.size]? = _
             rw [hb.block _ (by omega)]; exact HZ4.out
           have c0 : wz.cell? ⟨w2.heap.size, 0, none⟩ = some (.int .i64 e) := by rw [cell_of_row _ _ _ _ _ _ HF5.out]; rfl
           have c1 : wz.cell? ⟨w2.heap.size, 1, none⟩ = some (.int .i64 (p : Int)) := by rw [cell_of_row _ _ _ _ _ _ HF5.out]; rfl
           have z0 : wz.cell? ⟨w3.heap.size, 0, none⟩ = some (.int .i64 0) := by rw [cell_of_row _ _ _ _ _ _ HZ5.out]; rfl
           have z1 : wz.cell? ⟨w3.heap.size, 1, none⟩ = some (.int .i64 0) := by rw [cell_of_row _ _ _ _ _ _ HZ5.out]; rfl
           have d0 : wz.cell? ⟨w4.heap.size, 0, none⟩ = some (.int .i64 0) := htk.c0
           have d1 := htk.c1
           have d2 : wz.cell? ⟨w4.heap.size, 2, none⟩ = some (.int .i64 0) := htk.c2
           clear htk hb)
        | (go_at_call 10; refine (HA.out _ (HT.out.below HB5.out)).mono ?_; rintro e1 w6 ⟨rfl, hb6⟩)
      go_ret
      exact ⟨rfl, HB5.out.trans (hb6.mono HB5.out.size)⟩
  · rw [h2] at H1
    have HS := hid h1
    have hlen : (ts.length : Int) ≤ 65537 := by have := h1.len; omega
    clear h1 h2
    as_aux_lemma =>
      go_enter Tryd.func5, Tryd.ntmps5
      go_wp2_with (go_at_call 9; refine H1.out.mono ?_; rintro e1 w2 ⟨v, rfl, ho, hb⟩
                   obtain ⟨sa, sc, rfl⟩ := ho.shape
                   have HB := hid hb
                   have HO := hid ho
                   clear ho hb)
      go_loopw [9, 10] (fun x i wr => ∃ k a : Nat, i = .int .i64 k ∧ x = .int .i64 a ∧ k ≤ ts.length ∧ Lw l ts k a ∧ Below w2.heap.size w2 wr) (fun _ i _ => ts.length - (intOf i).toNat)
      case atStart => exact ⟨0, 0, rfl, rfl, Nat.zero_le _, Lw.zero HS.out, below_walk _ _⟩
      case round =>
        obtain ⟨i, a, rfl, rfl, hi, HL, HB2⟩ := hrel
        have HB2 : Hid (Below w2.heap.size w2 wr) := HB2
        have HL : Hid (Lw l ts i a) := HL
        have HTR := hid (HT.out.below (HB.out.trans (HB2.out.mono HB.out.size)))
        by_cases hlt : i < ts.length
        · have q1 : (i : Int) < (ts.length : Int) := by omega
          have key : ∃ k f m : Nat, ts.getD i (0, 0, 0) = (k, f, m) ∧ nxP l (a : Int) = ((k, f, m), 0) ∧ Lw l ts (i + 1) m := by
            rcases HL.out.step hlt with ⟨e1, e2, e3, _, e4⟩ | ⟨k, n, e1, e2, _, _, _, _, _, e7⟩
            · have := nx_good hs HL.out.1 e3
              rw [e2] at this
              exact ⟨0, l.length, l.length, e1, this, e4⟩
            · exact ⟨k, _, _, e1, nx_good hs HL.out.1 e2, e7⟩
          obtain ⟨k, f, m, e1, e2, e3⟩ := key
          have HN : Hid (Calls Tryd.prog 12 #[.string (mk l), .int .i64 (a : Int)] wr fun e1 w' => e1 = .returned (.tuple #[.agg #[.int .i64 (k : Nat), .int .i64 (f : Nat), .int .i64 (m : Nat)], .int .i64 0]) ∧ Below wr.heap.size wr w') := by
            have := next_any l hl (a : Int) wr HTR.out
            rw [e2] at this
            exact this
          have HE := hid e3
          have HE1 := hid e1
          clear e1 e2 e3
          obtain ⟨g, rfl, hc⟩ := (HO.out.below HB2.out).at i hlt
          clear hc
          go_wp2_with first
            | (go_at_call 12; refine HN.out.mono ?_; clear HN; rintro e1 w3 ⟨rfl, hb⟩
               have HB3 := hid (HB2.out.trans (hb.mono HB2.out.size))
               clear hb)
            | (refine st_tk (by rfl) (.tmp 11) (.tmp 94) (by rfl) (k, f, m) (by rfl) (by rfl) _ (by rfl) ?_
               intro wz htk hb
               have HB4 := hid (HB3.out.trans (hb.mono HB3.out.size))
               obtain ⟨g2, hg2, hc⟩ := (HO.out.below HB4.out).at i hlt
               injection hg2 with hg2
               injection hg2 with hg2
               rw [← hg2, HE1.out] at hc
               have c0 : wz.cell? ⟨g, i * 3, none⟩ = some (.int .i64 (k : Nat)) := hc 0 _ rfl
               have c1 : wz.cell? ⟨g, i * 3 + 1, none⟩ = some (.int .i64 (f : Nat)) := hc 1 _ rfl
               have c2 : wz.cell? ⟨g, i * 3 + 2, none⟩ = some (.int .i64 (m : Nat)) := hc 2 _ rfl
               have d0 := htk.c0
               have d1 := htk.c1
               have d2 := htk.c2
               clear htk hb hg2 hc)
          go_quiet (fail)
          go_wp2
          exact ⟨⟨i + 1, m, by simp, rfl, by omega, HE.out, below_drewN HB4.out _⟩, by simp [intOf]; omega⟩
        · have q1 : ¬ (i : Int) < (ts.length : Int) := by omega
          go_wp2_with (go_at_call 10; refine (HA.out _ HTR.out).mono ?_; rintro e1 w3 ⟨rfl, hb3⟩)
          go_ret
          exact ⟨rfl, (HB.out.trans (HB2.out.mono HB.out.size)).trans (hb3.mono (Nat.le_trans HB.out.size HB2.out.size))⟩

end Go.Proofs.YtgihbllkjoegcabDoor

/- From what the rows list of the program's tables of texts to what the walks ask of the world. -/
namespace Go.Proofs.YtgihbllkjoegcabDoor
open Go.RowKit

def strD {H : Type} (ts : List (List UInt8)) : DataW H := .agg (ts.map fun t => .lit (.string t))
theorem cells_of_strs {H : Type} {enc : TypeId × Value → H} {P : Program} {w : World} {base : Nat} {sp : Nat → Bool} {held : Bool} {fuel : Nat} {t e : TypeId} {n : Nat} {cs : List Value} {ts : List (List UInt8)} {p : List MemPlace}
    (ht : P.underlying t = some (.array n e)) (he : P.underlying e = some .string) (hce : P.cellsOf e = 1) (hct : P.cellsOf t = n)
    (h : DataW.trod enc P w base sp held fuel t cs = some (strD ts, p)) : cs = strV ts := by
  cases fuel with
  | zero => simp [DataW.trod] at h
  | succ fuel =>
    simp only [DataW.trod, ht, hce, hct, Nat.mul_one] at h
    split at h
    · rename_i hl
      obtain ⟨xs, hm, hx⟩ := Option.map_eq_some_iff.1 h
      have hxs : xs.map (·.1) = ts.map fun z => (DataW.lit (.string z) : DataW H) := by
        have := congrArg Prod.fst hx
        simpa [strD] using this
      have hxl : xs.length = n := by simpa using Lib.mapM_length hm
      have hzl : ts.length = n := by
        have := congrArg List.length hxs
        simp at this
        omega
      apply List.ext_getElem?
      intro i
      by_cases hi : i < n
      · obtain ⟨b, hb, hf⟩ := Lib.mapM_at hm i i (by simp [hi])
        obtain ⟨s, hc, rfl, _⟩ := DataW.trod_string he hf
        have h1 : cs[i]? = some (.string s) := by
          have := congrArg (·[0]?) hc
          simpa [List.getElem?_take, List.getElem?_drop] using this
        have h2 : (xs.map (·.1))[i]? = some (DataW.lit (.string s.data.toList) : DataW H) := by simp [hb]
        rw [hxs] at h2
        simp only [List.getElem?_map, Option.map_eq_some_iff, DataW.lit.injEq, Lit.string.injEq] at h2
        obtain ⟨z', hz', he'⟩ := h2
        rw [h1]
        simp only [strV, List.getElem?_map, hz', Option.map_some, Option.some.injEq, Value.string.injEq]
        rw [he', ← bl_eq, mk_bl]
      · rw [List.getElem?_eq_none (by omega), List.getElem?_eq_none (by rw [strV_length]; omega)]
    · cases h
theorem strs_of_reads {P : Program} {w : World} {name : String} {d : DataW Unit} (hr : Lib.VarReads P w name d) (ts : List (List UInt8)) (g0 : Nat) (t e : TypeId) (n : Nat) (hg : P.globalNamed name = some g0) (hty : (P.globals[g0]?).map (·.type) = some t)
    (ht : P.underlying t = some (.array n e)) (he : P.underlying e = some .string) (hce : P.cellsOf e = 1) (hct : P.cellsOf t = n) (hd : d = strD ts) : w.rangeAt g0 0 (strV ts) ∧ g0 < w.heap.size := by
  obtain ⟨g, t', cs, fuel, p, h1, h2, h3, h4⟩ := hr
  obtain rfl : g0 = g := by rw [hg] at h1; exact Option.some.inj h1
  obtain rfl : t = t' := by rw [hty] at h2; exact Option.some.inj h2
  subst hd
  have hcs := cells_of_strs ht he hce hct h4
  unfold World.var? at h3
  rw [hg] at h3
  simp only [Option.bind_some] at h3
  cases hb : w.heap[g0]? with
  | none => rw [hb] at h3; cases h3
  | some o =>
    rw [hb] at h3
    refine ⟨?_, hp_lt hb⟩
    intro j v hv
    rw [Nat.zero_add]
    cases o with
    | cells C ty fr =>
      simp only [Option.some.injEq] at h3
      subst h3
      rw [cell_of_row w g0 j _ _ _ hb]
      have : C.toList[j]? = some v := by rw [hcs]; exact hv
      simpa using this
    | _ => cases h3

end Go.Proofs.YtgihbllkjoegcabDoor
