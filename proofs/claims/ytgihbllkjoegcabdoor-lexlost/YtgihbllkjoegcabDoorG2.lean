/- Contracts and pure facts that the proof needs, joined. -/
import Derived.Test.YtgihbllkjoegcabDoorG1
import Derived.Deep.QuietTactic
import Derived.Lib.LaidU8
import Derived.Lib.LaidTab

/- LexLost: tokens rise; between them, ahead of them and behind them there are gaps alone. -/
namespace Go.Proofs.YtgihbllkjoegcabDoor
open Go.RowKit

theorem drop_tok {ts : List (Nat × Nat × Nat)} {i : Nat} (h : i < ts.length) : ts.drop i = ts.getD i (0, 0, 0) :: ts.drop (i + 1) := by
  rw [List.drop_eq_getElem_cons h]
  simp [List.getD_eq_getElem?_getD, h]
/-- where a walk over the tokens stands -/
def Lw (l : List UInt8) (ts : List (Nat × Nat × Nat)) (i a : Nat) : Prop := a ≤ l.length ∧ (i < ts.length ∧ Lx l a (ts.drop i) ∨ i = ts.length ∧ a = l.length)
theorem Lw.zero {l : List UInt8} {ts : List (Nat × Nat × Nat)} (h : Lx l 0 ts) : Lw l ts 0 0 := ⟨Nat.zero_le _, Or.inl ⟨h.len.2, h⟩⟩
theorem Lw.step {l : List UInt8} {ts : List (Nat × Nat × Nat)} {i a : Nat} (h : Lw l ts i a) (hi : i < ts.length) :
    (ts.getD i (0, 0, 0) = (0, l.length, l.length) ∧ frP l a = l.length ∧ tkP l a = (0, 0, 0) ∧ i + 1 = ts.length ∧ Lw l ts (i + 1) l.length) ∨
    (∃ k n, ts.getD i (0, 0, 0) = (k, frP l a, frP l a + n) ∧ tkP l a = (k, n, 0) ∧ 1 ≤ k ∧ k ≤ 5 ∧ 1 ≤ n ∧ frP l a + n ≤ l.length ∧ i + 1 < ts.length ∧ Lw l ts (i + 1) (frP l a + n)) := by
  obtain ⟨ha, ⟨_, hx⟩ | ⟨h1, _⟩⟩ := h
  · rw [drop_tok hi] at hx
    generalize htt : ts.getD i (0, 0, 0) = t at hx ⊢
    generalize hrr : ts.drop (i + 1) = r at hx
    rcases hx with ⟨e0, e9, h1, h2⟩ | ⟨k, n, e0, h0, h1, h2, h3, h4, h5, h6⟩
    · have e := congrArg List.length hrr
      rw [List.length_drop, e9] at e
      simp only [List.length_nil] at e
      exact Or.inl ⟨e0, h2, h1, by omega, Nat.le_refl _, Or.inr ⟨by omega, rfl⟩⟩
    · have e := congrArg List.length hrr
      rw [List.length_drop] at e
      have := h6.len.2
      exact Or.inr ⟨k, n, e0, h1, h2, h3, h4, h5, by omega, h5, Or.inl ⟨by omega, by rw [hrr]; exact h6⟩⟩
  · omega

set_option maxHeartbeats 4000000 in
theorem lost_any (w : World) (l : List UInt8) (hl : l.length ≤ 140737488355328) (hT : Tabs w) :
    Calls Tryd.prog 4 #[.string (mk l)] w fun e w' => e = .returned (.bool true) ∧ Below w.heap.size w w' := by
  have hsz := mk_size l
  have H1 := hid (all_any l hl w hT)
  have HA := hid awake_any
  have HT := hid hT
  clear hT
  rcases al_view l with ⟨e, p, he, h1, _⟩ | ⟨ts, hs, h1, h2⟩
  · rw [h1] at H1
    have he0 : ¬ e = 0 := he
    clear h1 he
    go_enter Tryd.func4, Tryd.ntmps4
    go_wp2_with first
      | (go_at_call 9; refine H1.out.mono ?_; rintro e1 w2 ⟨v, rfl, ho, hb⟩
         obtain ⟨sa, sc, rfl⟩ := ho.shape
         have HB := hid hb
         clear ho hb)
      | (go_at_call 10; refine (HA.out _ (HT.out.below (HB.out.alloc HB.out.size _))).mono ?_; rintro e1 w3 ⟨rfl, hb3⟩)
    go_ret
    exact ⟨rfl, (HB.out.alloc HB.out.size _).trans (hb3.mono (by rw [hp_size]; have := HB.out.size; omega))⟩
  · rw [h2] at H1
    have HS := hid h1
    have hlen : (ts.length : Int) ≤ 65537 := by have := h1.len; omega
    have hlen0 : (0 : Int) < (ts.length : Int) := by have := h1.len; omega
    clear h1 h2
    go_enter Tryd.func4, Tryd.ntmps4
    go_wp2_with (go_at_call 9; refine H1.out.mono ?_; rintro e1 w2 ⟨v, rfl, ho, hb⟩
                 obtain ⟨sa, sc, rfl⟩ := ho.shape
                 have HB := hid hb
                 have HO := hid ho
                 clear ho hb)
    go_loopw [5, 6] (fun x i wr => ∃ k a : Nat, i = .int .i64 k ∧ x = .int .i64 a ∧ k ≤ ts.length ∧ Lw l ts k a ∧ Below w2.heap.size w2 wr) (fun _ i _ => ts.length - (intOf i).toNat)
    case atStart => exact ⟨0, 0, rfl, rfl, Nat.zero_le _, Lw.zero HS.out, below_walk _ _⟩
    case round =>
      obtain ⟨i, a, rfl, rfl, hi, HL, HB2⟩ := hrel
      have HB2 : Hid (Below w2.heap.size w2 wr) := HB2
      have HL : Hid (Lw l ts i a) := HL
      by_cases hlt : i < ts.length
      · have q1 : (i : Int) < (ts.length : Int) := by omega
        obtain ⟨g, rfl, hc⟩ := (HO.out.below HB2.out).at i hlt
        have HG := hid (rgap_any l a HL.out.1 hl)
        rcases HL.out.step hlt with ⟨e1, e2, _, e3, e4⟩ | ⟨k, n, e1, _, e2, e3, e4, e5, e6, e7⟩
        · rw [e1] at hc
          rw [e2] at HG
          have c0 : wr.cell? ⟨g, i * 3, none⟩ = some (.int .i64 0) := hc 0 _ rfl
          have c1 : wr.cell? ⟨g, i * 3 + 1, none⟩ = some (.int .i64 (l.length : Nat)) := hc 1 _ rfl
          have c2 : wr.cell? ⟨g, i * 3 + 2, none⟩ = some (.int .i64 (l.length : Nat)) := hc 2 _ rfl
          have HE := hid e4
          have q2 : (ts.length : Int) - 1 = (i : Int) := by omega
          clear hc e1 e2 e3 e4
          go_wp2_with fail
          go_quiet (first | (go_at_call 11; exact Calls.quiet_of_same (HG.out _)))
          go_wp2
          exact ⟨⟨i + 1, l.length, by simp, rfl, by omega, HE.out, below_drewN HB2.out _⟩, by simp [intOf]; omega⟩
        · rw [e1] at hc
          obtain ⟨f, HF⟩ : ∃ f, Hid (frP l a = f) := ⟨_, rfl⟩
          rw [HF.out] at HG hc e5 e7
          obtain ⟨m, hm⟩ : ∃ m, f + n = m := ⟨_, rfl⟩
          have q3 : ¬ m < f := by omega
          rw [hm] at hc e5 e7
          have c0 : wr.cell? ⟨g, i * 3, none⟩ = some (.int .i64 (k : Nat)) := hc 0 _ rfl
          have c1 : wr.cell? ⟨g, i * 3 + 1, none⟩ = some (.int .i64 (f : Nat)) := hc 1 _ rfl
          have c2 : wr.cell? ⟨g, i * 3 + 2, none⟩ = some (.int .i64 (m : Nat)) := hc 2 _ rfl
          have HE := hid e7
          have q2 : ¬ (i : Int) = (ts.length : Int) - 1 := by omega
          have q4 : ¬ l.length < m := by omega
          have q5 : ¬ (k : Int) = 0 := by omega
          have b5 : ((k : Int) == 0) = false := by simpa using q5
          have b2 : ((i : Int) == (ts.length : Int) - 1) = false := by simpa using q2
          clear hc e1 e2 e3 e4 e5 e6 e7 hm
          go_wp2_with fail
          go_quiet (first | (go_at_call 11; exact Calls.quiet_of_same (HG.out _)))
          go_wp2
          exact ⟨⟨i + 1, m, by simp, rfl, by omega, HE.out, below_drewN HB2.out _⟩, by simp [intOf]; omega⟩
      · have q1 : ¬ (i : Int) < (ts.length : Int) := by omega
        have HTR := hid (HT.out.below (HB.out.trans (HB2.out.mono HB.out.size)))
        have hal : a = l.length := by
          rcases HL.out.2 with ⟨h, _⟩ | ⟨_, h⟩
          · omega
          · exact h
        subst hal
        go_wp2_with (go_at_call 10; refine (HA.out _ HTR.out).mono ?_; rintro e1 w3 ⟨rfl, hb3⟩)
        go_ret
        exact ⟨rfl, (HB.out.trans (HB2.out.mono HB.out.size)).trans (hb3.mono (Nat.le_trans HB.out.size HB2.out.size))⟩

end Go.Proofs.YtgihbllkjoegcabDoor

/- From what the rows list of the program's tables of texts to what the walks ask of the world. -/
namespace Go.Proofs.YtgihbllkjoegcabDoor
open Go.RowKit

def strD {H : Type} (ts : List (List UInt8)) : DataW H := .agg (ts.map fun t => .lit (.string t))
theorem cells_of_strs {H : Type} {enc : TypeId × Value → H} {P : Program} {w : World} {base : Nat} {sp : Nat → Bool} {held : Bool} {fuel : Nat} {t e : TypeId} {n : Nat} {cs : List Value} {ts : List (List UInt8)} {p : List MemPlace}
    (ht : P.underlying t = some (.array n e)) (he : P.underlying e = some .string) (hce : P.cellsOf e = 1) (hct : P.cellsOf t = n)
    (h : DataW.trod enc P w base sp held fuel t cs = some (strD ts, p)) : cs = strV ts := by
  cases fuel with
  | zero => simp [DataW.trod] at h
  | succ fuel =>
    simp only [DataW.trod, ht, hce, hct, Nat.mul_one] at h
    split at h
    · rename_i hl
      obtain ⟨xs, hm, hx⟩ := Option.map_eq_some_iff.1 h
      have hxs : xs.map (·.1) = ts.map fun z => (DataW.lit (.string z) : DataW H) := by
        have := congrArg Prod.fst hx
        simpa [strD] using this
      have hxl : xs.length = n := by simpa using Lib.mapM_length hm
      have hzl : ts.length = n := by
        have := congrArg List.length hxs
        simp at this
        omega
      apply List.ext_getElem?
      intro i
      by_cases hi : i < n
      · obtain ⟨b, hb, hf⟩ := Lib.mapM_at hm i i (by simp [hi])
        obtain ⟨s, hc, rfl, _⟩ := DataW.trod_string he hf
        have h1 : cs[i]? = some (.string s) := by
          have := congrArg (·[0]?) hc
          simpa [List.getElem?_take, List.getElem?_drop] using this
        have h2 : (xs.map (·.1))[i]? = some (DataW.lit (.string s.data.toList) : DataW H) := by simp [hb]
        rw [hxs] at h2
        simp only [List.getElem?_map, Option.map_eq_some_iff, DataW.lit.injEq, Lit.string.injEq] at h2
        obtain ⟨z', hz', he'⟩ := h2
        rw [h1]
        simp only [strV, List.getElem?_map, hz', Option.map_some, Option.some.injEq, Value.string.injEq]
        rw [he', ← bl_eq, mk_bl]
      · rw [List.getElem?_eq_none (by omega), List.getElem?_eq_none (by rw [strV_length]; omega)]
    · cases h
theorem strs_of_reads {P : Program} {w : World} {name : String} {d : DataW Unit} (hr : Lib.VarReads P w name d) (ts : List (List UInt8)) (g0 : Nat) (t e : TypeId) (n : Nat) (hg : P.globalNamed name = some g0) (hty : (P.globals[g0]?).map (·.type) = some t)
    (ht : P.underlying t = some (.array n e)) (he : P.underlying e = some .string) (hce : P.cellsOf e = 1) (hct : P.cellsOf t = n) (hd : d = strD ts) : w.rangeAt g0 0 (strV ts) ∧ g0 < w.heap.size := by
  obtain ⟨g, t', cs, fuel, p, h1, h2, h3, h4⟩ := hr
  obtain rfl : g0 = g := by rw [hg] at h1; exact Option.some.inj h1
  obtain rfl : t = t' := by rw [hty] at h2; exact Option.some.inj h2
  subst hd
  have hcs := cells_of_strs ht he hce hct h4
  unfold World.var? at h3
  rw [hg] at h3
  simp only [Option.bind_some] at h3
  cases hb : w.heap[g0]? with
  | none => rw [hb] at h3; cases h3
  | some o =>
    rw [hb] at h3
    refine ⟨?_, hp_lt hb⟩
    intro j v hv
    rw [Nat.zero_add]
    cases o with
    | cells C ty fr =>
      simp only [Option.some.injEq] at h3
      subst h3
      rw [cell_of_row w g0 j _ _ _ hb]
      have : C.toList[j]? = some v := by rw [hcs]; exact hv
      simpa using this
    | _ => cases h3

end Go.Proofs.YtgihbllkjoegcabDoor
