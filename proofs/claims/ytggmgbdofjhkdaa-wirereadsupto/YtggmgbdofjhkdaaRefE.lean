/- The document's reader: List. -/
import Derived.Test.YtggmgbdofjhkdaaRefD
namespace Go.Proofs.Ytggmgbdofjhkdaa
open Go.RowKit

theorem Qd.far {w w' : World} {base b : Nat} {v : Value} {bs : List UInt8} {a : Nat} {why wat : Int} {row : Option Nat} {B : Nat} (h : Qd w base b v bs a why wat) (hg : w.grownBy w' row) (hb : b < B) (hv : ∀ j, v.ownBlock = some j → j < B) (hr : ∀ j, row = some j → B ≤ j) : Qd w' base b v bs a why wat := by
  refine h.grown hg (fun e => by have := hr _ e; omega) ?_
  cases e : v.ownBlock with
  | none => exact Or.inl rfl
  | some j =>
    refine Or.inr (fun e2 => ?_)
    have h1 := hv j e
    have h2 := hr j e2.symm
    omega

section
variable {w : World} {base b : Nat} {v : Value} {bs : List UInt8} {a : Nat} {why wat : Int}

set_option maxRecDepth 100000 in
set_option maxHeartbeats 1000000 in
theorem qlist_over (m n : Int) (h : Qd w base b v bs a why wat) (hw : why ≠ 0) :
    Calls Try.prog 52 #[.pointer (some ⟨b, 0, none⟩), .int .i64 m, .int .i64 n] w fun e w' => e = .returned (.slice none 0 0) ∧ Qd w' base b v bs a why wat ∧ w.grownBy w' (some b) := by
  have HC := hid (quint_over h hw)
  have h1 := h.c1
  have h2 := h.c2
  have f1 := h.fz 1
  have HR := hid (h.setAt a h.le)
  have hw' : (why == 0) = false := by simpa using hw
  have hw2 : (why != 0) = true := by simpa using hw
  clear h hw
  go_enter Try.func52, Try.ntmps52
  go_wp2_with fail
  refine Calls.mono HC.out ?_
  rintro e w1 ⟨rfl, rfl⟩
  go_wp2_with fail
  go_loop [9, 10] (fun x i => x = .slice none 0 0 ∧ i = .int .u64 0) (fun _ _ => 0)
  case atStart => exact ⟨rfl, rfl⟩
  case round =>
    obtain ⟨rfl, rfl⟩ := hrel
    go_wp2_with fail
    go_ret
    exact ⟨rfl, HR.out, gb_set _ _ _⟩

set_option maxRecDepth 100000 in
set_option maxHeartbeats 1000000 in
theorem qlist_arg (m n : Int) (h : Qd w base b v bs a 0 wat) (hmn : m < 0 ∨ n < 0) :
    Calls Try.prog 52 #[.pointer (some ⟨b, 0, none⟩), .int .i64 m, .int .i64 n] w fun e w' => e = .returned (.slice none 0 0) ∧ Qd w' base b v bs a 1 a ∧ w.grownBy w' (some b) := by
  have h1 := h.c1
  have h2 := h.c2
  have hle := h.le
  have HR := hid h
  have HM := hid hmn
  clear h hmn
  by_cases hm : m < 0
  all_goals
    have hn : ¬ m < 0 → n < 0 := fun h' => HM.out.elim (fun h => absurd h h') id
    first
    | have hn' : n < 0 := hn hm
    | skip
    clear hn HM
    go_enter Try.func52, Try.ntmps52
    go_wp2_with fail
    refine (qfail_any HR.out _ _).mono ?_
    rintro e w1 ⟨rfl, hq, hg⟩
    have HQ := hid hq
    have HQ2 := hid (hq.setAt a hle)
    have HG := hid (gb_trans hg (gb_set w1 ⟨b, 1, none⟩ (.int .i64 a)))
    have g2 := hq.c2
    have g1 := hq.c1
    have f1 := hq.fz 1
    clear hq hg HR
    go_wp2_with fail
    refine (quint_over HQ.out (by decide)).mono ?_
    rintro e w2 ⟨rfl, rfl⟩
    go_wp2_with fail
    go_loop [9, 10] (fun x i => x = .slice none 0 0 ∧ i = .int .u64 0) (fun _ _ => 0)
    case atStart => exact ⟨rfl, rfl⟩
    case round =>
      obtain ⟨rfl, rfl⟩ := hrel
      go_wp2_with fail
      go_ret
      exact ⟨rfl, HQ2.out, HG.out⟩

set_option maxRecDepth 100000 in
set_option maxHeartbeats 4000000 in
theorem qlist_go (m n : Nat) (hm : m ≤ 9223372036854775807) (hn : n ≤ 9223372036854775807) (hbl : bs.length ≤ 1099511627776) (h : Qd w base b v bs a 0 wat) (er k : Nat) (ts : List (List UInt8)) (hl : lst (bs.drop a) m n = (er, ts, k)) :
    Calls Try.prog 52 #[.pointer (some ⟨b, 0, none⟩), .int .i64 m, .int .i64 n] w fun e w' => ∃ v', e = .returned v' ∧ OwnS w' w.heap.size v' ts ∧ (er ≠ 0 → v' = .slice none 0 0) ∧ (er = 0 → Qd w' base b v bs (a + k) 0 wat) ∧ (er ≠ 0 → Qd w' base b v bs a er ((a + k : Nat) : Int)) ∧ w.grownBy w' (some b) := by
  obtain ⟨d1, n0, d3, hd⟩ : ∃ d1 d2 d3, dec (bs.drop a) 0 0 = (d1, d2, d3) := ⟨_, _, _, rfl⟩
  have HC := hid (quint_go h d1 n0 d3 hd)
  have h1 := h.c1
  have h2 := h.c2
  have hle := h.le
  have hblt := h.lt
  have HVB := hid (fun j e => (h.own.lt j e).2 : ∀ j, v.ownBlock = some j → j < w.heap.size)
  obtain ⟨hk3, hlt, _, hz⟩ := dec_le _ hd
  have hdl : (bs.drop a).length = bs.length - a := by simp
  rw [hdl] at hk3
  unfold lst upTo at hl
  rw [hd] at hl
  simp only [List.drop_drop] at hl
  clear h hd hdl
  by_cases he : d1 = 0
  · subst he
    have hW0 : watOf 0 a wat = wat := by simp [watOf]
    rw [hW0] at HC
    clear hW0 hz
    by_cases hmn : m < n0
    · have hsimp : (er, ts, k) = (11, [], 0) := by
        rw [← hl]
        simp [hmn]
      simp only [Prod.mk.injEq] at hsimp
      have HE := hid hsimp
      clear hsimp
      have hn' : (m : Int) < (n0 : Int) := by omega
      have hn0 : (0 : Int) < (n0 : Int) := by omega
      clear hl
      go_enter Try.func52, Try.ntmps52
      go_wp2_with fail
      refine Calls.mono HC.out ?_
      rintro e w1 ⟨rfl, hq, hg⟩
      have HQ := hid hq
      have HG := hid hg
      have g2 := hq.c2
      clear hq hg HC
      go_wp2_with fail
      refine (qfail_any HQ.out _ _).mono ?_
      rintro e w2 ⟨rfl, hq, hg⟩
      have HQ2 := hid (hq.setAt a hle)
      have HG2 := hid (gb_trans (gb_trans HG.out hg) (gb_set w2 ⟨b, 1, none⟩ (.int .i64 a)))
      have p2 := hq.c2
      have p1 := hq.c1
      have f1 := hq.fz 1
      clear hq hg
      go_wp2_with fail
      go_loop [9, 10] (fun x i => x = .slice none 0 0 ∧ i = .int .u64 0) (fun _ _ => 0)
      case atStart => exact ⟨rfl, rfl⟩
      case round =>
        obtain ⟨rfl, rfl⟩ := hrel
        go_wp2_with fail
        go_ret
        obtain ⟨rfl, rfl, rfl⟩ := HE.out
        exact ⟨_, rfl, OwnS.nil _ _, fun _ => rfl, fun h' => absurd h' (by decide), fun _ => HQ2.out, HG2.out⟩
    · have hsimp : (er, ts, k) = ((lstR n0 (bs.drop (a + d3)) n).1, (lstR n0 (bs.drop (a + d3)) n).2.1, d3 + (lstR n0 (bs.drop (a + d3)) n).2.2) := by
        rw [← hl]
        simp [hmn]
      have HG0 := hid (⟨rfl, fun _ => by simp, fun h' => lstR_err _ _ _ h', by simp, by omega, by simp⟩ : Going (lstR n0 (bs.drop (a + d3)) n) bs n (a + d3) (a + d3) 0 n0 [])
      generalize lstR n0 (bs.drop (a + d3)) n = R at *
      simp only [Prod.mk.injEq] at hsimp
      have HE := hid hsimp
      have hn' : ¬ (m : Int) < (n0 : Int) := by omega
      clear hl hsimp
      go_enter Try.func52, Try.ntmps52
      go_wp2_with fail
      refine Calls.mono HC.out ?_
      rintro e w1 ⟨rfl, hq, hg⟩
      have HQ := hid hq
      have HG := hid hg
      have g2 := hq.c2
      clear hq hg HC
      go_wp2_with fail
      go_loopw [9, 10] (fun x i wr => ∃ (c a' : Nat) (us : List (List UInt8)) (why' wat' : Int), c ≤ n0 ∧ i = .int .u64 c ∧ OwnS wr w.heap.size x us ∧ Qd wr base b v bs a' why' wat' ∧ w.grownBy wr (some b) ∧ ((why' = 0 ∧ wat' = wat ∧ Going R bs n (a + d3) a' c (n0 - c) us) ∨ (why' ≠ 0 ∧ why' = R.1 ∧ R.2.1 = [] ∧ wat' = ((a + (d3 + R.2.2) : Nat) : Int)))) (fun _ i _ => n0 - (intOf i).toNat)
      case atStart => exact ⟨0, a + d3, [], 0, wat, by omega, rfl, OwnS.nil _ _, HQ.out, HG.out, Or.inl ⟨rfl, rfl, by simpa using HG0.out⟩⟩
      case round =>
        obtain ⟨c, a', us, why', wat', hc, rfl, hos, hRr, hgr, hst⟩ := hrel
        have HOS := hid hos
        have HRR := hid hRr
        have HGR := hid hgr
        have hsr := hgr.size
        have q2 := hRr.c2
        have q1 := hRr.c1
        have qf := hRr.fz 1
        clear hos hRr hgr HG0 HQ HG
        rcases hst with ⟨rfl, rfl, hgo⟩ | ⟨hne, rfl, hnil, rfl⟩
        · have HGO := hid hgo
          clear hgo
          by_cases hcn : c < n0
          · obtain ⟨m1, hm1⟩ : ∃ m1, n0 - c = m1 + 1 := ⟨n0 - c - 1, by omega⟩
            rw [hm1] at HGO
            obtain ⟨er1, x1, k1, ht⟩ : ∃ er1 x1 k1, txt (bs.drop a') n = (er1, x1, k1) := ⟨_, _, _, rfl⟩
            have HT := hid ht
            have HK1 := hid ((txt_le ht).2.2)
            have HM := hid hm1
            have hcn' : (c : Int) < (n0 : Int) := by omega
            clear ht hm1
            by_cases her : er1 = 0
            · subst her
              have HST := hid (HGO.out.step HT.out)
              have hcnt := HGO.out.cnt
              have hle2 := HGO.out.le
              go_wp2_with fail
              refine (qtext_go n hn (by omega) HRR.out _ _ _ HT.out).mono ?_
              rintro e w2 ⟨rfl, hR2, hg2⟩
              have HR2 := hid (by simpa [watOf] using hR2 : Qd w2 base b v bs (a' + k1) 0 wat')
              have HG2 := hid hg2
              have hs2 := hg2.size
              have HOS2 := hid (HOS.out.far hg2 (fun j e => by cases e; omega))
              have r2 := HR2.out.c2
              clear hR2 hg2
              go_wp2_with (at_builtin; refine app_text rfl _ _ rfl w.heap.size _ _ rfl (HOS2.out.alloc _) x1 w2.heap.size rfl ?c0 ?c1 ?c2 ?_)
              case c0 => simp
              case c1 => omega
              case c2 => simp; omega
              intro v3 w3 ho3 hg3
              have HO3 := hid ho3
              have hvlt : ∀ j, u9.ownBlock = some j → w.heap.size ≤ j := fun j e => (HOS.out.lt j e).1
              have HR3 := hid ((HR2.out.below (below_walk _ _)).far hg3 hblt HVB.out hvlt : Qd w3 base b v bs (a' + k1) 0 wat')
              have HG3 := hid (gb_then (gb_trans (gb_trans HGR.out HG2.out) (gb_alloc _ _ _)) hg3 (fun j e => Or.inl (hvlt j e)) : w.grownBy w3 (some b))
              clear ho3 hg3 hvlt
              go_wp2_with fail
              go_roundw
              case rel => exact ⟨c + 1, a' + k1, us ++ [x1], 0, wat', by omega, by go_num, HO3.out, HR3.out, HG3.out, Or.inl ⟨rfl, rfl, by have := HM.out; rw [show n0 - (c + 1) = m1 by omega]; exact HST.out⟩⟩
              case measure => simp [intOf]; omega
            · have HSP := hid (HGO.out.stop HT.out her)
              have heb : ((er1 : Int) == 0) = false := by simp; omega
              have HK0 := hid (HK1.out her)
              have hle2 := HGO.out.le
              have HW := hid (watOf_ne her a' wat')
              have HER := hid her
              clear her
              go_wp2_with fail
              refine (qtext_go n hn (by omega) HRR.out _ _ _ HT.out).mono ?_
              rintro e w2 ⟨rfl, hR2, hg2⟩
              rw [HW.out, HK0.out.2, Nat.add_zero] at hR2
              have HR2 := hid hR2
              have HG2 := hid (gb_trans HGR.out hg2)
              have HOS2 := hid (HOS.out.far hg2 (fun j e => by cases e; omega))
              have r2 := HR2.out.c2
              clear hR2 hg2
              go_wp2_with fail
              go_roundw
              case rel =>
                obtain ⟨e1, e2, e3⟩ := HSP.out
                have := HER.out
                exact ⟨c + 1, a', us, er1, (a' : Int), by omega, by go_num, HOS2.out, HR2.out, HG2.out, Or.inr ⟨by omega, by rw [e1], e2, by rw [e3]; omega⟩⟩
              case measure => simp [intOf]; omega
          · have hcn' : ¬ (c : Int) < (n0 : Int) := by omega
            have hc0 : n0 - c = 0 := by omega
            rw [hc0] at HGO
            have HDN := hid HGO.out.done
            have hle2 := HGO.out.le
            go_wp2_with fail
            go_ret
            obtain ⟨rfl, rfl, rfl⟩ := HE.out
            obtain ⟨e1, e2, e3⟩ := HDN.out
            refine ⟨_, rfl, by rw [e2]; exact HOS.out, fun h' => absurd e1 h', fun _ => ?_, fun h' => absurd e1 h', HGR.out⟩
            rw [e3, show a + (d3 + (a' - (a + d3))) = a' by omega]
            exact HRR.out
        · have heb : (((R.1 : Nat) : Int) == 0) = false := by simpa using hne
          have heb2 : (((R.1 : Nat) : Int) != 0) = true := by simpa using hne
          have HNE := hid hne
          have HNIL := hid hnil
          have HQ2 := hid (HRR.out.setAt a hle)
          have HG2 := hid (gb_trans HGR.out (gb_set wr ⟨b, 1, none⟩ (.int .i64 a)))
          clear hne hnil
          generalize R.1 = R1 at *
          by_cases hcn : (c : Int) < (n0 : Int)
          all_goals
            go_wp2_with fail
            go_ret
            obtain ⟨rfl, rfl, rfl⟩ := HE.out
            exact ⟨_, rfl, by rw [HNIL.out]; exact OwnS.nil _ _, fun _ => rfl, fun h' => absurd (by rw [h']; rfl) HNE.out, fun _ => HQ2.out, HG2.out⟩
  · have hsimp : (er, ts, k) = (d1, [], 0) := by
      rw [← hl]
      simp [he]
    simp only [Prod.mk.injEq] at hsimp
    obtain ⟨rfl, rfl, rfl⟩ := hsimp
    obtain ⟨rfl, rfl⟩ := hz he
    have he' : ((er : Int) != 0) = true := by simpa using he
    have he2 : ((er : Int) == 0) = false := by simpa using he
    have HER := hid he
    have HW := hid (watOf_ne he a wat)
    clear he hz hl
    go_enter Try.func52, Try.ntmps52
    go_wp2_with fail
    refine Calls.mono HC.out ?_
    rintro e w1 ⟨rfl, hq, hg⟩
    rw [HW.out, Nat.add_zero] at hq
    have HQ2 := hid (hq.setAt a hle)
    have HG2 := hid (gb_trans hg (gb_set w1 ⟨b, 1, none⟩ (.int .i64 a)))
    have g2 := hq.c2
    have g1 := hq.c1
    have f1 := hq.fz 1
    clear hq hg HC
    go_wp2_with fail
    go_loop [9, 10] (fun x i => x = .slice none 0 0 ∧ i = .int .u64 0) (fun _ _ => 0)
    case atStart => exact ⟨rfl, rfl⟩
    case round =>
      obtain ⟨rfl, rfl⟩ := hrel
      go_wp2_with fail
      go_ret
      exact ⟨_, rfl, OwnS.nil _ _, fun _ => rfl, fun h' => absurd h' HER.out, fun _ => by simpa using HQ2.out, HG2.out⟩

theorem qlist_R (m n : Int) (hm : m ≤ 9223372036854775807) (hn : n ≤ 9223372036854775807) (hbl : bs.length ≤ 1099511627776) (h : Qd w base b v bs a why wat) :
    Calls Try.prog 52 #[.pointer (some ⟨b, 0, none⟩), .int .i64 m, .int .i64 n] w fun e w' => ∃ v', e = .returned v' ∧ OwnS w' w.heap.size v' (listF bs a why wat m n).1 ∧ Qd w' base b v bs (listF bs a why wat m n).2.1 (listF bs a why wat m n).2.2.1 (listF bs a why wat m n).2.2.2 ∧ w.grownBy w' (some b) := by
  unfold listF
  by_cases hw : why ≠ 0
  · rw [if_pos hw]
    refine (qlist_over m n h hw).mono ?_
    rintro e w' ⟨rfl, hr⟩
    exact ⟨_, rfl, OwnS.nil _ _, hr⟩
  · rw [if_neg hw]
    obtain rfl : why = 0 := by omega
    by_cases h0 : m < 0 ∨ n < 0
    · rw [if_pos h0]
      refine (qlist_arg m n h h0).mono ?_
      rintro e w' ⟨rfl, hr⟩
      exact ⟨_, rfl, OwnS.nil _ _, hr⟩
    · rw [if_neg h0]
      obtain ⟨k, rfl⟩ : ∃ k : Nat, m = k := ⟨m.toNat, by omega⟩
      obtain ⟨j, rfl⟩ : ∃ j : Nat, n = j := ⟨n.toNat, by omega⟩
      simp only [Int.toNat_natCast]
      refine (qlist_go k j (by omega) (by omega) hbl h _ _ _ rfl).mono ?_
      rintro e w' ⟨v', rfl, ho, hnil, h1, h2, hg⟩
      by_cases he : (lst (bs.drop a) k j).1 ≠ 0
      · rw [if_pos he]
        obtain rfl := hnil he
        exact ⟨_, rfl, OwnS.nil _ _, h2 he, hg⟩
      · rw [if_neg he]
        exact ⟨_, rfl, ho, h1 (Decidable.not_not.1 he), hg⟩
end

end Go.Proofs.Ytggmgbdofjhkdaa
