/- Contracts and pure facts that the proof needs, joined. -/
import Derived.Test.YtiibhccbbpgehaaGreatG7
import Derived.Test.YtiibhccbbpgehaaGreatG5
import Derived.Test.YtiibhccbbpgehaaGreatG6

/- The document's reader: List. -/
namespace Go.Proofs.YtiibhccbbpgehaaGreat
open Go.RowKit

theorem Qd.far {w w' : World} {base b : Nat} {v : Value} {bs : List UInt8} {a : Nat} {why wat : Int} {row : Option Nat} {B : Nat} (h : Qd w base b v bs a why wat) (hg : w.grownBy w' row) (hb : b < B) (hv : ∀ j, v.ownBlock = some j → j < B) (hr : ∀ j, row = some j → B ≤ j) : Qd w' base b v bs a why wat := by
  refine h.grown hg (fun e => by have := hr _ e; omega) ?_
  cases e : v.ownBlock with
  | none => exact Or.inl rfl
  | some j =>
    refine Or.inr (fun e2 => ?_)
    have h1 := hv j e
    have h2 := hr j e2.symm
    omega

section
variable {w : World} {base b : Nat} {v : Value} {bs : List UInt8} {a : Nat} {why wat : Int}

set_option maxRecDepth 100000 in
set_option maxHeartbeats 1000000 in
theorem qlist_over (m n : Int) (h : Qd w base b v bs a why wat) (hw : why ≠ 0) :
    Calls Tryz.prog 76 #[.pointer (some ⟨b, 0, none⟩), .int .i64 m, .int .i64 n] w fun e w' => e = .returned (.slice none 0 0) ∧ Qd w' base b v bs a why wat ∧ w.grownBy w' (some b) := by
  have HC := hid (quint_over h hw)
  have h1 := h.c1
  have h2 := h.c2
  have f1 := h.fz 1
  have HR := hid (h.setAt a h.le)
  have hw' : (why == 0) = false := by simpa using hw
  have hw2 : (why != 0) = true := by simpa using hw
  clear h hw
  go_enter Tryz.func76, Tryz.ntmps76
  go_wp2_with fail
  refine Calls.mono HC.out ?_
  rintro e w1 ⟨rfl, rfl⟩
  go_wp2_with fail
  go_loop [9, 10] (fun x i => x = .slice none 0 0 ∧ i = .int .u64 0) (fun _ _ => 0)
  case atStart => exact ⟨rfl, rfl⟩
  case round =>
    obtain ⟨rfl, rfl⟩ := hrel
    go_wp2_with fail
    go_ret
    exact ⟨rfl, HR.out, gb_set _ _ _⟩

set_option maxRecDepth 100000 in
set_option maxHeartbeats 1000000 in
theorem qlist_arg (m n : Int) (h : Qd w base b v bs a 0 wat) (hmn : m < 0 ∨ n < 0) :
    Calls Tryz.prog 76 #[.pointer (some ⟨b, 0, none⟩), .int .i64 m, .int .i64 n] w fun e w' => e = .returned (.slice none 0 0) ∧ Qd w' base b v bs a 1 a ∧ w.grownBy w' (some b) := by
  have h1 := h.c1
  have h2 := h.c2
  have hle := h.le
  have HR := hid h
  have HM := hid hmn
  clear h hmn
  by_cases hm : m < 0
  all_goals
    have hn : ¬ m < 0 → n < 0 := fun h' => HM.out.elim (fun h => absurd h h') id
    first
    | have hn' : n < 0 := hn hm
    | skip
    clear hn HM
    go_enter Tryz.func76, Tryz.ntmps76
    go_wp2_with fail
    refine (qfail_any HR.out _ _).mono ?_
    rintro e w1 ⟨rfl, hq, hg⟩
    have HQ := hid hq
    have HQ2 := hid (hq.setAt a hle)
    have HG := hid (gb_trans hg (gb_set w1 ⟨b, 1, none⟩ (.int .i64 a)))
    have g2 := hq.c2
    have g1 := hq.c1
    have f1 := hq.fz 1
    clear hq hg HR
    go_wp2_with fail
    refine (quint_over HQ.out (by decide)).mono ?_
    rintro e w2 ⟨rfl, rfl⟩
    go_wp2_with fail
    go_loop [9, 10] (fun x i => x = .slice none 0 0 ∧ i = .int .u64 0) (fun _ _ => 0)
    case atStart => exact ⟨rfl, rfl⟩
    case round =>
      obtain ⟨rfl, rfl⟩ := hrel
      go_wp2_with fail
      go_ret
      exact ⟨rfl, HQ2.out, HG.out⟩

set_option maxRecDepth 100000 in
set_option maxHeartbeats 4000000 in
theorem qlist_go (m n : Nat) (hm : m ≤ 9223372036854775807) (hn : n ≤ 9223372036854775807) (hbl : bs.length ≤ 1099511627776) (h : Qd w base b v bs a 0 wat) (er k : Nat) (ts : List (List UInt8)) (hl : lst (bs.drop a) m n = (er, ts, k)) :
    Calls Tryz.prog 76 #[.pointer (some ⟨b, 0, none⟩), .int .i64 m, .int .i64 n] w fun e w' => ∃ v', e = .returned v' ∧ WOwnS w' w.heap.size v' ts ∧ (er ≠ 0 → v' = .slice none 0 0) ∧ (er = 0 → Qd w' base b v bs (a + k) 0 wat) ∧ (er ≠ 0 → Qd w' base b v bs a er ((a + k : Nat) : Int)) ∧ w.grownBy w' (some b) := by
  obtain ⟨d1, n0, d3, hd⟩ : ∃ d1 d2 d3, dec (bs.drop a) 0 0 = (d1, d2, d3) := ⟨_, _, _, rfl⟩
  have HC := hid (quint_go h d1 n0 d3 hd)
  have h1 := h.c1
  have h2 := h.c2
  have hle := h.le
  have hblt := h.lt
  have HVB := hid (fun j e => (h.own.lt j e).2 : ∀ j, v.ownBlock = some j → j < w.heap.size)
  obtain ⟨hk3, hlt, _, hz⟩ := dec_le _ hd
  have hdl : (bs.drop a).length = bs.length - a := by simp
  rw [hdl] at hk3
  unfold lst upTo at hl
  rw [hd] at hl
  simp only [List.drop_drop] at hl
  clear h hd hdl
  by_cases he : d1 = 0
  · subst he
    have hW0 : watOf 0 a wat = wat := by simp [watOf]
    rw [hW0] at HC
    clear hW0 hz
    by_cases hmn : m < n0
    · have hsimp : (er, ts, k) = (11, [], 0) := by
        rw [← hl]
        simp [hmn]
      simp only [Prod.mk.injEq] at hsimp
      have HE := hid hsimp
      clear hsimp
      have hn' : (m : Int) < (n0 : Int) := by omega
      have hn0 : (0 : Int) < (n0 : Int) := by omega
      clear hl
      go_enter Tryz.func76, Tryz.ntmps76
      go_wp2_with fail
      refine Calls.mono HC.out ?_
      rintro e w1 ⟨rfl, hq, hg⟩
      have HQ := hid hq
      have HG := hid hg
      have g2 := hq.c2
      clear hq hg HC
      go_wp2_with fail
      refine (qfail_any HQ.out _ _).mono ?_
      rintro e w2 ⟨rfl, hq, hg⟩
      have HQ2 := hid (hq.setAt a hle)
      have HG2 := hid (gb_trans (gb_trans HG.out hg) (gb_set w2 ⟨b, 1, none⟩ (.int .i64 a)))
      have p2 := hq.c2
      have p1 := hq.c1
      have f1 := hq.fz 1
      clear hq hg
      go_wp2_with fail
      go_loop [9, 10] (fun x i => x = .slice none 0 0 ∧ i = .int .u64 0) (fun _ _ => 0)
      case atStart => exact ⟨rfl, rfl⟩
      case round =>
        obtain ⟨rfl, rfl⟩ := hrel
        go_wp2_with fail
        go_ret
        obtain ⟨rfl, rfl, rfl⟩ := HE.out
        exact ⟨_, rfl, WOwnS.nil _ _, fun _ => rfl, fun h' => absurd h' (by decide), fun _ => HQ2.out, HG2.out⟩
    · have hsimp : (er, ts, k) = ((lstR n0 (bs.drop (a + d3)) n).1, (lstR n0 (bs.drop (a + d3)) n).2.1, d3 + (lstR n0 (bs.drop (a + d3)) n).2.2) := by
        rw [← hl]
        simp [hmn]
      have HG0 := hid (⟨rfl, fun _ => by simp, fun h' => lstR_err _ _ _ h', by simp, by omega, by simp⟩ : Going (lstR n0 (bs.drop (a + d3)) n) bs n (a + d3) (a + d3) 0 n0 [])
      generalize lstR n0 (bs.drop (a + d3)) n = R at *
      simp only [Prod.mk.injEq] at hsimp
      have HE := hid hsimp
      have hn' : ¬ (m : Int) < (n0 : Int) := by omega
      clear hl hsimp
      go_enter Tryz.func76, Tryz.ntmps76
      go_wp2_with fail
      refine Calls.mono HC.out ?_
      rintro e w1 ⟨rfl, hq, hg⟩
      have HQ := hid hq
      have HG := hid hg
      have g2 := hq.c2
      clear hq hg HC
      go_wp2_with fail
      go_loopw [9, 10] (fun x i wr => ∃ (c a' : Nat) (us : List (List UInt8)) (why' wat' : Int), c ≤ n0 ∧ i = .int .u64 c ∧ WOwnS wr w.heap.size x us ∧ Qd wr base b v bs a' why' wat' ∧ w.grownBy wr (some b) ∧ ((why' = 0 ∧ wat' = wat ∧ Going R bs n (a + d3) a' c (n0 - c) us) ∨ (why' ≠ 0 ∧ why' = R.1 ∧ R.2.1 = [] ∧ wat' = ((a + (d3 + R.2.2) : Nat) : Int)))) (fun _ i _ => n0 - (intOf i).toNat)
      case atStart => exact ⟨0, a + d3, [], 0, wat, by omega, rfl, WOwnS.nil _ _, HQ.out, HG.out, Or.inl ⟨rfl, rfl, by simpa using HG0.out⟩⟩
      case round =>
        obtain ⟨c, a', us, why', wat', hc, rfl, hos, hRr, hgr, hst⟩ := hrel
        have HOS := hid hos
        have HRR := hid hRr
        have HGR := hid hgr
        have hsr := hgr.size
        have q2 := hRr.c2
        have q1 := hRr.c1
        have qf := hRr.fz 1
        clear hos hRr hgr HG0 HQ HG
        rcases hst with ⟨rfl, rfl, hgo⟩ | ⟨hne, rfl, hnil, rfl⟩
        · have HGO := hid hgo
          clear hgo
          by_cases hcn : c < n0
          · obtain ⟨m1, hm1⟩ : ∃ m1, n0 - c = m1 + 1 := ⟨n0 - c - 1, by omega⟩
            rw [hm1] at HGO
            obtain ⟨er1, x1, k1, ht⟩ : ∃ er1 x1 k1, wtxt (bs.drop a') n = (er1, x1, k1) := ⟨_, _, _, rfl⟩
            have HT := hid ht
            have HK1 := hid ((txt_le ht).2.2)
            have HM := hid hm1
            have hcn' : (c : Int) < (n0 : Int) := by omega
            clear ht hm1
            by_cases her : er1 = 0
            · subst her
              have HST := hid (HGO.out.step HT.out)
              have hcnt := HGO.out.cnt
              have hle2 := HGO.out.le
              go_wp2_with fail
              refine (qtext_go n hn (by omega) HRR.out _ _ _ HT.out).mono ?_
              rintro e w2 ⟨rfl, hR2, hg2⟩
              have HR2 := hid (by simpa [watOf] using hR2 : Qd w2 base b v bs (a' + k1) 0 wat')
              have HG2 := hid hg2
              have hs2 := hg2.size
              have HOS2 := hid (HOS.out.far hg2 (fun j e => by cases e; omega))
              have r2 := HR2.out.c2
              clear hR2 hg2
              go_wp2_with (at_builtin; refine wapp_text rfl _ _ rfl w.heap.size _ _ rfl (HOS2.out.alloc _) x1 w2.heap.size rfl ?c0 ?c1 ?c2 ?_)
              case c0 => simp
              case c1 => omega
              case c2 => simp; omega
              intro v3 w3 ho3 hg3
              have HO3 := hid ho3
              have hvlt : ∀ j, u9.ownBlock = some j → w.heap.size ≤ j := fun j e => (HOS.out.lt j e).1
              have HR3 := hid ((HR2.out.below (below_walk _ _)).far hg3 hblt HVB.out hvlt : Qd w3 base b v bs (a' + k1) 0 wat')
              have HG3 := hid (gb_then (gb_trans (gb_trans HGR.out HG2.out) (gb_alloc _ _ _)) hg3 (fun j e => Or.inl (hvlt j e)) : w.grownBy w3 (some b))
              clear ho3 hg3 hvlt
              go_wp2_with fail
              go_roundw
              case rel => exact ⟨c + 1, a' + k1, us ++ [x1], 0, wat', by omega, by go_num, HO3.out, HR3.out, HG3.out, Or.inl ⟨rfl, rfl, by have := HM.out; rw [show n0 - (c + 1) = m1 by omega]; exact HST.out⟩⟩
              case measure => simp [intOf]; omega
            · have HSP := hid (HGO.out.stop HT.out her)
              have heb : ((er1 : Int) == 0) = false := by simp; omega
              have HK0 := hid (HK1.out her)
              have hle2 := HGO.out.le
              have HW := hid (watOf_ne her a' wat')
              have HER := hid her
              clear her
              go_wp2_with fail
              refine (qtext_go n hn (by omega) HRR.out _ _ _ HT.out).mono ?_
              rintro e w2 ⟨rfl, hR2, hg2⟩
              rw [HW.out, HK0.out.2, Nat.add_zero] at hR2
              have HR2 := hid hR2
              have HG2 := hid (gb_trans HGR.out hg2)
              have HOS2 := hid (HOS.out.far hg2 (fun j e => by cases e; omega))
              have r2 := HR2.out.c2
              clear hR2 hg2
              go_wp2_with fail
              go_roundw
              case rel =>
                obtain ⟨e1, e2, e3⟩ := HSP.out
                have := HER.out
                exact ⟨c + 1, a', us, er1, (a' : Int), by omega, by go_num, HOS2.out, HR2.out, HG2.out, Or.inr ⟨by omega, by rw [e1], e2, by rw [e3]; omega⟩⟩
              case measure => simp [intOf]; omega
          · have hcn' : ¬ (c : Int) < (n0 : Int) := by omega
            have hc0 : n0 - c = 0 := by omega
            rw [hc0] at HGO
            have HDN := hid HGO.out.done
            have hle2 := HGO.out.le
            go_wp2_with fail
            go_ret
            obtain ⟨rfl, rfl, rfl⟩ := HE.out
            obtain ⟨e1, e2, e3⟩ := HDN.out
            refine ⟨_, rfl, by rw [e2]; exact HOS.out, fun h' => absurd e1 h', fun _ => ?_, fun h' => absurd e1 h', HGR.out⟩
            rw [e3, show a + (d3 + (a' - (a + d3))) = a' by omega]
            exact HRR.out
        · have heb : (((R.1 : Nat) : Int) == 0) = false := by simpa using hne
          have heb2 : (((R.1 : Nat) : Int) != 0) = true := by simpa using hne
          have HNE := hid hne
          have HNIL := hid hnil
          have HQ2 := hid (HRR.out.setAt a hle)
          have HG2 := hid (gb_trans HGR.out (gb_set wr ⟨b, 1, none⟩ (.int .i64 a)))
          clear hne hnil
          generalize R.1 = R1 at *
          by_cases hcn : (c : Int) < (n0 : Int)
          all_goals
            go_wp2_with fail
            go_ret
            obtain ⟨rfl, rfl, rfl⟩ := HE.out
            exact ⟨_, rfl, by rw [HNIL.out]; exact WOwnS.nil _ _, fun _ => rfl, fun h' => absurd (by rw [h']; rfl) HNE.out, fun _ => HQ2.out, HG2.out⟩
  · have hsimp : (er, ts, k) = (d1, [], 0) := by
      rw [← hl]
      simp [he]
    simp only [Prod.mk.injEq] at hsimp
    obtain ⟨rfl, rfl, rfl⟩ := hsimp
    obtain ⟨rfl, rfl⟩ := hz he
    have he' : ((er : Int) != 0) = true := by simpa using he
    have he2 : ((er : Int) == 0) = false := by simpa using he
    have HER := hid he
    have HW := hid (watOf_ne he a wat)
    clear he hz hl
    go_enter Tryz.func76, Tryz.ntmps76
    go_wp2_with fail
    refine Calls.mono HC.out ?_
    rintro e w1 ⟨rfl, hq, hg⟩
    rw [HW.out, Nat.add_zero] at hq
    have HQ2 := hid (hq.setAt a hle)
    have HG2 := hid (gb_trans hg (gb_set w1 ⟨b, 1, none⟩ (.int .i64 a)))
    have g2 := hq.c2
    have g1 := hq.c1
    have f1 := hq.fz 1
    clear hq hg HC
    go_wp2_with fail
    go_loop [9, 10] (fun x i => x = .slice none 0 0 ∧ i = .int .u64 0) (fun _ _ => 0)
    case atStart => exact ⟨rfl, rfl⟩
    case round =>
      obtain ⟨rfl, rfl⟩ := hrel
      go_wp2_with fail
      go_ret
      exact ⟨_, rfl, WOwnS.nil _ _, fun _ => rfl, fun h' => absurd h' HER.out, fun _ => by simpa using HQ2.out, HG2.out⟩

theorem qlist_R (m n : Int) (hm : m ≤ 9223372036854775807) (hn : n ≤ 9223372036854775807) (hbl : bs.length ≤ 1099511627776) (h : Qd w base b v bs a why wat) :
    Calls Tryz.prog 76 #[.pointer (some ⟨b, 0, none⟩), .int .i64 m, .int .i64 n] w fun e w' => ∃ v', e = .returned v' ∧ WOwnS w' w.heap.size v' (listF bs a why wat m n).1 ∧ Qd w' base b v bs (listF bs a why wat m n).2.1 (listF bs a why wat m n).2.2.1 (listF bs a why wat m n).2.2.2 ∧ w.grownBy w' (some b) := by
  unfold listF
  by_cases hw : why ≠ 0
  · rw [if_pos hw]
    refine (qlist_over m n h hw).mono ?_
    rintro e w' ⟨rfl, hr⟩
    exact ⟨_, rfl, WOwnS.nil _ _, hr⟩
  · rw [if_neg hw]
    obtain rfl : why = 0 := by omega
    by_cases h0 : m < 0 ∨ n < 0
    · rw [if_pos h0]
      refine (qlist_arg m n h h0).mono ?_
      rintro e w' ⟨rfl, hr⟩
      exact ⟨_, rfl, WOwnS.nil _ _, hr⟩
    · rw [if_neg h0]
      obtain ⟨k, rfl⟩ : ∃ k : Nat, m = k := ⟨m.toNat, by omega⟩
      obtain ⟨j, rfl⟩ : ∃ j : Nat, n = j := ⟨n.toNat, by omega⟩
      simp only [Int.toNat_natCast]
      refine (qlist_go k j (by omega) (by omega) hbl h _ _ _ rfl).mono ?_
      rintro e w' ⟨v', rfl, ho, hnil, h1, h2, hg⟩
      by_cases he : (lst (bs.drop a) k j).1 ≠ 0
      · rw [if_pos he]
        obtain rfl := hnil he
        exact ⟨_, rfl, WOwnS.nil _ _, h2 he, hg⟩
      · rw [if_neg he]
        exact ⟨_, rfl, ho, h1 (Decidable.not_not.1 he), hg⟩
end

end Go.Proofs.YtiibhccbbpgehaaGreat

/- The document's some. -/
namespace Go.Proofs.YtiibhccbbpgehaaGreat
open Go.RowKit Go.BigFrame

def Qs (w : World) (base b : Nat) (v : Value) (bs : List UInt8) (s : St) : Prop := Qd w base b v bs s.1 s.2.1 s.2.2
section
variable {w w' : World} {base b : Nat} {v : Value} {bs : List UInt8} {s : St}
theorem Qs.below (h : Qs w base b v bs s) (hb : Below w.heap.size w w') : Qs w' base b v bs s := Qd.below h hb
theorem Qs.lt (h : Qs w base b v bs s) : b < w.heap.size := Qd.lt h
theorem Qs.own (h : Qs w base b v bs s) : ∀ k, v.ownBlock = some k → k < w.heap.size := fun k hk => ((Qd.own h).lt k hk).2
theorem Qs.far {n : Nat} (h : Qs w base b v bs s) (hg : w.grownBy w' (some n)) (h1 : b < n) (h3 : ∀ k, v.ownBlock = some k → k < n) : Qs w' base b v bs s :=
  Qd.grown h hg (fun e => by injection e with e; omega) (by
    cases hv : v.ownBlock with
    | none => exact Or.inl rfl
    | some k => exact Or.inr (fun e => by injection e with e; have := h3 k hv; omega))
theorem qs_uint (h : Qs w base b v bs s) : Calls Tryz.prog 70 #[.pointer (some ⟨b, 0, none⟩)] w fun e w' => e = .returned (.int .u64 (uS bs s).1) ∧ Qs w' base b v bs (uS bs s).2 ∧ w.grownBy w' (some b) := quint_R (h := h)
theorem qs_count (m : Int) (hm : m ≤ 9223372036854775807) (h : Qs w base b v bs s) : Calls Tryz.prog 75 #[.pointer (some ⟨b, 0, none⟩), .int .i64 m] w fun e w' => e = .returned (.int .i64 (cS bs m s).1) ∧ Qs w' base b v bs (cS bs m s).2 ∧ w.grownBy w' (some b) := qcount_R m hm (h := h)
theorem qs_text (m : Int) (hm : m ≤ 9223372036854775807) (hbl : bs.length ≤ 140737488355327) (h : Qs w base b v bs s) : Calls Tryz.prog 77 #[.pointer (some ⟨b, 0, none⟩), .int .i64 m] w fun e w' => e = .returned (.string (mk (tS bs m s).1)) ∧ Qs w' base b v bs (tS bs m s).2 ∧ w.grownBy w' (some b) := qtext_R m hm hbl (h := h)
theorem qs_list (m n : Int) (hm : m ≤ 9223372036854775807) (hn : n ≤ 9223372036854775807) (hbl : bs.length ≤ 1099511627776) (h : Qs w base b v bs s) : Calls Tryz.prog 76 #[.pointer (some ⟨b, 0, none⟩), .int .i64 m, .int .i64 n] w fun e w' => ∃ v', e = .returned v' ∧ WOwnS w' w.heap.size v' (lS bs m n s).1 ∧ Qs w' base b v bs (lS bs m n s).2 ∧ w.grownBy w' (some b) := qlist_R m n hm hn hbl (h := h)
theorem qs_raw (m : Int) (hbl : bs.length ≤ 140737488355327) (h : Qs w base b v bs s) : Calls Tryz.prog 74 #[.pointer (some ⟨b, 0, none⟩), .int .i64 m] w fun e w' => ∃ v', e = .returned v' ∧ OwnB w' w.heap.size v' (rS bs m s).1 ∧ Qs w' base b v bs (rS bs m s).2 ∧ w.grownBy w' (some b) := qraw_R m hbl (h := h)
end

set_option maxRecDepth 100000 in
set_option maxHeartbeats 2000000 in
theorem qs_some (base b : Nat) (v : Value) (bs : List UInt8) (s : St) (m : Int) (w : World) (hm : m ≤ 9223372036854775807) (h : Qs w base b v bs s) :
    Calls Tryz.prog 73 #[.pointer (some ⟨b, 0, none⟩), .int .i64 m] w fun e w' => e = .returned (.int .i64 (oS bs m s).1) ∧ Qs w' base b v bs (oS bs m s).2 ∧ w.grownBy w' (some b) := by
  have HCO := hid (qs_count m hm h)
  have c1 := Qd.c1 h
  have HLE := hid (Qd.le h)
  clear h
  go_enter Tryz.func73, Tryz.ntmps73
  go_wp2_with fail
  refine HCO.out.mono ?_
  rintro e w2 ⟨rfl, hf2, hg2⟩
  have HF2 := hid hf2
  have HG2 := hid hg2
  obtain ⟨N, HN⟩ : ∃ N : Nat, Hid ((cS bs m s).1 = N) := ⟨_, rfl⟩
  obtain ⟨Y, HY⟩ : ∃ N : Int, Hid ((cS bs m s).2.2.1 = N) := ⟨_, rfl⟩
  have d2 := Qd.c2 hf2
  rw [HY.out] at d2
  have d1 := Qd.c1 hf2
  have f1 := Qd.fz hf2 1
  rw [HN.out]
  clear hf2 hg2 HCO c1
  by_cases hY : Y = 0
  · subst hY
    by_cases h0 : N = 0
    · as_aux_lemma =>
        subst h0
        have HO := hid (show oS bs m s = (0, s.1, 70, (s.1 : Int)) by
          unfold oS
          rw [if_pos ⟨HN.out, HY.out⟩])
        go_upto_region 5 with fail
        have HQ := hid (Qd.setAt HF2.out s.1 HLE.out)
        have HG4 := hid (gb_set w2 ⟨b, 1, none⟩ (.int .i64 (s.1 : Nat)))
        generalize w2.setCell ⟨b, 1, none⟩ (.int .i64 (s.1 : Nat)) = w4 at HQ HG4 ⊢
        clear d1 d2 f1
        go_wp2_with fail
        refine (qfailm_R (n := 70) (h := HQ.out)).mono ?_
        rintro e w5 ⟨rfl, hr5, hg5⟩
        rw [HY.out] at hr5
        have HR5 := hid (show Qd w5 base b v bs s.1 70 s.1 by simpa using hr5)
        have HG5 := hid hg5
        clear hr5 hg5
        go_wp2
        go_ret
        rw [HO.out]
        exact ⟨rfl, HR5.out, gb_trans HG2.out (gb_trans HG4.out HG5.out)⟩
    · as_aux_lemma =>
        have q0 : ¬ (N : Int) = 0 := by omega
        have q1 : ((N : Int) == 0) = false := by simpa using q0
        have HO := hid (show oS bs m s = cS bs m s by
          unfold oS
          rw [if_neg (fun h9 => h0 (HN.out ▸ h9.1))])
        clear h0
        go_wp2
        go_ret
        rw [HO.out, HN.out]
        exact ⟨rfl, HF2.out, HG2.out⟩
  · as_aux_lemma =>
      have q1 : (Y == 0) = false := by simpa using hY
      have HO := hid (show oS bs m s = cS bs m s by
        unfold oS
        rw [if_neg (fun h9 => hY (HY.out ▸ h9.2))])
      clear hY
      go_wp2
      go_ret
      rw [HO.out, HN.out]
      exact ⟨rfl, HF2.out, HG2.out⟩
theorem bytesV_at (l : List UInt8) (i : Nat) (hi : i < l.length) : (bytesV l)[i]? = some (.int .u8 (l.getD i 0).toNat) := by
  rw [bytesV_get, List.getElem?_eq_getElem hi]
  simp [List.getD_eq_getElem?_getD, List.getElem?_eq_getElem hi]
theorem fset_tool (f : Fr) (va : Value) (i : Nat) (hi : i < f.tool.length) (x : UInt8) : (fcells f va).toArray.setIfInBounds (4 + i) (.int .u8 x.toNat) = (fcells { f with tool := f.tool.set i x } va).toArray := by
  unfold fcells
  rw [List.setIfInBounds_toArray, List.set_append_right _ _ (by simp), List.set_append_left _ _ (by rw [bytesV_length]; simp; exact hi)]
  simp [bytesV, List.map_set]
end Go.Proofs.YtiibhccbbpgehaaGreat

/- The document's fields, where the kind that is read is 0. -/
namespace Go.Proofs.YtiibhccbbpgehaaGreat
open Go.RowKit Go.BigFrame

set_option maxRecDepth 100000 in
set_option maxHeartbeats 4000000 in
theorem rfields_0 (base b : Nat) (v : Value) (bs : List UInt8) (s : St) (w : World) (hbl : bs.length ≤ 1099511627776) (h : Qs w base b v bs s) (hK : (oS bs 6 s).1 = 0) :
    Calls Tryz.prog 34 #[.pointer (some ⟨b, 0, none⟩)] w fun e w' => ∃ va, e = .returned (.agg (fcells ((kF 0, (oS bs 6 s).2)).1 va).toArray) ∧ WOwnS w' w.heap.size va ((kF 0, (oS bs 6 s).2)).1.args ∧ Qs w' base b v bs ((kF 0, (oS bs 6 s).2)).2 ∧ w.grownBy w' (some b) := by
  obtain ⟨n, HN⟩ : ∃ n, Hid (w.heap.size = n) := ⟨_, rfl⟩
  have HW := hid (below_walk w (.cells (fcells zF nS).toArray 30))
  have HM := hid (hp_new w (.cells (fcells zF nS).toArray 30))
  have HFD := hid (h.below HW.out)
  have HBn : Hid (b < n) := hid (HN.out ▸ h.lt)
  have HLEN := hid hbl
  have HVW := hid h.own
  have HK := hid hK
  clear h hK
  go_enter Tryz.func34, Tryz.ntmps34
  go_upto_region 1 with (refine al_row (by rfl) 30 (by rfl) _ zeroFrame ?_)
  have HG0 := hid (below_gb HW.out (some b))
  generalize w.alloc (.cells (fcells zF nS).toArray 30) = w0 at HW HM HFD HG0 ⊢
  rw [HN.out] at HM ⊢
  go_wp2_with fail
  refine (qs_some base b v bs s 6 w0 (by omega) HFD.out).mono ?_
  rintro e x ⟨rfl, hfx, hgx⟩
  rw [show ((oS bs 6 s).1 : Int) = 0 by rw [HK.out]; rfl]
  have HFx := hid hfx
  have HMx := hid (gb_keep hgx HM.out (by have := HBn.out; omega))
  have HGx := hid (gb_trans HG0.out hgx)
  clear hfx hgx HFD HM HG0 HW
  go_upto_region 2 with (first
    | (refine bd_row (by rfl) 30 #[(0, .tmp 7)] (by rfl) _ (by simp [Act.eval]) _ built_k0 ?_)
    | (refine al_row (by rfl) 30 (by rfl) _ zeroFrame ?_)
    | (refine st_new (by rfl) 30 _ _ (by rfl) (fcells (kF 0) nS) (by rfl) (by rfl) 30 _ (frame_size (kF 0) nS rfl) rfl (fcells_one (kF 0) nS rfl) ?_))
  have HWx := hid (below_walk x (.cells (fcells (kF 0) nS).toArray 30))
  have HFD := hid (HFx.out.below HWx.out)
  have HM0 := hid (bel_keep HWx.out HMx.out)
  have HG := hid (gb_trans HGx.out (below_gb HWx.out (some b)))
  have HA0 := hid (show (x.alloc (.cells (fcells (kF 0) nS).toArray 30)).heap[x.heap.size]? = some (.cells (fcells (⟨0, 0, 0, 0, z32f, 0, (0, 0, 0), [], []⟩ : Fr) nS).toArray 30 (0, 0)) from hp_new x _)
  have HVO := hid HFx.out.own
  have HVN : Hid (∀ k, v.ownBlock = some k → k < n) := hid (HN.out ▸ HVW.out)
  have HLn : Hid (n < x.heap.size) := hid (hp_lt HMx.out)
  have HBf : Hid (b < x.heap.size) := hid HFx.out.lt
  have HSW : Hid (w.heap.size ≤ x.heap.size) := hid HGx.out.size
  obtain ⟨fb, HFb⟩ : ∃ n, Hid (x.heap.size = n) := ⟨_, rfl⟩
  rw [HFb.out] at HA0 HVO HLn HBf HSW ⊢
  generalize x.alloc (.cells (fcells (kF 0) nS).toArray 30) = w1 at HWx HFD HM0 HG HA0 ⊢
  clear HFx HMx HGx HWx HFb
  have k0 : w1.cell? ⟨fb, 0, none⟩ = some (.int .i64 0) := (Fb.of HA0.out rfl).k
  obtain ⟨FF, HFF⟩ : ∃ L, Hid (fcells (⟨0, 0, 0, 0, z32f, 0, (0, 0, 0), [], []⟩ : Fr) nS = L) := ⟨_, rfl⟩
  have HSZ := hid (frame_size (⟨0, 0, 0, 0, z32f, 0, (0, 0, 0), [], []⟩ : Fr) nS rfl)
  have HON := hid (fcells_one (⟨0, 0, 0, 0, z32f, 0, (0, 0, 0), [], []⟩ : Fr) nS rfl)
  have HOS := hid (show (fcells zF nS).toArray.size = (fcells (⟨0, 0, 0, 0, z32f, 0, (0, 0, 0), [], []⟩ : Fr) nS).length by rw [fcells_length _ _ rfl]; rfl)
  rw [HFF.out] at HA0 HSZ HON HOS
  go_wp2_with (first
    | (refine ld_row (by rfl) 30 (.tmp 3) (by rfl) fb (by rfl) FF 30 HA0.out _ Tryz.underlying30 rfl HSZ.out ?_)
    | (refine st_row (by rfl) 30 _ _ (by rfl) n FF (by rfl) (by rfl) 30 _ HM0.out HSZ.out HOS.out HON.out ?_; intro wz hwz))
  refine ret_row 2 30 rfl n rfl FF 30 hwz.blk _ Tryz.underlying30 rfl HSZ.out rfl ⟨nS, ?_, ?_, ?_, gb_then HG.out hwz.grown (fun j e => by injection e with e; left; have := HN.out; omega)⟩
  · rw [← HFF.out]; rfl
  · exact World.ownsRow_nil _ _ _ _
  · exact HFD.out.far hwz.grown HBn.out (fun k hk => HVN.out k hk)
end Go.Proofs.YtiibhccbbpgehaaGreat

/- The document's fields, where the kind that is read is 1. -/
namespace Go.Proofs.YtiibhccbbpgehaaGreat
open Go.RowKit Go.BigFrame

set_option maxRecDepth 100000 in
set_option maxHeartbeats 4000000 in
theorem rfields_1 (base b : Nat) (v : Value) (bs : List UInt8) (s : St) (w : World) (hbl : bs.length ≤ 1099511627776) (h : Qs w base b v bs s) (hK : (oS bs 6 s).1 = 1) :
    Calls Tryz.prog 34 #[.pointer (some ⟨b, 0, none⟩)] w fun e w' => ∃ va, e = .returned (.agg (fcells (fieldsP bs 1 (oS bs 6 s).2).1 va).toArray) ∧ WOwnS w' w.heap.size va (fieldsP bs 1 (oS bs 6 s).2).1.args ∧ Qs w' base b v bs (fieldsP bs 1 (oS bs 6 s).2).2 ∧ w.grownBy w' (some b) := by
  obtain ⟨n, HN⟩ : ∃ n, Hid (w.heap.size = n) := ⟨_, rfl⟩
  have HW := hid (below_walk w (.cells (fcells zF nS).toArray 30))
  have HM := hid (hp_new w (.cells (fcells zF nS).toArray 30))
  have HFD := hid (h.below HW.out)
  have HBn : Hid (b < n) := hid (HN.out ▸ h.lt)
  have HLEN := hid hbl
  have HVW := hid h.own
  have HK := hid hK
  clear h hK
  go_enter Tryz.func34, Tryz.ntmps34
  go_upto_region 1 with (refine al_row (by rfl) 30 (by rfl) _ zeroFrame ?_)
  have HG0 := hid (below_gb HW.out (some b))
  generalize w.alloc (.cells (fcells zF nS).toArray 30) = w0 at HW HM HFD HG0 ⊢
  rw [HN.out] at HM ⊢
  go_wp2_with fail
  refine (qs_some base b v bs s 6 w0 (by omega) HFD.out).mono ?_
  rintro e x ⟨rfl, hfx, hgx⟩
  rw [show ((oS bs 6 s).1 : Int) = 1 by rw [HK.out]; rfl]
  have HFx := hid hfx
  have HMx := hid (gb_keep hgx HM.out (by have := HBn.out; omega))
  have HGx := hid (gb_trans HG0.out hgx)
  clear hfx hgx HFD HM HG0 HW
  go_upto_region 2 with (first
    | (refine bd_row (by rfl) 30 #[(0, .tmp 7)] (by rfl) _ (by simp [Act.eval]) _ built_k1 ?_)
    | (refine al_row (by rfl) 30 (by rfl) _ zeroFrame ?_)
    | (refine st_new (by rfl) 30 _ _ (by rfl) (fcells (kF 1) nS) (by rfl) (by rfl) 30 _ (frame_size (kF 1) nS rfl) rfl (fcells_one (kF 1) nS rfl) ?_))
  have HWx := hid (below_walk x (.cells (fcells (kF 1) nS).toArray 30))
  have HFD := hid (HFx.out.below HWx.out)
  have HM0 := hid (bel_keep HWx.out HMx.out)
  have HG := hid (gb_trans HGx.out (below_gb HWx.out (some b)))
  have HA0 := hid (show (x.alloc (.cells (fcells (kF 1) nS).toArray 30)).heap[x.heap.size]? = some (.cells (fcells (⟨1, 0, 0, 0, z32f, 0, (0, 0, 0), [], []⟩ : Fr) nS).toArray 30 (0, 0)) from hp_new x _)
  have HVO := hid HFx.out.own
  have HVN : Hid (∀ k, v.ownBlock = some k → k < n) := hid (HN.out ▸ HVW.out)
  have HLn : Hid (n < x.heap.size) := hid (hp_lt HMx.out)
  have HBf : Hid (b < x.heap.size) := hid HFx.out.lt
  have HSW : Hid (w.heap.size ≤ x.heap.size) := hid HGx.out.size
  obtain ⟨fb, HFb⟩ : ∃ n, Hid (x.heap.size = n) := ⟨_, rfl⟩
  rw [HFb.out] at HA0 HVO HLn HBf HSW ⊢
  generalize x.alloc (.cells (fcells (kF 1) nS).toArray 30) = w1 at HWx HFD HM0 HG HA0 ⊢
  clear HFx HMx HGx HWx HFb
  have k0 : w1.cell? ⟨fb, 0, none⟩ = some (.int .i64 1) := (Fb.of HA0.out rfl).k
  go_wp2_with fail
  refine (qs_some base b v bs _ 1 _ (by omega) HFD.out).mono ?_
  rintro e y0 ⟨rfl, hf0, hg0⟩
  have HA := hid (gb_keep hg0 HA0.out (by have := HBf.out; omega))
  have HMn := hid (gb_keep hg0 HM0.out (by have := HBn.out; omega))
  have HGn := hid (gb_trans HG.out hg0)
  have HFn := hid hf0
  clear HFD HA0 HM0 HG hf0 hg0 k0
  have x0 := (Fb.of HA.out rfl).v
  have z0 := row_fz HA.out 2
  have k1 : y0.cell? ⟨fb, 0, none⟩ = some (.int .i64 1) := (Fb.of HA.out rfl).k
  go_upto_region 5 with fail
  have HA0 := hid (show (y0.setCell ⟨fb, 2, none⟩ (.int .i64 ((oS bs 1 (oS bs 6 s).2).1 : Nat))).heap[fb]? = some (.cells (fcells (⟨1, 0, (((oS bs 1 (oS bs 6 s).2).1 : Nat) : Int), 0, z32f, 0, (0, 0, 0), [], []⟩ : Fr) nS).toArray 30 (0, 0)) from (blk_set HA.out _).trans (congrArg (fun a => some (Obj.cells a 30 (0, 0))) (fset_ver (⟨1, 0, 0, 0, z32f, 0, (0, 0, 0), [], []⟩ : Fr) nS rfl _)))
  have HM0 := hid (show (y0.setCell ⟨fb, 2, none⟩ (.int .i64 ((oS bs 1 (oS bs 6 s).2).1 : Nat))).heap[n]? = some (.cells (fcells zF nS).toArray 30 (0, 0)) from (Below.heap_setCell y0 _ _ n (by have := HLn.out; simp; omega)).trans HMn.out)
  have HG := hid (gb_then HGn.out (gb_set y0 ⟨fb, 2, none⟩ (.int .i64 ((oS bs 1 (oS bs 6 s).2).1 : Nat))) (fun j e => by have e2 : fb = j := Option.some.inj e; left; have := HSW.out; omega))
  have HFD := hid (HFn.out.far (gb_set y0 ⟨fb, 2, none⟩ (.int .i64 ((oS bs 1 (oS bs 6 s).2).1 : Nat))) HBf.out HVO.out)
  generalize y0.setCell ⟨fb, 2, none⟩ (.int .i64 ((oS bs 1 (oS bs 6 s).2).1 : Nat)) = w2 at HA0 HM0 HG HFD ⊢
  clear HA HMn HGn HFn x0 z0 k1
  go_wp2_with fail
  refine (qs_some base b v bs _ 64 _ (by omega) HFD.out).mono ?_
  rintro e y1 ⟨rfl, hf1, hg1⟩
  have HA := hid (gb_keep hg1 HA0.out (by have := HBf.out; omega))
  have HMn := hid (gb_keep hg1 HM0.out (by have := HBn.out; omega))
  have HGn := hid (gb_trans HG.out hg1)
  have HFn := hid hf1
  clear HFD HA0 HM0 HG hf1 hg1
  have x1 := (Fb.of HA.out rfl).s
  have z1 := row_fz HA.out 3
  go_upto_region 6 with fail
  have HA0 := hid (show (y1.setCell ⟨fb, 3, none⟩ (.int .i64 ((oS bs 64 (oS bs 1 (oS bs 6 s).2).2).1 : Nat))).heap[fb]? = some (.cells (fcells (⟨1, 0, (((oS bs 1 (oS bs 6 s).2).1 : Nat) : Int), (((oS bs 64 (oS bs 1 (oS bs 6 s).2).2).1 : Nat) : Int), z32f, 0, (0, 0, 0), [], []⟩ : Fr) nS).toArray 30 (0, 0)) from (blk_set HA.out _).trans (congrArg (fun a => some (Obj.cells a 30 (0, 0))) (fset_slots (⟨1, 0, (((oS bs 1 (oS bs 6 s).2).1 : Nat) : Int), 0, z32f, 0, (0, 0, 0), [], []⟩ : Fr) nS rfl _)))
  have HM0 := hid (show (y1.setCell ⟨fb, 3, none⟩ (.int .i64 ((oS bs 64 (oS bs 1 (oS bs 6 s).2).2).1 : Nat))).heap[n]? = some (.cells (fcells zF nS).toArray 30 (0, 0)) from (Below.heap_setCell y1 _ _ n (by have := HLn.out; simp; omega)).trans HMn.out)
  have HG := hid (gb_then HGn.out (gb_set y1 ⟨fb, 3, none⟩ (.int .i64 ((oS bs 64 (oS bs 1 (oS bs 6 s).2).2).1 : Nat))) (fun j e => by have e2 : fb = j := Option.some.inj e; left; have := HSW.out; omega))
  have HFD := hid (HFn.out.far (gb_set y1 ⟨fb, 3, none⟩ (.int .i64 ((oS bs 64 (oS bs 1 (oS bs 6 s).2).2).1 : Nat))) HBf.out HVO.out)
  generalize y1.setCell ⟨fb, 3, none⟩ (.int .i64 ((oS bs 64 (oS bs 1 (oS bs 6 s).2).2).1 : Nat)) = w3 at HA0 HM0 HG HFD ⊢
  clear HA HMn HGn HFn x1 z1
  go_wp2_with fail
  refine (qs_raw 32 (by omega) HFD.out).mono ?_
  rintro e y ⟨vr, rfl, hor, hfr, hgr⟩
  have HAr := hid (gb_keep hgr HA0.out (by have := HBf.out; omega))
  have HMr := hid (gb_keep hgr HM0.out (by have := HBn.out; omega))
  have HGr := hid (gb_trans HG.out hgr)
  have HFr := hid hfr
  have HLR := hid (rS_len bs (oS bs 64 (oS bs 1 (oS bs 6 s).2).2).2)
  have HOR := hid (hor.le (show fb + 1 ≤ w3.heap.size by have := hp_lt HA0.out; omega))
  have HSR := hid (hor.src (by have := HLR.out; omega))
  obtain ⟨ar, cr, er⟩ := src_shape HSR.out
  obtain ⟨RL, HRL⟩ : ∃ l, Hid ((rS bs 32 (oS bs 64 (oS bs 1 (oS bs 6 s).2).2).2).1 = l) := ⟨_, rfl⟩
  rw [HRL.out] at er HLR HSR HOR
  subst er
  clear hor hfr hgr HFD HA0 HM0 HG HSR
  go_wp2_with fail
  go_loopw [5] (fun vi wr => ∃ i : Nat, i ≤ RL.length ∧ vi = .int .i64 i ∧ wr.heap[fb]? = some (.cells (fcells { (⟨1, 0, (((oS bs 1 (oS bs 6 s).2).1 : Nat) : Int), (((oS bs 64 (oS bs 1 (oS bs 6 s).2).2).1 : Nat) : Int), z32f, 0, (0, 0, 0), [], []⟩ : Fr) with tool := RL.take i ++ z32f.drop i } nS).toArray 30 (0, 0)) ∧ wr.heap[n]? = some (.cells (fcells zF nS).toArray 30 (0, 0)) ∧ w.grownBy wr (some b) ∧ Qs wr base b v bs (rS bs 32 (oS bs 64 (oS bs 1 (oS bs 6 s).2).2).2).2 ∧ OwnB wr (fb + 1) (.slice ar RL.length cr) RL) (fun vi _ => RL.length - (intOf vi).toNat)
  case atStart => exact ⟨0, by omega, rfl, HAr.out, HMr.out, HGr.out, HFr.out, HOR.out⟩
  case round =>
    obtain ⟨i, hi, rfl, hA, hM, hG, hQ, hO⟩ := hrel
    have HA := hid hA
    have HM0 := hid hM
    have HG := hid hG
    have HFD := hid hQ
    have HO := hid hO
    have hl32 : RL.length ≤ 32 := by have := HLR.out; omega
    have HTL : Hid ((RL.take i ++ z32f.drop i).length = 32) := hid (by rw [List.length_append, List.length_take, List.length_drop, show z32f.length = 32 from rfl]; omega)
    clear hA hM hG hQ hO HAr HMr HGr HFr HOR
    by_cases hlt : i < RL.length
    · have hki : (i : Int) < (RL.length : Int) := by omega
      have hd : decide ((i : Int) < (RL.length : Int)) = true := decide_eq_true hki
      have hkw : IntKind.i64.wrap ((i : Int) + 1) = (i : Int) + 1 := by rw [IntKind.wrap_i64]; omega
      have h32 : (i : Int) < 32 := by omega
      obtain ⟨g1, cap1, hv1, _, _, _, _, _, hc1⟩ : ∃ g cap, Value.slice ar RL.length cr = .slice (some ⟨g, 0, none⟩) RL.length cap ∧ fb + 1 ≤ g ∧ g < wr.heap.size ∧ RL.length ≤ cap ∧ cap ≤ maxLen ∧ (∀ j, wr.frozen? ⟨g, j, none⟩ = false) ∧ ∀ j, j < RL.length → wr.cell? ⟨g, j, none⟩ = some (.int .u8 (RL.getD j 0).toNat) := by
        rcases HO.out.forms with ⟨_, h9⟩ | h9
        · rw [h9] at hlt; simp at hlt
        · exact h9
      simp only [Value.slice.injEq] at hv1
      obtain ⟨rfl, _, rfl⟩ := hv1
      have c1 := hc1 i hlt
      have cB : wr.cell? ⟨fb, 4 + i, none⟩ = some (.int .u8 ((RL.take i ++ z32f.drop i).getD i 0).toNat) := (Fb.of HA.out HTL.out).t i _ (bytesV_at _ i (by rw [HTL.out]; omega))
      have fB := row_fz HA.out (4 + i)
      clear hc1
      obtain ⟨X, HX⟩ : ∃ X, Hid (RL.getD i 0 = X) := ⟨_, rfl⟩
      rw [HX.out] at c1
      go_wp2
      refine ⟨⟨i + 1, by omega, by simp, ?_, ?_, ?_, ?_, ?_⟩, by simp [intOf]; omega⟩
      · refine (blk_set HA.out _).trans (congrArg (fun a => some (Obj.cells a 30 (0, 0))) ?_)
        rw [fset_tool _ _ i (by show i < (RL.take i ++ z32f.drop i).length; rw [HTL.out]; omega) X]
        congr 3
        show (RL.take i ++ z32f.drop i).set i X = RL.take (i + 1) ++ z32f.drop (i + 1)
        rw [List.take_succ_eq_append_getElem hlt, List.set_append_right _ _ (by rw [List.length_take]; omega), List.length_take, show i - min i RL.length = 0 by omega, List.append_assoc]
        congr 1
        have h9 : z32f.drop i = z32f.getD i 0 :: z32f.drop (i + 1) := drop_cons (by show i < 32; omega)
        rw [h9, List.set_cons_zero]
        have h8 : RL[i] = X := by rw [← HX.out, List.getD_eq_getElem?_getD, List.getElem?_eq_getElem hlt]; rfl
        rw [h8]
        rfl
      · exact (Below.heap_setCell wr _ _ n (by have := HLn.out; simp; omega)).trans HM0.out
      · exact gb_then HG.out (gb_set wr _ _) (fun j e => by have e2 : fb = j := Option.some.inj e; left; have := HSW.out; omega)
      · exact HFD.out.far (gb_set wr _ _) HBf.out HVO.out
      · exact HO.out.kept (gb_set wr _ _) (Or.inr (fun e => by have h9 := (HO.out.lt _ rfl).1; have e2 : g1 = fb := Option.some.inj e; omega))
    · obtain rfl : i = RL.length := by omega
      have HPD := hid (show RL.take RL.length ++ z32f.drop RL.length = pad32 RL by
        rw [List.take_length]
        unfold pad32
        rcases HLR.out with h9 | h9
        · obtain rfl : RL = [] := List.length_eq_zero_iff.1 h9
          rfl
        · rw [if_pos h9, h9, show z32f.drop 32 = [] from rfl, List.append_nil])
      have HA0 := hid (show wr.heap[fb]? = some (.cells (fcells (⟨1, 0, (((oS bs 1 (oS bs 6 s).2).1 : Nat) : Int), (((oS bs 64 (oS bs 1 (oS bs 6 s).2).2).1 : Nat) : Int), (pad32 RL), 0, (0, 0, 0), [], []⟩ : Fr) nS).toArray 30 (0, 0)) by have h9 := HA.out; rw [HPD.out] at h9; exact h9)
      rw [← HRL.out] at HA0
      clear HA HTL HPD HO
      obtain ⟨FF, HFF⟩ : ∃ L, Hid (fcells (⟨1, 0, (((oS bs 1 (oS bs 6 s).2).1 : Nat) : Int), (((oS bs 64 (oS bs 1 (oS bs 6 s).2).2).1 : Nat) : Int), (pad32 (rS bs 32 (oS bs 64 (oS bs 1 (oS bs 6 s).2).2).2).1), 0, (0, 0, 0), [], []⟩ : Fr) nS = L) := ⟨_, rfl⟩
      have HSZ := hid (frame_size (⟨1, 0, (((oS bs 1 (oS bs 6 s).2).1 : Nat) : Int), (((oS bs 64 (oS bs 1 (oS bs 6 s).2).2).1 : Nat) : Int), (pad32 (rS bs 32 (oS bs 64 (oS bs 1 (oS bs 6 s).2).2).2).1), 0, (0, 0, 0), [], []⟩ : Fr) nS (pad32_length _))
      have HON := hid (fcells_one (⟨1, 0, (((oS bs 1 (oS bs 6 s).2).1 : Nat) : Int), (((oS bs 64 (oS bs 1 (oS bs 6 s).2).2).1 : Nat) : Int), (pad32 (rS bs 32 (oS bs 64 (oS bs 1 (oS bs 6 s).2).2).2).1), 0, (0, 0, 0), [], []⟩ : Fr) nS rfl)
      have HOS := hid (show (fcells zF nS).toArray.size = (fcells (⟨1, 0, (((oS bs 1 (oS bs 6 s).2).1 : Nat) : Int), (((oS bs 64 (oS bs 1 (oS bs 6 s).2).2).1 : Nat) : Int), (pad32 (rS bs 32 (oS bs 64 (oS bs 1 (oS bs 6 s).2).2).2).1), 0, (0, 0, 0), [], []⟩ : Fr) nS).length by rw [fcells_length _ _ (pad32_length _)]; rfl)
      rw [HFF.out] at HA0 HSZ HON HOS
      go_wp2_with (first
        | (refine ld_row (by rfl) 30 (.tmp 3) (by rfl) fb (by rfl) FF 30 HA0.out _ Tryz.underlying30 rfl HSZ.out ?_)
        | (refine st_row (by rfl) 30 _ _ (by rfl) n FF (by rfl) (by rfl) 30 _ HM0.out HSZ.out HOS.out HON.out ?_; intro wz hwz))
      refine ret_row 2 30 rfl n rfl FF 30 hwz.blk _ Tryz.underlying30 rfl HSZ.out rfl ⟨nS, ?_, ?_, ?_, gb_then HG.out hwz.grown (fun j e => by injection e with e; left; have := HN.out; omega)⟩
      · rw [← HFF.out]; rfl
      · exact World.ownsRow_nil _ _ _ _
      · exact HFD.out.far hwz.grown HBn.out (fun k hk => HVN.out k hk)
end Go.Proofs.YtiibhccbbpgehaaGreat

/- The document's fields, where the kind that is read is 2. -/
namespace Go.Proofs.YtiibhccbbpgehaaGreat
open Go.RowKit Go.BigFrame

set_option maxRecDepth 100000 in
set_option maxHeartbeats 4000000 in
theorem rfields_2 (base b : Nat) (v : Value) (bs : List UInt8) (s : St) (w : World) (hbl : bs.length ≤ 1099511627776) (h : Qs w base b v bs s) (hK : (oS bs 6 s).1 = 2) :
    Calls Tryz.prog 34 #[.pointer (some ⟨b, 0, none⟩)] w fun e w' => ∃ va, e = .returned (.agg (fcells (fieldsP bs 2 (oS bs 6 s).2).1 va).toArray) ∧ WOwnS w' w.heap.size va (fieldsP bs 2 (oS bs 6 s).2).1.args ∧ Qs w' base b v bs (fieldsP bs 2 (oS bs 6 s).2).2 ∧ w.grownBy w' (some b) := by
  obtain ⟨n, HN⟩ : ∃ n, Hid (w.heap.size = n) := ⟨_, rfl⟩
  have HW := hid (below_walk w (.cells (fcells zF nS).toArray 30))
  have HM := hid (hp_new w (.cells (fcells zF nS).toArray 30))
  have HFD := hid (h.below HW.out)
  have HBn : Hid (b < n) := hid (HN.out ▸ h.lt)
  have HLEN := hid hbl
  have HVW := hid h.own
  have HK := hid hK
  clear h hK
  go_enter Tryz.func34, Tryz.ntmps34
  go_upto_region 1 with (refine al_row (by rfl) 30 (by rfl) _ zeroFrame ?_)
  have HG0 := hid (below_gb HW.out (some b))
  generalize w.alloc (.cells (fcells zF nS).toArray 30) = w0 at HW HM HFD HG0 ⊢
  rw [HN.out] at HM ⊢
  go_wp2_with fail
  refine (qs_some base b v bs s 6 w0 (by omega) HFD.out).mono ?_
  rintro e x ⟨rfl, hfx, hgx⟩
  rw [show ((oS bs 6 s).1 : Int) = 2 by rw [HK.out]; rfl]
  have HFx := hid hfx
  have HMx := hid (gb_keep hgx HM.out (by have := HBn.out; omega))
  have HGx := hid (gb_trans HG0.out hgx)
  clear hfx hgx HFD HM HG0 HW
  go_upto_region 2 with (first
    | (refine bd_row (by rfl) 30 #[(0, .tmp 7)] (by rfl) _ (by simp [Act.eval]) _ built_k2 ?_)
    | (refine al_row (by rfl) 30 (by rfl) _ zeroFrame ?_)
    | (refine st_new (by rfl) 30 _ _ (by rfl) (fcells (kF 2) nS) (by rfl) (by rfl) 30 _ (frame_size (kF 2) nS rfl) rfl (fcells_one (kF 2) nS rfl) ?_))
  have HWx := hid (below_walk x (.cells (fcells (kF 2) nS).toArray 30))
  have HFD := hid (HFx.out.below HWx.out)
  have HM0 := hid (bel_keep HWx.out HMx.out)
  have HG := hid (gb_trans HGx.out (below_gb HWx.out (some b)))
  have HA0 := hid (show (x.alloc (.cells (fcells (kF 2) nS).toArray 30)).heap[x.heap.size]? = some (.cells (fcells (⟨2, 0, 0, 0, z32f, 0, (0, 0, 0), [], []⟩ : Fr) nS).toArray 30 (0, 0)) from hp_new x _)
  have HVO := hid HFx.out.own
  have HVN : Hid (∀ k, v.ownBlock = some k → k < n) := hid (HN.out ▸ HVW.out)
  have HLn : Hid (n < x.heap.size) := hid (hp_lt HMx.out)
  have HBf : Hid (b < x.heap.size) := hid HFx.out.lt
  have HSW : Hid (w.heap.size ≤ x.heap.size) := hid HGx.out.size
  obtain ⟨fb, HFb⟩ : ∃ n, Hid (x.heap.size = n) := ⟨_, rfl⟩
  rw [HFb.out] at HA0 HVO HLn HBf HSW ⊢
  generalize x.alloc (.cells (fcells (kF 2) nS).toArray 30) = w1 at HWx HFD HM0 HG HA0 ⊢
  clear HFx HMx HGx HWx HFb
  have k0 : w1.cell? ⟨fb, 0, none⟩ = some (.int .i64 2) := (Fb.of HA0.out rfl).k
  go_wp2_with fail
  refine (qs_uint HFD.out).mono ?_
  rintro e y0 ⟨rfl, hf0, hg0⟩
  have HA := hid (gb_keep hg0 HA0.out (by have := HBf.out; omega))
  have HMn := hid (gb_keep hg0 HM0.out (by have := HBn.out; omega))
  have HGn := hid (gb_trans HG.out hg0)
  have HFn := hid hf0
  clear HFD HA0 HM0 HG hf0 hg0 k0
  have x0 := (Fb.of HA.out rfl).i
  have z0 := row_fz HA.out 1
  have k1 : y0.cell? ⟨fb, 0, none⟩ = some (.int .i64 2) := (Fb.of HA.out rfl).k
  go_upto_region 13 with fail
  have HA0 := hid (show (y0.setCell ⟨fb, 1, none⟩ (.int .u64 ((uS bs (oS bs 6 s).2).1 : Nat))).heap[fb]? = some (.cells (fcells (⟨2, (((uS bs (oS bs 6 s).2).1 : Nat) : Int), 0, 0, z32f, 0, (0, 0, 0), [], []⟩ : Fr) nS).toArray 30 (0, 0)) from (blk_set HA.out _).trans (congrArg (fun a => some (Obj.cells a 30 (0, 0))) (fset_id (⟨2, 0, 0, 0, z32f, 0, (0, 0, 0), [], []⟩ : Fr) nS rfl _)))
  have HM0 := hid (show (y0.setCell ⟨fb, 1, none⟩ (.int .u64 ((uS bs (oS bs 6 s).2).1 : Nat))).heap[n]? = some (.cells (fcells zF nS).toArray 30 (0, 0)) from (Below.heap_setCell y0 _ _ n (by have := HLn.out; simp; omega)).trans HMn.out)
  have HG := hid (gb_then HGn.out (gb_set y0 ⟨fb, 1, none⟩ (.int .u64 ((uS bs (oS bs 6 s).2).1 : Nat))) (fun j e => by have e2 : fb = j := Option.some.inj e; left; have := HSW.out; omega))
  have HFD := hid (HFn.out.far (gb_set y0 ⟨fb, 1, none⟩ (.int .u64 ((uS bs (oS bs 6 s).2).1 : Nat))) HBf.out HVO.out)
  generalize y0.setCell ⟨fb, 1, none⟩ (.int .u64 ((uS bs (oS bs 6 s).2).1 : Nat)) = w2 at HA0 HM0 HG HFD ⊢
  clear HA HMn HGn HFn x0 z0 k1
  go_wp2_with fail
  refine (qs_count 2147483648 (by omega) HFD.out).mono ?_
  rintro e y1 ⟨rfl, hf1, hg1⟩
  have HA := hid (gb_keep hg1 HA0.out (by have := HBf.out; omega))
  have HMn := hid (gb_keep hg1 HM0.out (by have := HBn.out; omega))
  have HGn := hid (gb_trans HG.out hg1)
  have HFn := hid hf1
  clear HFD HA0 HM0 HG hf1 hg1
  have x1 := (Fb.of HA.out rfl).l1
  have z1 := row_fz HA.out 37
  go_upto_region 14 with fail
  have HA0 := hid (show (y1.setCell ⟨fb, 37, none⟩ (.int .i64 ((cS bs 2147483648 (uS bs (oS bs 6 s).2).2).1 : Nat))).heap[fb]? = some (.cells (fcells (⟨2, (((uS bs (oS bs 6 s).2).1 : Nat) : Int), 0, 0, z32f, 0, ((((cS bs 2147483648 (uS bs (oS bs 6 s).2).2).1 : Nat) : Int), 0, 0), [], []⟩ : Fr) nS).toArray 30 (0, 0)) from (blk_set HA.out _).trans (congrArg (fun a => some (Obj.cells a 30 (0, 0))) (fset_l1 (⟨2, (((uS bs (oS bs 6 s).2).1 : Nat) : Int), 0, 0, z32f, 0, (0, 0, 0), [], []⟩ : Fr) nS rfl _)))
  have HM0 := hid (show (y1.setCell ⟨fb, 37, none⟩ (.int .i64 ((cS bs 2147483648 (uS bs (oS bs 6 s).2).2).1 : Nat))).heap[n]? = some (.cells (fcells zF nS).toArray 30 (0, 0)) from (Below.heap_setCell y1 _ _ n (by have := HLn.out; simp; omega)).trans HMn.out)
  have HG := hid (gb_then HGn.out (gb_set y1 ⟨fb, 37, none⟩ (.int .i64 ((cS bs 2147483648 (uS bs (oS bs 6 s).2).2).1 : Nat))) (fun j e => by have e2 : fb = j := Option.some.inj e; left; have := HSW.out; omega))
  have HFD := hid (HFn.out.far (gb_set y1 ⟨fb, 37, none⟩ (.int .i64 ((cS bs 2147483648 (uS bs (oS bs 6 s).2).2).1 : Nat))) HBf.out HVO.out)
  generalize y1.setCell ⟨fb, 37, none⟩ (.int .i64 ((cS bs 2147483648 (uS bs (oS bs 6 s).2).2).1 : Nat)) = w3 at HA0 HM0 HG HFD ⊢
  clear HA HMn HGn HFn x1 z1
  go_wp2_with fail
  refine (qs_count 2147483648 (by omega) HFD.out).mono ?_
  rintro e y2 ⟨rfl, hf2, hg2⟩
  have HA := hid (gb_keep hg2 HA0.out (by have := HBf.out; omega))
  have HMn := hid (gb_keep hg2 HM0.out (by have := HBn.out; omega))
  have HGn := hid (gb_trans HG.out hg2)
  have HFn := hid hf2
  clear HFD HA0 HM0 HG hf2 hg2
  have x2 := (Fb.of HA.out rfl).l2
  have z2 := row_fz HA.out 38
  go_upto_region 15 with fail
  have HA0 := hid (show (y2.setCell ⟨fb, 38, none⟩ (.int .i64 ((cS bs 2147483648 (cS bs 2147483648 (uS bs (oS bs 6 s).2).2).2).1 : Nat))).heap[fb]? = some (.cells (fcells (⟨2, (((uS bs (oS bs 6 s).2).1 : Nat) : Int), 0, 0, z32f, 0, ((((cS bs 2147483648 (uS bs (oS bs 6 s).2).2).1 : Nat) : Int), (((cS bs 2147483648 (cS bs 2147483648 (uS bs (oS bs 6 s).2).2).2).1 : Nat) : Int), 0), [], []⟩ : Fr) nS).toArray 30 (0, 0)) from (blk_set HA.out _).trans (congrArg (fun a => some (Obj.cells a 30 (0, 0))) (fset_l2 (⟨2, (((uS bs (oS bs 6 s).2).1 : Nat) : Int), 0, 0, z32f, 0, ((((cS bs 2147483648 (uS bs (oS bs 6 s).2).2).1 : Nat) : Int), 0, 0), [], []⟩ : Fr) nS rfl _)))
  have HM0 := hid (show (y2.setCell ⟨fb, 38, none⟩ (.int .i64 ((cS bs 2147483648 (cS bs 2147483648 (uS bs (oS bs 6 s).2).2).2).1 : Nat))).heap[n]? = some (.cells (fcells zF nS).toArray 30 (0, 0)) from (Below.heap_setCell y2 _ _ n (by have := HLn.out; simp; omega)).trans HMn.out)
  have HG := hid (gb_then HGn.out (gb_set y2 ⟨fb, 38, none⟩ (.int .i64 ((cS bs 2147483648 (cS bs 2147483648 (uS bs (oS bs 6 s).2).2).2).1 : Nat))) (fun j e => by have e2 : fb = j := Option.some.inj e; left; have := HSW.out; omega))
  have HFD := hid (HFn.out.far (gb_set y2 ⟨fb, 38, none⟩ (.int .i64 ((cS bs 2147483648 (cS bs 2147483648 (uS bs (oS bs 6 s).2).2).2).1 : Nat))) HBf.out HVO.out)
  generalize y2.setCell ⟨fb, 38, none⟩ (.int .i64 ((cS bs 2147483648 (cS bs 2147483648 (uS bs (oS bs 6 s).2).2).2).1 : Nat)) = w4 at HA0 HM0 HG HFD ⊢
  clear HA HMn HGn HFn x2 z2
  go_wp2_with fail
  refine (qs_count 2147483648 (by omega) HFD.out).mono ?_
  rintro e y3 ⟨rfl, hf3, hg3⟩
  have HA := hid (gb_keep hg3 HA0.out (by have := HBf.out; omega))
  have HMn := hid (gb_keep hg3 HM0.out (by have := HBn.out; omega))
  have HGn := hid (gb_trans HG.out hg3)
  have HFn := hid hf3
  clear HFD HA0 HM0 HG hf3 hg3
  have x3 := (Fb.of HA.out rfl).l3
  have z3 := row_fz HA.out 39
  go_upto_region 16 with fail
  have HA0 := hid (show (y3.setCell ⟨fb, 39, none⟩ (.int .i64 ((cS bs 2147483648 (cS bs 2147483648 (cS bs 2147483648 (uS bs (oS bs 6 s).2).2).2).2).1 : Nat))).heap[fb]? = some (.cells (fcells (⟨2, (((uS bs (oS bs 6 s).2).1 : Nat) : Int), 0, 0, z32f, 0, ((((cS bs 2147483648 (uS bs (oS bs 6 s).2).2).1 : Nat) : Int), (((cS bs 2147483648 (cS bs 2147483648 (uS bs (oS bs 6 s).2).2).2).1 : Nat) : Int), (((cS bs 2147483648 (cS bs 2147483648 (cS bs 2147483648 (uS bs (oS bs 6 s).2).2).2).2).1 : Nat) : Int)), [], []⟩ : Fr) nS).toArray 30 (0, 0)) from (blk_set HA.out _).trans (congrArg (fun a => some (Obj.cells a 30 (0, 0))) (fset_l3 (⟨2, (((uS bs (oS bs 6 s).2).1 : Nat) : Int), 0, 0, z32f, 0, ((((cS bs 2147483648 (uS bs (oS bs 6 s).2).2).1 : Nat) : Int), (((cS bs 2147483648 (cS bs 2147483648 (uS bs (oS bs 6 s).2).2).2).1 : Nat) : Int), 0), [], []⟩ : Fr) nS rfl _)))
  have HM0 := hid (show (y3.setCell ⟨fb, 39, none⟩ (.int .i64 ((cS bs 2147483648 (cS bs 2147483648 (cS bs 2147483648 (uS bs (oS bs 6 s).2).2).2).2).1 : Nat))).heap[n]? = some (.cells (fcells zF nS).toArray 30 (0, 0)) from (Below.heap_setCell y3 _ _ n (by have := HLn.out; simp; omega)).trans HMn.out)
  have HG := hid (gb_then HGn.out (gb_set y3 ⟨fb, 39, none⟩ (.int .i64 ((cS bs 2147483648 (cS bs 2147483648 (cS bs 2147483648 (uS bs (oS bs 6 s).2).2).2).2).1 : Nat))) (fun j e => by have e2 : fb = j := Option.some.inj e; left; have := HSW.out; omega))
  have HFD := hid (HFn.out.far (gb_set y3 ⟨fb, 39, none⟩ (.int .i64 ((cS bs 2147483648 (cS bs 2147483648 (cS bs 2147483648 (uS bs (oS bs 6 s).2).2).2).2).1 : Nat))) HBf.out HVO.out)
  generalize y3.setCell ⟨fb, 39, none⟩ (.int .i64 ((cS bs 2147483648 (cS bs 2147483648 (cS bs 2147483648 (uS bs (oS bs 6 s).2).2).2).2).1 : Nat)) = w5 at HA0 HM0 HG HFD ⊢
  clear HA HMn HGn HFn x3 z3
  go_wp2_with fail
  refine (qs_list 8 4096 (by omega) (by omega) (by omega) HFD.out).mono ?_
  rintro e y4 ⟨vl, rfl, hol, hf4, hg4⟩
  obtain ⟨al, cl, el⟩ := wowns_shape hol
  subst el
  have HOL := hid (hol.le (show fb + 1 ≤ w5.heap.size by have := hp_lt HA0.out; omega))
  have HA := hid (gb_keep hg4 HA0.out (by have := HBf.out; omega))
  have HMn := hid (gb_keep hg4 HM0.out (by have := HBn.out; omega))
  have HGn := hid (gb_trans HG.out hg4)
  have HFn := hid hf4
  clear HFD HA0 HM0 HG hf4 hg4 hol
  have x4 := (Fb.of HA.out rfl).a
  have z4 := row_fz HA.out 40
  go_upto_region 17 with fail
  have HA0 := hid (show (y4.setCell ⟨fb, 40, none⟩ (.slice al (lS bs 8 4096 (cS bs 2147483648 (cS bs 2147483648 (cS bs 2147483648 (uS bs (oS bs 6 s).2).2).2).2).2).1.length cl)).heap[fb]? = some (.cells (fcells (⟨2, (((uS bs (oS bs 6 s).2).1 : Nat) : Int), 0, 0, z32f, 0, ((((cS bs 2147483648 (uS bs (oS bs 6 s).2).2).1 : Nat) : Int), (((cS bs 2147483648 (cS bs 2147483648 (uS bs (oS bs 6 s).2).2).2).1 : Nat) : Int), (((cS bs 2147483648 (cS bs 2147483648 (cS bs 2147483648 (uS bs (oS bs 6 s).2).2).2).2).1 : Nat) : Int)), (lS bs 8 4096 (cS bs 2147483648 (cS bs 2147483648 (cS bs 2147483648 (uS bs (oS bs 6 s).2).2).2).2).2).1, []⟩ : Fr) (.slice al (lS bs 8 4096 (cS bs 2147483648 (cS bs 2147483648 (cS bs 2147483648 (uS bs (oS bs 6 s).2).2).2).2).2).1.length cl)).toArray 30 (0, 0)) from (blk_set HA.out _).trans (congrArg (fun a => some (Obj.cells a 30 (0, 0))) (fset_args (⟨2, (((uS bs (oS bs 6 s).2).1 : Nat) : Int), 0, 0, z32f, 0, ((((cS bs 2147483648 (uS bs (oS bs 6 s).2).2).1 : Nat) : Int), (((cS bs 2147483648 (cS bs 2147483648 (uS bs (oS bs 6 s).2).2).2).1 : Nat) : Int), (((cS bs 2147483648 (cS bs 2147483648 (cS bs 2147483648 (uS bs (oS bs 6 s).2).2).2).2).1 : Nat) : Int)), [], []⟩ : Fr) nS rfl _)))
  have HM0 := hid (show (y4.setCell ⟨fb, 40, none⟩ (.slice al (lS bs 8 4096 (cS bs 2147483648 (cS bs 2147483648 (cS bs 2147483648 (uS bs (oS bs 6 s).2).2).2).2).2).1.length cl)).heap[n]? = some (.cells (fcells zF nS).toArray 30 (0, 0)) from (Below.heap_setCell y4 _ _ n (by have := HLn.out; simp; omega)).trans HMn.out)
  have HG := hid (gb_then HGn.out (gb_set y4 ⟨fb, 40, none⟩ (.slice al (lS bs 8 4096 (cS bs 2147483648 (cS bs 2147483648 (cS bs 2147483648 (uS bs (oS bs 6 s).2).2).2).2).2).1.length cl)) (fun j e => by have e2 : fb = j := Option.some.inj e; left; have := HSW.out; omega))
  have HFD := hid (HFn.out.far (gb_set y4 ⟨fb, 40, none⟩ (.slice al (lS bs 8 4096 (cS bs 2147483648 (cS bs 2147483648 (cS bs 2147483648 (uS bs (oS bs 6 s).2).2).2).2).2).1.length cl)) HBf.out HVO.out)
  have HOLn := hid (WOwnS.far HOL.out (gb_set y4 ⟨fb, 40, none⟩ (.slice al (lS bs 8 4096 (cS bs 2147483648 (cS bs 2147483648 (cS bs 2147483648 (uS bs (oS bs 6 s).2).2).2).2).2).1.length cl)) (fun j e => by have e2 : fb = j := Option.some.inj e; omega))
  generalize y4.setCell ⟨fb, 40, none⟩ (.slice al (lS bs 8 4096 (cS bs 2147483648 (cS bs 2147483648 (cS bs 2147483648 (uS bs (oS bs 6 s).2).2).2).2).2).1.length cl) = w6 at HA0 HM0 HG HFD HOLn ⊢
  clear HA HMn HGn HFn x4 z4
  clear HOL
  have HOL := hid HOLn.out
  clear HOLn
  go_wp2_with fail
  refine (qs_text 2097152 (by omega) (by omega) HFD.out).mono ?_
  rintro e y5 ⟨rfl, hf5, hg5⟩
  have HA := hid (gb_keep hg5 HA0.out (by have := HBf.out; omega))
  have HMn := hid (gb_keep hg5 HM0.out (by have := HBn.out; omega))
  have HGn := hid (gb_trans HG.out hg5)
  have HOLn := hid (WOwnS.far HOL.out hg5 (fun j e => by injection e with e; have := HBf.out; omega))
  clear HOL
  have HOL := hid HOLn.out
  clear HOLn
  have HFn := hid hf5
  clear HFD HA0 HM0 HG hf5 hg5
  have x5 := (Fb.of HA.out rfl).bd
  have z5 := row_fz HA.out 41
  go_upto_region 26 with fail
  have HA0 := hid (show (y5.setCell ⟨fb, 41, none⟩ (.string (mk (tS bs 2097152 (lS bs 8 4096 (cS bs 2147483648 (cS bs 2147483648 (cS bs 2147483648 (uS bs (oS bs 6 s).2).2).2).2).2).2).1))).heap[fb]? = some (.cells (fcells (⟨2, (((uS bs (oS bs 6 s).2).1 : Nat) : Int), 0, 0, z32f, 0, ((((cS bs 2147483648 (uS bs (oS bs 6 s).2).2).1 : Nat) : Int), (((cS bs 2147483648 (cS bs 2147483648 (uS bs (oS bs 6 s).2).2).2).1 : Nat) : Int), (((cS bs 2147483648 (cS bs 2147483648 (cS bs 2147483648 (uS bs (oS bs 6 s).2).2).2).2).1 : Nat) : Int)), (lS bs 8 4096 (cS bs 2147483648 (cS bs 2147483648 (cS bs 2147483648 (uS bs (oS bs 6 s).2).2).2).2).2).1, (tS bs 2097152 (lS bs 8 4096 (cS bs 2147483648 (cS bs 2147483648 (cS bs 2147483648 (uS bs (oS bs 6 s).2).2).2).2).2).2).1⟩ : Fr) (.slice al (lS bs 8 4096 (cS bs 2147483648 (cS bs 2147483648 (cS bs 2147483648 (uS bs (oS bs 6 s).2).2).2).2).2).1.length cl)).toArray 30 (0, 0)) from (blk_set HA.out _).trans (congrArg (fun a => some (Obj.cells a 30 (0, 0))) (fset_body (⟨2, (((uS bs (oS bs 6 s).2).1 : Nat) : Int), 0, 0, z32f, 0, ((((cS bs 2147483648 (uS bs (oS bs 6 s).2).2).1 : Nat) : Int), (((cS bs 2147483648 (cS bs 2147483648 (uS bs (oS bs 6 s).2).2).2).1 : Nat) : Int), (((cS bs 2147483648 (cS bs 2147483648 (cS bs 2147483648 (uS bs (oS bs 6 s).2).2).2).2).1 : Nat) : Int)), (lS bs 8 4096 (cS bs 2147483648 (cS bs 2147483648 (cS bs 2147483648 (uS bs (oS bs 6 s).2).2).2).2).2).1, []⟩ : Fr) (.slice al (lS bs 8 4096 (cS bs 2147483648 (cS bs 2147483648 (cS bs 2147483648 (uS bs (oS bs 6 s).2).2).2).2).2).1.length cl) rfl _)))
  have HM0 := hid (show (y5.setCell ⟨fb, 41, none⟩ (.string (mk (tS bs 2097152 (lS bs 8 4096 (cS bs 2147483648 (cS bs 2147483648 (cS bs 2147483648 (uS bs (oS bs 6 s).2).2).2).2).2).2).1))).heap[n]? = some (.cells (fcells zF nS).toArray 30 (0, 0)) from (Below.heap_setCell y5 _ _ n (by have := HLn.out; simp; omega)).trans HMn.out)
  have HG := hid (gb_then HGn.out (gb_set y5 ⟨fb, 41, none⟩ (.string (mk (tS bs 2097152 (lS bs 8 4096 (cS bs 2147483648 (cS bs 2147483648 (cS bs 2147483648 (uS bs (oS bs 6 s).2).2).2).2).2).2).1))) (fun j e => by have e2 : fb = j := Option.some.inj e; left; have := HSW.out; omega))
  have HFD := hid (HFn.out.far (gb_set y5 ⟨fb, 41, none⟩ (.string (mk (tS bs 2097152 (lS bs 8 4096 (cS bs 2147483648 (cS bs 2147483648 (cS bs 2147483648 (uS bs (oS bs 6 s).2).2).2).2).2).2).1))) HBf.out HVO.out)
  have HOLn := hid (WOwnS.far HOL.out (gb_set y5 ⟨fb, 41, none⟩ (.string (mk (tS bs 2097152 (lS bs 8 4096 (cS bs 2147483648 (cS bs 2147483648 (cS bs 2147483648 (uS bs (oS bs 6 s).2).2).2).2).2).2).1))) (fun j e => by have e2 : fb = j := Option.some.inj e; omega))
  generalize y5.setCell ⟨fb, 41, none⟩ (.string (mk (tS bs 2097152 (lS bs 8 4096 (cS bs 2147483648 (cS bs 2147483648 (cS bs 2147483648 (uS bs (oS bs 6 s).2).2).2).2).2).2).1)) = w7 at HA0 HM0 HG HFD HOLn ⊢
  clear HA HMn HGn HFn x5 z5
  clear HOL
  have HOL := hid HOLn.out
  clear HOLn
  obtain ⟨FF, HFF⟩ : ∃ L, Hid (fcells (⟨2, (((uS bs (oS bs 6 s).2).1 : Nat) : Int), 0, 0, z32f, 0, ((((cS bs 2147483648 (uS bs (oS bs 6 s).2).2).1 : Nat) : Int), (((cS bs 2147483648 (cS bs 2147483648 (uS bs (oS bs 6 s).2).2).2).1 : Nat) : Int), (((cS bs 2147483648 (cS bs 2147483648 (cS bs 2147483648 (uS bs (oS bs 6 s).2).2).2).2).1 : Nat) : Int)), (lS bs 8 4096 (cS bs 2147483648 (cS bs 2147483648 (cS bs 2147483648 (uS bs (oS bs 6 s).2).2).2).2).2).1, (tS bs 2097152 (lS bs 8 4096 (cS bs 2147483648 (cS bs 2147483648 (cS bs 2147483648 (uS bs (oS bs 6 s).2).2).2).2).2).2).1⟩ : Fr) (.slice al (lS bs 8 4096 (cS bs 2147483648 (cS bs 2147483648 (cS bs 2147483648 (uS bs (oS bs 6 s).2).2).2).2).2).1.length cl) = L) := ⟨_, rfl⟩
  have HSZ := hid (frame_size (⟨2, (((uS bs (oS bs 6 s).2).1 : Nat) : Int), 0, 0, z32f, 0, ((((cS bs 2147483648 (uS bs (oS bs 6 s).2).2).1 : Nat) : Int), (((cS bs 2147483648 (cS bs 2147483648 (uS bs (oS bs 6 s).2).2).2).1 : Nat) : Int), (((cS bs 2147483648 (cS bs 2147483648 (cS bs 2147483648 (uS bs (oS bs 6 s).2).2).2).2).1 : Nat) : Int)), (lS bs 8 4096 (cS bs 2147483648 (cS bs 2147483648 (cS bs 2147483648 (uS bs (oS bs 6 s).2).2).2).2).2).1, (tS bs 2097152 (lS bs 8 4096 (cS bs 2147483648 (cS bs 2147483648 (cS bs 2147483648 (uS bs (oS bs 6 s).2).2).2).2).2).2).1⟩ : Fr) (.slice al (lS bs 8 4096 (cS bs 2147483648 (cS bs 2147483648 (cS bs 2147483648 (uS bs (oS bs 6 s).2).2).2).2).2).1.length cl) rfl)
  have HON := hid (fcells_one (⟨2, (((uS bs (oS bs 6 s).2).1 : Nat) : Int), 0, 0, z32f, 0, ((((cS bs 2147483648 (uS bs (oS bs 6 s).2).2).1 : Nat) : Int), (((cS bs 2147483648 (cS bs 2147483648 (uS bs (oS bs 6 s).2).2).2).1 : Nat) : Int), (((cS bs 2147483648 (cS bs 2147483648 (cS bs 2147483648 (uS bs (oS bs 6 s).2).2).2).2).1 : Nat) : Int)), (lS bs 8 4096 (cS bs 2147483648 (cS bs 2147483648 (cS bs 2147483648 (uS bs (oS bs 6 s).2).2).2).2).2).1, (tS bs 2097152 (lS bs 8 4096 (cS bs 2147483648 (cS bs 2147483648 (cS bs 2147483648 (uS bs (oS bs 6 s).2).2).2).2).2).2).1⟩ : Fr) (.slice al (lS bs 8 4096 (cS bs 2147483648 (cS bs 2147483648 (cS bs 2147483648 (uS bs (oS bs 6 s).2).2).2).2).2).1.length cl) rfl)
  have HOS := hid (show (fcells zF nS).toArray.size = (fcells (⟨2, (((uS bs (oS bs 6 s).2).1 : Nat) : Int), 0, 0, z32f, 0, ((((cS bs 2147483648 (uS bs (oS bs 6 s).2).2).1 : Nat) : Int), (((cS bs 2147483648 (cS bs 2147483648 (uS bs (oS bs 6 s).2).2).2).1 : Nat) : Int), (((cS bs 2147483648 (cS bs 2147483648 (cS bs 2147483648 (uS bs (oS bs 6 s).2).2).2).2).1 : Nat) : Int)), (lS bs 8 4096 (cS bs 2147483648 (cS bs 2147483648 (cS bs 2147483648 (uS bs (oS bs 6 s).2).2).2).2).2).1, (tS bs 2097152 (lS bs 8 4096 (cS bs 2147483648 (cS bs 2147483648 (cS bs 2147483648 (uS bs (oS bs 6 s).2).2).2).2).2).2).1⟩ : Fr) (.slice al (lS bs 8 4096 (cS bs 2147483648 (cS bs 2147483648 (cS bs 2147483648 (uS bs (oS bs 6 s).2).2).2).2).2).1.length cl)).length by rw [fcells_length _ _ rfl]; rfl)
  rw [HFF.out] at HA0 HSZ HON HOS
  go_wp2_with (first
    | (refine ld_row (by rfl) 30 (.tmp 3) (by rfl) fb (by rfl) FF 30 HA0.out _ Tryz.underlying30 rfl HSZ.out ?_)
    | (refine st_row (by rfl) 30 _ _ (by rfl) n FF (by rfl) (by rfl) 30 _ HM0.out HSZ.out HOS.out HON.out ?_; intro wz hwz))
  refine ret_row 2 30 rfl n rfl FF 30 hwz.blk _ Tryz.underlying30 rfl HSZ.out rfl ⟨(.slice al (lS bs 8 4096 (cS bs 2147483648 (cS bs 2147483648 (cS bs 2147483648 (uS bs (oS bs 6 s).2).2).2).2).2).1.length cl), ?_, ?_, ?_, gb_then HG.out hwz.grown (fun j e => by injection e with e; left; have := HN.out; omega)⟩
  · rw [← HFF.out]; rfl
  · exact (WOwnS.far HOL.out hwz.grown (fun j e => by have e2 : n = j := Option.some.inj e; have := HLn.out; omega)).le (by have := HSW.out; omega)
  · exact HFD.out.far hwz.grown HBn.out (fun k hk => HVN.out k hk)
end Go.Proofs.YtiibhccbbpgehaaGreat

/- The document's fields, where the kind that is read is 3. -/
namespace Go.Proofs.YtiibhccbbpgehaaGreat
open Go.RowKit Go.BigFrame

set_option maxRecDepth 100000 in
set_option maxHeartbeats 4000000 in
theorem rfields_3 (base b : Nat) (v : Value) (bs : List UInt8) (s : St) (w : World) (hbl : bs.length ≤ 1099511627776) (h : Qs w base b v bs s) (hK : (oS bs 6 s).1 = 3) :
    Calls Tryz.prog 34 #[.pointer (some ⟨b, 0, none⟩)] w fun e w' => ∃ va, e = .returned (.agg (fcells (fieldsP bs 3 (oS bs 6 s).2).1 va).toArray) ∧ WOwnS w' w.heap.size va (fieldsP bs 3 (oS bs 6 s).2).1.args ∧ Qs w' base b v bs (fieldsP bs 3 (oS bs 6 s).2).2 ∧ w.grownBy w' (some b) := by
  obtain ⟨n, HN⟩ : ∃ n, Hid (w.heap.size = n) := ⟨_, rfl⟩
  have HW := hid (below_walk w (.cells (fcells zF nS).toArray 30))
  have HM := hid (hp_new w (.cells (fcells zF nS).toArray 30))
  have HFD := hid (h.below HW.out)
  have HBn : Hid (b < n) := hid (HN.out ▸ h.lt)
  have HLEN := hid hbl
  have HVW := hid h.own
  have HK := hid hK
  clear h hK
  go_enter Tryz.func34, Tryz.ntmps34
  go_upto_region 1 with (refine al_row (by rfl) 30 (by rfl) _ zeroFrame ?_)
  have HG0 := hid (below_gb HW.out (some b))
  generalize w.alloc (.cells (fcells zF nS).toArray 30) = w0 at HW HM HFD HG0 ⊢
  rw [HN.out] at HM ⊢
  go_wp2_with fail
  refine (qs_some base b v bs s 6 w0 (by omega) HFD.out).mono ?_
  rintro e x ⟨rfl, hfx, hgx⟩
  rw [show ((oS bs 6 s).1 : Int) = 3 by rw [HK.out]; rfl]
  have HFx := hid hfx
  have HMx := hid (gb_keep hgx HM.out (by have := HBn.out; omega))
  have HGx := hid (gb_trans HG0.out hgx)
  clear hfx hgx HFD HM HG0 HW
  go_upto_region 2 with (first
    | (refine bd_row (by rfl) 30 #[(0, .tmp 7)] (by rfl) _ (by simp [Act.eval]) _ built_k3 ?_)
    | (refine al_row (by rfl) 30 (by rfl) _ zeroFrame ?_)
    | (refine st_new (by rfl) 30 _ _ (by rfl) (fcells (kF 3) nS) (by rfl) (by rfl) 30 _ (frame_size (kF 3) nS rfl) rfl (fcells_one (kF 3) nS rfl) ?_))
  have HWx := hid (below_walk x (.cells (fcells (kF 3) nS).toArray 30))
  have HFD := hid (HFx.out.below HWx.out)
  have HM0 := hid (bel_keep HWx.out HMx.out)
  have HG := hid (gb_trans HGx.out (below_gb HWx.out (some b)))
  have HA0 := hid (show (x.alloc (.cells (fcells (kF 3) nS).toArray 30)).heap[x.heap.size]? = some (.cells (fcells (⟨3, 0, 0, 0, z32f, 0, (0, 0, 0), [], []⟩ : Fr) nS).toArray 30 (0, 0)) from hp_new x _)
  have HVO := hid HFx.out.own
  have HVN : Hid (∀ k, v.ownBlock = some k → k < n) := hid (HN.out ▸ HVW.out)
  have HLn : Hid (n < x.heap.size) := hid (hp_lt HMx.out)
  have HBf : Hid (b < x.heap.size) := hid HFx.out.lt
  have HSW : Hid (w.heap.size ≤ x.heap.size) := hid HGx.out.size
  obtain ⟨fb, HFb⟩ : ∃ n, Hid (x.heap.size = n) := ⟨_, rfl⟩
  rw [HFb.out] at HA0 HVO HLn HBf HSW ⊢
  generalize x.alloc (.cells (fcells (kF 3) nS).toArray 30) = w1 at HWx HFD HM0 HG HA0 ⊢
  clear HFx HMx HGx HWx HFb
  have k0 : w1.cell? ⟨fb, 0, none⟩ = some (.int .i64 3) := (Fb.of HA0.out rfl).k
  go_wp2_with fail
  refine (qs_uint HFD.out).mono ?_
  rintro e y0 ⟨rfl, hf0, hg0⟩
  have HA := hid (gb_keep hg0 HA0.out (by have := HBf.out; omega))
  have HMn := hid (gb_keep hg0 HM0.out (by have := HBn.out; omega))
  have HGn := hid (gb_trans HG.out hg0)
  have HFn := hid hf0
  clear HFD HA0 HM0 HG hf0 hg0 k0
  have x0 := (Fb.of HA.out rfl).i
  have z0 := row_fz HA.out 1
  have k1 : y0.cell? ⟨fb, 0, none⟩ = some (.int .i64 3) := (Fb.of HA.out rfl).k
  go_upto_region 20 with fail
  have HA0 := hid (show (y0.setCell ⟨fb, 1, none⟩ (.int .u64 ((uS bs (oS bs 6 s).2).1 : Nat))).heap[fb]? = some (.cells (fcells (⟨3, (((uS bs (oS bs 6 s).2).1 : Nat) : Int), 0, 0, z32f, 0, (0, 0, 0), [], []⟩ : Fr) nS).toArray 30 (0, 0)) from (blk_set HA.out _).trans (congrArg (fun a => some (Obj.cells a 30 (0, 0))) (fset_id (⟨3, 0, 0, 0, z32f, 0, (0, 0, 0), [], []⟩ : Fr) nS rfl _)))
  have HM0 := hid (show (y0.setCell ⟨fb, 1, none⟩ (.int .u64 ((uS bs (oS bs 6 s).2).1 : Nat))).heap[n]? = some (.cells (fcells zF nS).toArray 30 (0, 0)) from (Below.heap_setCell y0 _ _ n (by have := HLn.out; simp; omega)).trans HMn.out)
  have HG := hid (gb_then HGn.out (gb_set y0 ⟨fb, 1, none⟩ (.int .u64 ((uS bs (oS bs 6 s).2).1 : Nat))) (fun j e => by have e2 : fb = j := Option.some.inj e; left; have := HSW.out; omega))
  have HFD := hid (HFn.out.far (gb_set y0 ⟨fb, 1, none⟩ (.int .u64 ((uS bs (oS bs 6 s).2).1 : Nat))) HBf.out HVO.out)
  generalize y0.setCell ⟨fb, 1, none⟩ (.int .u64 ((uS bs (oS bs 6 s).2).1 : Nat)) = w2 at HA0 HM0 HG HFD ⊢
  clear HA HMn HGn HFn x0 z0 k1
  go_wp2_with fail
  refine (qs_some base b v bs _ 3 _ (by omega) HFD.out).mono ?_
  rintro e y1 ⟨rfl, hf1, hg1⟩
  have HA := hid (gb_keep hg1 HA0.out (by have := HBf.out; omega))
  have HMn := hid (gb_keep hg1 HM0.out (by have := HBn.out; omega))
  have HGn := hid (gb_trans HG.out hg1)
  have HFn := hid hf1
  clear HFD HA0 HM0 HG hf1 hg1
  have x1 := (Fb.of HA.out rfl).st
  have z1 := row_fz HA.out 36
  go_upto_region 21 with fail
  have HA0 := hid (show (y1.setCell ⟨fb, 36, none⟩ (.int .i64 ((oS bs 3 (uS bs (oS bs 6 s).2).2).1 : Nat))).heap[fb]? = some (.cells (fcells (⟨3, (((uS bs (oS bs 6 s).2).1 : Nat) : Int), 0, 0, z32f, (((oS bs 3 (uS bs (oS bs 6 s).2).2).1 : Nat) : Int), (0, 0, 0), [], []⟩ : Fr) nS).toArray 30 (0, 0)) from (blk_set HA.out _).trans (congrArg (fun a => some (Obj.cells a 30 (0, 0))) (fset_status (⟨3, (((uS bs (oS bs 6 s).2).1 : Nat) : Int), 0, 0, z32f, 0, (0, 0, 0), [], []⟩ : Fr) nS rfl _)))
  have HM0 := hid (show (y1.setCell ⟨fb, 36, none⟩ (.int .i64 ((oS bs 3 (uS bs (oS bs 6 s).2).2).1 : Nat))).heap[n]? = some (.cells (fcells zF nS).toArray 30 (0, 0)) from (Below.heap_setCell y1 _ _ n (by have := HLn.out; simp; omega)).trans HMn.out)
  have HG := hid (gb_then HGn.out (gb_set y1 ⟨fb, 36, none⟩ (.int .i64 ((oS bs 3 (uS bs (oS bs 6 s).2).2).1 : Nat))) (fun j e => by have e2 : fb = j := Option.some.inj e; left; have := HSW.out; omega))
  have HFD := hid (HFn.out.far (gb_set y1 ⟨fb, 36, none⟩ (.int .i64 ((oS bs 3 (uS bs (oS bs 6 s).2).2).1 : Nat))) HBf.out HVO.out)
  generalize y1.setCell ⟨fb, 36, none⟩ (.int .i64 ((oS bs 3 (uS bs (oS bs 6 s).2).2).1 : Nat)) = w3 at HA0 HM0 HG HFD ⊢
  clear HA HMn HGn HFn x1 z1
  go_wp2_with fail
  refine (qs_text 2097152 (by omega) (by omega) HFD.out).mono ?_
  rintro e y2 ⟨rfl, hf2, hg2⟩
  have HA := hid (gb_keep hg2 HA0.out (by have := HBf.out; omega))
  have HMn := hid (gb_keep hg2 HM0.out (by have := HBn.out; omega))
  have HGn := hid (gb_trans HG.out hg2)
  have HFn := hid hf2
  clear HFD HA0 HM0 HG hf2 hg2
  have x2 := (Fb.of HA.out rfl).bd
  have z2 := row_fz HA.out 41
  go_upto_region 26 with fail
  have HA0 := hid (show (y2.setCell ⟨fb, 41, none⟩ (.string (mk (tS bs 2097152 (oS bs 3 (uS bs (oS bs 6 s).2).2).2).1))).heap[fb]? = some (.cells (fcells (⟨3, (((uS bs (oS bs 6 s).2).1 : Nat) : Int), 0, 0, z32f, (((oS bs 3 (uS bs (oS bs 6 s).2).2).1 : Nat) : Int), (0, 0, 0), [], (tS bs 2097152 (oS bs 3 (uS bs (oS bs 6 s).2).2).2).1⟩ : Fr) nS).toArray 30 (0, 0)) from (blk_set HA.out _).trans (congrArg (fun a => some (Obj.cells a 30 (0, 0))) (fset_body (⟨3, (((uS bs (oS bs 6 s).2).1 : Nat) : Int), 0, 0, z32f, (((oS bs 3 (uS bs (oS bs 6 s).2).2).1 : Nat) : Int), (0, 0, 0), [], []⟩ : Fr) nS rfl _)))
  have HM0 := hid (show (y2.setCell ⟨fb, 41, none⟩ (.string (mk (tS bs 2097152 (oS bs 3 (uS bs (oS bs 6 s).2).2).2).1))).heap[n]? = some (.cells (fcells zF nS).toArray 30 (0, 0)) from (Below.heap_setCell y2 _ _ n (by have := HLn.out; simp; omega)).trans HMn.out)
  have HG := hid (gb_then HGn.out (gb_set y2 ⟨fb, 41, none⟩ (.string (mk (tS bs 2097152 (oS bs 3 (uS bs (oS bs 6 s).2).2).2).1))) (fun j e => by have e2 : fb = j := Option.some.inj e; left; have := HSW.out; omega))
  have HFD := hid (HFn.out.far (gb_set y2 ⟨fb, 41, none⟩ (.string (mk (tS bs 2097152 (oS bs 3 (uS bs (oS bs 6 s).2).2).2).1))) HBf.out HVO.out)
  generalize y2.setCell ⟨fb, 41, none⟩ (.string (mk (tS bs 2097152 (oS bs 3 (uS bs (oS bs 6 s).2).2).2).1)) = w4 at HA0 HM0 HG HFD ⊢
  clear HA HMn HGn HFn x2 z2
  obtain ⟨FF, HFF⟩ : ∃ L, Hid (fcells (⟨3, (((uS bs (oS bs 6 s).2).1 : Nat) : Int), 0, 0, z32f, (((oS bs 3 (uS bs (oS bs 6 s).2).2).1 : Nat) : Int), (0, 0, 0), [], (tS bs 2097152 (oS bs 3 (uS bs (oS bs 6 s).2).2).2).1⟩ : Fr) nS = L) := ⟨_, rfl⟩
  have HSZ := hid (frame_size (⟨3, (((uS bs (oS bs 6 s).2).1 : Nat) : Int), 0, 0, z32f, (((oS bs 3 (uS bs (oS bs 6 s).2).2).1 : Nat) : Int), (0, 0, 0), [], (tS bs 2097152 (oS bs 3 (uS bs (oS bs 6 s).2).2).2).1⟩ : Fr) nS rfl)
  have HON := hid (fcells_one (⟨3, (((uS bs (oS bs 6 s).2).1 : Nat) : Int), 0, 0, z32f, (((oS bs 3 (uS bs (oS bs 6 s).2).2).1 : Nat) : Int), (0, 0, 0), [], (tS bs 2097152 (oS bs 3 (uS bs (oS bs 6 s).2).2).2).1⟩ : Fr) nS rfl)
  have HOS := hid (show (fcells zF nS).toArray.size = (fcells (⟨3, (((uS bs (oS bs 6 s).2).1 : Nat) : Int), 0, 0, z32f, (((oS bs 3 (uS bs (oS bs 6 s).2).2).1 : Nat) : Int), (0, 0, 0), [], (tS bs 2097152 (oS bs 3 (uS bs (oS bs 6 s).2).2).2).1⟩ : Fr) nS).length by rw [fcells_length _ _ rfl]; rfl)
  rw [HFF.out] at HA0 HSZ HON HOS
  go_wp2_with (first
    | (refine ld_row (by rfl) 30 (.tmp 3) (by rfl) fb (by rfl) FF 30 HA0.out _ Tryz.underlying30 rfl HSZ.out ?_)
    | (refine st_row (by rfl) 30 _ _ (by rfl) n FF (by rfl) (by rfl) 30 _ HM0.out HSZ.out HOS.out HON.out ?_; intro wz hwz))
  refine ret_row 2 30 rfl n rfl FF 30 hwz.blk _ Tryz.underlying30 rfl HSZ.out rfl ⟨nS, ?_, ?_, ?_, gb_then HG.out hwz.grown (fun j e => by injection e with e; left; have := HN.out; omega)⟩
  · rw [← HFF.out]; rfl
  · exact World.ownsRow_nil _ _ _ _
  · exact HFD.out.far hwz.grown HBn.out (fun k hk => HVN.out k hk)
end Go.Proofs.YtiibhccbbpgehaaGreat

/- The document's fields, where the kind that is read is 4. -/
namespace Go.Proofs.YtiibhccbbpgehaaGreat
open Go.RowKit Go.BigFrame

set_option maxRecDepth 100000 in
set_option maxHeartbeats 4000000 in
theorem rfields_4 (base b : Nat) (v : Value) (bs : List UInt8) (s : St) (w : World) (hbl : bs.length ≤ 1099511627776) (h : Qs w base b v bs s) (hK : (oS bs 6 s).1 = 4) :
    Calls Tryz.prog 34 #[.pointer (some ⟨b, 0, none⟩)] w fun e w' => ∃ va, e = .returned (.agg (fcells (fieldsP bs 4 (oS bs 6 s).2).1 va).toArray) ∧ WOwnS w' w.heap.size va (fieldsP bs 4 (oS bs 6 s).2).1.args ∧ Qs w' base b v bs (fieldsP bs 4 (oS bs 6 s).2).2 ∧ w.grownBy w' (some b) := by
  obtain ⟨n, HN⟩ : ∃ n, Hid (w.heap.size = n) := ⟨_, rfl⟩
  have HW := hid (below_walk w (.cells (fcells zF nS).toArray 30))
  have HM := hid (hp_new w (.cells (fcells zF nS).toArray 30))
  have HFD := hid (h.below HW.out)
  have HBn : Hid (b < n) := hid (HN.out ▸ h.lt)
  have HLEN := hid hbl
  have HVW := hid h.own
  have HK := hid hK
  clear h hK
  go_enter Tryz.func34, Tryz.ntmps34
  go_upto_region 1 with (refine al_row (by rfl) 30 (by rfl) _ zeroFrame ?_)
  have HG0 := hid (below_gb HW.out (some b))
  generalize w.alloc (.cells (fcells zF nS).toArray 30) = w0 at HW HM HFD HG0 ⊢
  rw [HN.out] at HM ⊢
  go_wp2_with fail
  refine (qs_some base b v bs s 6 w0 (by omega) HFD.out).mono ?_
  rintro e x ⟨rfl, hfx, hgx⟩
  rw [show ((oS bs 6 s).1 : Int) = 4 by rw [HK.out]; rfl]
  have HFx := hid hfx
  have HMx := hid (gb_keep hgx HM.out (by have := HBn.out; omega))
  have HGx := hid (gb_trans HG0.out hgx)
  clear hfx hgx HFD HM HG0 HW
  go_upto_region 2 with (first
    | (refine bd_row (by rfl) 30 #[(0, .tmp 7)] (by rfl) _ (by simp [Act.eval]) _ built_k4 ?_)
    | (refine al_row (by rfl) 30 (by rfl) _ zeroFrame ?_)
    | (refine st_new (by rfl) 30 _ _ (by rfl) (fcells (kF 4) nS) (by rfl) (by rfl) 30 _ (frame_size (kF 4) nS rfl) rfl (fcells_one (kF 4) nS rfl) ?_))
  have HWx := hid (below_walk x (.cells (fcells (kF 4) nS).toArray 30))
  have HFD := hid (HFx.out.below HWx.out)
  have HM0 := hid (bel_keep HWx.out HMx.out)
  have HG := hid (gb_trans HGx.out (below_gb HWx.out (some b)))
  have HA0 := hid (show (x.alloc (.cells (fcells (kF 4) nS).toArray 30)).heap[x.heap.size]? = some (.cells (fcells (⟨4, 0, 0, 0, z32f, 0, (0, 0, 0), [], []⟩ : Fr) nS).toArray 30 (0, 0)) from hp_new x _)
  have HVO := hid HFx.out.own
  have HVN : Hid (∀ k, v.ownBlock = some k → k < n) := hid (HN.out ▸ HVW.out)
  have HLn : Hid (n < x.heap.size) := hid (hp_lt HMx.out)
  have HBf : Hid (b < x.heap.size) := hid HFx.out.lt
  have HSW : Hid (w.heap.size ≤ x.heap.size) := hid HGx.out.size
  obtain ⟨fb, HFb⟩ : ∃ n, Hid (x.heap.size = n) := ⟨_, rfl⟩
  rw [HFb.out] at HA0 HVO HLn HBf HSW ⊢
  generalize x.alloc (.cells (fcells (kF 4) nS).toArray 30) = w1 at HWx HFD HM0 HG HA0 ⊢
  clear HFx HMx HGx HWx HFb
  have k0 : w1.cell? ⟨fb, 0, none⟩ = some (.int .i64 4) := (Fb.of HA0.out rfl).k
  go_wp2_with fail
  refine (qs_uint HFD.out).mono ?_
  rintro e y0 ⟨rfl, hf0, hg0⟩
  have HA := hid (gb_keep hg0 HA0.out (by have := HBf.out; omega))
  have HMn := hid (gb_keep hg0 HM0.out (by have := HBn.out; omega))
  have HGn := hid (gb_trans HG.out hg0)
  have HFn := hid hf0
  clear HFD HA0 HM0 HG hf0 hg0 k0
  have x0 := (Fb.of HA.out rfl).i
  have z0 := row_fz HA.out 1
  have k1 : y0.cell? ⟨fb, 0, none⟩ = some (.int .i64 4) := (Fb.of HA.out rfl).k
  go_upto_region 26 with fail
  have HA0 := hid (show (y0.setCell ⟨fb, 1, none⟩ (.int .u64 ((uS bs (oS bs 6 s).2).1 : Nat))).heap[fb]? = some (.cells (fcells (⟨4, (((uS bs (oS bs 6 s).2).1 : Nat) : Int), 0, 0, z32f, 0, (0, 0, 0), [], []⟩ : Fr) nS).toArray 30 (0, 0)) from (blk_set HA.out _).trans (congrArg (fun a => some (Obj.cells a 30 (0, 0))) (fset_id (⟨4, 0, 0, 0, z32f, 0, (0, 0, 0), [], []⟩ : Fr) nS rfl _)))
  have HM0 := hid (show (y0.setCell ⟨fb, 1, none⟩ (.int .u64 ((uS bs (oS bs 6 s).2).1 : Nat))).heap[n]? = some (.cells (fcells zF nS).toArray 30 (0, 0)) from (Below.heap_setCell y0 _ _ n (by have := HLn.out; simp; omega)).trans HMn.out)
  have HG := hid (gb_then HGn.out (gb_set y0 ⟨fb, 1, none⟩ (.int .u64 ((uS bs (oS bs 6 s).2).1 : Nat))) (fun j e => by have e2 : fb = j := Option.some.inj e; left; have := HSW.out; omega))
  have HFD := hid (HFn.out.far (gb_set y0 ⟨fb, 1, none⟩ (.int .u64 ((uS bs (oS bs 6 s).2).1 : Nat))) HBf.out HVO.out)
  generalize y0.setCell ⟨fb, 1, none⟩ (.int .u64 ((uS bs (oS bs 6 s).2).1 : Nat)) = w2 at HA0 HM0 HG HFD ⊢
  clear HA HMn HGn HFn x0 z0 k1
  obtain ⟨FF, HFF⟩ : ∃ L, Hid (fcells (⟨4, (((uS bs (oS bs 6 s).2).1 : Nat) : Int), 0, 0, z32f, 0, (0, 0, 0), [], []⟩ : Fr) nS = L) := ⟨_, rfl⟩
  have HSZ := hid (frame_size (⟨4, (((uS bs (oS bs 6 s).2).1 : Nat) : Int), 0, 0, z32f, 0, (0, 0, 0), [], []⟩ : Fr) nS rfl)
  have HON := hid (fcells_one (⟨4, (((uS bs (oS bs 6 s).2).1 : Nat) : Int), 0, 0, z32f, 0, (0, 0, 0), [], []⟩ : Fr) nS rfl)
  have HOS := hid (show (fcells zF nS).toArray.size = (fcells (⟨4, (((uS bs (oS bs 6 s).2).1 : Nat) : Int), 0, 0, z32f, 0, (0, 0, 0), [], []⟩ : Fr) nS).length by rw [fcells_length _ _ rfl]; rfl)
  rw [HFF.out] at HA0 HSZ HON HOS
  go_wp2_with (first
    | (refine ld_row (by rfl) 30 (.tmp 3) (by rfl) fb (by rfl) FF 30 HA0.out _ Tryz.underlying30 rfl HSZ.out ?_)
    | (refine st_row (by rfl) 30 _ _ (by rfl) n FF (by rfl) (by rfl) 30 _ HM0.out HSZ.out HOS.out HON.out ?_; intro wz hwz))
  refine ret_row 2 30 rfl n rfl FF 30 hwz.blk _ Tryz.underlying30 rfl HSZ.out rfl ⟨nS, ?_, ?_, ?_, gb_then HG.out hwz.grown (fun j e => by injection e with e; left; have := HN.out; omega)⟩
  · rw [← HFF.out]; rfl
  · exact World.ownsRow_nil _ _ _ _
  · exact HFD.out.far hwz.grown HBn.out (fun k hk => HVN.out k hk)
end Go.Proofs.YtiibhccbbpgehaaGreat

/- The document's fields, where the kind that is read is 5. -/
namespace Go.Proofs.YtiibhccbbpgehaaGreat
open Go.RowKit Go.BigFrame

set_option maxRecDepth 100000 in
set_option maxHeartbeats 4000000 in
theorem rfields_5 (base b : Nat) (v : Value) (bs : List UInt8) (s : St) (w : World) (hbl : bs.length ≤ 1099511627776) (h : Qs w base b v bs s) (hK : (oS bs 6 s).1 = 5) :
    Calls Tryz.prog 34 #[.pointer (some ⟨b, 0, none⟩)] w fun e w' => ∃ va, e = .returned (.agg (fcells (fieldsP bs 5 (oS bs 6 s).2).1 va).toArray) ∧ WOwnS w' w.heap.size va (fieldsP bs 5 (oS bs 6 s).2).1.args ∧ Qs w' base b v bs (fieldsP bs 5 (oS bs 6 s).2).2 ∧ w.grownBy w' (some b) := by
  obtain ⟨n, HN⟩ : ∃ n, Hid (w.heap.size = n) := ⟨_, rfl⟩
  have HW := hid (below_walk w (.cells (fcells zF nS).toArray 30))
  have HM := hid (hp_new w (.cells (fcells zF nS).toArray 30))
  have HFD := hid (h.below HW.out)
  have HBn : Hid (b < n) := hid (HN.out ▸ h.lt)
  have HLEN := hid hbl
  have HVW := hid h.own
  have HK := hid hK
  clear h hK
  go_enter Tryz.func34, Tryz.ntmps34
  go_upto_region 1 with (refine al_row (by rfl) 30 (by rfl) _ zeroFrame ?_)
  have HG0 := hid (below_gb HW.out (some b))
  generalize w.alloc (.cells (fcells zF nS).toArray 30) = w0 at HW HM HFD HG0 ⊢
  rw [HN.out] at HM ⊢
  go_wp2_with fail
  refine (qs_some base b v bs s 6 w0 (by omega) HFD.out).mono ?_
  rintro e x ⟨rfl, hfx, hgx⟩
  rw [show ((oS bs 6 s).1 : Int) = 5 by rw [HK.out]; rfl]
  have HFx := hid hfx
  have HMx := hid (gb_keep hgx HM.out (by have := HBn.out; omega))
  have HGx := hid (gb_trans HG0.out hgx)
  clear hfx hgx HFD HM HG0 HW
  go_upto_region 2 with (first
    | (refine bd_row (by rfl) 30 #[(0, .tmp 7)] (by rfl) _ (by simp [Act.eval]) _ built_k5 ?_)
    | (refine al_row (by rfl) 30 (by rfl) _ zeroFrame ?_)
    | (refine st_new (by rfl) 30 _ _ (by rfl) (fcells (kF 5) nS) (by rfl) (by rfl) 30 _ (frame_size (kF 5) nS rfl) rfl (fcells_one (kF 5) nS rfl) ?_))
  have HWx := hid (below_walk x (.cells (fcells (kF 5) nS).toArray 30))
  have HFD := hid (HFx.out.below HWx.out)
  have HM0 := hid (bel_keep HWx.out HMx.out)
  have HG := hid (gb_trans HGx.out (below_gb HWx.out (some b)))
  have HA0 := hid (show (x.alloc (.cells (fcells (kF 5) nS).toArray 30)).heap[x.heap.size]? = some (.cells (fcells (⟨5, 0, 0, 0, z32f, 0, (0, 0, 0), [], []⟩ : Fr) nS).toArray 30 (0, 0)) from hp_new x _)
  have HVO := hid HFx.out.own
  have HVN : Hid (∀ k, v.ownBlock = some k → k < n) := hid (HN.out ▸ HVW.out)
  have HLn : Hid (n < x.heap.size) := hid (hp_lt HMx.out)
  have HBf : Hid (b < x.heap.size) := hid HFx.out.lt
  have HSW : Hid (w.heap.size ≤ x.heap.size) := hid HGx.out.size
  obtain ⟨fb, HFb⟩ : ∃ n, Hid (x.heap.size = n) := ⟨_, rfl⟩
  rw [HFb.out] at HA0 HVO HLn HBf HSW ⊢
  generalize x.alloc (.cells (fcells (kF 5) nS).toArray 30) = w1 at HWx HFD HM0 HG HA0 ⊢
  clear HFx HMx HGx HWx HFb
  have k0 : w1.cell? ⟨fb, 0, none⟩ = some (.int .i64 5) := (Fb.of HA0.out rfl).k
  obtain ⟨FF, HFF⟩ : ∃ L, Hid (fcells (⟨5, 0, 0, 0, z32f, 0, (0, 0, 0), [], []⟩ : Fr) nS = L) := ⟨_, rfl⟩
  have HSZ := hid (frame_size (⟨5, 0, 0, 0, z32f, 0, (0, 0, 0), [], []⟩ : Fr) nS rfl)
  have HON := hid (fcells_one (⟨5, 0, 0, 0, z32f, 0, (0, 0, 0), [], []⟩ : Fr) nS rfl)
  have HOS := hid (show (fcells zF nS).toArray.size = (fcells (⟨5, 0, 0, 0, z32f, 0, (0, 0, 0), [], []⟩ : Fr) nS).length by rw [fcells_length _ _ rfl]; rfl)
  rw [HFF.out] at HA0 HSZ HON HOS
  go_wp2_with (first
    | (refine ld_row (by rfl) 30 (.tmp 3) (by rfl) fb (by rfl) FF 30 HA0.out _ Tryz.underlying30 rfl HSZ.out ?_)
    | (refine st_row (by rfl) 30 _ _ (by rfl) n FF (by rfl) (by rfl) 30 _ HM0.out HSZ.out HOS.out HON.out ?_; intro wz hwz))
  refine ret_row 2 30 rfl n rfl FF 30 hwz.blk _ Tryz.underlying30 rfl HSZ.out rfl ⟨nS, ?_, ?_, ?_, gb_then HG.out hwz.grown (fun j e => by injection e with e; left; have := HN.out; omega)⟩
  · rw [← HFF.out]; rfl
  · exact World.ownsRow_nil _ _ _ _
  · exact HFD.out.far hwz.grown HBn.out (fun k hk => HVN.out k hk)
end Go.Proofs.YtiibhccbbpgehaaGreat

/- The document's fields, where the kind that is read is 6. -/
namespace Go.Proofs.YtiibhccbbpgehaaGreat
open Go.RowKit Go.BigFrame

set_option maxRecDepth 100000 in
set_option maxHeartbeats 4000000 in
theorem rfields_6 (base b : Nat) (v : Value) (bs : List UInt8) (s : St) (w : World) (hbl : bs.length ≤ 1099511627776) (h : Qs w base b v bs s) (hK : (oS bs 6 s).1 = 6) :
    Calls Tryz.prog 34 #[.pointer (some ⟨b, 0, none⟩)] w fun e w' => ∃ va, e = .returned (.agg (fcells (fieldsP bs 6 (oS bs 6 s).2).1 va).toArray) ∧ WOwnS w' w.heap.size va (fieldsP bs 6 (oS bs 6 s).2).1.args ∧ Qs w' base b v bs (fieldsP bs 6 (oS bs 6 s).2).2 ∧ w.grownBy w' (some b) := by
  obtain ⟨n, HN⟩ : ∃ n, Hid (w.heap.size = n) := ⟨_, rfl⟩
  have HW := hid (below_walk w (.cells (fcells zF nS).toArray 30))
  have HM := hid (hp_new w (.cells (fcells zF nS).toArray 30))
  have HFD := hid (h.below HW.out)
  have HBn : Hid (b < n) := hid (HN.out ▸ h.lt)
  have HLEN := hid hbl
  have HVW := hid h.own
  have HK := hid hK
  clear h hK
  go_enter Tryz.func34, Tryz.ntmps34
  go_upto_region 1 with (refine al_row (by rfl) 30 (by rfl) _ zeroFrame ?_)
  have HG0 := hid (below_gb HW.out (some b))
  generalize w.alloc (.cells (fcells zF nS).toArray 30) = w0 at HW HM HFD HG0 ⊢
  rw [HN.out] at HM ⊢
  go_wp2_with fail
  refine (qs_some base b v bs s 6 w0 (by omega) HFD.out).mono ?_
  rintro e x ⟨rfl, hfx, hgx⟩
  rw [show ((oS bs 6 s).1 : Int) = 6 by rw [HK.out]; rfl]
  have HFx := hid hfx
  have HMx := hid (gb_keep hgx HM.out (by have := HBn.out; omega))
  have HGx := hid (gb_trans HG0.out hgx)
  clear hfx hgx HFD HM HG0 HW
  go_upto_region 2 with (first
    | (refine bd_row (by rfl) 30 #[(0, .tmp 7)] (by rfl) _ (by simp [Act.eval]) _ built_k6 ?_)
    | (refine al_row (by rfl) 30 (by rfl) _ zeroFrame ?_)
    | (refine st_new (by rfl) 30 _ _ (by rfl) (fcells (kF 6) nS) (by rfl) (by rfl) 30 _ (frame_size (kF 6) nS rfl) rfl (fcells_one (kF 6) nS rfl) ?_))
  have HWx := hid (below_walk x (.cells (fcells (kF 6) nS).toArray 30))
  have HFD := hid (HFx.out.below HWx.out)
  have HM0 := hid (bel_keep HWx.out HMx.out)
  have HG := hid (gb_trans HGx.out (below_gb HWx.out (some b)))
  have HA0 := hid (show (x.alloc (.cells (fcells (kF 6) nS).toArray 30)).heap[x.heap.size]? = some (.cells (fcells (⟨6, 0, 0, 0, z32f, 0, (0, 0, 0), [], []⟩ : Fr) nS).toArray 30 (0, 0)) from hp_new x _)
  have HVO := hid HFx.out.own
  have HVN : Hid (∀ k, v.ownBlock = some k → k < n) := hid (HN.out ▸ HVW.out)
  have HLn : Hid (n < x.heap.size) := hid (hp_lt HMx.out)
  have HBf : Hid (b < x.heap.size) := hid HFx.out.lt
  have HSW : Hid (w.heap.size ≤ x.heap.size) := hid HGx.out.size
  obtain ⟨fb, HFb⟩ : ∃ n, Hid (x.heap.size = n) := ⟨_, rfl⟩
  rw [HFb.out] at HA0 HVO HLn HBf HSW ⊢
  generalize x.alloc (.cells (fcells (kF 6) nS).toArray 30) = w1 at HWx HFD HM0 HG HA0 ⊢
  clear HFx HMx HGx HWx HFb
  have k0 : w1.cell? ⟨fb, 0, none⟩ = some (.int .i64 6) := (Fb.of HA0.out rfl).k
  go_wp2_with fail
  refine (qs_text 2097152 (by omega) (by omega) HFD.out).mono ?_
  rintro e y0 ⟨rfl, hf0, hg0⟩
  have HA := hid (gb_keep hg0 HA0.out (by have := HBf.out; omega))
  have HMn := hid (gb_keep hg0 HM0.out (by have := HBn.out; omega))
  have HGn := hid (gb_trans HG.out hg0)
  have HFn := hid hf0
  clear HFD HA0 HM0 HG hf0 hg0 k0
  have x0 := (Fb.of HA.out rfl).bd
  have z0 := row_fz HA.out 41
  have k1 : y0.cell? ⟨fb, 0, none⟩ = some (.int .i64 6) := (Fb.of HA.out rfl).k
  go_upto_region 26 with fail
  have HA0 := hid (show (y0.setCell ⟨fb, 41, none⟩ (.string (mk (tS bs 2097152 (oS bs 6 s).2).1))).heap[fb]? = some (.cells (fcells (⟨6, 0, 0, 0, z32f, 0, (0, 0, 0), [], (tS bs 2097152 (oS bs 6 s).2).1⟩ : Fr) nS).toArray 30 (0, 0)) from (blk_set HA.out _).trans (congrArg (fun a => some (Obj.cells a 30 (0, 0))) (fset_body (⟨6, 0, 0, 0, z32f, 0, (0, 0, 0), [], []⟩ : Fr) nS rfl _)))
  have HM0 := hid (show (y0.setCell ⟨fb, 41, none⟩ (.string (mk (tS bs 2097152 (oS bs 6 s).2).1))).heap[n]? = some (.cells (fcells zF nS).toArray 30 (0, 0)) from (Below.heap_setCell y0 _ _ n (by have := HLn.out; simp; omega)).trans HMn.out)
  have HG := hid (gb_then HGn.out (gb_set y0 ⟨fb, 41, none⟩ (.string (mk (tS bs 2097152 (oS bs 6 s).2).1))) (fun j e => by have e2 : fb = j := Option.some.inj e; left; have := HSW.out; omega))
  have HFD := hid (HFn.out.far (gb_set y0 ⟨fb, 41, none⟩ (.string (mk (tS bs 2097152 (oS bs 6 s).2).1))) HBf.out HVO.out)
  generalize y0.setCell ⟨fb, 41, none⟩ (.string (mk (tS bs 2097152 (oS bs 6 s).2).1)) = w2 at HA0 HM0 HG HFD ⊢
  clear HA HMn HGn HFn x0 z0 k1
  obtain ⟨FF, HFF⟩ : ∃ L, Hid (fcells (⟨6, 0, 0, 0, z32f, 0, (0, 0, 0), [], (tS bs 2097152 (oS bs 6 s).2).1⟩ : Fr) nS = L) := ⟨_, rfl⟩
  have HSZ := hid (frame_size (⟨6, 0, 0, 0, z32f, 0, (0, 0, 0), [], (tS bs 2097152 (oS bs 6 s).2).1⟩ : Fr) nS rfl)
  have HON := hid (fcells_one (⟨6, 0, 0, 0, z32f, 0, (0, 0, 0), [], (tS bs 2097152 (oS bs 6 s).2).1⟩ : Fr) nS rfl)
  have HOS := hid (show (fcells zF nS).toArray.size = (fcells (⟨6, 0, 0, 0, z32f, 0, (0, 0, 0), [], (tS bs 2097152 (oS bs 6 s).2).1⟩ : Fr) nS).length by rw [fcells_length _ _ rfl]; rfl)
  rw [HFF.out] at HA0 HSZ HON HOS
  go_wp2_with (first
    | (refine ld_row (by rfl) 30 (.tmp 3) (by rfl) fb (by rfl) FF 30 HA0.out _ Tryz.underlying30 rfl HSZ.out ?_)
    | (refine st_row (by rfl) 30 _ _ (by rfl) n FF (by rfl) (by rfl) 30 _ HM0.out HSZ.out HOS.out HON.out ?_; intro wz hwz))
  refine ret_row 2 30 rfl n rfl FF 30 hwz.blk _ Tryz.underlying30 rfl HSZ.out rfl ⟨nS, ?_, ?_, ?_, gb_then HG.out hwz.grown (fun j e => by injection e with e; left; have := HN.out; omega)⟩
  · rw [← HFF.out]; rfl
  · exact World.ownsRow_nil _ _ _ _
  · exact HFD.out.far hwz.grown HBn.out (fun k hk => HVN.out k hk)
end Go.Proofs.YtiibhccbbpgehaaGreat

/- What may be, of fields that were read without a fault, plainly. -/
namespace Go.Proofs.YtiibhccbbpgehaaGreat
open Go.RowKit

theorem lstR_each : ∀ (n : Nat) (l : List UInt8) (each k : Nat) (ts : List (List UInt8)), lstR n l each = (0, ts, k) → ∀ t ∈ ts, t.length ≤ each
  | 0, l, each, k, ts, h => by
    intro t ht
    have e : lstR 0 l each = (0, [], 0) := rfl
    rw [e] at h
    simp only [Prod.mk.injEq, true_and] at h
    rw [← h.1] at ht
    cases ht
  | n + 1, l, each, k, ts, h => by
    intro t ht
    rw [lstR_succ] at h
    split at h
    · rename_i g
      simp only [Prod.mk.injEq] at h
      exact absurd h.1 g
    · rename_i g
      split at h
      · rename_i g2
        simp only [Prod.mk.injEq] at h
        exact absurd h.1 g2
      · rename_i g2
        obtain ⟨E, s, k1, hs⟩ : ∃ E s k1, wtxt l each = (E, s, k1) := ⟨_, _, _, rfl⟩
        obtain ⟨E2, r, k2, hr⟩ : ∃ E s k1, lstR n (l.drop (wtxt l each).2.2) each = (E, s, k1) := ⟨_, _, _, rfl⟩
        have hE : E = 0 := by rw [hs] at g; simpa using g
        have hE2 : E2 = 0 := by rw [hr] at g2; simpa using g2
        subst hE hE2
        rw [hr, hs] at h
        simp only [Prod.mk.injEq, true_and] at h
        rw [← h.1] at ht
        rcases List.mem_cons.1 ht with rfl | ht
        · exact (txt_ok hs).2.2.1
        · exact lstR_each n _ each k2 r hr t ht
theorem l_bound (bs : List UInt8) (s : St) (h : (lS bs 8 4096 s).2.2.1 = 0) : (lS bs 8 4096 s).1.length ≤ 8 ∧ longA (lS bs 8 4096 s).1 = false := by
  by_cases h0 : s.2.1 = 0
  · obtain ⟨E, ts, k, hd⟩ : ∃ E n9 k, lst (bs.drop s.1) 8 4096 = (E, n9, k) := ⟨_, _, _, rfl⟩
    by_cases hE : E = 0
    · subst hE
      have e1 : (lS bs 8 4096 s).1 = ts := by
        unfold lS listF
        rw [if_neg (fun h9 => h9 h0), if_neg (by omega), show (8 : Int).toNat = 8 from rfl, show (4096 : Int).toNat = 4096 from rfl, hd, if_neg (fun h9 => h9 rfl)]
      rw [e1]
      unfold lst at hd
      obtain ⟨E3, n, k3, hu⟩ : ∃ E n k, upTo (bs.drop s.1) 8 11 = (E, n, k) := ⟨_, _, _, rfl⟩
      rw [hu] at hd
      simp only at hd
      by_cases hE3 : E3 = 0
      · subst hE3
        rw [if_neg (fun h9 => h9 rfl)] at hd
        obtain ⟨E4, r, k4, hr⟩ : ∃ E r k, lstR n ((bs.drop s.1).drop k3) 4096 = (E, r, k) := ⟨_, _, _, rfl⟩
        rw [hr] at hd
        simp only [Prod.mk.injEq] at hd
        obtain ⟨hE4, hts, _⟩ := hd
        subst hE4 hts
        have h8 := (upTo_ok (by decide) hu).2
        have h9 := (lstR_ok n _ 4096 k4 r hr).1
        refine ⟨by omega, ?_⟩
        unfold longA
        rw [List.any_eq_false]
        intro t ht
        have := lstR_each n _ 4096 k4 r hr t ht
        simp
        omega
      · rw [if_pos hE3] at hd
        simp only [Prod.mk.injEq] at hd
        exact absurd hd.1 hE3
    · exfalso
      unfold lS listF at h
      rw [if_neg (fun h9 => h9 h0), if_neg (by omega), show (8 : Int).toNat = 8 from rfl, show (4096 : Int).toNat = 4096 from rfl, hd, if_pos hE] at h
      have : (E : Int) = 0 := h
      omega
  · rw [over_l bs 8 4096 s h0] at h
    exact absurd h h0
theorem may_fields (bs : List UInt8) (K : Nat) (s : St) (hK : 1 ≤ K ∧ K ≤ 6) (he : (eS bs (fieldsP bs (K : Int) s).2).1 = 0) :
    mayF (fieldsP bs (K : Int) s).1 = !decide (K = 3 ∧ (fieldsP bs (K : Int) s).1.status ≠ 1 ∧ (fieldsP bs (K : Int) s).1.body ≠ []) := by
  obtain ⟨e1, e2⟩ := e_form bs _ he
  have hc : K = 1 ∨ K = 2 ∨ K = 3 ∨ K = 4 ∨ K = 5 ∨ K = 6 := by omega
  rcases hc with rfl | rfl | rfl | rfl | rfl | rfl
  · rw [show ((1 : Nat) : Int) = 1 from rfl] at e1 ⊢
    rw [decide_eq_false (by omega), mayF_1 _ (fieldsP_kind bs 1 s (by omega)), fieldsP_1]
    rw [fieldsP_1] at e1
    obtain ⟨a1, a2, a3⟩ := r_form bs _ e1
    obtain ⟨b1, b2, b3⟩ := o_form bs 64 _ (by omega) a1
    obtain ⟨c1, c2, c3⟩ := o_form bs 1 _ (by omega) b1
    have d1 := oS_le bs 1 s (by omega)
    have d2 := oS_le bs 64 (oS bs 1 s).2 (by omega)
    refine decide_eq_true ⟨?_, ?_, ?_⟩
    · show ((oS bs 1 s).1 : Int) = 1
      omega
    · show (1 : Int) ≤ ((oS bs 64 (oS bs 1 s).2).1 : Int)
      omega
    · show ((oS bs 64 (oS bs 1 s).2).1 : Int) ≤ 64
      omega
  · rw [show ((2 : Nat) : Int) = 2 from rfl] at e1 ⊢
    rw [decide_eq_false (by omega), mayF_2 _ (fieldsP_kind bs 2 s (by omega)), fieldsP_2]
    rw [fieldsP_2] at e1
    obtain ⟨a1, a2⟩ := t_form bs 2097152 _ (by omega) e1
    obtain ⟨l1, l2⟩ := l_bound bs _ a1
    refine decide_eq_true ⟨?_, ?_, ?_, l1, l2⟩
    · simp [reqF]
    · simp [reqF]
    · simp [reqF]
  · rw [show ((3 : Nat) : Int) = 3 from rfl] at e1 ⊢
    rw [mayF_3 _ (fieldsP_kind bs 3 s (by omega)), fieldsP_3]
    rw [fieldsP_3] at e1
    obtain ⟨a1, a2⟩ := t_form bs 2097152 _ (by omega) e1
    obtain ⟨b1, b2, b3⟩ := o_form bs 3 _ (by omega) a1
    have d1 := oS_le bs 3 (uS bs s).2 (by omega)
    unfold mayResP
    simp only [resF]
    generalize (oS bs 3 (uS bs s).2).1 = X at *
    generalize (tS bs 2097152 (oS bs 3 (uS bs s).2).2).1 = Y at *
    by_cases hY : Y = []
    · have : X = 1 ∨ X = 2 ∨ X = 3 := by omega
      rcases this with rfl | rfl | rfl <;> simp [hY]
    · have : X = 1 ∨ X = 2 ∨ X = 3 := by omega
      rcases this with rfl | rfl | rfl <;> simp [hY]
  · rw [show ((4 : Nat) : Int) = 4 from rfl] at e1 ⊢
    rw [decide_eq_false (by omega), mayF_4 _ (fieldsP_kind bs 4 s (by omega))]
    rfl
  · rw [show ((5 : Nat) : Int) = 5 from rfl] at e1 ⊢
    rw [decide_eq_false (by omega), mayF_5 _ (fieldsP_kind bs 5 s (by omega))]
    rfl
  · rw [show ((6 : Nat) : Int) = 6 from rfl] at e1 ⊢
    rw [decide_eq_false (by omega), mayF_6 _ (fieldsP_kind bs 6 s (by omega))]
    rfl
end Go.Proofs.YtiibhccbbpgehaaGreat

/- Toward the document's Decode. -/
namespace Go.Proofs.YtiibhccbbpgehaaGreat
open Go.RowKit Go.BigFrame

def fldP (bs : List UInt8) (s : St) : Fr × St := if (oS bs 6 s).1 = 0 then (kF 0, (oS bs 6 s).2) else fieldsP bs ((oS bs 6 s).1 : Int) (oS bs 6 s).2
theorem rfields_any (base b : Nat) (v : Value) (bs : List UInt8) (s : St) (w : World) (hbl : bs.length ≤ 1099511627776) (h : Qs w base b v bs s) :
    Calls Tryz.prog 34 #[.pointer (some ⟨b, 0, none⟩)] w fun e w' => ∃ va, e = .returned (.agg (fcells (fldP bs s).1 va).toArray) ∧ WOwnS w' w.heap.size va (fldP bs s).1.args ∧ Qs w' base b v bs (fldP bs s).2 ∧ w.grownBy w' (some b) := by
  have hle := oS_le bs 6 s (by omega)
  have hc : (oS bs 6 s).1 = 0 ∨ (oS bs 6 s).1 = 1 ∨ (oS bs 6 s).1 = 2 ∨ (oS bs 6 s).1 = 3 ∨ (oS bs 6 s).1 = 4 ∨ (oS bs 6 s).1 = 5 ∨ (oS bs 6 s).1 = 6 := by omega
  unfold fldP
  rcases hc with k | k | k | k | k | k | k
  · rw [if_pos k]
    exact rfields_0 base b v bs s w hbl h k
  · rw [if_neg (by omega), k, show ((1 : Nat) : Int) = 1 from rfl]
    exact rfields_1 base b v bs s w hbl h k
  · rw [if_neg (by omega), k, show ((2 : Nat) : Int) = 2 from rfl]
    exact rfields_2 base b v bs s w hbl h k
  · rw [if_neg (by omega), k, show ((3 : Nat) : Int) = 3 from rfl]
    exact rfields_3 base b v bs s w hbl h k
  · rw [if_neg (by omega), k, show ((4 : Nat) : Int) = 4 from rfl]
    exact rfields_4 base b v bs s w hbl h k
  · rw [if_neg (by omega), k, show ((5 : Nat) : Int) = 5 from rfl]
    exact rfields_5 base b v bs s w hbl h k
  · rw [if_neg (by omega), k, show ((6 : Nat) : Int) = 6 from rfl]
    exact rfields_6 base b v bs s w hbl h k
theorem frameP_fld (bs : List UInt8) (head : Nat) : frameP bs head = if (eS bs (fldP bs (head, 0, 0)).2).1 ≠ 0 then (zF, eS bs (fldP bs (head, 0, 0)).2) else if (fldP bs (head, 0, 0)).1.kind = 3 ∧ (fldP bs (head, 0, 0)).1.status ≠ 1 ∧ (fldP bs (head, 0, 0)).1.body ≠ [] then (zF, 70, (head : Int)) else ((fldP bs (head, 0, 0)).1, 0, 0) := by
  have hle := oS_le bs 6 (head, 0, 0) (by omega)
  unfold fldP
  by_cases h0 : (oS bs 6 (head, 0, 0)).1 = 0
  · rw [if_pos h0, frameP_zero bs head h0]
    have h1 := oS_zero bs 6 _ h0
    rw [if_pos]
    intro h2
    exact h1 (e_form bs _ h2).1
  · rw [if_neg h0]
    obtain ⟨K, hK⟩ : ∃ K, (oS bs 6 (head, 0, 0)).1 = K := ⟨_, rfl⟩
    rw [hK] at h0 hle ⊢
    by_cases he : (eS bs (fieldsP bs (K : Int) (oS bs 6 (head, 0, 0)).2).2).1 = 0
    · rw [if_neg (fun h9 => h9 he)]
      have hm := may_fields bs K (oS bs 6 (head, 0, 0)).2 (by omega) he
      have hkd := fieldsP_kind bs (K : Int) (oS bs 6 (head, 0, 0)).2 (by omega)
      by_cases hb : K = 3 ∧ (fieldsP bs (K : Int) (oS bs 6 (head, 0, 0)).2).1.status ≠ 1 ∧ (fieldsP bs (K : Int) (oS bs 6 (head, 0, 0)).2).1.body ≠ []
      · rw [decide_eq_true hb] at hm
        rw [if_pos (by rw [hkd]; exact ⟨by omega, hb.2⟩), frameP_may bs head K hK h0 he hm]
      · rw [decide_eq_false hb] at hm
        rw [if_neg (by rw [hkd]; rintro ⟨h1, h2⟩; exact hb ⟨by omega, h2⟩), frameP_ok bs head K hK h0 he hm]
    · rw [if_pos he, frameP_bad bs head K hK h0 he]
theorem fldP_tool (bs : List UInt8) (s : St) : (fldP bs s).1.tool.length = 32 := by
  unfold fldP
  split
  · rfl
  · exact fieldsP_tool _ _ _
theorem qs_end (base b : Nat) (v : Value) (bs : List UInt8) (s : St) (w : World) (h : Qs w base b v bs s) :
    Calls Tryz.prog 35 #[.pointer (some ⟨b, 0, none⟩)] w fun e w' => e = .returned (.tuple #[.int .i64 (eS bs s).1, .int .i64 (eS bs s).2]) ∧ w.grownBy w' (some b) := by
  obtain ⟨a, why, wat⟩ := s
  by_cases hm : why = 0 ∧ a < bs.length
  · obtain ⟨rfl, hlt⟩ := hm
    have e : eS bs (a, 0, wat) = (6, (a : Int)) := by unfold eS; rw [if_neg (by simp), if_pos hlt]
    rw [e]
    exact (qend_more (h := h) (hlt := hlt)).mono fun _ _ ⟨h1, _, h3⟩ => ⟨h1, h3⟩
  · have hi : why ≠ 0 ∨ a = bs.length := by
      by_cases h9 : why = 0
      · have h8 : a ≤ bs.length := Qd.le h
        exact Or.inr (by have : ¬ a < bs.length := fun h => hm ⟨h9, h⟩; omega)
      · exact Or.inl h9
    have e : eS bs (a, why, wat) = (why, wat) := by
      unfold eS
      by_cases h9 : why = 0
      · rw [if_neg (by simpa using h9), if_neg (fun h => hm ⟨h9, h⟩)]
      · rw [if_pos h9]
    rw [e]
    exact (qend_idle (h := h) (hidle := hi)).mono fun _ _ ⟨h1, _, h3⟩ => ⟨h1, h3⟩

end Go.Proofs.YtiibhccbbpgehaaGreat

/- The document's Decode. -/
namespace Go.Proofs.YtiibhccbbpgehaaGreat
open Go.RowKit Go.BigFrame

set_option maxRecDepth 100000 in
set_option maxHeartbeats 8000000 in
theorem rdecode_any (v0 : Value) (bs : List UInt8) (w : World) (hs : Src w v0 bs) :
    Calls Tryz.prog 10 #[v0] w fun e w' => ∃ va, e = .returned (.tuple #[.agg (fcells (decP bs).1 va).toArray, .int .i64 (decP bs).2.1, .int .i64 (decP bs).2.2]) ∧ WOwnS w' w.heap.size va (decP bs).1.args ∧ Below w.heap.size w w' := by
  obtain ⟨av, cv, rfl⟩ := src_shape hs
  obtain ⟨A, HAA⟩ : ∃ n, Hid (w.heap.size = n) := ⟨_, rfl⟩
  have HBA := hid (below_walk w (.cells (fcells zF nS).toArray 30))
  have HNA := hid (hp_new w (.cells (fcells zF nS).toArray 30))
  have HSA : Hid ((w.alloc (.cells (fcells zF nS).toArray 30)).heap.size = w.heap.size + 1) := hid (by simp)
  have HSS := hid hs
  have HDU := hid (decP_uns bs)
  have hsl := hs.1
  obtain ⟨n, Hn⟩ : ∃ n, Hid ((needP bs).1 = n) := ⟨_, rfl⟩
  obtain ⟨hd, Hhd⟩ : ∃ n, Hid ((needP bs).2.1 = n) := ⟨_, rfl⟩
  obtain ⟨er, Her⟩ : ∃ n, Hid ((needP bs).2.2 = n) := ⟨_, rfl⟩
  obtain ⟨L, HL⟩ : ∃ n, Hid (bs.length = n) := ⟨_, rfl⟩
  have HUE : Hid (unsE bs = if er ≠ 0 then ((er : Int), 0) else if n = 0 ∨ L < n then (4, (L : Int)) else if n < L then (6, (n : Int)) else if cokP bs = true then (0, 0) else (71, (n : Int) - 4)) := hid (by unfold unsE; rw [Hn.out, Her.out, HL.out])
  have HIN : Hid (er = 0 → n ≠ 0 → L = n → (∃ N, uS (bs.take (bs.length - 4)) (0, 0, 0) = (N, hd, 0, 0)) ∧ 4 ≤ n ∧ n ≤ 3000000) := hid (by
    intro h1 h2 h3
    refine ⟨?_, ?_⟩
    · have := inner_head (b := bs) (by rw [Her.out]; exact h1) (by rw [Hn.out]; exact h2) (by rw [HL.out, Hn.out]; exact h3)
      rw [Hhd.out] at this
      exact this
    · obtain ⟨N, hd9, hN1, hN2, hn⟩ := need_ok (b := bs) (by rw [Her.out]; exact h1) (by rw [Hn.out]; exact h2)
      have := dec_ok_len hd9
      have h8 := sn_length_le N
      rw [Hn.out] at hn
      omega)
  rw [HL.out] at hsl
  clear hs
  go_enter Tryz.func10, Tryz.ntmps10
  go_upto_region 1 with (refine al_row (by rfl) 30 (by rfl) _ zeroFrame ?_)
  generalize w.alloc (.cells (fcells zF nS).toArray 30) = wA at HBA HNA HSA ⊢
  rw [HAA.out] at HNA HSA ⊢
  go_upto_region 2 with (first
    | (refine bd_row (by rfl) 30 #[] (by rfl) _ (by simp) _ built_zf ?_)
    | (refine al_row (by rfl) 30 (by rfl) _ zeroFrame ?_)
    | (refine st_new (by rfl) 30 _ _ (by rfl) (fcells zF nS) (by rfl) (by rfl) 30 _ (frame_size zF nS rfl) rfl (fcells_one zF nS rfl) ?_))
  have HW0 := hid (below_walk wA (.cells (fcells zF nS).toArray 30))
  have HNB0 := hid (bel_keep HW0.out HNA.out)
  have HNB1 := hid (hp_new wA (.cells (fcells zF nS).toArray 30))
  have HB0 := hid (below_then HBA.out HW0.out)
  have HS0 := hid (HSS.out.below HB0.out)
  rw [HSA.out] at HNB1 ⊢
  generalize wA.alloc (.cells (fcells zF nS).toArray 30) = w0 at HB0 HNB0 HNB1 HS0 HW0 ⊢
  have HNE := hid (rneed_any _ bs w0 HS0.out)
  rw [Hn.out, Hhd.out, Her.out, HL.out] at HNE
  rw [HL.out]
  clear HW0 HNA HBA HSA HSS
  go_wp2_with fail
  refine HNE.out.mono ?_
  rintro e w1 ⟨rfl, hb1⟩
  have HZ0 := hid (bel_keep hb1 HNB0.out)
  have HZ1 := hid (bel_keep hb1 HNB1.out)
  have HS1 := hid (HS0.out.below hb1)
  have HBB := hid (below_then HB0.out hb1)
  clear hb1 HNB0 HNB1 HS0 HB0 HNE
  by_cases h1 : er ≠ 0
  · as_aux_lemma =>
      have q1 : ((er : Int) != 0) = true := by simp; omega
      have q2 : ((er : Int) == 0) = false := by simp; omega
      rw [if_pos h1] at HUE
      have HDP := hid (show decP bs = (zF, (er : Int), 0) by rw [HDU.out, HUE.out, if_pos (by show (er : Int) ≠ 0; omega)])
      clear h1
      go_wp2_with (first
        | (refine ld_row (by rfl) 30 (.tmp 5) (by rfl) (A + 1) (by rfl) (fcells zF nS) 30 HZ1.out _ Tryz.underlying30 rfl (frame_size zF nS rfl) ?_)
        | (refine st_row (by rfl) 30 _ _ (by rfl) A (fcells zF nS) (by rfl) (by rfl) 30 _ HZ0.out (frame_size zF nS rfl) rfl (fcells_one zF nS rfl) ?_; intro wz hwz))
      refine ret_row3 2 3 4 30 rfl A rfl (fcells zF nS) 30 hwz.blk _ Tryz.underlying30 rfl (frame_size zF nS rfl) _ _ rfl rfl rfl ?_
      rw [HDP.out]
      exact ⟨nS, rfl, World.ownsRow_nil _ _ _ _, Below.of_gb HBB.out hwz.grown (by have := HAA.out; omega)⟩
  · obtain rfl : er = 0 := by omega
    rw [if_neg h1] at HUE
    clear h1
    by_cases h2 : n = 0 ∨ L < n
    · as_aux_lemma =>
        rw [if_pos h2] at HUE
        have HDP := hid (show decP bs = (zF, 4, (L : Int)) by rw [HDU.out, HUE.out, if_pos (by show (4 : Int) ≠ 0; decide)])
        by_cases h3 : n = 0
        · subst h3
          clear h2
          go_wp2_with (first
            | (refine ld_row (by rfl) 30 (.tmp 5) (by rfl) (A + 1) (by rfl) (fcells zF nS) 30 HZ1.out _ Tryz.underlying30 rfl (frame_size zF nS rfl) ?_)
            | (refine st_row (by rfl) 30 _ _ (by rfl) A (fcells zF nS) (by rfl) (by rfl) 30 _ HZ0.out (frame_size zF nS rfl) rfl (fcells_one zF nS rfl) ?_; intro wz hwz))
          refine ret_row3 2 3 4 30 rfl A rfl (fcells zF nS) 30 hwz.blk _ Tryz.underlying30 rfl (frame_size zF nS rfl) _ _ rfl rfl rfl ?_
          rw [HDP.out]
          exact ⟨nS, rfl, World.ownsRow_nil _ _ _ _, Below.of_gb HBB.out hwz.grown (by have := HAA.out; omega)⟩
        · have q1 : ((n : Int) == 0) = false := by simp; omega
          have q2 : ¬ (n : Int) = 0 := by omega
          have q3 : (L : Int) < (n : Int) := by omega
          have q4 : decide ((L : Int) < (n : Int)) = true := decide_eq_true q3
          clear h2 h3
          go_wp2_with (first
            | (refine ld_row (by rfl) 30 (.tmp 5) (by rfl) (A + 1) (by rfl) (fcells zF nS) 30 HZ1.out _ Tryz.underlying30 rfl (frame_size zF nS rfl) ?_)
            | (refine st_row (by rfl) 30 _ _ (by rfl) A (fcells zF nS) (by rfl) (by rfl) 30 _ HZ0.out (frame_size zF nS rfl) rfl (fcells_one zF nS rfl) ?_; intro wz hwz))
          refine ret_row3 2 3 4 30 rfl A rfl (fcells zF nS) 30 hwz.blk _ Tryz.underlying30 rfl (frame_size zF nS rfl) _ _ rfl rfl rfl ?_
          rw [HDP.out]
          exact ⟨nS, rfl, World.ownsRow_nil _ _ _ _, Below.of_gb HBB.out hwz.grown (by have := HAA.out; omega)⟩
    · rw [if_neg h2] at HUE
      have h3 : n ≠ 0 := fun h => h2 (Or.inl h)
      have h4 : ¬ L < n := fun h => h2 (Or.inr h)
      have q1 : ((n : Int) == 0) = false := by simp; omega
      have q2 : ¬ (n : Int) = 0 := by omega
      have q3 : ¬ (L : Int) < (n : Int) := by omega
      have q4 : decide ((L : Int) < (n : Int)) = false := decide_eq_false q3
      clear h2
      by_cases h6 : n < L
      · as_aux_lemma =>
          rw [if_pos h6] at HUE
          have HDP := hid (show decP bs = (zF, 6, (n : Int)) by rw [HDU.out, HUE.out, if_pos (by show (6 : Int) ≠ 0; decide)])
          have q5 : (n : Int) < (L : Int) := by omega
          have q6 : decide ((n : Int) < (L : Int)) = true := decide_eq_true q5
          clear h3 h4 h6
          go_wp2_with (first
            | (refine ld_row (by rfl) 30 (.tmp 5) (by rfl) (A + 1) (by rfl) (fcells zF nS) 30 HZ1.out _ Tryz.underlying30 rfl (frame_size zF nS rfl) ?_)
            | (refine st_row (by rfl) 30 _ _ (by rfl) A (fcells zF nS) (by rfl) (by rfl) 30 _ HZ0.out (frame_size zF nS rfl) rfl (fcells_one zF nS rfl) ?_; intro wz hwz))
          refine ret_row3 2 3 4 30 rfl A rfl (fcells zF nS) 30 hwz.blk _ Tryz.underlying30 rfl (frame_size zF nS rfl) _ _ rfl rfl rfl ?_
          rw [HDP.out]
          exact ⟨nS, rfl, World.ownsRow_nil _ _ _ _, Below.of_gb HBB.out hwz.grown (by have := HAA.out; omega)⟩
      · rw [if_neg h6] at HUE
        have q5 : ¬ (n : Int) < (L : Int) := by omega
        have q6 : decide ((n : Int) < (L : Int)) = false := decide_eq_false q5
        obtain ⟨⟨N, hu⟩, hn4, hn3⟩ := HIN.out rfl h3 (by omega)
        have HOP := hid (ropen_any w1 _ bs HS1.out (by rw [HL.out]; omega))
        rw [HL.out] at HOP
        obtain ⟨D, HD⟩ : ∃ d : Int, Hid ((n : Int) - 4 = d) := ⟨_, rfl⟩
        rw [HD.out] at HUE
        have wD : IntKind.i64.wrap ((n : Int) - 4) = D := by rw [IntKind.wrap_i64, ← HD.out]; omega
        have HLn : Hid (L = n) := hid (by omega)
        clear h3 h4 h6 hu
        go_wp2_with fail
        refine HOP.out.mono ?_
        rintro e w2 ⟨he, hb2⟩
        have HZ0b := hid (bel_keep hb2 HZ0.out)
        have HZ1b := hid (bel_keep hb2 HZ1.out)
        have HBb := hid (below_then HBB.out hb2)
        clear HZ0 HZ1 HBB
        have HZ0 := hid HZ0b.out
        have HZ1 := hid HZ1b.out
        have HBB := hid HBb.out
        clear HZ0b HZ1b HBb
        by_cases hc : cokP bs = true
        · rw [if_pos hc] at HUE
          rw [if_pos hc] at he
          obtain ⟨v', rfl, ho⟩ := he
          obtain ⟨P, HP⟩ : ∃ p, Hid (bs.take (bs.length - 4) = p) := ⟨_, rfl⟩
          have HDF := hid (show decP bs = frameP P hd by rw [HDU.out, HUE.out, if_neg (by simp), HP.out, Hhd.out])
          have HPL : Hid (P.length + 4 = n) := hid (by rw [← HP.out, List.length_take, HL.out]; have := HLn.out; omega)
          have HHD : Hid (hd ≤ P.length) := hid (by
            obtain ⟨N9, hd9, _, _, hn9⟩ := need_ok (b := bs) Her.out (by rw [Hn.out]; omega)
            rw [Hn.out, Hhd.out] at hn9
            have := HPL.out
            omega)
          rw [HP.out] at ho
          have hs2 := ho.src (by have := HPL.out; omega)
          obtain ⟨ao, no, co, eo⟩ := src_named hs2
          have HQN := hid (qnew_any _ P w2 hs2)
          subst eo
          clear hc ho hs2 hb2 HOP HDU HUE HIN HS1
          as_aux_lemma =>
            go_wp2_with fail
            refine HQN.out.mono ?_
            rintro e w3 ⟨vr, rfl, hor, hb3⟩
            obtain ⟨aR, cR, eR⟩ := hor.shape
            have HW3 := hid (below_walk w3 (.cells #[vr, .int .i64 0, .int .i64 0, .int .i64 0] 88))
            have HB3 := hid (below_then HBB.out hb3)
            have HLr : Hid (w2.heap.size ≤ w3.heap.size) := hid hb3.size
            have HZ0b := hid (bel_keep HW3.out (bel_keep hb3 HZ0.out))
            have HZ1b := hid (bel_keep HW3.out (bel_keep hb3 HZ1.out))
            have HQ0 := hid (show Qd (w3.alloc (.cells #[vr, .int .i64 0, .int .i64 0, .int .i64 0] 88)) w2.heap.size w3.heap.size vr P 0 0 0 from ⟨HLr.out, hp_new w3 _, hor.below HW3.out, fun e => by have := (hor.lt _ e).2; omega, Nat.zero_le _⟩)
            have HB4 := hid (below_then HB3.out HW3.out)
            have HLA : Hid (A + 2 ≤ w3.heap.size) := hid (by have := hp_lt HZ1.out; have := HLr.out; omega)
            subst eR
            obtain ⟨LP, HLP⟩ : ∃ n, Hid (P.length = n) := ⟨_, rfl⟩
            rw [HLP.out] at HQ0 HW3 HZ0b HZ1b HB4 ⊢
            clear hor hb3 HQN HZ0 HZ1 HBB HB3
            go_upto_region 13 with fail
            obtain ⟨rb, HRb⟩ : ∃ n, Hid (w3.heap.size = n) := ⟨_, rfl⟩
            rw [HRb.out] at HQ0 HLA HLr ⊢
            generalize w3.alloc (.cells #[.slice aR LP cR, .int .i64 0, .int .i64 0, .int .i64 0] 88) = w4 at HQ0 HW3 HZ0b HZ1b HB4 ⊢
            have c1 := Qd.c1 HQ0.out
            have f1 := Qd.fz HQ0.out 1
            go_upto_region 14 with fail
            have HQ1 := hid (show Qs (w4.setCell ⟨rb, 1, none⟩ (.int .i64 (hd : Nat))) w2.heap.size rb (.slice aR LP cR) P (hd, 0, 0) from Qd.setAt HQ0.out hd HHD.out)
            have HG5 := hid (show w4.grownBy (w4.setCell ⟨rb, 1, none⟩ (.int .i64 (hd : Nat))) (some rb) from gb_set w4 ⟨rb, 1, none⟩ (.int .i64 (hd : Nat)))
            generalize w4.setCell ⟨rb, 1, none⟩ (.int .i64 (hd : Nat)) = w5 at HQ1 HG5 ⊢
            have HZ0c := hid (gb_keep HG5.out HZ0b.out (by have := HLA.out; omega))
            have HZ1c := hid (gb_keep HG5.out HZ1b.out (by have := HLA.out; omega))
            have HB5 := hid (Below.of_gb HB4.out HG5.out (by have := HLA.out; have := HAA.out; omega))
            clear c1 f1 HQ0 HZ0b HZ1b HB4 HG5 HW3
            go_wp2_with fail
            refine (rfields_any w2.heap.size rb _ P (hd, 0, 0) w5 (by rw [HLP.out]; have := HPL.out; rw [HLP.out] at this; omega) HQ1.out).mono ?_
            rintro e w6 ⟨va, rfl, hoa, hq6, hg6⟩
            have HZ0d := hid (gb_keep hg6 HZ0c.out (by have := HLA.out; omega))
            have HZ1d := hid (gb_keep hg6 HZ1c.out (by have := HLA.out; omega))
            have HB6 := hid (Below.of_gb HB5.out hg6 (by have := HLA.out; have := HAA.out; omega))
            have HFF := hid (frameP_fld P hd)
            have HTL := hid (fldP_tool P (hd, 0, 0))
            obtain ⟨f, HF⟩ : ∃ x, Hid ((fldP P (hd, 0, 0)).1 = x) := ⟨_, rfl⟩
            obtain ⟨S2, HS2⟩ : ∃ x, Hid ((fldP P (hd, 0, 0)).2 = x) := ⟨_, rfl⟩
            obtain ⟨E1, HE1⟩ : ∃ x, Hid ((eS P S2).1 = x) := ⟨_, rfl⟩
            obtain ⟨E2, HE2⟩ : ∃ x, Hid ((eS P S2).2 = x) := ⟨_, rfl⟩
            rw [HF.out, HS2.out] at HFF
            rw [HF.out] at hoa HTL
            rw [HS2.out] at hq6
            have HQ6 := hid hq6
            obtain ⟨aV, cV, eV⟩ := wowns_shape hoa
            have HOA := hid hoa
            have HSZ := hid (frame_size f va HTL.out)
            have HON := hid (fcells_one f va (by rw [eV]; rfl))
            have HOS := hid (show (fcells zF nS).toArray.size = (fcells f va).length by rw [fcells_length _ _ HTL.out]; rfl)
            rw [HF.out]
            obtain ⟨GG, HGG⟩ : ∃ L, Hid (fcells f va = L) := ⟨_, rfl⟩
            have HGK := hid (fun (W : World) (g9 : Nat) (h9 : W.heap[g9]? = some (.cells GG.toArray 30 (0, 0))) => Fb.of (f := f) (va := va) (by rw [HGG.out]; exact h9) HTL.out)
            rw [HGG.out] at HSZ HON HOS ⊢
            have HL6 : Hid (rb < w6.heap.size) := hid (Qs.lt hq6)
            have HRW : Hid (rb < w5.heap.size) := hid (Qs.lt HQ1.out)
            have HW5 : Hid (A + 2 ≤ w5.heap.size) := hid (by have := Qs.lt HQ1.out; have := HLA.out; omega)
            clear hoa hq6 hg6 HZ0c HZ1c HB5 HQ1 eV
            go_upto_region 15 with (first
              | (refine al_row (by rfl) 30 (by rfl) _ zeroFrame ?_)
              | (refine st_new (by rfl) 30 _ _ (by rfl) GG (by rfl) (by rfl) 30 _ HSZ.out HOS.out HON.out ?_))
            have HW6 := hid (below_walk w6 (.cells GG.toArray 30))
            have HZ0e := hid (bel_keep HW6.out HZ0d.out)
            have HZ1e := hid (bel_keep HW6.out HZ1d.out)
            have HB7 := hid (below_then HB6.out HW6.out)
            have HQ7 := hid (HQ6.out.below HW6.out)
            have HOA7 := hid (HOA.out.alloc (.cells GG.toArray 30))
            have HG7 := hid (hp_new w6 (.cells GG.toArray 30))
            obtain ⟨gb, HGb⟩ : ∃ n, Hid (w6.heap.size = n) := ⟨_, rfl⟩
            rw [HGb.out] at HG7 HL6 ⊢
            generalize w6.alloc (.cells GG.toArray 30) = w7 at HZ0e HZ1e HB7 HQ7 HOA7 HG7 ⊢
            clear HZ0d HZ1d HB6 HQ6 HOA HW6
            have HEN := hid (qs_end _ _ _ _ _ w7 HQ7.out)
            rw [HE1.out, HE2.out] at HEN
            go_wp2_with fail
            refine HEN.out.mono ?_
            rintro e w8 ⟨rfl, hg8⟩
            have HZ0 := hid (gb_keep hg8 HZ0e.out (by have := HLA.out; omega))
            have HZ1 := hid (gb_keep hg8 HZ1e.out (by have := HLA.out; omega))
            have HBB := hid (Below.of_gb HB7.out hg8 (by have := HLA.out; have := HAA.out; omega))
            have HG8 := hid (gb_keep hg8 HG7.out (by have := HL6.out; omega))
            have HOA8 := hid (WOwnS.far HOA7.out hg8 (fun j e => by injection e with e; have := HRW.out; omega))
            have HFB := hid (HGK.out w8 gb HG8.out)
            have k0 := HFB.out.k
            have k5 := HFB.out.st
            have k8 := HFB.out.bd
            have HEE := hid (show eS P S2 = (E1, E2) by rw [← HE1.out, ← HE2.out])
            rw [HEE.out] at HFF
            clear hg8 HZ0e HZ1e HB7 HQ7 HOA7 HG7 HEN HFB HGK
            by_cases hE : E1 = 0
            · subst hE
              rw [if_neg (by simp)] at HFF
              by_cases hbad : f.kind = 3 ∧ f.status ≠ 1 ∧ f.body ≠ []
              · as_aux_lemma =>
                  rw [if_pos hbad] at HFF
                  have HDP := hid (HDF.out.trans HFF.out)
                  obtain ⟨b1, b2, b3⟩ := hbad
                  rw [b1] at k0
                  have q7 : (f.status != 1) = true := by simpa using b2
                  have q8 : (f.status == 1) = false := by simpa using b2
                  have e4 : ¬ (mk f.body).toList = [] := fun h => b3 ((bl_mk f.body).symm.trans h)
                  have e5 : ((mk f.body).toList == []) = false := by simpa using e4
                  have e7 : ((mk f.body).toList != []) = true := by simpa using e4
                  have e8 : (mk f.body).toList.isEmpty = false := by rw [List.isEmpty_eq_false_iff]; exact e4
                  have b2' := b2
                  clear b1 b3 HFF b2'
                  go_wp2_with (first
                    | (refine ld_row (by rfl) 30 (.tmp 5) (by rfl) (A + 1) (by rfl) (fcells zF nS) 30 HZ1.out _ Tryz.underlying30 rfl (frame_size zF nS rfl) ?_)
                    | (refine st_row (by rfl) 30 _ _ (by rfl) A (fcells zF nS) (by rfl) (by rfl) 30 _ HZ0.out (frame_size zF nS rfl) rfl (fcells_one zF nS rfl) ?_; intro wz hwz))
                  refine ret_row3 2 3 4 30 rfl A rfl (fcells zF nS) 30 hwz.blk _ Tryz.underlying30 rfl (frame_size zF nS rfl) _ _ rfl rfl rfl ?_
                  rw [HDP.out]
                  exact ⟨nS, rfl, World.ownsRow_nil _ _ _ _, Below.of_gb HBB.out hwz.grown (by have := HAA.out; omega)⟩
              · rw [if_neg hbad] at HFF
                have HDP := hid (HDF.out.trans HFF.out)
                have hbad' := hbad
                clear hbad
                by_cases b1 : f.kind = 3
                · rw [b1] at k0
                  by_cases b2 : f.status = 1
                  · as_aux_lemma =>
                      rw [b2] at k5
                      clear b1 b2 hbad' HFF
                      go_wp2_with (first
                        | (refine ld_row (by rfl) 30 (.tmp 11) (by rfl) gb (by rfl) GG 30 HG8.out _ Tryz.underlying30 rfl HSZ.out ?_)
                        | (refine st_row (by rfl) 30 _ _ (by rfl) A GG (by rfl) (by rfl) 30 _ HZ0.out HSZ.out HOS.out HON.out ?_; intro wz hwz))
                      refine ret_row3 2 3 4 30 rfl A rfl GG 30 hwz.blk _ Tryz.underlying30 rfl HSZ.out _ _ rfl rfl rfl ?_
                      rw [HDP.out]
                      refine ⟨va, by rw [← HGG.out]; rfl, ?_, Below.of_gb HBB.out hwz.grown (by have := HAA.out; omega)⟩
                      exact (WOwnS.far HOA8.out hwz.grown (fun j e => by injection e with e; have := HW5.out; omega)).le (by have := HW5.out; have := HAA.out; omega)
                  · as_aux_lemma =>
                      have b3 : f.body = [] := by
                        by_cases h9 : f.body = []
                        · exact h9
                        · exact absurd ⟨b1, b2, h9⟩ hbad'
                      have q7 : (f.status != 1) = true := by simpa using b2
                      have q8 : (f.status == 1) = false := by simpa using b2
                      have e4 : (mk f.body).toList = [] := (bl_mk f.body).trans b3
                      have e5 : ((mk f.body).toList == []) = true := by rw [e4]; rfl
                      have e7 : ((mk f.body).toList != []) = false := by rw [e4]; rfl
                      clear b1 b3 hbad' HFF
                      go_wp2_with (first
                        | (refine ld_row (by rfl) 30 (.tmp 11) (by rfl) gb (by rfl) GG 30 HG8.out _ Tryz.underlying30 rfl HSZ.out ?_)
                        | (refine st_row (by rfl) 30 _ _ (by rfl) A GG (by rfl) (by rfl) 30 _ HZ0.out HSZ.out HOS.out HON.out ?_; intro wz hwz))
                      refine ret_row3 2 3 4 30 rfl A rfl GG 30 hwz.blk _ Tryz.underlying30 rfl HSZ.out _ _ rfl rfl rfl ?_
                      rw [HDP.out]
                      refine ⟨va, by rw [← HGG.out]; rfl, ?_, Below.of_gb HBB.out hwz.grown (by have := HAA.out; omega)⟩
                      exact (WOwnS.far HOA8.out hwz.grown (fun j e => by injection e with e; have := HW5.out; omega)).le (by have := HW5.out; have := HAA.out; omega)
                · as_aux_lemma =>
                    have q7 : (f.kind == 3) = false := by simpa using b1
                    clear hbad' HFF
                    go_wp2_with (first
                      | (refine ld_row (by rfl) 30 (.tmp 11) (by rfl) gb (by rfl) GG 30 HG8.out _ Tryz.underlying30 rfl HSZ.out ?_)
                      | (refine st_row (by rfl) 30 _ _ (by rfl) A GG (by rfl) (by rfl) 30 _ HZ0.out HSZ.out HOS.out HON.out ?_; intro wz hwz))
                    refine ret_row3 2 3 4 30 rfl A rfl GG 30 hwz.blk _ Tryz.underlying30 rfl HSZ.out _ _ rfl rfl rfl ?_
                    rw [HDP.out]
                    refine ⟨va, by rw [← HGG.out]; rfl, ?_, Below.of_gb HBB.out hwz.grown (by have := HAA.out; omega)⟩
                    exact (WOwnS.far HOA8.out hwz.grown (fun j e => by injection e with e; have := HW5.out; omega)).le (by have := HW5.out; have := HAA.out; omega)
            · as_aux_lemma =>
                have q7 : (E1 != 0) = true := by simpa using hE
                have q8 : (E1 == 0) = false := by simpa using hE
                rw [if_pos (by simpa using hE)] at HFF
                have HDP := hid (HDF.out.trans HFF.out)
                clear hE HFF
                go_wp2_with (first
                  | (refine ld_row (by rfl) 30 (.tmp 5) (by rfl) (A + 1) (by rfl) (fcells zF nS) 30 HZ1.out _ Tryz.underlying30 rfl (frame_size zF nS rfl) ?_)
                  | (refine st_row (by rfl) 30 _ _ (by rfl) A (fcells zF nS) (by rfl) (by rfl) 30 _ HZ0.out (frame_size zF nS rfl) rfl (fcells_one zF nS rfl) ?_; intro wz hwz))
                refine ret_row3 2 3 4 30 rfl A rfl (fcells zF nS) 30 hwz.blk _ Tryz.underlying30 rfl (frame_size zF nS rfl) _ _ rfl rfl rfl ?_
                rw [HDP.out]
                exact ⟨nS, rfl, World.ownsRow_nil _ _ _ _, Below.of_gb HBB.out hwz.grown (by have := HAA.out; omega)⟩
        · as_aux_lemma =>
            rw [if_neg hc] at HUE
            rw [if_neg hc] at he
            subst he
            have HDP := hid (show decP bs = (zF, 71, D) by rw [HDU.out, HUE.out, if_pos (by show (71 : Int) ≠ 0; decide)])
            clear hc hb2
            go_wp2_with (first
              | (refine ld_row (by rfl) 30 (.tmp 5) (by rfl) (A + 1) (by rfl) (fcells zF nS) 30 HZ1.out _ Tryz.underlying30 rfl (frame_size zF nS rfl) ?_)
              | (refine st_row (by rfl) 30 _ _ (by rfl) A (fcells zF nS) (by rfl) (by rfl) 30 _ HZ0.out (frame_size zF nS rfl) rfl (fcells_one zF nS rfl) ?_; intro wz hwz))
            refine ret_row3 2 3 4 30 rfl A rfl (fcells zF nS) 30 hwz.blk _ Tryz.underlying30 rfl (frame_size zF nS rfl) _ _ rfl rfl rfl ?_
            rw [HDP.out]
            exact ⟨nS, rfl, World.ownsRow_nil _ _ _ _, Below.of_gb HBB.out hwz.grown (by have := HAA.out; omega)⟩
end Go.Proofs.YtiibhccbbpgehaaGreat

/- The document's decoder: its state, how many bytes are needed, one byte taken. -/
namespace Go.Proofs.YtiibhccbbpgehaaGreat
open Go.RowKit Go.BigFrame

def sxC (M : Nat) (vr vs : Value) (s : Sx) : List Value := [.int .i64 M, vr, .int .i64 s.came, .int .i64 s.whole, .int .i64 s.why, .int .i64 s.wat, vs]
def intsV8 (l : List Nat) : List Value := l.map fun (n : Nat) => Value.int .i64 (n : Int)
def OwnI (w : World) (base : Nat) (v : Value) (l : List Nat) : Prop := w.ownsRow base 3 1 v l.length (intsV8 l)
theorem OwnI.nil (w : World) (base : Nat) : OwnI w base (.slice none 0 0) [] := World.ownsRow_nil _ _ _ _
theorem OwnI.shape {w : World} {base : Nat} {v : Value} {l : List Nat} (h : OwnI w base v l) : ∃ a c, v = .slice a l.length c := by
  rcases h.2 with ⟨rfl, h0⟩ | ⟨g, cap, cur, rfl, _⟩
  · exact ⟨none, 0, by rw [h0]⟩
  · exact ⟨_, _, rfl⟩
theorem Tryz.infoI64 : (Tryz.prog.info? 3).map (fun i => (i.zero, i.size, i.bytes)) = some (some (.int .i64 0), 1, 8) := by kernel_rfl
theorem strmSize : (Tryz.prog.info? 47).map (·.size) = some 7 := by kernel_rfl
theorem zeroStrm (W : World) : (zeroValue 47).run Tryz.prog W = .ok (.agg #[.int .i64 0, .slice none 0 0, .int .i64 0, .int .i64 0, .int .i64 0, .int .i64 0, .slice none 0 0]) W := by kernel_rfl
theorem sxC_one {M : Nat} {vr vs : Value} {s : Sx} (h1 : vr.oneCell' = true) (h2 : vs.oneCell' = true) : ∀ u ∈ sxC M vr vs s, u.oneCell' = true := by
  intro u hu
  simp only [sxC, List.mem_cons, List.not_mem_nil, or_false] at hu
  rcases hu with rfl | rfl | rfl | rfl | rfl | rfl | rfl
  all_goals first | assumption | rfl

structure Sb (w : World) (base b : Nat) (M : Nat) (vr vs : Value) (s : Sx) : Prop where
  lo : base ≤ b
  blk : w.heap[b]? = some (.cells (sxC M vr vs s).toArray 47 (0, 0))
  own : OwnB w base vr s.r
  szs : OwnI w base vs s.szs
section
variable {w w' : World} {base b M : Nat} {vr vs : Value} {s : Sx}
theorem Sb.lt (h : Sb w base b M vr vs s) : b < w.heap.size := hp_lt h.blk
theorem Sb.c0 (h : Sb w base b M vr vs s) : w.cell? ⟨b, 0, none⟩ = some (.int .i64 M) := by simp [World.cell?, h.blk, sxC]
theorem Sb.c1 (h : Sb w base b M vr vs s) : w.cell? ⟨b, 1, none⟩ = some vr := by simp [World.cell?, h.blk, sxC]
theorem Sb.c2 (h : Sb w base b M vr vs s) : w.cell? ⟨b, 2, none⟩ = some (.int .i64 s.came) := by simp [World.cell?, h.blk, sxC]
theorem Sb.c3 (h : Sb w base b M vr vs s) : w.cell? ⟨b, 3, none⟩ = some (.int .i64 s.whole) := by simp [World.cell?, h.blk, sxC]
theorem Sb.c4 (h : Sb w base b M vr vs s) : w.cell? ⟨b, 4, none⟩ = some (.int .i64 s.why) := by simp [World.cell?, h.blk, sxC]
theorem Sb.c5 (h : Sb w base b M vr vs s) : w.cell? ⟨b, 5, none⟩ = some (.int .i64 s.wat) := by simp [World.cell?, h.blk, sxC]
theorem Sb.c6 (h : Sb w base b M vr vs s) : w.cell? ⟨b, 6, none⟩ = some vs := by simp [World.cell?, h.blk, sxC]
theorem Sb.fz (h : Sb w base b M vr vs s) (i : Nat) : w.frozen? ⟨b, i, none⟩ = false := by simp [World.frozen?, h.blk]
theorem Sb.ner (h : Sb w base b M vr vs s) : vr.ownBlock ≠ some b := own_block h.own h.blk (by decide)
theorem Sb.nes (h : Sb w base b M vr vs s) : vs.ownBlock ≠ some b := own_block h.szs h.blk (by decide)
theorem Sb.below (h : Sb w base b M vr vs s) (hb : Below w.heap.size w w') : Sb w' base b M vr vs s :=
  ⟨h.lo, (hb.block b h.lt).trans h.blk, h.own.below hb, own_below h.szs hb⟩
theorem Sb.one (h : Sb w base b M vr vs s) : ∀ u ∈ sxC M vr vs s, u.oneCell' = true := by
  obtain ⟨a, c, e⟩ := h.own.shape
  obtain ⟨a2, c2, e2⟩ := h.szs.shape
  exact sxC_one (by rw [e]; rfl) (by rw [e2]; rfl)
theorem Sb.setRest (h : Sb w base b M vr vs s) {vr' : Value} {r' : List UInt8} (hg : w.grownBy w' vr.ownBlock) (ho : OwnB w' base vr' r') : Sb (w'.setCell ⟨b, 1, none⟩ vr') base b M vr' vs { s with r := r' } := by
  have hb := gb_blk h.blk hg h.ner
  refine ⟨h.lo, by rw [blk_set hb]; rfl, ho.kept (gb_set w' _ _) (Or.inr (by simpa using own_block ho hb (by decide))), World.ownsRow.kept (World.ownsRow.kept h.szs hg ?_) (gb_set w' _ _) (Or.inr (by simpa using h.nes))⟩
  cases e : vs.ownBlock with
  | none => exact Or.inl rfl
  | some k => exact Or.inr (fun e2 => own_apart h.szs h.own (by decide) e e2.symm)
theorem Sb.setSizes (h : Sb w base b M vr vs s) {vs' : Value} {l : List Nat} (hg : w.grownBy w' vs.ownBlock) (ho : OwnI w' base vs' l) : Sb (w'.setCell ⟨b, 6, none⟩ vs') base b M vr vs' { s with szs := l } := by
  have hb := gb_blk h.blk hg h.nes
  refine ⟨h.lo, by rw [blk_set hb]; rfl, (h.own.kept hg ?_).kept (gb_set w' _ _) (Or.inr (by simpa using h.ner)), World.ownsRow.kept ho (gb_set w' _ _) (Or.inr (by simpa using own_block ho hb (by decide)))⟩
  cases e : vr.ownBlock with
  | none => exact Or.inl rfl
  | some k => exact Or.inr (fun e2 => own_apart h.own h.szs (by decide) e e2.symm)
theorem Sb.setCame (h : Sb w base b M vr vs s) (n : Nat) : Sb (w.setCell ⟨b, 2, none⟩ (.int .i64 n)) base b M vr vs { s with came := n } :=
  ⟨h.lo, by rw [blk_set h.blk]; rfl, h.own.kept (gb_set w _ _) (Or.inr (by simpa using h.ner)), World.ownsRow.kept h.szs (gb_set w _ _) (Or.inr (by simpa using h.nes))⟩
theorem Sb.setWhole (h : Sb w base b M vr vs s) (n : Nat) : Sb (w.setCell ⟨b, 3, none⟩ (.int .i64 n)) base b M vr vs { s with whole := n } :=
  ⟨h.lo, by rw [blk_set h.blk]; rfl, h.own.kept (gb_set w _ _) (Or.inr (by simpa using h.ner)), World.ownsRow.kept h.szs (gb_set w _ _) (Or.inr (by simpa using h.nes))⟩
theorem Sb.setNone (h : Sb w base b M vr vs s) : Sb (w.setCell ⟨b, 1, none⟩ (.slice none 0 0)) base b M (.slice none 0 0) vs { s with r := [] } :=
  ⟨h.lo, by rw [blk_set h.blk]; rfl, World.ownsRow_nil _ _ _ _, World.ownsRow.kept h.szs (gb_set w _ _) (Or.inr (by simpa using h.nes))⟩
theorem Sb.setFault (h : Sb w base b M vr vs s) (y t : Int) : Sb (w.setCells b 4 [.int .i64 y, .int .i64 t]) base b M vr vs { s with why := y, wat := t } := by
  have e : w.setCells b 4 [.int .i64 y, .int .i64 t] = (w.setCell ⟨b, 4, none⟩ (.int .i64 y)).setCell ⟨b, 5, none⟩ (.int .i64 t) := rfl
  rw [e]
  have h1 : Sb (w.setCell ⟨b, 4, none⟩ (.int .i64 y)) base b M vr vs { s with why := y } :=
    ⟨h.lo, by rw [blk_set h.blk]; rfl, h.own.kept (gb_set w _ _) (Or.inr (by simpa using h.ner)), World.ownsRow.kept h.szs (gb_set w _ _) (Or.inr (by simpa using h.nes))⟩
  exact ⟨h.lo, by rw [blk_set h1.blk]; rfl, h1.own.kept (gb_set _ _ _) (Or.inr (by simpa using h1.ner)), World.ownsRow.kept h1.szs (gb_set _ _ _) (Or.inr (by simpa using h1.nes))⟩
theorem Sb.far {n : Nat} (h : Sb w base b M vr vs s) (hg : w.grownBy w' (some n)) (hb : b ≠ n) (hr : vr.ownBlock ≠ some n) (hs : vs.ownBlock ≠ some n) : Sb w' base b M vr vs s :=
  ⟨h.lo, gb_blk h.blk hg (fun e => hb (by injection e with e; exact e.symm)), h.own.kept hg (Or.inr hr), World.ownsRow.kept h.szs hg (Or.inr hs)⟩
theorem Sb.there (h : Sb w base b M vr vs s) : w.there b 4 2 := by
  intro j hj
  match j, hj with
  | 0, _ => exact ⟨by rw [h.c4]; rfl, h.fz _⟩
  | 1, _ => exact ⟨by rw [h.c5]; rfl, h.fz _⟩
theorem Sb.fault (h : Sb w base b M vr vs s) : w.rangeAt b 4 [.int .i64 s.why, .int .i64 s.wat] := by
  intro j u hu
  match j, hu with
  | 0, hu => simp at hu; subst hu; exact h.c4
  | 1, hu => simp at hu; subst hu; exact h.c5
end

structure Tk (w X : World) (base : Nat) : Prop where
  bl : Below base w X
  fr : ∀ lo vo gs, OFs w lo vo gs → OFs X lo vo gs
  bk : ∀ (b : Nat) (cs : Array Value) (ty : TypeId), w.heap[b]? = some (.cells cs ty (0, 0)) → ty ≠ 5 → ty ≠ 3 → X.heap[b]? = some (.cells cs ty (0, 0))
theorem Tk.refl (w : World) (base : Nat) : Tk w w base := ⟨Below.refl _ _, fun _ _ _ h => h, fun _ _ _ h _ _ => h⟩
theorem Tk.below {w X Y : World} {base : Nat} (h : Tk w X base) (hb : base ≤ w.heap.size) (g : Below X.heap.size X Y) : Tk w Y base :=
  ⟨h.bl.trans (g.mono (Nat.le_trans hb h.bl.size)), fun _ _ _ k => (h.fr _ _ _ k).below g, fun _ _ _ k h1 h2 => bel_keep g (h.bk _ _ _ k h1 h2)⟩
theorem Tk.grown {w X Y : World} {base : Nat} {row : Option Nat} (h : Tk w X base) (hb : base ≤ w.heap.size) (g : X.grownBy Y row) (hr : ∀ k, row = some k → base ≤ k) (hf : ∀ lo vo gs, OFs X lo vo gs → OFs Y lo vo gs) (hk : ∀ (b : Nat) (cs : Array Value) (ty : TypeId), w.heap[b]? = some (.cells cs ty (0, 0)) → X.heap[b]? = some (.cells cs ty (0, 0)) → ty ≠ 5 → ty ≠ 3 → row ≠ some b) : Tk w Y base :=
  ⟨⟨g.os.trans h.bl.os, g.tape.trans h.bl.tape, g.output.trans h.bl.output, Nat.le_trans h.bl.size g.size, fun k hk => (g.block k (Nat.lt_of_lt_of_le (Nat.lt_of_lt_of_le hk hb) h.bl.size) (fun e => by have := hr k e.symm; omega)).trans (h.bl.block k hk)⟩, fun _ _ _ k => hf _ _ _ (h.fr _ _ _ k), fun b cs ty k h1 h2 => gb_blk (h.bk b cs ty k h1 h2) g (hk b cs ty k (h.bk b cs ty k h1 h2) h1 h2)⟩
theorem Tk.row {w X Y : World} {base base2 n : Nat} {e : TypeId} {size : Nat} {v : Value} {xs : List Value} (h : Tk w X base) (hb : base ≤ w.heap.size) (hv : X.ownsRow base2 e size v n xs) (hb2 : base ≤ base2) (g : X.grownBy Y v.ownBlock) (h1 : 30 ≠ e) (h2 : 9 ≠ e) (h3 : e = 5 ∨ e = 3) : Tk w Y base :=
  h.grown hb g (fun k e9 => Nat.le_trans hb2 (World.ownsRow.lt hv k e9).1) (fun _ _ _ k => k.grown hv g h1 h2) (fun _ _ _ _ hx n1 n2 => own_block hv hx (fun e4 => by rcases h3 with h3 | h3 <;> rw [h3] at e4 <;> simp_all))
theorem Tk.blk {w X Y : World} {base b : Nat} {cs : Array Value} {ty : TypeId} (h : Tk w X base) (hb : base ≤ w.heap.size) (hB : X.heap[b]? = some (.cells cs ty (0, 0))) (hlo : w.heap.size ≤ b) (g : X.grownBy Y (some b)) (h1 : 30 ≠ ty) (h2 : 9 ≠ ty) : Tk w Y base :=
  h.grown hb g (fun k e9 => by injection e9 with e9; omega) (fun _ _ _ k => k.gone g hB h1 h2) (fun _ _ _ hw _ _ _ e4 => by injection e4 with e4; have := hp_lt hw; omega)
theorem Tk.cell {w X : World} {base b i : Nat} {u : Value} {cs : Array Value} {ty : TypeId} (h : Tk w X base) (hb : base ≤ w.heap.size) (hB : X.heap[b]? = some (.cells cs ty (0, 0))) (hlo : w.heap.size ≤ b) (h1 : 30 ≠ ty) (h2 : 9 ≠ ty) : Tk w (X.setCell ⟨b, i, none⟩ u) base :=
  h.blk hb hB hlo (gb_set X _ _) h1 h2
theorem Tk.two {w X : World} {base b : Nat} {u u' : Value} {cs : Array Value} {ty : TypeId} (h : Tk w X base) (hb : base ≤ w.heap.size) (hB : X.heap[b]? = some (.cells cs ty (0, 0))) (hlo : w.heap.size ≤ b) (h1 : 30 ≠ ty) (h2 : 9 ≠ ty) : Tk w (X.setCells b 4 [u, u']) base := by
  have e : X.setCells b 4 [u, u'] = (X.setCell ⟨b, 4, none⟩ u).setCell ⟨b, 5, none⟩ u' := rfl
  rw [e]
  exact (h.cell hb hB hlo h1 h2).cell hb (blk_set hB u) hlo h1 h2

theorem need_eleven (r : List UInt8) : needP (r.take (min r.length 11)) = needP r := by
  have h1 := dec_head (r.take (min r.length 11))
  have h2 := dec_head r
  have e : (r.take (min r.length 11)).take (min (r.take (min r.length 11)).length 10) = r.take (min r.length 10) := by
    rw [List.take_take, List.length_take]
    congr 1
    omega
  rw [e, h2] at h1
  unfold needP
  rw [h1]

set_option maxRecDepth 100000 in
set_option maxHeartbeats 2000000 in
theorem rneed8_any (M : Nat) (s : Sx) (vr vs : Value) (w : World) (hs : Src w vr s.r) :
    Calls Tryz.prog 86 #[.agg (sxC M vr vs s).toArray] w fun e w' => e = .returned (.tuple #[.int .i64 ((needM M s.r).1 : Nat), .int .i64 (needM M s.r).2]) ∧ Below w.heap.size w w' := by
  obtain ⟨ar, cr, rfl⟩ := src_shape hs
  have HB1 := hid (below_walk w (.cells (sxC M (.slice ar s.r.length cr) vs s).toArray 47))
  have hn := hp_new w (.cells (sxC M (.slice ar s.r.length cr) vs s).toArray 47)
  obtain ⟨k, hk⟩ : ∃ k, min s.r.length 11 = k := ⟨_, rfl⟩
  have hm : min (s.r.length : Int) 11 = (k : Int) := by omega
  obtain ⟨vk, hk1, hk2⟩ := cut_at (hs.below HB1.out) k (by omega)
  have HNE := hid (rneed_any vk _ _ hk1)
  rw [← hk, need_eleven] at HNE
  have HK := hid hk
  obtain ⟨n, Hn⟩ : ∃ n, Hid ((needP s.r).1 = n) := ⟨_, rfl⟩
  obtain ⟨hd, Hhd⟩ : ∃ n, Hid ((needP s.r).2.1 = n) := ⟨_, rfl⟩
  obtain ⟨er, Her⟩ : ∃ n, Hid ((needP s.r).2.2 = n) := ⟨_, rfl⟩
  rw [Hn.out, Hhd.out, Her.out] at HNE
  have HOK := hid (show er = 0 → n ≠ 0 → ∃ N : Nat, n = hd + N + 4 ∧ N ≤ 2097152 ∧ hd ≤ 20 from fun h1 h2 => by
    obtain ⟨N, hd2, hN1, hN2, hn2⟩ := need_ok (b := s.r) (by rw [Her.out]; exact h1) (by rw [Hn.out]; exact h2)
    rw [Hn.out, Hhd.out] at hn2
    have h3 := dec_ok_len hd2
    rw [Hhd.out] at h3
    have := sn_length_le N
    exact ⟨N, hn2, hN2, by omega⟩)
  have HND := hid (show needM M s.r = if er ≠ 0 then (0, (er : Int)) else if n ≠ 0 ∧ M < n - hd - 4 then (0, 3) else (n, 0) by unfold needM; rw [Hn.out, Hhd.out, Her.out])
  clear hs hk1
  obtain ⟨B, HB⟩ : ∃ n, Hid (w.heap.size = n) := ⟨_, rfl⟩
  rw [HB.out] at hn
  go_enter Tryz.func86, Tryz.ntmps86
  go_upto_region 1 with (refine bx_row (by rfl) 47 _ (by rfl) _ (by rfl) ?_)
  rw [HB.out]
  generalize w.alloc (.cells (sxC M (.slice ar s.r.length cr) vs s).toArray 47) = w1 at HB1 hn HNE ⊢
  have HN0 := hid hn
  have c1 : w1.cell? ⟨B, 1, none⟩ = some (.slice ar s.r.length cr) := by simp [World.cell?, hn, sxC]
  clear hn
  go_wp2_with fail
  refine HNE.out.mono ?_
  rintro e w2 ⟨rfl, hb2⟩
  have HB2 := hid (below_then HB1.out hb2)
  have HN2 := hid (bel_keep hb2 HN0.out)
  have c0 : w2.cell? ⟨B, 0, none⟩ = some (.int .i64 (M : Int)) := by simp [World.cell?, HN2.out, sxC]
  clear hb2 c1 HNE hm
  by_cases he : er = 0
  · subst he
    by_cases h0 : n = 0
    · subst h0
      go_wp2
      refine bodyPost_ret (results_tmp2 rfl _ _ _) rfl ?_
      exact ⟨by rw [HND.out]; rfl, HB2.out⟩
    · obtain ⟨N, e1, e2, e3⟩ := HOK.out rfl h0
      have hp : (0 : Int) < (n : Int) := by omega
      have s1 : IntKind.i64.wrap ((n : Int) - (hd : Int)) = ((N + 4 : Nat) : Int) := by rw [IntKind.wrap_i64]; omega
      have s2 : IntKind.i64.wrap (((N + 4 : Nat) : Int) - 4) = (N : Int) := by rw [IntKind.wrap_i64]; omega
      obtain ⟨N4, HN4⟩ : ∃ m, Hid (N + 4 = m) := ⟨_, rfl⟩
      rw [HN4.out] at s1 s2
      have HE1 := hid e1
      clear e1
      by_cases hM : M < N
      · have hM2 : (M : Int) < (N : Int) := by omega
        have HE := hid (show needM M s.r = (0, 3) by rw [HND.out, if_neg (by simp), if_pos ⟨h0, by have := HE1.out; omega⟩])
        clear h0
        go_wp2
        refine bodyPost_ret (results_tmp2 rfl _ _ _) rfl ?_
        exact ⟨by rw [HE.out]; rfl, HB2.out⟩
      · have hM2 : ¬ (M : Int) < (N : Int) := by omega
        have HE := hid (show needM M s.r = (n, 0) by rw [HND.out, if_neg (by simp), if_neg (fun h => by have := h.2; have := HE1.out; omega)])
        clear h0
        go_wp2
        refine bodyPost_ret (results_tmp2 rfl _ _ _) rfl ?_
        exact ⟨by rw [HE.out]; rfl, HB2.out⟩
  · have q1 : ((er : Int) != 0) = true := by simp; omega
    have q2 : ¬ ((er : Int) = 0) := by omega
    have HE := hid (show needM M s.r = (0, (er : Int)) by rw [HND.out, if_pos he])
    clear he
    go_wp2
    refine bodyPost_ret (results_tmp2 rfl _ _ _) rfl ?_
    exact ⟨by rw [HE.out]; rfl, HB2.out⟩
end Go.Proofs.YtiibhccbbpgehaaGreat

/- The document's decoder takes one byte. -/
namespace Go.Proofs.YtiibhccbbpgehaaGreat
open Go.RowKit Go.BigFrame

theorem st_fault8 {w : World} {base b M : Nat} {vr vs : Value} {s : Sx} {ops : Array Oper} {rest : List Oper} {o : Oper} {a : Act} {Q : Exit → Act → World → Prop} (hgd : o.guard = none) (x z : Operand) (ho : o.op = .store 33 x z)
    (hk : Sb w base b M vr vs s) (y1 t1 : Int) (hx : a.eval x = .pointer (some ⟨b, 4, none⟩)) (hz : a.eval z = .agg [Value.int .i64 y1, .int .i64 t1].toArray)
    (h : ∀ w', Sb w' base b M vr vs { s with why := y1, wat := t1 } → w' = w.setCells b 4 [.int .i64 y1, .int .i64 t1] → wpList Tryz.prog ops Q rest (a.put o.dst undef) w') : wpList Tryz.prog ops Q (o :: rest) a w :=
  wpList_store_mid hgd 33 x z ho b 4 #[.int .i64 y1, .int .i64 t1] hx hz hk.there faultSize (all_oneCell_toArray (fault_one y1 t1)) (h _ (hk.setFault y1 t1) rfl)
theorem blk_two {w : World} {b r : Nat} {u u' : Value} {ob : Obj} (hB : w.heap[r]? = some ob) (hn : b ≠ r) : (w.setCells b 4 [u, u']).heap[r]? = some ob := by
  have e : w.setCells b 4 [u, u'] = (w.setCell ⟨b, 4, none⟩ u).setCell ⟨b, 5, none⟩ u' := rfl
  rw [e]
  exact gb_blk (gb_blk hB (gb_set w ⟨b, 4, none⟩ u) (by simpa using hn)) (gb_set _ ⟨b, 5, none⟩ u') (by simpa using hn)
theorem app_ints {w : World} {ops : Array Oper} {rest : List Oper} {o : Oper} {a : Act} {Q : Exit → Act → World → Prop} (hgd : o.guard = none) (s x : Operand)
    (ho : o.op = .call { callee := .builtin .append, args := #[s, x], argTypes := #[45, 45] })
    (base : Nat) (v : Value) (bs : List Nat) (hs : a.eval s = v) (hown : OwnI w base v bs) (vx : Value) (cs : List Nat) (hx : a.eval x = vx) (hsrc : ∃ b2, OwnI w b2 vx cs)
    (hlen : bs.length + cs.length ≤ 1000000000000) (hbase : base ≤ w.heap.size)
    (h : ∀ v' w', OwnI w' base v' (bs ++ cs) → w.grownBy w' v.ownBlock → (v'.ownBlock = v.ownBlock ∨ v'.ownBlock = some w.heap.size) → wpList Tryz.prog ops Q rest (a.put o.dst v') w') : wpList Tryz.prog ops Q (o :: rest) a w := by
  obtain ⟨i0, hi, hz0, hz1, hz2⟩ := info_parts Tryz.infoI64
  obtain ⟨b2, hsrc⟩ := hsrc
  have hi1 : ∀ u ∈ intsV8 cs, u.oneCell' = true := fun u hu => by simp only [intsV8, List.mem_map] at hu; obtain ⟨n, _, rfl⟩ := hu; rfl
  have hl1 : (intsV8 cs).length = cs.length * 1 := by simp [intsV8]
  rcases hsrc.2 with ⟨rfl, h0⟩ | ⟨g, cap, cur, rfl, _⟩
  · obtain rfl : cs = [] := List.length_eq_zero_iff.1 h0
    refine wpList_append_own_none hgd s x 45 ho base 3 i0 1 Tryz.underlying45 hi v bs.length (intsV8 bs) hs hown hx ?_
    exact h v w (by simpa using hown) (gb_refl _ _) (Or.inl rfl)
  · refine wpList_plain hgd fun K hK => ?_
    have hcl : ∀ j u, (intsV8 cs)[j]? = some u → w.cell? ((⟨g, 0, none⟩ : Addr).add j) = some u := fun j u hu => World.ownsRow.cells hsrc (g := g) rfl j u hu
    obtain ⟨v', w', hr, h5, h6, _⟩ := run_append_own (P := Tryz.prog) w base 45 o.type 3 i0 (.int .i64 0) 1 8 Tryz.underlying45 hi hz0 hz1 hz2 rfl (by decide) v bs.length (intsV8 bs) hown ⟨g, 0, none⟩ cs.length cap (intsV8 cs) hl1 hcl hi1 (by unfold maxLen; omega) (by omega) hbase
    have hp := app_place (P := Tryz.prog) w base 45 o.type 3 i0 (.int .i64 0) 1 8 Tryz.underlying45 hi hz0 hz1 hz2 v bs.length (intsV8 bs) hown ⟨g, 0, none⟩ cs.length cap (intsV8 cs) hl1 hcl hi1 (by unfold maxLen; omega) (by omega) v' w' hr
    unfold Oper.wp execOp
    simp only [ho, resolve, invoke, builtin, Sem.run_bind, Sem.run_pure, Result.andThen_ok, List.map_toArray, List.map_cons, List.map_nil, hs, hx, hr]
    exact hK _ _ (h v' w' (by unfold OwnI; rw [show intsV8 (bs ++ cs) = intsV8 bs ++ intsV8 cs by simp [intsV8], List.length_append]; exact h5) h6 hp)

theorem own_far2 {w w' : World} {base : Nat} {row : Option Nat} {e : TypeId} {size : Nat} {vo : Value} {n : Nat} {xs : List Value} (h : w.ownsRow base e size vo n xs) (g : w.grownBy w' row) (hm : ∀ k, vo.ownBlock = some k → row ≠ some k) : w'.ownsRow base e size vo n xs := by
  refine World.ownsRow.kept h g ?_
  cases hk : vo.ownBlock with
  | none => exact Or.inl rfl
  | some k => exact Or.inr (fun h9 => hm k hk h9.symm)
theorem step_bs_frame {ops : Array Oper} {o : Oper} {a : Act} {w : World} {K : Act → World → Prop} {Q : Exit → Act → World → Prop} {E : Prop} (hgd : o.guard = none) (x : Operand) (ho : o.op = .buildSlice 62 1 #[(0, x)])
    (cs : List Value) (hx : a.eval x = .agg cs.toArray) (hl : cs.length = 42) (g : Nat) (hg2 : w.heap.size = g)
    (h : K (a.put o.dst (.slice (some ⟨g, 0, none⟩) 1 1)) (w.alloc (.cells cs.toArray 30))) : if Region.wanted o (yielded ops a.tmps) = true then Oper.wp Tryz.prog o a w K Q else E := by
  rw [if_pos (by simp [Region.wanted, hgd])]
  subst hg2
  obtain ⟨i0, hi, hz0, hz1, hz2⟩ := info_parts Tryz.infoFrame
  refine wp_buildSlice 62 30 1 #[(0, x)] ho cs.toArray i0 _ Tryz.underlying62 hi hz0 (by rw [hz1]; decide) (by rw [hz1]; decide) ?_ h
  rw [hz1]
  have e : (#[(0, x)].map fun (i, x) => (i, a.eval x)).toList = (([Value.agg cs.toArray]).zipIdx 0).map fun x => (x.2, x.1) := by simp [hx]
  rw [e, Great.fill_whole (s := 42) (by decide) [Value.agg cs.toArray] _ (by intro v hv; simp at hv; subst hv; simpa [Value.cells] using hl) (by simp)]
  simp [Value.cells]
theorem ofs_one (w : World) (lo : Nat) (f : Fr) (va : Value) (hb : lo ≤ w.heap.size) (hr : Rng f) (ha : WOwnS w lo va f.args) : OFs (w.alloc (.cells (fcells f va).toArray 30)) lo (.slice (some ⟨w.heap.size, 0, none⟩) 1 1) [(f, va)] := by
  refine ⟨?_, fun g hg => by simp at hg; subst hg; exact ⟨own_below ha (below_walk w _), hr⟩⟩
  have h := World.ownsRow_lit (base := lo) (e := 30) (size := 42) w (fcells f va).toArray 1 hb (by decide) (by rw [List.size_toArray, fcells_length _ _ hr.tool])
  simpa [frsV] using h
def TakP (w : World) (base : Nat) (M : Nat) (T : Sx × List Fr) (e : Ending) (w' : World) : Prop :=
  ∃ vr vs vl fs, e = .returned (.tuple #[.agg (sxC M vr vs T.1).toArray, vl]) ∧ OwnB w' base vr T.1.r ∧ OwnI w' base vs T.1.szs ∧ OFs w' w.heap.size vl fs ∧ fs.map (·.1) = T.2 ∧ Tk w w' base

set_option maxRecDepth 100000 in
set_option maxHeartbeats 4000000 in
theorem rtake8_any (s : Sx) (vr vs : Value) (c : UInt8) (w : World) (base M : Nat) (ho : OwnB w base vr s.r) (hz : OwnI w base vs s.szs) (hb : base ≤ w.heap.size) (hl : s.r.length ≤ 4000000) (hc : s.came ≤ 4611686018427387904) (hw : s.whole ≤ 4611686018427387904) (hsz : s.szs.length ≤ 100000000000) (h0 : s.why = 0) (h1 : s.wat = 0) (hle : s.r.length ≤ s.came) :
    Calls Tryz.prog 88 #[.agg (sxC M vr vs s).toArray, .int .u8 (c.toNat : Int)] w (TakP w base M (takeC M s [c])) := by
  obtain ⟨X, HX⟩ : ∃ X, Hid (s.r ++ [c] = X) := ⟨_, rfl⟩
  have HXL := hid (show X.length = s.r.length + 1 by rw [← HX.out]; simp)
  obtain ⟨CA, HCA⟩ : ∃ n, Hid (s.came + 1 = n) := ⟨_, rfl⟩
  obtain ⟨FI, HFI⟩ : ∃ n, Hid ((s.came : Int) - (s.r.length : Int) = n) := ⟨_, rfl⟩
  obtain ⟨n5, Hn5⟩ : ∃ n, Hid ((needM M X).1 = n) := ⟨_, rfl⟩
  obtain ⟨e5, He5⟩ : ∃ n, Hid ((needM M X).2 = n) := ⟨_, rfl⟩
  obtain ⟨F, HF⟩ : ∃ n, Hid ((decP X).1 = n) := ⟨_, rfl⟩
  obtain ⟨d1, Hd1⟩ : ∃ n, Hid ((decP X).2.1 = n) := ⟨_, rfl⟩
  obtain ⟨d2, Hd2⟩ : ∃ n, Hid ((decP X).2.2 = n) := ⟨_, rfl⟩
  have HTK := hid (show takeC M s [c] = if e5 ≠ 0 then (⟨X, CA, s.whole, e5, FI, s.szs⟩, []) else if n5 = 0 ∨ X.length < n5 then (⟨X, CA, s.whole, 0, 0, s.szs⟩, []) else if d1 ≠ 0 then (⟨X, CA, s.whole, d1, IntKind.i64.wrap (FI + d2), s.szs⟩, []) else (⟨[], CA, s.whole + 1, 0, 0, s.szs ++ [X.length]⟩, [F]) by
    unfold takeC
    simp only [HX.out, Hn5.out, He5.out, HF.out, Hd1.out, Hd2.out, HFI.out, List.length_cons, List.length_nil, Nat.zero_add, HCA.out])
  have HRNG := hid (fun hm => dec_rng X (by have := HXL.out; omega) hm)
  rw [HF.out] at HRNG
  have HT32 := hid (dec_tool X)
  rw [HF.out] at HT32
  obtain ⟨ar, cr, er⟩ := ho.shape
  subst er
  have HW1 := hid (below_walk2 w (.cells (sxC M (.slice ar s.r.length cr) vs s).toArray 47) (.cells (sxC 0 (.slice none 0 0) (.slice none 0 0) zS).toArray 47))
  have HNN := hid (hp_two w (.cells (sxC M (.slice ar s.r.length cr) vs s).toArray 47) (.cells (sxC 0 (.slice none 0 0) (.slice none 0 0) zS).toArray 47))
  have HZ : Hid ((w.alloc (.cells (sxC M (.slice ar s.r.length cr) vs s).toArray 47)).heap.size = w.heap.size + 1) := hid (by simp)
  have HB := hid hb
  have HO := hid ho
  have HI := hid hz
  have HLE := hid hle
  clear ho hz hb hle
  go_enter Tryz.func88, Tryz.ntmps88
  go_upto_region 1 with (first
    | (refine bx_row (by rfl) 47 _ (by rfl) _ (by rfl) ?_)
    | (refine al_row (by rfl) 47 (by rfl) _ zeroStrm ?_))
  try rw [HZ.out]
  obtain ⟨B, HBe⟩ : ∃ n, Hid (w.heap.size = n) := ⟨_, rfl⟩
  obtain ⟨R, HRe⟩ : ∃ n, Hid (B + 1 = n) := ⟨_, rfl⟩
  have HBR := hid (show R = B + 1 from HRe.out.symm)
  have HLO := hid (show base ≤ B by have := HB.out; have := HBe.out; omega)
  have HLW := hid (show w.heap.size ≤ B by have := HBe.out; omega)
  have HRW := hid (show w.heap.size ≤ R by have := HBe.out; have := HBR.out; omega)
  have HRL := hid (show base ≤ R by have := HLO.out; have := HBR.out; omega)
  rw [HBe.out, HRe.out] at HNN ⊢
  have HW1' := hid (show Below w.heap.size w ((w.alloc (.cells (sxC M (.slice ar s.r.length cr) vs s).toArray 47)).alloc (.cells #[.int .i64 0, .slice none 0 0, .int .i64 0, .int .i64 0, .int .i64 0, .int .i64 0, .slice none 0 0] 47)) from HW1.out)
  have HNN' := hid (show ((w.alloc (.cells (sxC M (.slice ar s.r.length cr) vs s).toArray 47)).alloc (.cells #[.int .i64 0, .slice none 0 0, .int .i64 0, .int .i64 0, .int .i64 0, .int .i64 0, .slice none 0 0] 47)).heap[B]? = some (.cells (sxC M (.slice ar s.r.length cr) vs s).toArray 47 (0, 0)) ∧ ((w.alloc (.cells (sxC M (.slice ar s.r.length cr) vs s).toArray 47)).alloc (.cells #[.int .i64 0, .slice none 0 0, .int .i64 0, .int .i64 0, .int .i64 0, .int .i64 0, .slice none 0 0] 47)).heap[R]? = some (.cells (sxC 0 (.slice none 0 0) (.slice none 0 0) zS).toArray 47 (0, 0)) from HNN.out)
  clear HW1 HNN
  generalize (w.alloc (.cells (sxC M (.slice ar s.r.length cr) vs s).toArray 47)).alloc (.cells #[.int .i64 0, .slice none 0 0, .int .i64 0, .int .i64 0, .int .i64 0, .int .i64 0, .slice none 0 0] 47) = w1 at HW1' HNN' ⊢
  have HS1 := hid (show Sb w1 base B M (.slice ar s.r.length cr) vs s from ⟨HLO.out, HNN'.out.1, HO.out.below HW1'.out, own_below HI.out HW1'.out⟩)
  have HR1 := hid HNN'.out.2
  have HT1 := hid ((Tk.refl w base).below HB.out HW1'.out)
  clear HNN' HW1' HZ HO HI
  -- the byte is put behind
  have HW2 := hid (below_walk w1 (.cells #[.int .u8 (c.toNat : Int)] 5))
  have HS2 := hid (HS1.out.below HW2.out)
  have HR2 := hid (bel_keep HW2.out HR1.out)
  have HT2 := hid (HT1.out.below HB.out HW2.out)
  have HX2 := hid (src_one w1 c _ rfl)
  have HBS := hid (Nat.le_trans HB.out HT2.out.bl.size)
  have c1 := HS1.out.c1
  clear HS1 HR1 HT1
  go_wp2_with (first | (at_builtin; refine app_bytes (by rfl) _ _ rfl base _ _ rfl HS2.out.own _ _ rfl HX2.out (by simp; omega) HBS.out ?_))
  intro v2 w2 ho2 hg2 hp2
  rw [HX.out] at ho2
  have HS3 := hid (HS2.out.setRest hg2 ho2)
  have HR3 := hid (gb_blk (gb_blk HR2.out hg2 (own_block HS2.out.own HR2.out (by decide))) (gb_set w2 ⟨B, 1, none⟩ v2) (by have := HBR.out; simp; omega))
  have HK2 := hid (gb_blk HS2.out.blk hg2 HS2.out.ner)
  have HT3 := hid ((HT2.out.row HB.out HS2.out.own (Nat.le_refl _) hg2 (by decide) (by decide) (Or.inl rfl)).cell (i := 1) (u := v2) HB.out HK2.out HLW.out (by decide) (by decide))
  have k0 : w2.cell? ⟨B, 1, none⟩ = some (.slice ar s.r.length cr) := by simp [World.cell?, HK2.out, sxC]
  have k1 : w2.frozen? ⟨B, 1, none⟩ = false := by simp [World.frozen?, HK2.out]
  obtain ⟨a2, c2, e2⟩ := ho2.shape
  subst e2
  clear ho2 hg2 hp2 c1 HS2 HR2 HT2 HK2 HX2 HW2
  go_upto_region 2 with fail
  generalize w2.setCell ⟨B, 1, none⟩ (.slice a2 X.length c2) = w3 at HS3 HR3 HT3 ⊢
  clear k0 k1
  -- the counts
  have k2 : w3.cell? ⟨B, 2, none⟩ = some (.int .i64 (s.came : Int)) := HS3.out.c2
  have k3 := HS3.out.fz 2
  have hca : IntKind.i64.wrap ((s.came : Int) + 1) = (CA : Int) := by rw [IntKind.wrap_i64]; have := HCA.out; omega
  have HS4 := hid (HS3.out.setCame CA)
  have HR4 := hid (gb_blk HR3.out (gb_set w3 ⟨B, 2, none⟩ (.int .i64 (CA : Int))) (by have := HBR.out; simp; omega))
  have HT4 := hid (HT3.out.cell (i := 2) (u := .int .i64 (CA : Int)) HB.out HS3.out.blk HLW.out (by decide) (by decide))
  go_upto_region 3 with fail
  generalize w3.setCell ⟨B, 2, none⟩ (.int .i64 (CA : Int)) = w4 at HS4 HR4 HT4 ⊢
  clear k2 k3 HS3 HR3 HT3 hca
  have HSX := hid (show Sb w4 base B M (.slice a2 X.length c2) vs ⟨X, CA, s.whole, s.why, s.wat, s.szs⟩ from HS4.out)
  clear HS4
  have HS4 := hid HSX.out
  clear HSX
  have k1 := HS4.out.c1
  have k2 : w4.cell? ⟨B, 2, none⟩ = some (.int .i64 (CA : Int)) := HS4.out.c2
  have hfi : IntKind.i64.wrap ((CA : Int) - (X.length : Int)) = FI := by rw [IntKind.wrap_i64]; have := HCA.out; have := HXL.out; have := HFI.out; have := HLE.out; omega
  go_upto_region 4 with fail
  clear k1 k2 hfi
  have HSZ4 := hid (show (Tryz.prog.info? 47).map (·.size) = some (sxC M (.slice a2 X.length c2) vs ⟨X, CA, s.whole, s.why, s.wat, s.szs⟩).length from strmSize)
  have HBK4 := hid HS4.out.blk
  have HNE := hid (rneed8_any M ⟨X, CA, s.whole, s.why, s.wat, s.szs⟩ (.slice a2 X.length c2) vs w4 (HS4.out.own.src (by show X.length ≤ _; have := HXL.out; omega)))
  obtain ⟨SD, HSD⟩ : ∃ l, Hid (sxC M (.slice a2 X.length c2) vs ⟨X, CA, s.whole, s.why, s.wat, s.szs⟩ = l) := ⟨_, rfl⟩
  rw [HSD.out] at HSZ4 HBK4 HNE
  go_wp2_with (first | (refine ld_row (by rfl) 47 (.tmp 2) (by rfl) B (by rfl) SD 47 HBK4.out _ Tryz.underlying47 rfl HSZ4.out ?_))
  refine HNE.out.mono ?_
  rintro e w5 ⟨rfl, hb5⟩
  have e9 : needM M (⟨X, CA, s.whole, s.why, s.wat, s.szs⟩ : Sx).r = needM M X := rfl
  rw [e9, Hn5.out, He5.out]
  have HS5 := hid (HS4.out.below hb5)
  have HR5 := hid (bel_keep hb5 HR4.out)
  have HT5 := hid (HT4.out.below HB.out hb5)
  clear hb5 HNE HS4 HR4 HT4 HSZ4 HBK4 HSD e9
  by_cases he : e5 = 0
  · subst he
    by_cases hn : n5 = 0 ∨ X.length < n5
    · have HEQ := hid (show takeC M s [c] = (⟨X, CA, s.whole, s.why, s.wat, s.szs⟩, []) by rw [HTK.out, if_neg (by simp), if_pos hn, h0, h1])
      rcases hn with hn | hn
      · as_aux_lemma =>
          subst hn
          clear h0 h1
          have HSZ5 := hid (show (Tryz.prog.info? 47).map (·.size) = some (sxC M (.slice a2 X.length c2) vs ⟨X, CA, s.whole, s.why, s.wat, s.szs⟩).length from strmSize)
          have HON5 := hid HS5.out.one
          have HBK5 := hid HS5.out.blk
          obtain ⟨SC, HSC⟩ : ∃ l, Hid (sxC M (.slice a2 X.length c2) vs ⟨X, CA, s.whole, s.why, s.wat, s.szs⟩ = l) := ⟨_, rfl⟩
          have HOL := hid (show (sxC 0 (.slice none 0 0) (.slice none 0 0) zS).toArray.size = SC.length by rw [← HSC.out]; rfl)
          rw [HSC.out] at HSZ5 HON5 HBK5
          go_wp2_with (first
            | (refine ld_row (by rfl) 47 (.tmp 2) (by rfl) B (by rfl) SC 47 HBK5.out _ Tryz.underlying47 rfl HSZ5.out ?_)
            | (refine st_row (by rfl) 47 _ _ (by rfl) R SC (by rfl) (by rfl) 47 _ HR5.out HSZ5.out HOL.out HON5.out ?_; intro w9 hw9))
          refine ret_row2 4 5 47 rfl R rfl SC 47 hw9.blk _ Tryz.underlying47 rfl HSZ5.out _ rfl rfl ?_
          have HS9 := HS5.out.far hw9.grown (by have := HBR.out; omega) (own_block HS5.out.own HR5.out (by decide)) (own_block HS5.out.szs HR5.out (by decide))
          have HT9 := HT5.out.blk HB.out HR5.out HRW.out hw9.grown (by decide) (by decide)
          rw [← HSC.out, HEQ.out]
          exact ⟨_, _, .slice none 0 0, [], rfl, HS9.own, HS9.szs, OFs.nil _ _, rfl, HT9⟩
      · as_aux_lemma =>
          have hn2 : (X.length : Int) < (n5 : Int) := by omega
          have q0 : ¬ n5 = 0 := by omega
          have q1 : ((n5 : Int) == 0) = false := by simp; omega
          have k1 := HS5.out.c1
          clear hn h0 h1
          have HSZ5 := hid (show (Tryz.prog.info? 47).map (·.size) = some (sxC M (.slice a2 X.length c2) vs ⟨X, CA, s.whole, s.why, s.wat, s.szs⟩).length from strmSize)
          have HON5 := hid HS5.out.one
          have HBK5 := hid HS5.out.blk
          obtain ⟨SC, HSC⟩ : ∃ l, Hid (sxC M (.slice a2 X.length c2) vs ⟨X, CA, s.whole, s.why, s.wat, s.szs⟩ = l) := ⟨_, rfl⟩
          have HOL := hid (show (sxC 0 (.slice none 0 0) (.slice none 0 0) zS).toArray.size = SC.length by rw [← HSC.out]; rfl)
          rw [HSC.out] at HSZ5 HON5 HBK5
          go_wp2_with (first
            | (refine ld_row (by rfl) 47 (.tmp 2) (by rfl) B (by rfl) SC 47 HBK5.out _ Tryz.underlying47 rfl HSZ5.out ?_)
            | (refine st_row (by rfl) 47 _ _ (by rfl) R SC (by rfl) (by rfl) 47 _ HR5.out HSZ5.out HOL.out HON5.out ?_; intro w9 hw9))
          refine ret_row2 4 5 47 rfl R rfl SC 47 hw9.blk _ Tryz.underlying47 rfl HSZ5.out _ rfl rfl ?_
          have HS9 := HS5.out.far hw9.grown (by have := HBR.out; omega) (own_block HS5.out.own HR5.out (by decide)) (own_block HS5.out.szs HR5.out (by decide))
          have HT9 := HT5.out.blk HB.out HR5.out HRW.out hw9.grown (by decide) (by decide)
          rw [← HSC.out, HEQ.out]
          exact ⟨_, _, .slice none 0 0, [], rfl, HS9.own, HS9.szs, OFs.nil _ _, rfl, HT9⟩
    · have q0 : ¬ n5 = 0 := fun h => hn (Or.inl h)
      have q1 : ((n5 : Int) == 0) = false := by simp; omega
      have q2 : ¬ (X.length : Int) < (n5 : Int) := fun h => hn (Or.inr (by omega))
      have k1 := HS5.out.c1
      have HDE := hid (rdecode_any (.slice a2 X.length c2) X w5 (HS5.out.own.src (by show X.length ≤ _; have := HXL.out; omega)))
      rw [HF.out, Hd1.out, Hd2.out] at HDE
      have HTK2 := hid (show takeC M s [c] = if d1 ≠ 0 then (⟨X, CA, s.whole, d1, IntKind.i64.wrap (FI + d2), s.szs⟩, []) else (⟨[], CA, s.whole + 1, 0, 0, s.szs ++ [X.length]⟩, [F]) by rw [HTK.out, if_neg (by simp), if_neg hn])
      clear hn HTK
      go_wp2_with fail
      refine HDE.out.mono ?_
      rintro e w6 ⟨va, rfl, hoa, hb6⟩
      have HRG := hid (HRNG.out (wowns_len hoa))
      have HSY := hid (frame_size F va HT32.out)
      obtain ⟨aV, cV, eV⟩ := wowns_shape hoa
      have HON := hid (fcells_one F va (by rw [eV]; rfl))
      have HOS := hid (show (fcells zF nS).toArray.size = (fcells F va).length by rw [fcells_length _ _ HT32.out]; rfl)
      have HW7 := hid (below_walk w6 (.cells (fcells F va).toArray 30))
      have HN7 := hid (hp_new w6 (.cells (fcells F va).toArray 30))
      have HS7 := hid ((HS5.out.below hb6).below HW7.out)
      have HR7 := hid (bel_keep HW7.out (bel_keep hb6 HR5.out))
      have HT7 := hid ((HT5.out.below HB.out hb6).below HB.out HW7.out)
      have HA7 := hid (own_below (own_le hoa (base' := w.heap.size) (HT5.out.bl.size)) HW7.out)
      have HFO := hid (fun W (hW : Strs W va F.args) => frs_one W F va HRG.out hW)
      have HF42 := hid (show (fcells F va).length = 42 from fcells_length _ _ HT32.out)
      obtain ⟨FF, HFF⟩ : ∃ L, Hid (fcells F va = L) := ⟨_, rfl⟩
      rw [HFF.out] at HSY HON HOS HW7 HN7 HS7 HR7 HT7 HA7 HFO HF42 ⊢
      clear hoa hb6 HDE HS5 HR5 HT5 k1 eV
      go_upto_region 11 with (first
        | (refine al_row (by rfl) 30 (by rfl) _ zeroFrame ?_)
        | (refine st_new (by rfl) 30 _ _ (by rfl) FF (by rfl) (by rfl) 30 _ HSY.out HOS.out HON.out ?_))
      obtain ⟨P, HPe⟩ : ∃ n, Hid (w6.heap.size = n) := ⟨_, rfl⟩
      rw [HPe.out] at HN7 ⊢
      generalize w6.alloc (.cells FF.toArray 30) = w7 at HW7 HN7 HS7 HR7 HT7 HA7 ⊢
      clear HW7
      by_cases hd : d1 = 0
      · subst hd
        have HEQ := hid (show takeC M s [c] = (⟨[], CA, s.whole + 1, s.why, s.wat, s.szs ++ [X.length]⟩, [F]) by rw [HTK2.out, if_neg (by simp), h0, h1])
        clear HTK2 h0 h1
        -- the sizes
        have k1 := HS7.out.c1
        have k6 : w7.cell? ⟨B, 6, none⟩ = some vs := HS7.out.c6
        have HW8 := hid (below_walk w7 (.cells #[.int .i64 (X.length : Int)] 3))
        have HS8 := hid (HS7.out.below HW8.out)
        have HR8 := hid (bel_keep HW8.out HR7.out)
        have HN8 := hid (bel_keep HW8.out HN7.out)
        have HT8 := hid (HT7.out.below HB.out HW8.out)
        have HA8 := hid (own_below HA7.out HW8.out)
        have HI8 := hid (show ∃ b2, OwnI (w7.alloc (.cells #[.int .i64 (X.length : Int)] 3)) b2 (.slice (some ⟨w7.heap.size, 0, none⟩) 1 1) [X.length] from ⟨w7.heap.size, World.ownsRow_lit w7 #[.int .i64 (X.length : Int)] 1 (Nat.le_refl _) (by decide) rfl⟩)
        have HBS8 := hid (Nat.le_trans HB.out HT8.out.bl.size)
        obtain ⟨az, cz, ez⟩ := HS7.out.szs.shape
        have ez' : vs = .slice az s.szs.length cz := ez
        subst ez'
        clear HS7 HR7 HT7 HN7 HA7
        go_wp2_with (first | (at_builtin; refine app_ints (by rfl) _ _ rfl base _ s.szs rfl HS8.out.szs _ [X.length] rfl HI8.out (by simp; omega) HBS8.out ?_))
        intro v9 w9 ho9 hg9 hp9
        obtain ⟨ZL, HZL⟩ : ∃ l, Hid (s.szs ++ [X.length] = l) := ⟨_, rfl⟩
        rw [HZL.out] at ho9 HEQ
        have HS9 := hid (HS8.out.setSizes hg9 ho9)
        have HK9 := hid (gb_blk HS8.out.blk hg9 HS8.out.nes)
        have HR9 := hid (gb_blk (gb_blk HR8.out hg9 (own_block HS8.out.szs HR8.out (by decide))) (gb_set w9 ⟨B, 6, none⟩ v9) (by have := HBR.out; simp; omega))
        have HPB := hid (own_blk HN8.out HS8.out.blk (by decide))
        have HN9 := hid (gb_blk (gb_blk HN8.out hg9 (own_block HS8.out.szs HN8.out (by decide))) (gb_set w9 ⟨B, 6, none⟩ v9) (by have := HPB.out; simpa using this))
        have HT9 := hid ((HT8.out.row HB.out HS8.out.szs (Nat.le_refl _) hg9 (by decide) (by decide) (Or.inr rfl)).cell (i := 6) (u := v9) HB.out HK9.out HLW.out (by decide) (by decide))
        have HA9 := hid (own_far2 (own_far2 HA8.out hg9 (fun k e => own_apart HA8.out HS8.out.szs (by decide) e)) (gb_set w9 ⟨B, 6, none⟩ v9) (fun k e => by have := own_block HA8.out HS8.out.blk (by decide); intro h; exact this (by simpa [← h] using e)))
        have k0 : w9.cell? ⟨B, 6, none⟩ = some (.slice az s.szs.length cz) := by simp [World.cell?, HK9.out, sxC]
        have k2 : w9.frozen? ⟨B, 6, none⟩ = false := by simp [World.frozen?, HK9.out]
        obtain ⟨a9, c9, e9⟩ := ho9.shape
        subst e9
        clear ho9 hg9 hp9 k1 k6 HS8 HR8 HT8 HK9 HW8 HN8 HA8 HI8
        go_upto_region 15 with fail
        have HS10 := hid (show Sb (w9.setCell ⟨B, 6, none⟩ (.slice a9 ZL.length c9)) base B M (.slice a2 X.length c2) (.slice a9 ZL.length c9) ⟨X, CA, s.whole, s.why, s.wat, ZL⟩ from HS9.out)
        clear HS9
        generalize w9.setCell ⟨B, 6, none⟩ (.slice a9 ZL.length c9) = w10 at HS10 HR9 HN9 HT9 HA9 ⊢
        clear k0 k2
        obtain ⟨VS, HVS⟩ : ∃ v, Hid (Value.slice a9 ZL.length c9 = v) := ⟨_, rfl⟩
        rw [HVS.out] at HS10
        have HPR := hid (own_blk HN9.out HR9.out (by decide))
        have k1 := HS10.out.c1
        have k2 := HS10.out.fz 1
        have HS11 := hid (show Sb (w10.setCell ⟨B, 1, none⟩ (.slice none 0 0)) base B M (.slice none 0 0) VS ⟨[], CA, s.whole, s.why, s.wat, ZL⟩ from HS10.out.setNone)
        have HR11 := hid (gb_blk HR9.out (gb_set w10 ⟨B, 1, none⟩ (.slice none 0 0)) (by have := HBR.out; simp; omega))
        have HN11 := hid (gb_blk HN9.out (gb_set w10 ⟨B, 1, none⟩ (.slice none 0 0)) (by have := HPB.out; simpa using this))
        have HT11 := hid (HT9.out.cell (i := 1) (u := .slice none 0 0) HB.out HS10.out.blk HLW.out (by decide) (by decide))
        have HA11 := hid (own_far2 HA9.out (gb_set w10 ⟨B, 1, none⟩ (.slice none 0 0)) (fun k e => by have := own_block HA9.out HS10.out.blk (by decide); intro h; exact this (by simpa [← h] using e)))
        go_upto_region 16 with fail
        generalize w10.setCell ⟨B, 1, none⟩ (.slice none 0 0) = w11 at HS11 HR11 HN11 HT11 HA11 ⊢
        clear k1 k2 HS10 HR9 HN9 HT9 HA9
        obtain ⟨WH, HWH⟩ : ∃ n, Hid (s.whole + 1 = n) := ⟨_, rfl⟩
        have hwh : IntKind.i64.wrap ((s.whole : Int) + 1) = (WH : Int) := by rw [IntKind.wrap_i64]; have := HWH.out; omega
        have k1 : w11.cell? ⟨B, 3, none⟩ = some (.int .i64 (s.whole : Int)) := HS11.out.c3
        have k2 := HS11.out.fz 3
        have HS12 := hid (show Sb (w11.setCell ⟨B, 3, none⟩ (.int .i64 (WH : Int))) base B M (.slice none 0 0) VS ⟨[], CA, WH, s.why, s.wat, ZL⟩ from HS11.out.setWhole WH)
        have HR12 := hid (gb_blk HR11.out (gb_set w11 ⟨B, 3, none⟩ (.int .i64 (WH : Int))) (by have := HBR.out; simp; omega))
        have HN12 := hid (gb_blk HN11.out (gb_set w11 ⟨B, 3, none⟩ (.int .i64 (WH : Int))) (by have := HPB.out; simpa using this))
        have HT12 := hid (HT11.out.cell (i := 3) (u := .int .i64 (WH : Int)) HB.out HS11.out.blk HLW.out (by decide) (by decide))
        have HA12 := hid (own_far2 HA11.out (gb_set w11 ⟨B, 3, none⟩ (.int .i64 (WH : Int))) (fun k e => by have := own_block HA11.out HS11.out.blk (by decide); intro h; exact this (by simpa [← h] using e)))
        go_upto_region 17 with fail
        generalize w11.setCell ⟨B, 3, none⟩ (.int .i64 (WH : Int)) = w12 at HS12 HR12 HN12 HT12 HA12 ⊢
        clear k1 k2 hwh HS11 HR11 HN11 HT11 HA11
        rw [HWH.out] at HEQ
        have HSZ := hid (show (Tryz.prog.info? 47).map (·.size) = some (sxC M (.slice none 0 0) VS ⟨[], CA, WH, s.why, s.wat, ZL⟩).length from strmSize)
        have HON2 := hid HS12.out.one
        have HBK := hid HS12.out.blk
        obtain ⟨SC, HSC⟩ : ∃ l, Hid (sxC M (.slice none 0 0) VS ⟨[], CA, WH, s.why, s.wat, ZL⟩ = l) := ⟨_, rfl⟩
        have HOL := hid (show (sxC 0 (.slice none 0 0) (.slice none 0 0) zS).toArray.size = SC.length by rw [← HSC.out]; rfl)
        rw [HSC.out] at HSZ HON2 HBK
        refine wp_noPanic (wp_region_held_drew (S := fun W => W.heap[B]? = some (.cells SC.toArray 47 (0, 0)) ∧ W.heap[P]? = some (.cells FF.toArray 30 (0, 0))) (by kernel_rfl) ⟨HBK.out, HN12.out⟩ ?_)
        intro hHeld
        refine wpAnyH_take (i := 0) (v := .agg SC.toArray) rfl (by kernel_rfl) (by kernel_rfl) (by kernel_rfl) (fun _ _ _ h => h) (yieldsIf_load_mid (by rfl) 47 (.tmp 2) rfl B 0 rfl SC _ (fun W hW => range_row hW.1) Tryz.underlying47 rfl HSZ.out) hHeld ?_
        simp only [Act.put, List.getElem_toArray, List.getElem_cons_zero, List.setIfInBounds_toArray, List.set_cons_succ, List.set_cons_zero]
        refine wpAnyH_take (i := 1) (v := .agg FF.toArray) rfl (by kernel_rfl) (by kernel_rfl) (by kernel_rfl) (fun _ _ _ h => h) (yieldsIf_load_mid (by rfl) 30 (.tmp 9) rfl P 0 rfl FF _ (fun W hW => range_row hW.2) Tryz.underlying30 rfl HSY.out) hHeld ?_
        simp only [Act.put, List.getElem_toArray, List.getElem_cons_zero, List.getElem_cons_succ, List.setIfInBounds_toArray, List.set_cons_succ, List.set_cons_zero]
        have HD1 := hid (bel_drw w12 1)
        have HSwq := hid (HS12.out.below HD1.out)
        have HRwq := hid (bel_keep HD1.out HR12.out)
        have HTwq := hid (HT12.out.below HB.out HD1.out)
        have HAwq := hid (own_below HA12.out HD1.out)
        have HNwq := hid (bel_keep HD1.out HN12.out)
        obtain ⟨wq, HWX⟩ : ∃ x, Hid (w12.drewN 1 = x) := ⟨_, rfl⟩
        have HWY := hid (show w12.drew = wq from HWX.out)
        rw [HWX.out] at HSwq HRwq HTwq HAwq HNwq
        rw [HWY.out]
        clear hHeld HS12 HR12 HT12 HA12 HN12 HD1
        refine wpAnyH_ready (rs := [2, 3]) (by kernel_rfl) (by simp) ?_
        refine AllReadyH.cons rfl (fun K hK => ?_) (AllReadyH.cons rfl (fun K hK => ?_) AllReadyH.nil)
        · as_aux_lemma =>
            obtain ⟨g, HGe⟩ : ∃ n, Hid (wq.heap.size = n) := ⟨_, rfl⟩
            have HWB := hid (below_walk wq (.cells FF.toArray 30))
            have HSwa := hid (HSwq.out.below HWB.out)
            have HRwa := hid (bel_keep HWB.out HRwq.out)
            have HNwa := hid (bel_keep HWB.out HNwq.out)
            have HTwa := hid (HTwq.out.below HB.out HWB.out)
            have HOwa := hid (show OFs (wq.alloc (.cells FF.toArray 30)) w.heap.size (.slice (some ⟨g, 0, none⟩) 1 1) [(F, va)] by rw [← HFF.out, ← HGe.out]; exact ofs_one wq w.heap.size F va HTwq.out.bl.size HRG.out HAwq.out)
            refine step_bs_frame (by rfl) (.tmp 80) (by rfl) FF (by rfl) HF42.out g HGe.out ?_
            refine hK.out _ _ ⟨by rw [← HSC.out]; exact HSwa.out.blk, HNwa.out⟩ (fun hHeld => ?_)
            clear hK K
            try simp only [Act.put, List.getElem_toArray, List.getElem_cons_zero, List.getElem_cons_succ, List.setIfInBounds_toArray, List.set_cons_succ, List.set_cons_zero]
            generalize wq.alloc (.cells FF.toArray 30) = wa at HSwa HRwa HNwa HTwa HOwa hHeld ⊢
            refine wpAnyH_ready (rs := [3]) (by kernel_rfl) (by simp) ?_
            refine AllReadyH.cons rfl (fun K hK => ?_) AllReadyH.nil
            refine step_store_row (by rfl) 47 _ _ (by rfl) R SC (by rfl) (by rfl) 47 _ HRwa.out HSZ.out HOL.out HON2.out ?_
            intro wb h9
            have HSwb := hid (HSwa.out.far h9.grown (by have := HBR.out; omega) (own_block HSwa.out.own HRwa.out (by decide)) (own_block HSwa.out.szs HRwa.out (by decide)))
            have HNwb := hid (gb_blk HNwa.out h9.grown (by have := HPR.out; simpa using this))
            have HRwb := hid h9.blk
            have HTwb := hid (HTwa.out.blk HB.out HRwa.out HRW.out h9.grown (by decide) (by decide))
            have HOwb := hid (HOwa.out.gone h9.grown HRwa.out (by decide) (by decide))
            refine hK.out _ _ ⟨by rw [← HSC.out]; exact HSwb.out.blk, HNwb.out⟩ (fun hHeld => ?_)
            clear hK K h9
            try simp only [Act.put, List.getElem_toArray, List.getElem_cons_zero, List.getElem_cons_succ]
            refine wpAnyH_take (i := 4) (v := .slice (some ⟨g, 0, none⟩) 1 1) rfl (by kernel_rfl) (by kernel_rfl) (by kernel_rfl) (fun _ _ _ h => h) (Or.inl ⟨by rfl, fun W _ => by go_simp⟩) hHeld ?_
            simp only [Act.put, List.getElem_toArray, List.getElem_cons_zero, List.getElem_cons_succ, List.setIfInBounds_toArray, List.set_cons_succ, List.set_cons_zero]
            refine wpAnyH_done (by kernel_rfl) ?_ _
            simp only [noPanic]
            clear hHeld
            go_wp2
            refine ret_row2 4 5 47 rfl R rfl SC 47 HRwb.out _ Tryz.underlying47 rfl HSZ.out _ rfl rfl ?_
            rw [← HSC.out, HEQ.out]
            exact ⟨_, _, _, [(F, va)], rfl, HSwb.out.own, HSwb.out.szs, HOwb.out, rfl, HTwb.out⟩
        · as_aux_lemma =>
            refine step_store_row (by rfl) 47 _ _ (by rfl) R SC (by rfl) (by rfl) 47 _ HRwq.out HSZ.out HOL.out HON2.out ?_
            intro wa h9
            have HSwa := hid (HSwq.out.far h9.grown (by have := HBR.out; omega) (own_block HSwq.out.own HRwq.out (by decide)) (own_block HSwq.out.szs HRwq.out (by decide)))
            have HNwa := hid (gb_blk HNwq.out h9.grown (by have := HPR.out; simpa using this))
            have HRwa := hid h9.blk
            have HTwa := hid (HTwq.out.blk HB.out HRwq.out HRW.out h9.grown (by decide) (by decide))
            have HAwa := hid (own_far2 HAwq.out h9.grown (fun k e => by have := own_block HAwq.out HRwq.out (by decide); intro h; injection h with h; exact this (h ▸ e)))
            refine hK.out _ _ ⟨by rw [← HSC.out]; exact HSwa.out.blk, HNwa.out⟩ (fun hHeld => ?_)
            clear hK K h9
            try simp only [Act.put, List.getElem_toArray, List.getElem_cons_zero, List.getElem_cons_succ]
            refine wpAnyH_ready (rs := [2]) (by kernel_rfl) (by simp) ?_
            refine AllReadyH.cons rfl (fun K hK => ?_) AllReadyH.nil
            obtain ⟨g, HGe⟩ : ∃ n, Hid (wa.heap.size = n) := ⟨_, rfl⟩
            have HWB := hid (below_walk wa (.cells FF.toArray 30))
            have HSwb := hid (HSwa.out.below HWB.out)
            have HRwb := hid (bel_keep HWB.out HRwa.out)
            have HNwb := hid (bel_keep HWB.out HNwa.out)
            have HTwb := hid (HTwa.out.below HB.out HWB.out)
            have HOwb := hid (show OFs (wa.alloc (.cells FF.toArray 30)) w.heap.size (.slice (some ⟨g, 0, none⟩) 1 1) [(F, va)] by rw [← HFF.out, ← HGe.out]; exact ofs_one wa w.heap.size F va HTwa.out.bl.size HRG.out HAwa.out)
            refine step_bs_frame (by rfl) (.tmp 80) (by rfl) FF (by rfl) HF42.out g HGe.out ?_
            refine hK.out _ _ ⟨by rw [← HSC.out]; exact HSwb.out.blk, HNwb.out⟩ (fun hHeld => ?_)
            clear hK K
            try simp only [Act.put, List.getElem_toArray, List.getElem_cons_zero, List.getElem_cons_succ, List.setIfInBounds_toArray, List.set_cons_succ, List.set_cons_zero]
            generalize wa.alloc (.cells FF.toArray 30) = wb at HSwb HRwb HNwb HTwb HOwb hHeld ⊢
            refine wpAnyH_take (i := 4) (v := .slice (some ⟨g, 0, none⟩) 1 1) rfl (by kernel_rfl) (by kernel_rfl) (by kernel_rfl) (fun _ _ _ h => h) (Or.inl ⟨by rfl, fun W _ => by go_simp⟩) hHeld ?_
            simp only [Act.put, List.getElem_toArray, List.getElem_cons_zero, List.getElem_cons_succ, List.setIfInBounds_toArray, List.set_cons_succ, List.set_cons_zero]
            refine wpAnyH_done (by kernel_rfl) ?_ _
            simp only [noPanic]
            clear hHeld
            go_wp2
            refine ret_row2 4 5 47 rfl R rfl SC 47 HRwb.out _ Tryz.underlying47 rfl HSZ.out _ rfl rfl ?_
            rw [← HSC.out, HEQ.out]
            exact ⟨_, _, _, [(F, va)], rfl, HSwb.out.own, HSwb.out.szs, HOwb.out, rfl, HTwb.out⟩
      · as_aux_lemma =>
          have q4 : ((d1 : Int) != 0) = true := by simpa using hd
          have HEQ := hid (show takeC M s [c] = (⟨X, CA, s.whole, d1, IntKind.i64.wrap (FI + d2), s.szs⟩, []) by rw [HTK2.out, if_pos hd])
          obtain ⟨WT, HWT⟩ : ∃ n, Hid (IntKind.i64.wrap (FI + d2) = n) := ⟨_, rfl⟩
          have hwt : IntKind.i64.wrap (FI + d2) = WT := HWT.out
          rw [HWT.out] at HEQ
          clear hd HTK2 h0 h1
          have k1 := HS7.out.c1
          go_upto_region 13 with (first
            | (refine bd_row (by rfl) 33 #[(0, .tmp 59), (1, .tmp 62)] (by rfl) _ (by simp [Act.eval]) _ (built_ft _ _) ?_)
            | (refine st_fault8 (by rfl) _ _ (by rfl) HS7.out d1 WT (by rfl) (by rfl) ?_; intro w8 hs8 hw8))
          have HS8 := hid (show Sb w8 base B M (.slice a2 X.length c2) vs ⟨X, CA, s.whole, d1, WT, s.szs⟩ from hs8)
          have HR8 := hid (show w8.heap[R]? = some (.cells (sxC 0 (.slice none 0 0) (.slice none 0 0) zS).toArray 47 (0, 0)) by rw [hw8]; exact blk_two HR7.out (by have := HBR.out; omega))
          have HT8 := hid (show Tk w w8 base by rw [hw8]; exact HT7.out.two HB.out HS7.out.blk HLW.out (by decide) (by decide))
          clear hs8 hw8 HS7 HR7 HT7 k1 hwt
          have HSZ8 := hid (show (Tryz.prog.info? 47).map (·.size) = some (sxC M (.slice a2 X.length c2) vs ⟨X, CA, s.whole, d1, WT, s.szs⟩).length from strmSize)
          have HON8 := hid HS8.out.one
          have HBK8 := hid HS8.out.blk
          obtain ⟨SC, HSC⟩ : ∃ l, Hid (sxC M (.slice a2 X.length c2) vs ⟨X, CA, s.whole, d1, WT, s.szs⟩ = l) := ⟨_, rfl⟩
          have HOL := hid (show (sxC 0 (.slice none 0 0) (.slice none 0 0) zS).toArray.size = SC.length by rw [← HSC.out]; rfl)
          rw [HSC.out] at HSZ8 HON8 HBK8
          go_wp2_with (first
            | (refine ld_row (by rfl) 47 (.tmp 2) (by rfl) B (by rfl) SC 47 HBK8.out _ Tryz.underlying47 rfl HSZ8.out ?_)
            | (refine st_row (by rfl) 47 _ _ (by rfl) R SC (by rfl) (by rfl) 47 _ HR8.out HSZ8.out HOL.out HON8.out ?_; intro w9 hw9))
          refine ret_row2 4 5 47 rfl R rfl SC 47 hw9.blk _ Tryz.underlying47 rfl HSZ8.out _ rfl rfl ?_
          have HS9 := HS8.out.far hw9.grown (by have := HBR.out; omega) (own_block HS8.out.own HR8.out (by decide)) (own_block HS8.out.szs HR8.out (by decide))
          have HT9 := HT8.out.blk HB.out HR8.out HRW.out hw9.grown (by decide) (by decide)
          rw [← HSC.out, HEQ.out]
          exact ⟨_, _, .slice none 0 0, [], rfl, HS9.own, HS9.szs, OFs.nil _ _, rfl, HT9⟩
  · as_aux_lemma =>
      have q4 : (e5 != 0) = true := by simpa using he
      have HEQ := hid (show takeC M s [c] = (⟨X, CA, s.whole, e5, FI, s.szs⟩, []) by rw [HTK.out, if_pos he])
      clear he HTK h0 h1
      go_upto_region 7 with (first
        | (refine bd_row (by rfl) 33 #[(0, .tmp 35), (1, .tmp 36)] (by rfl) _ (by simp [Act.eval]) _ (built_ft _ _) ?_)
        | (refine st_fault8 (by rfl) _ _ (by rfl) HS5.out e5 FI (by rfl) (by rfl) ?_; intro w8 hs8 hw8))
      have HS8 := hid (show Sb w8 base B M (.slice a2 X.length c2) vs ⟨X, CA, s.whole, e5, FI, s.szs⟩ from hs8)
      have HR8 := hid (show w8.heap[R]? = some (.cells (sxC 0 (.slice none 0 0) (.slice none 0 0) zS).toArray 47 (0, 0)) by rw [hw8]; exact blk_two HR5.out (by have := HBR.out; omega))
      have HT8 := hid (show Tk w w8 base by rw [hw8]; exact HT5.out.two HB.out HS5.out.blk HLW.out (by decide) (by decide))
      clear hs8 hw8 HS5 HR5 HT5
      have HSZ8 := hid (show (Tryz.prog.info? 47).map (·.size) = some (sxC M (.slice a2 X.length c2) vs ⟨X, CA, s.whole, e5, FI, s.szs⟩).length from strmSize)
      have HON8 := hid HS8.out.one
      have HBK8 := hid HS8.out.blk
      obtain ⟨SC, HSC⟩ : ∃ l, Hid (sxC M (.slice a2 X.length c2) vs ⟨X, CA, s.whole, e5, FI, s.szs⟩ = l) := ⟨_, rfl⟩
      have HOL := hid (show (sxC 0 (.slice none 0 0) (.slice none 0 0) zS).toArray.size = SC.length by rw [← HSC.out]; rfl)
      rw [HSC.out] at HSZ8 HON8 HBK8
      go_wp2_with (first
        | (refine ld_row (by rfl) 47 (.tmp 2) (by rfl) B (by rfl) SC 47 HBK8.out _ Tryz.underlying47 rfl HSZ8.out ?_)
        | (refine st_row (by rfl) 47 _ _ (by rfl) R SC (by rfl) (by rfl) 47 _ HR8.out HSZ8.out HOL.out HON8.out ?_; intro w9 hw9))
      refine ret_row2 4 5 47 rfl R rfl SC 47 hw9.blk _ Tryz.underlying47 rfl HSZ8.out _ rfl rfl ?_
      have HS9 := HS8.out.far hw9.grown (by have := HBR.out; omega) (own_block HS8.out.own HR8.out (by decide)) (own_block HS8.out.szs HR8.out (by decide))
      have HT9 := HT8.out.blk HB.out HR8.out HRW.out hw9.grown (by decide) (by decide)
      rw [← HSC.out, HEQ.out]
      exact ⟨_, _, .slice none 0 0, [], rfl, HS9.own, HS9.szs, OFs.nil _ _, rfl, HT9⟩
end Go.Proofs.YtiibhccbbpgehaaGreat

/- The document's Copy, End and Want. -/
namespace Go.Proofs.YtiibhccbbpgehaaGreat
open Go.RowKit Go.BigFrame

theorem own_grow {w w' : World} {base base2 n2 : Nat} {e e2 : TypeId} {size size2 : Nat} {v v2 : Value} {n : Nat} {xs xs2 : List Value} (h : w.ownsRow base e size v n xs) (g : w.grownBy w' v2.ownBlock) (h2 : w.ownsRow base2 e2 size2 v2 n2 xs2) (he : e ≠ e2) : w'.ownsRow base e size v n xs :=
  own_far2 h g (fun _ e1 e3 => own_apart h h2 he e1 e3)
theorem own_set {w : World} {base b i : Nat} {e ty : TypeId} {size : Nat} {v u : Value} {n : Nat} {xs : List Value} {cs : Array Value} (h : w.ownsRow base e size v n xs) (hb : w.heap[b]? = some (.cells cs ty (0, 0))) (he : e ≠ ty) : (w.setCell ⟨b, i, none⟩ u).ownsRow base e size v n xs :=
  own_far2 h (gb_set w ⟨b, i, none⟩ u) (fun _ e1 e3 => own_block h hb he (by simpa [← e3] using e1))

set_option maxRecDepth 100000 in
set_option maxHeartbeats 4000000 in
theorem rcopy8_any (s : Sx) (vr vs : Value) (w : World) (b2 M : Nat) (ho : OwnB w b2 vr s.r) (hz : OwnI w b2 vs s.szs) (hl : s.r.length ≤ 4000000) (hsz : s.szs.length ≤ 100000000000) :
    Calls Tryz.prog 52 #[.agg (sxC M vr vs s).toArray] w fun e w' => ∃ vr' vs', e = .returned (.agg (sxC M vr' vs' s).toArray) ∧ OwnB w' w.heap.size vr' s.r ∧ OwnI w' w.heap.size vs' s.szs ∧ Below w.heap.size w w' := by
  obtain ⟨ar, cr, er⟩ := ho.shape
  obtain ⟨az, cz, ez⟩ := hz.shape
  have HO := hid ho
  have HI := hid hz
  have HW1 := hid (show Below w.heap.size w ((w.alloc (.cells (sxC M vr vs s).toArray 47)).alloc (.cells #[.int .i64 0, .slice none 0 0, .int .i64 0, .int .i64 0, .int .i64 0, .int .i64 0, .slice none 0 0] 47)) from below_walk2 w _ _)
  have HNN := hid (show ((w.alloc (.cells (sxC M vr vs s).toArray 47)).alloc (.cells #[.int .i64 0, .slice none 0 0, .int .i64 0, .int .i64 0, .int .i64 0, .int .i64 0, .slice none 0 0] 47)).heap[w.heap.size]? = some (.cells (sxC M vr vs s).toArray 47 (0, 0)) ∧ ((w.alloc (.cells (sxC M vr vs s).toArray 47)).alloc (.cells #[.int .i64 0, .slice none 0 0, .int .i64 0, .int .i64 0, .int .i64 0, .int .i64 0, .slice none 0 0] 47)).heap[w.heap.size + 1]? = some (.cells (sxC 0 (.slice none 0 0) (.slice none 0 0) zS).toArray 47 (0, 0)) from hp_two w _ _)
  have HZ : Hid ((w.alloc (.cells (sxC M vr vs s).toArray 47)).heap.size = w.heap.size + 1) := hid (by simp)
  clear ho hz
  go_enter Tryz.func52, Tryz.ntmps52
  go_upto_region 1 with (first
    | (refine bx_row (by rfl) 47 _ (by rfl) _ (by rfl) ?_)
    | (refine al_row (by rfl) 47 (by rfl) _ zeroStrm ?_))
  try rw [HZ.out]
  obtain ⟨B, HBe⟩ : ∃ n, Hid (w.heap.size = n) := ⟨_, rfl⟩
  obtain ⟨R, HRe⟩ : ∃ n, Hid (B + 1 = n) := ⟨_, rfl⟩
  have HBR := hid (show R = B + 1 from HRe.out.symm)
  rw [HBe.out, HRe.out] at HNN ⊢
  generalize (w.alloc (.cells (sxC M vr vs s).toArray 47)).alloc (.cells #[.int .i64 0, .slice none 0 0, .int .i64 0, .int .i64 0, .int .i64 0, .int .i64 0, .slice none 0 0] 47) = w1 at HW1 HNN ⊢
  have HK1 := hid HNN.out.1
  have HR1 := hid HNN.out.2
  have HQ1 := hid HW1.out
  have HO1 := hid (HO.out.below HQ1.out)
  have HI1 := hid (own_below HI.out HQ1.out)
  clear HNN HW1 HZ HO HI
  have HW2 := hid (below_walk w1 (.cells #[] 5))
  have HK2 := hid (bel_keep HW2.out HK1.out)
  have HR2 := hid (bel_keep HW2.out HR1.out)
  have HQ2 := hid (below_then HQ1.out HW2.out)
  have HO2 := hid (HO1.out.below HW2.out)
  have HI2 := hid (own_below HI1.out HW2.out)
  have HE2 := hid (show OwnB (w1.alloc (.cells #[] 5)) w.heap.size (.slice (some ⟨w1.heap.size, 0, none⟩) 0 0) [] from World.ownsRow_lit w1 #[] 0 HQ1.out.size (by decide) rfl)
  have c1 : (w1.alloc (.cells #[] 5)).cell? ⟨B, 1, none⟩ = some vr := (cell_of_row _ B 1 _ _ _ HK2.out).trans rfl
  have HSZ9 := hid HQ2.out.size
  subst er
  go_wp2_with (first | (at_builtin; refine app_bytes (by rfl) _ _ rfl w.heap.size _ [] rfl HE2.out _ _ rfl (HO2.out.src (by omega)) (by simp; omega) HSZ9.out ?_))
  intro v2 w2 ho2 hg2 hp2
  try rw [List.nil_append] at ho2
  have HKb := hid (gb_blk HK2.out hg2 (own_block HE2.out HK2.out (by decide)))
  have HK3 := hid (show (w2.setCell ⟨B, 1, none⟩ v2).heap[B]? = some (.cells (sxC M v2 vs s).toArray 47 (0, 0)) by rw [blk_set HKb.out]; rfl)
  have HR3 := hid (gb_blk (gb_blk HR2.out hg2 (own_block HE2.out HR2.out (by decide))) (gb_set w2 ⟨B, 1, none⟩ v2) (by have := HBR.out; simp; omega))
  have HO3 := hid (show OwnB (w2.setCell ⟨B, 1, none⟩ v2) w.heap.size v2 s.r from own_set ho2 HKb.out (by decide))
  have HI3 := hid (show OwnI (w2.setCell ⟨B, 1, none⟩ v2) b2 vs s.szs from own_set (own_grow HI2.out hg2 HE2.out (by decide)) HKb.out (by decide))
  have HQ3 := hid (Below.of_gb (Below.of_gbo HQ2.out hg2 (fun k e => (World.ownsRow.lt HE2.out k e).1)) (gb_set w2 ⟨B, 1, none⟩ v2) (by have := HBe.out; show w.heap.size ≤ B; omega))
  have k0 : w2.cell? ⟨B, 1, none⟩ = some (.slice ar s.r.length cr) := (cell_of_row _ B 1 _ _ _ HKb.out).trans rfl
  have k1 : w2.frozen? ⟨B, 1, none⟩ = false := by simp [World.frozen?, HKb.out]
  obtain ⟨a2, c2, e2⟩ := ho2.shape
  subst e2
  clear ho2 hg2 hp2 c1 HK1 HK2 HR1 HR2 HQ1 HQ2 HO1 HO2 HI1 HI2 HE2 HW2 HKb HSZ9
  go_upto_region 2 with fail
  generalize w2.setCell ⟨B, 1, none⟩ (.slice a2 s.r.length c2) = w3 at HK3 HR3 HO3 HI3 HQ3 ⊢
  clear k0 k1
  have HW4 := hid (below_walk w3 (.cells #[] 3))
  have HK4 := hid (bel_keep HW4.out HK3.out)
  have HR4 := hid (bel_keep HW4.out HR3.out)
  have HQ4 := hid (below_then HQ3.out HW4.out)
  have HO4 := hid (HO3.out.below HW4.out)
  have HI4 := hid (own_below HI3.out HW4.out)
  have HE4 := hid (show OwnI (w3.alloc (.cells #[] 3)) w.heap.size (.slice (some ⟨w3.heap.size, 0, none⟩) 0 0) [] from World.ownsRow_lit w3 #[] 0 HQ3.out.size (by decide) rfl)
  have c1 : (w3.alloc (.cells #[] 3)).cell? ⟨B, 6, none⟩ = some vs := (cell_of_row _ B 6 _ _ _ HK4.out).trans rfl
  have HSZ9 := hid HQ4.out.size
  subst ez
  go_wp2_with (first | (at_builtin; refine app_ints (by rfl) _ _ rfl w.heap.size _ [] rfl HE4.out _ s.szs rfl ⟨b2, HI4.out⟩ (by simp; omega) HSZ9.out ?_))
  intro v5 w5 ho5 hg5 hp5
  try rw [List.nil_append] at ho5
  have HKb := hid (gb_blk HK4.out hg5 (own_block HE4.out HK4.out (by decide)))
  have HK6 := hid (show (w5.setCell ⟨B, 6, none⟩ v5).heap[B]? = some (.cells (sxC M (.slice a2 s.r.length c2) v5 s).toArray 47 (0, 0)) by rw [blk_set HKb.out]; rfl)
  have HR6 := hid (gb_blk (gb_blk HR4.out hg5 (own_block HE4.out HR4.out (by decide))) (gb_set w5 ⟨B, 6, none⟩ v5) (by have := HBR.out; simp; omega))
  have HO6 := hid (show OwnB (w5.setCell ⟨B, 6, none⟩ v5) w.heap.size (.slice a2 s.r.length c2) s.r from own_set (own_grow HO4.out hg5 HE4.out (by decide)) HKb.out (by decide))
  have HI6 := hid (show OwnI (w5.setCell ⟨B, 6, none⟩ v5) w.heap.size v5 s.szs from own_set ho5 HKb.out (by decide))
  have HQ6 := hid (Below.of_gb (Below.of_gbo HQ4.out hg5 (fun k e => (World.ownsRow.lt HE4.out k e).1)) (gb_set w5 ⟨B, 6, none⟩ v5) (by have := HBe.out; show w.heap.size ≤ B; omega))
  have k0 : w5.cell? ⟨B, 6, none⟩ = some (.slice az s.szs.length cz) := (cell_of_row _ B 6 _ _ _ HKb.out).trans rfl
  have k1 : w5.frozen? ⟨B, 6, none⟩ = false := by simp [World.frozen?, HKb.out]
  obtain ⟨a5, c5, e5⟩ := ho5.shape
  subst e5
  clear ho5 hg5 hp5 c1 HK3 HK4 HR3 HR4 HQ3 HQ4 HO3 HO4 HI3 HI4 HE4 HW4 HKb HSZ9
  go_upto_region 3 with fail
  generalize w5.setCell ⟨B, 6, none⟩ (.slice a5 s.szs.length c5) = w6 at HK6 HR6 HO6 HI6 HQ6 ⊢
  clear k0 k1
  have HSZ := hid (show (Tryz.prog.info? 47).map (·.size) = some (sxC M (.slice a2 s.r.length c2) (.slice a5 s.szs.length c5) s).length from strmSize)
  have HON := hid (sxC_one (M := M) (vr := .slice a2 s.r.length c2) (vs := .slice a5 s.szs.length c5) (s := s) rfl rfl)
  obtain ⟨SC, HSC⟩ : ∃ l, Hid (sxC M (.slice a2 s.r.length c2) (.slice a5 s.szs.length c5) s = l) := ⟨_, rfl⟩
  have HOL := hid (show (sxC 0 (.slice none 0 0) (.slice none 0 0) zS).toArray.size = SC.length by rw [← HSC.out]; rfl)
  rw [HSC.out] at HSZ HON HK6
  go_wp2_with (first
    | (refine ld_row (by rfl) 47 (.tmp 1) (by rfl) B (by rfl) SC 47 HK6.out _ Tryz.underlying47 rfl HSZ.out ?_)
    | (refine st_row (by rfl) 47 _ _ (by rfl) R SC (by rfl) (by rfl) 47 _ HR6.out HSZ.out HOL.out HON.out ?_; intro w9 hw9))
  refine ret_row 2 47 rfl R rfl SC 47 hw9.blk _ Tryz.underlying47 rfl HSZ.out rfl ?_
  exact ⟨_, _, by rw [HSC.out], own_far2 HO6.out hw9.grown (fun _ e h => own_block HO6.out HR6.out (by decide) (h ▸ e)), own_far2 HI6.out hw9.grown (fun _ e h => own_block HI6.out HR6.out (by decide) (h ▸ e)), Below.of_gb HQ6.out hw9.grown (by have := HBe.out; have := HBR.out; omega)⟩

set_option maxRecDepth 100000 in
set_option maxHeartbeats 2000000 in
theorem rend8_any (M : Nat) (s : Sx) (vr vs : Value) (w : World) (hs : Src w vr s.r) (hg : s.why = 0 → s.wat = 0) :
    Calls Tryz.prog 47 #[.agg (sxC M vr vs s).toArray] w fun e w' => e = .returned (.agg #[.int .i64 (stopP s).1, .int .i64 (stopP s).2]) ∧ Below w.heap.size w w' := by
  obtain ⟨ar, cr, rfl⟩ := src_shape hs
  have HQ := hid (show Below w.heap.size w ((w.alloc (.cells (sxC M (.slice ar s.r.length cr) vs s).toArray 47)).alloc (.cells #[.int .i64 0, .int .i64 0] 33)) from below_walk2 w _ _)
  have HNN := hid (show ((w.alloc (.cells (sxC M (.slice ar s.r.length cr) vs s).toArray 47)).alloc (.cells #[.int .i64 0, .int .i64 0] 33)).heap[w.heap.size]? = some (.cells (sxC M (.slice ar s.r.length cr) vs s).toArray 47 (0, 0)) ∧ ((w.alloc (.cells (sxC M (.slice ar s.r.length cr) vs s).toArray 47)).alloc (.cells #[.int .i64 0, .int .i64 0] 33)).heap[w.heap.size + 1]? = some (.cells #[.int .i64 0, .int .i64 0] 33 (0, 0)) from hp_two w _ _)
  have HZ : Hid ((w.alloc (.cells (sxC M (.slice ar s.r.length cr) vs s).toArray 47)).heap.size = w.heap.size + 1) := hid (by simp)
  have HGW := hid hg
  clear hs hg
  go_enter Tryz.func47, Tryz.ntmps47
  go_upto_region 1 with (first
    | (refine bx_row (by rfl) 47 _ (by rfl) _ (by rfl) ?_)
    | (refine al_row (by rfl) 33 (by rfl) _ zeroFault ?_))
  try rw [HZ.out]
  obtain ⟨B, HBe⟩ : ∃ n, Hid (w.heap.size = n) := ⟨_, rfl⟩
  obtain ⟨R, HRe⟩ : ∃ n, Hid (B + 1 = n) := ⟨_, rfl⟩
  have HRL := hid (show w.heap.size ≤ R by have := HRe.out; have := HBe.out; omega)
  rw [HBe.out, HRe.out] at HNN ⊢
  generalize (w.alloc (.cells (sxC M (.slice ar s.r.length cr) vs s).toArray 47)).alloc (.cells #[.int .i64 0, .int .i64 0] 33) = w1 at HQ HNN ⊢
  have HK1 := hid HNN.out.1
  have HR1 := hid HNN.out.2
  have c1 : w1.cell? ⟨B, 1, none⟩ = some (.slice ar s.r.length cr) := (cell_of_row _ B 1 _ _ _ HK1.out).trans rfl
  have c2 : w1.cell? ⟨B, 2, none⟩ = some (.int .i64 (s.came : Int)) := (cell_of_row _ B 2 _ _ _ HK1.out).trans rfl
  have c4 : w1.cell? ⟨B, 4, none⟩ = some (.int .i64 s.why) := (cell_of_row _ B 4 _ _ _ HK1.out).trans rfl
  have c5 : w1.cell? ⟨B, 5, none⟩ = some (.int .i64 s.wat) := (cell_of_row _ B 5 _ _ _ HK1.out).trans rfl
  clear HNN HZ
  obtain ⟨y, HY⟩ : ∃ y, Hid (s.why = y) := ⟨_, rfl⟩
  obtain ⟨t, HTt⟩ : ∃ y, Hid (s.wat = y) := ⟨_, rfl⟩
  obtain ⟨ca, HCa⟩ : ∃ n, Hid (s.came = n) := ⟨_, rfl⟩
  obtain ⟨L, HL⟩ : ∃ n, Hid (s.r.length = n) := ⟨_, rfl⟩
  have HSP := hid (show stopP s = if y ≠ 0 then (y, t) else if 0 < L then (4, (ca : Int)) else (0, 0) by unfold stopP; rw [HY.out, HTt.out, HCa.out, HL.out])
  rw [HY.out] at c4
  rw [HTt.out] at c5
  rw [HCa.out] at c2
  rw [HL.out] at c1
  have HG := hid (show y = 0 → t = 0 from fun h => by rw [← HTt.out]; exact HGW.out (HY.out.trans h))
  clear HGW
  by_cases hy : y = 0
  · have ht := HG.out hy
    subst hy ht
    have n1 : ∀ W, (binOp .eql 33 (.agg #[.int .i64 0, .int .i64 0]) (.agg #[.int .i64 0, .int .i64 0])).run Tryz.prog W = .ok (.bool true) W := fun W => fault_eql 0 0 0 0 W
    by_cases hl : 0 < L
    · have hl2 : (0 : Int) < (L : Int) := by omega
      have HE := hid (show stopP s = (4, (ca : Int)) by rw [HSP.out, if_neg (by simp), if_pos hl])
      clear hl
      go_wp2_with (first
        | (refine bd_row (by rfl) 33 #[] (by rfl) _ (by simp) _ built_fz ?_)
        | (refine bd_row (by rfl) 33 #[(0, .const (.int .i64 4)), (1, .tmp 14)] (by rfl) _ (by simp [Act.eval]) _ (built_ft _ _) ?_)
        | (refine st_row (by rfl) 33 _ _ (by rfl) R [Value.int .i64 4, .int .i64 (ca : Int)] (by rfl) (by rfl) 33 _ HR1.out faultSize rfl (fault_one _ _) ?_; intro w9 hw9))
      refine ret_row 2 33 rfl R rfl [Value.int .i64 4, .int .i64 (ca : Int)] 33 hw9.blk _ Tryz.underlying33 rfl faultSize rfl ?_
      exact ⟨by rw [HE.out], Below.of_gb HQ.out hw9.grown HRL.out⟩
    · have hl0 : L = 0 := by omega
      subst hl0
      have HE := hid (show stopP s = (0, 0) by rw [HSP.out, if_neg (by simp), if_neg hl])
      clear hl
      go_wp2_with (first
        | (refine bd_row (by rfl) 33 #[] (by rfl) _ (by simp) _ built_fz ?_)
        | (refine st_row (by rfl) 33 _ _ (by rfl) R [Value.int .i64 0, .int .i64 0] (by rfl) (by rfl) 33 _ HR1.out faultSize rfl (fault_one _ _) ?_; intro w9 hw9))
      refine ret_row 2 33 rfl R rfl [Value.int .i64 0, .int .i64 0] 33 hw9.blk _ Tryz.underlying33 rfl faultSize rfl ?_
      exact ⟨by rw [HE.out], Below.of_gb HQ.out hw9.grown HRL.out⟩
  · have n1 : ∀ W, (binOp .eql 33 (.agg #[.int .i64 y, .int .i64 t]) (.agg #[.int .i64 0, .int .i64 0])).run Tryz.prog W = .ok (.bool false) W := fun W => by rw [fault_eql]; simp [hy]
    have HE := hid (show stopP s = (y, t) by rw [HSP.out, if_pos hy])
    clear hy
    go_wp2_with (first
      | (refine bd_row (by rfl) 33 #[] (by rfl) _ (by simp) _ built_fz ?_)
      | (refine st_row (by rfl) 33 _ _ (by rfl) R [Value.int .i64 y, .int .i64 t] (by rfl) (by rfl) 33 _ HR1.out faultSize rfl (fault_one _ _) ?_; intro w9 hw9))
    refine ret_row 2 33 rfl R rfl [Value.int .i64 y, .int .i64 t] 33 hw9.blk _ Tryz.underlying33 rfl faultSize rfl ?_
    exact ⟨by rw [HE.out], Below.of_gb HQ.out hw9.grown HRL.out⟩

end Go.Proofs.YtiibhccbbpgehaaGreat
