/- The document's reader: Raw, Byte, Bool, Count. -/
import Derived.Test.YtggmgbdofjhkdaaRefB
import Derived.StillTailTactics
namespace Go.Proofs.Ytggmgbdofjhkdaa
open Go.RowKit

/-- how bytes of the call's own are cut in their midst -/
theorem cut_mid {w : World} {base : Nat} {ad : Option Addr} {cap : Nat} {bs : List UInt8} (h : OwnB w base (.slice ad bs.length cap) bs) (hbl : bs.length ≤ 140737488355327) (a m : Nat) (hm : a + m ≤ bs.length) :
    ∃ vx, Src w vx ((bs.drop a).take m) ∧ vx.ownBlock = ad.map (·.block) ∧ (∀ W, (Instr.slice 23 (.slice ad bs.length cap) (some (.int .i64 (a : Int))) (some (.int .i64 ((a : Int) + (m : Int)))) none).run Try.prog W = .ok vx W) := by
  rcases h.forms with ⟨h1, rfl⟩ | ⟨g, cap', hv, _, hlt, h1, h2, _, hc⟩
  · simp at hm h1
    obtain ⟨rfl, rfl⟩ := hm
    obtain ⟨rfl, rfl⟩ := h1
    exact ⟨.slice none 0 0, ⟨by simp, Or.inl ⟨rfl, by simp⟩⟩, rfl, fun W => by go_simp⟩
  · simp only [Value.slice.injEq] at hv
    obtain ⟨rfl, _, rfl⟩ := hv
    have hlen : ((bs.drop a).take m).length = m := by simp; omega
    have hk1 : (a : Int) + (m : Int) ≤ (cap : Int) := by omega
    have hk0 : 0 ≤ (a : Int) + (m : Int) := by omega
    have hk2 : (a : Int) ≤ max ((a : Int) + (m : Int)) 0 := by omega
    have ht : ((a : Int) + (m : Int)).toNat - a = m := by omega
    refine ⟨.slice (if cap = a then some ⟨g, 0, none⟩ else some ⟨g, a, none⟩) m (cap - a), ?_, by split <;> rfl, fun W => by go_simp; intro hx; exact absurd hx (by omega)⟩
    refine ⟨by omega, Or.inr ?_⟩
    by_cases hca : cap = a
    · obtain rfl : m = 0 := by omega
      rw [if_pos hca]
      exact ⟨_, _, by rw [hlen], by omega, by omega, fun h => by omega, fun j hj => by rw [hlen] at hj; omega⟩
    · rw [if_neg hca]
      refine ⟨⟨g, a, none⟩, _, by rw [hlen], by omega, by omega, fun _ => hlt, fun j hj => ?_⟩
      rw [hlen] at hj
      have ha : (⟨g, a, none⟩ : Addr).add j = ⟨g, a + j, none⟩ := by
        by_cases h0 : j = 0
        · subst h0; simp [Addr.add]
        · simp [Addr.add, h0]
      rw [ha, hc (a + j) (by omega)]
      simp [List.getD_eq_getElem?_getD, hj]

section
variable {w : World} {base b : Nat} {v : Value} {bs : List UInt8} {a : Nat} {why wat : Int}

set_option maxHeartbeats 1000000 in
theorem qraw_over (m : Int) (h : Qd w base b v bs a why wat) (hw : why ≠ 0) :
    Calls Try.prog 53 #[.pointer (some ⟨b, 0, none⟩), .int .i64 m] w fun e w' => e = .returned (.slice none 0 0) ∧ w' = w := by
  have h2 := h.c2
  have hb : (why != 0) = true := by simpa using hw
  clear h
  go_enter Try.func53, Try.ntmps53
  go_wp2
  go_ret
  exact ⟨rfl, rfl⟩

set_option maxHeartbeats 1000000 in
theorem qraw_arg (m : Int) (h : Qd w base b v bs a 0 wat) (hm : m < 0) :
    Calls Try.prog 53 #[.pointer (some ⟨b, 0, none⟩), .int .i64 m] w fun e w' => e = .returned (.slice none 0 0) ∧ Qd w' base b v bs a 1 a ∧ w.grownBy w' (some b) := by
  have h1 := h.c1
  have h2 := h.c2
  have HR := hid h
  clear h
  go_enter Try.func53, Try.ntmps53
  go_wp2_with fail
  refine (qfail_any HR.out _ _).mono ?_
  rintro e w1 ⟨rfl, hq, hg⟩
  have HQ := hid hq
  have HG := hid hg
  clear hq hg HR
  go_wp2_with fail
  go_ret
  exact ⟨rfl, HQ.out, HG.out⟩

set_option maxHeartbeats 1000000 in
theorem qraw_short (m : Nat) (h : Qd w base b v bs a 0 wat) (hm : bs.length - a < m) :
    Calls Try.prog 53 #[.pointer (some ⟨b, 0, none⟩), .int .i64 m] w fun e w' => e = .returned (.slice none 0 0) ∧ Qd w' base b v bs a 4 a ∧ w.grownBy w' (some b) := by
  have hl := h.own.len
  unfold maxLen at hl
  have hle := h.le
  obtain ⟨ad, cap, rfl⟩ := h.own.shape
  have h0 := h.c0
  have h1 := h.c1
  have h2 := h.c2
  have HR := hid h
  have hm' : (bs.length : Int) - (a : Int) < (m : Int) := by omega
  clear h
  go_enter Try.func53, Try.ntmps53
  go_wp2_with fail
  go_quiet (fail)
  go_wp2_with fail
  refine (qfail_any (HR.out.drewN nq) _ _).mono ?_
  rintro e w1 ⟨rfl, hq, hg⟩
  have HQ := hid hq
  have HG := hid (gb_trans (gb_drewN w nq _) hg)
  clear hq hg HR
  go_wp2_with fail
  go_ret
  exact ⟨rfl, HQ.out, HG.out⟩

set_option maxRecDepth 100000 in
set_option maxHeartbeats 2000000 in
theorem qraw_ok (m : Nat) (h : Qd w base b v bs a 0 wat) (hbl : bs.length ≤ 140737488355327) (hm : a + m ≤ bs.length) :
    Calls Try.prog 53 #[.pointer (some ⟨b, 0, none⟩), .int .i64 m] w fun e w' => ∃ v', e = .returned v' ∧ OwnB w' w.heap.size v' ((bs.drop a).take m) ∧ Qd w' base b v bs (a + m) 0 wat ∧ w.grownBy w' (some b) := by
  obtain ⟨ad, cap, rfl⟩ := h.own.shape
  have h0 := h.c0
  have h1 := h.c1
  have h2 := h.c2
  have f1 := h.fz 1
  have HR := hid h
  have hm' : ¬ (bs.length : Int) - (a : Int) < (m : Int) := by omega
  clear h
  go_enter Try.func53, Try.ntmps53
  go_wp2_with fail
  go_quiet (fail)
  go_wp2_with fail
  have HQ := hid (HR.out.drewN nq |>.setAt (a + m) hm)
  rw [Int.natCast_add] at HQ
  have HG := hid (gb_trans (gb_drewN w nq _) (gb_set (w.drewN nq) ⟨b, 1, none⟩ (.int .i64 ((a : Int) + (m : Int)))))
  generalize (w.drewN nq).setCell ⟨b, 1, none⟩ (.int .i64 ((a : Int) + (m : Int))) = W at *
  clear h0 h1 h2 f1 HR
  have HQD := hid (HQ.out.drew)
  have HGD := hid (gb_trans HG.out (gb_drew W _))
  obtain ⟨X, HX⟩ : ∃ X : World, Hid (X = W.drew) := ⟨_, rfl⟩
  rw [← HX.out] at HQD HGD
  have h0 := HQD.out.c0
  have h1 := HQD.out.c1
  obtain ⟨vx, hvx, hob, hcut⟩ := cut_mid HQD.out.own hbl a m hm
  have HVX := hid hvx
  have HOB := hid hob
  clear hvx hob HQ HG
  have e1 : (a : Int) + (m : Int) - (m : Int) = (a : Int) := by omega
  have e2 : ((a : Int) + (m : Int)) ≤ 140737488355327 := by omega
  have e3 : IntKind.i64.wrap (a : Int) = (a : Int) := by rw [IntKind.wrap_i64]; omega
  rw [Int.natCast_add] at h1
  refine wp_region_still_tail 15 (by kernel_rfl) (by kernel_rfl) ?_
  simp only [List.take_succ_cons, List.take_zero, List.drop_succ_cons, List.drop_zero]
  rw [show ({ W with drawn := W.drawn + 1 } : World) = X from HX.out.symm]
  repeat still_step
  refine wpStill_nil ?_
  go_wp2_with (at_builtin; refine app_src rfl _ _ rfl X.heap.size _ _ rfl (OwnB.nil _ _) _ _ rfl HVX.out ?c1 (Nat.le_refl _) ?_)
  case c1 => omega
  intro v1 w1 ho1 hg1
  have HO1 := hid (by simpa using ho1 : OwnB w1 X.heap.size v1 ((bs.drop a).take m))
  have HB1 := hid (gb_below hg1)
  clear ho1 hg1
  go_wp2_with fail
  go_ret
  exact ⟨_, rfl, HO1.out.le HGD.out.size, HQD.out.below HB1.out, gb_trans HGD.out (below_gb HB1.out _)⟩

theorem qraw_R (m : Int) (hbl : bs.length ≤ 140737488355327) (h : Qd w base b v bs a why wat) :
    Calls Try.prog 53 #[.pointer (some ⟨b, 0, none⟩), .int .i64 m] w fun e w' => ∃ v', e = .returned v' ∧ OwnB w' w.heap.size v' (rawF bs a why wat m).1 ∧ Qd w' base b v bs (rawF bs a why wat m).2.1 (rawF bs a why wat m).2.2.1 (rawF bs a why wat m).2.2.2 ∧ w.grownBy w' (some b) := by
  unfold rawF
  by_cases hw : why ≠ 0
  · rw [if_pos hw]
    refine (qraw_over m h hw).mono ?_
    rintro e w' ⟨rfl, rfl⟩
    exact ⟨_, rfl, OwnB.nil _ _, h, gb_refl _ _⟩
  · rw [if_neg hw]
    obtain rfl : why = 0 := by omega
    by_cases h0 : m < 0
    · rw [if_pos h0]
      refine (qraw_arg m h h0).mono ?_
      rintro e w' ⟨rfl, hr⟩
      exact ⟨_, rfl, OwnB.nil _ _, hr⟩
    · rw [if_neg h0]
      obtain ⟨k, rfl⟩ : ∃ k : Nat, m = k := ⟨m.toNat, by omega⟩
      simp only [Int.toNat_natCast]
      have hle := h.le
      by_cases hl : bs.length - a < k
      · rw [if_pos hl]
        refine (qraw_short k h hl).mono ?_
        rintro e w' ⟨rfl, hr⟩
        exact ⟨_, rfl, OwnB.nil _ _, hr⟩
      · rw [if_neg hl]
        exact qraw_ok k h hbl (by omega)

set_option maxHeartbeats 1000000 in
theorem qbyte_over (h : Qd w base b v bs a why wat) (hw : why ≠ 0) :
    Calls Try.prog 45 #[.pointer (some ⟨b, 0, none⟩)] w fun e w' => e = .returned (.int .u8 0) ∧ w' = w := by
  have HC := hid (qraw_over 1 h hw)
  clear h hw
  go_enter Try.func45, Try.ntmps45
  go_wp2_with fail
  refine Calls.mono HC.out ?_
  rintro e w1 ⟨rfl, rfl⟩
  go_wp2_with fail
  go_ret
  exact ⟨rfl, rfl⟩

set_option maxHeartbeats 1000000 in
theorem qbyte_none (h : Qd w base b v bs a 0 wat) (hl : ¬ a < bs.length) :
    Calls Try.prog 45 #[.pointer (some ⟨b, 0, none⟩)] w fun e w' => e = .returned (.int .u8 0) ∧ Qd w' base b v bs a 4 a ∧ w.grownBy w' (some b) := by
  have HC := hid (qraw_short 1 h (by omega))
  clear h hl
  go_enter Try.func45, Try.ntmps45
  go_wp2_with fail
  refine Calls.mono HC.out ?_
  rintro e w1 ⟨rfl, hq, hg⟩
  have HQ := hid hq
  have HG := hid hg
  clear hq hg
  go_wp2_with fail
  go_ret
  exact ⟨rfl, HQ.out, HG.out⟩

set_option maxHeartbeats 1000000 in
theorem qbyte_some (hbl : bs.length ≤ 140737488355327) (h : Qd w base b v bs a 0 wat) (hl : a < bs.length) :
    Calls Try.prog 45 #[.pointer (some ⟨b, 0, none⟩)] w fun e w' => e = .returned (.int .u8 (bs.getD a 0).toNat) ∧ Qd w' base b v bs (a + 1) 0 wat ∧ w.grownBy w' (some b) := by
  have HC := hid (qraw_ok 1 h hbl (by omega))
  have HE := hid (by rw [drop_cons hl]; rfl : (bs.drop a).take 1 = [bs.getD a 0])
  clear h hl
  generalize bs.getD a 0 = c at *
  go_enter Try.func45, Try.ntmps45
  go_wp2_with fail
  refine Calls.mono HC.out ?_
  rintro e w1 ⟨v', rfl, ho, hq, hg⟩
  rw [HE.out] at ho
  have HQ := hid hq
  have HG := hid hg
  clear hq hg HC
  rcases ho.forms with ⟨_, h0⟩ | ⟨g, cap, rfl, _, _, _, _, _, hc⟩
  · exact absurd h0 (by simp)
  have hc0 := hc 0 (by simp)
  simp at hc0
  clear ho hc
  go_wp2_with fail
  go_ret
  exact ⟨rfl, HQ.out, HG.out⟩

theorem qbyte_R (hbl : bs.length ≤ 140737488355327) (h : Qd w base b v bs a why wat) :
    Calls Try.prog 45 #[.pointer (some ⟨b, 0, none⟩)] w fun e w' => e = .returned (.int .u8 (byteF bs a why wat).1) ∧ Qd w' base b v bs (byteF bs a why wat).2.1 (byteF bs a why wat).2.2.1 (byteF bs a why wat).2.2.2 ∧ w.grownBy w' (some b) := by
  unfold byteF
  by_cases hw : why ≠ 0
  · rw [if_pos hw]
    refine (qbyte_over h hw).mono ?_
    rintro e w' ⟨rfl, rfl⟩
    exact ⟨rfl, h, gb_refl _ _⟩
  · rw [if_neg hw]
    obtain rfl : why = 0 := by omega
    by_cases hl : a < bs.length
    · rw [if_pos hl]
      exact qbyte_some hbl h hl
    · rw [if_neg hl]
      exact qbyte_none h hl

set_option maxHeartbeats 1000000 in
theorem qbool_R (hbl : bs.length ≤ 140737488355327) (h : Qd w base b v bs a why wat) :
    Calls Try.prog 50 #[.pointer (some ⟨b, 0, none⟩)] w fun e w' => e = .returned (.bool (boolF bs a why wat).1) ∧ Qd w' base b v bs (boolF bs a why wat).2.1 (boolF bs a why wat).2.2.1 (boolF bs a why wat).2.2.2 ∧ w.grownBy w' (some b) := by
  have h1 := h.c1
  have hle := h.le
  unfold boolF
  by_cases hw : why ≠ 0
  · rw [if_pos hw]
    have HC := hid (qbyte_over h hw)
    have HR := hid h
    have h2 := h.c2
    have hw' : (why == 0) = false := by simpa using hw
    clear h hw
    go_enter Try.func50, Try.ntmps50
    go_wp2_with fail
    refine Calls.mono HC.out ?_
    rintro e w1 ⟨rfl, rfl⟩
    go_wp2_with fail
    go_ret
    exact ⟨rfl, HR.out, gb_refl _ _⟩
  · rw [if_neg hw]
    obtain rfl : why = 0 := by omega
    clear hw
    by_cases hl : a < bs.length
    · rw [if_pos hl]
      have HC := hid (qbyte_some hbl h hl)
      clear h
      generalize (bs.getD a 0).toNat = c at *
      by_cases hc : 1 < c
      · rw [if_pos hc]
        have hc' : (1 : Int) < (c : Int) := by omega
        go_enter Try.func50, Try.ntmps50
        go_wp2_with fail
        refine Calls.mono HC.out ?_
        rintro e w1 ⟨rfl, hq, hg⟩
        have HQ := hid (hq.setAt a hle)
        have HG := hid (gb_trans hg (gb_set w1 ⟨b, 1, none⟩ (.int .i64 a)))
        have g2 := hq.c2
        have f1 := hq.fz 1
        have g1 := hq.c1
        clear hq hg HC
        go_wp2_with fail
        refine (qfail_any HQ.out _ _).mono ?_
        rintro e w2 ⟨rfl, hq, hg⟩
        have HQ2 := hid hq
        have HG2 := hid (gb_trans HG.out hg)
        clear hq hg
        go_wp2_with fail
        go_ret
        exact ⟨rfl, HQ2.out, HG2.out⟩
      · rw [if_neg hc]
        have hc' : ¬ (1 : Int) < (c : Int) := by omega
        go_enter Try.func50, Try.ntmps50
        go_wp2_with fail
        refine Calls.mono HC.out ?_
        rintro e w1 ⟨rfl, hq, hg⟩
        have HQ := hid hq
        have HG := hid hg
        have g2 := hq.c2
        clear hq hg HC
        go_wp2_with fail
        go_ret
        exact ⟨rfl, HQ.out, HG.out⟩
    · rw [if_neg hl]
      have HC := hid (qbyte_none h hl)
      clear h
      go_enter Try.func50, Try.ntmps50
      go_wp2_with fail
      refine Calls.mono HC.out ?_
      rintro e w1 ⟨rfl, hq, hg⟩
      have HQ := hid hq
      have HG := hid hg
      have g2 := hq.c2
      clear hq hg HC
      go_wp2_with fail
      go_ret
      exact ⟨rfl, HQ.out, HG.out⟩

set_option maxHeartbeats 1000000 in
theorem qcount_over (m : Int) (h : Qd w base b v bs a why wat) (hw : why ≠ 0) :
    Calls Try.prog 49 #[.pointer (some ⟨b, 0, none⟩), .int .i64 m] w fun e w' => e = .returned (.int .i64 0) ∧ w' = w := by
  have HC := hid (quint_over h hw)
  have h1 := h.c1
  have h2 := h.c2
  have hw' : (why == 0) = false := by simpa using hw
  clear h hw
  go_enter Try.func49, Try.ntmps49
  go_wp2_with fail
  refine Calls.mono HC.out ?_
  rintro e w1 ⟨rfl, rfl⟩
  go_wp2_with fail
  go_ret
  exact ⟨rfl, rfl⟩

set_option maxHeartbeats 1000000 in
theorem qcount_arg (m : Int) (h : Qd w base b v bs a 0 wat) (hm : m < 0) :
    Calls Try.prog 49 #[.pointer (some ⟨b, 0, none⟩), .int .i64 m] w fun e w' => e = .returned (.int .i64 0) ∧ Qd w' base b v bs a 1 a ∧ w.grownBy w' (some b) := by
  have h1 := h.c1
  have h2 := h.c2
  have HR := hid h
  clear h
  go_enter Try.func49, Try.ntmps49
  go_wp2_with fail
  refine (qfail_any HR.out _ _).mono ?_
  rintro e w1 ⟨rfl, hq, hg⟩
  have HQ := hid hq
  have HG := hid hg
  have g2 := hq.c2
  clear hq hg HR
  go_wp2_with fail
  refine (quint_over HQ.out (by decide)).mono ?_
  rintro e w2 ⟨rfl, rfl⟩
  go_wp2_with fail
  go_ret
  exact ⟨rfl, HQ.out, HG.out⟩

set_option maxHeartbeats 1000000 in
theorem qcount_go (m : Nat) (hm : m ≤ 9223372036854775807) (h : Qd w base b v bs a 0 wat) (er n k : Nat) (hup : upTo (bs.drop a) m 11 = (er, n, k)) :
    Calls Try.prog 49 #[.pointer (some ⟨b, 0, none⟩), .int .i64 m] w fun e w' => e = .returned (.int .i64 n) ∧ Qd w' base b v bs (a + k) er (watOf er a wat) ∧ w.grownBy w' (some b) := by
  obtain ⟨d1, d2, d3, hd⟩ : ∃ d1 d2 d3, dec (bs.drop a) 0 0 = (d1, d2, d3) := ⟨_, _, _, rfl⟩
  have HC := hid (quint_go h d1 d2 d3 hd)
  have h1 := h.c1
  have h2 := h.c2
  have hle := h.le
  obtain ⟨_, hlt, _, hz⟩ := dec_le _ hd
  unfold upTo at hup
  rw [hd] at hup
  simp only at hup
  clear h hd
  by_cases he : d1 = 0
  · subst he
    rw [if_neg (by simp)] at hup
    by_cases hn : m < d2
    · rw [if_pos hn] at hup
      simp only [Prod.mk.injEq] at hup
      obtain ⟨rfl, rfl, rfl⟩ := hup
      have hn' : (m : Int) < (d2 : Int) := by omega
      have HW := hid (watOf_ne (er := 11) (by decide) a wat)
      clear hz
      go_enter Try.func49, Try.ntmps49
      go_wp2_with fail
      refine Calls.mono HC.out ?_
      rintro e w1 ⟨rfl, hq, hg⟩
      have HQ := hid (hq.setAt a hle)
      have HG := hid (gb_trans hg (gb_set w1 ⟨b, 1, none⟩ (.int .i64 a)))
      have g2 := hq.c2
      have f1 := hq.fz 1
      have g1 := hq.c1
      clear hq hg HC
      go_wp2_with fail
      refine (qfail_any HQ.out _ _).mono ?_
      rintro e w2 ⟨rfl, hq, hg⟩
      have HQ2 := hid hq
      have HG2 := hid (gb_trans HG.out hg)
      clear hq hg
      go_wp2_with fail
      go_ret
      exact ⟨rfl, by rw [HW.out]; exact HQ2.out, HG2.out⟩
    · rw [if_neg hn] at hup
      simp only [Prod.mk.injEq] at hup
      obtain ⟨rfl, rfl, rfl⟩ := hup
      have hn' : ¬ (m : Int) < (d2 : Int) := by omega
      clear hz
      go_enter Try.func49, Try.ntmps49
      go_wp2_with fail
      refine Calls.mono HC.out ?_
      rintro e w1 ⟨rfl, hq, hg⟩
      have HQ := hid hq
      have HG := hid hg
      have g2 := hq.c2
      clear hq hg HC
      go_wp2_with fail
      go_ret
      exact ⟨rfl, HQ.out, HG.out⟩
  · rw [if_pos he] at hup
    simp only [Prod.mk.injEq] at hup
    obtain ⟨rfl, rfl, rfl⟩ := hup
    obtain ⟨rfl, rfl⟩ := hz he
    have he' : ((d1 : Int) == 0) = false := by simpa using he
    clear he hz
    go_enter Try.func49, Try.ntmps49
    go_wp2_with fail
    refine Calls.mono HC.out ?_
    rintro e w1 ⟨rfl, hq, hg⟩
    have HQ := hid hq
    have HG := hid hg
    have g2 := hq.c2
    clear hq hg HC
    go_wp2_with fail
    go_ret
    exact ⟨rfl, HQ.out, HG.out⟩

theorem qcount_R (m : Int) (hm : m ≤ 9223372036854775807) (h : Qd w base b v bs a why wat) :
    Calls Try.prog 49 #[.pointer (some ⟨b, 0, none⟩), .int .i64 m] w fun e w' => e = .returned (.int .i64 (countF bs a why wat m).1) ∧ Qd w' base b v bs (countF bs a why wat m).2.1 (countF bs a why wat m).2.2.1 (countF bs a why wat m).2.2.2 ∧ w.grownBy w' (some b) := by
  unfold countF
  by_cases hw : why ≠ 0
  · rw [if_pos hw]
    refine (qcount_over m h hw).mono ?_
    rintro e w' ⟨rfl, rfl⟩
    exact ⟨rfl, h, gb_refl _ _⟩
  · rw [if_neg hw]
    obtain rfl : why = 0 := by omega
    by_cases h0 : m < 0
    · rw [if_pos h0]
      exact qcount_arg m h h0
    · rw [if_neg h0]
      obtain ⟨k, rfl⟩ : ∃ k : Nat, m = k := ⟨m.toNat, by omega⟩
      exact qcount_go k (by omega) h _ _ _ rfl
end

end Go.Proofs.Ytggmgbdofjhkdaa
