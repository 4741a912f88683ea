/- The document's reader: Text. -/
import Derived.Test.YtggmgbdofjhkdaaRefC
namespace Go.Proofs.Ytggmgbdofjhkdaa
open Go.RowKit

section
variable {w : World} {base b : Nat} {v : Value} {bs : List UInt8} {a : Nat} {why wat : Int}

set_option maxRecDepth 100000 in
set_option maxHeartbeats 1000000 in
theorem qtext_over (m : Int) (h : Qd w base b v bs a why wat) (hw : why ≠ 0) :
    Calls Try.prog 51 #[.pointer (some ⟨b, 0, none⟩), .int .i64 m] w fun e w' => e = .returned (.string ⟨#[]⟩) ∧ w' = w := by
  have HC := hid (quint_over h hw)
  have h1 := h.c1
  have h2 := h.c2
  have hw' : (why == 0) = false := by simpa using hw
  have hw2 : (why != 0) = true := by simpa using hw
  clear h hw
  go_enter Try.func51, Try.ntmps51
  go_wp2_with fail
  refine Calls.mono HC.out ?_
  rintro e w1 ⟨rfl, rfl⟩
  go_wp2_with fail
  go_ret
  exact ⟨rfl, rfl⟩

set_option maxRecDepth 100000 in
set_option maxHeartbeats 1000000 in
theorem qtext_arg (m : Int) (h : Qd w base b v bs a 0 wat) (hm : m < 0) :
    Calls Try.prog 51 #[.pointer (some ⟨b, 0, none⟩), .int .i64 m] w fun e w' => e = .returned (.string ⟨#[]⟩) ∧ Qd w' base b v bs a 1 a ∧ w.grownBy w' (some b) := by
  have h1 := h.c1
  have h2 := h.c2
  have HR := hid h
  clear h
  go_enter Try.func51, Try.ntmps51
  go_wp2_with fail
  refine (qfail_any HR.out _ _).mono ?_
  rintro e w1 ⟨rfl, hq, hg⟩
  have HQ := hid hq
  have HG := hid hg
  have g2 := hq.c2
  clear hq hg HR
  go_wp2_with fail
  refine (quint_over HQ.out (by decide)).mono ?_
  rintro e w2 ⟨rfl, rfl⟩
  go_wp2_with fail
  go_ret
  exact ⟨rfl, HQ.out, HG.out⟩

set_option maxRecDepth 100000 in
set_option maxHeartbeats 2000000 in
theorem qtext_go (m : Nat) (hm : m ≤ 9223372036854775807) (hbl : bs.length ≤ 140737488355327) (h : Qd w base b v bs a 0 wat) (er k : Nat) (s : List UInt8) (ht : txt (bs.drop a) m = (er, s, k)) :
    Calls Try.prog 51 #[.pointer (some ⟨b, 0, none⟩), .int .i64 m] w fun e w' => e = .returned (.string ⟨s.toArray⟩) ∧ Qd w' base b v bs (a + k) er (watOf er a wat) ∧ w.grownBy w' (some b) := by
  obtain ⟨d1, d2, d3, hd⟩ : ∃ d1 d2 d3, dec (bs.drop a) 0 0 = (d1, d2, d3) := ⟨_, _, _, rfl⟩
  have HC := hid (quint_go h d1 d2 d3 hd)
  have h1 := h.c1
  have h2 := h.c2
  have hle := h.le
  obtain ⟨ad, cap, rfl⟩ := h.own.shape
  obtain ⟨hk3, hlt, _, hz⟩ := dec_le _ hd
  have hdl : (bs.drop a).length = bs.length - a := by simp
  rw [hdl] at hk3
  unfold txt upTo at ht
  rw [hd, hdl] at ht
  simp only at ht
  clear h hd hdl
  by_cases he : d1 = 0
  · subst he
    obtain ⟨a', ha'⟩ : ∃ a', a' = a + d3 := ⟨_, rfl⟩
    have HA := hid ha'
    rw [← ha'] at HC
    have hW0 : watOf 0 a wat = wat := by simp [watOf]
    rw [hW0] at HC
    clear hW0
    by_cases hn : m < d2
    · have hsimp : (er, s, k) = (3, [], 0) := by
        rw [← ht]
        simp [hn]
      simp only [Prod.mk.injEq] at hsimp
      obtain ⟨rfl, rfl, rfl⟩ := hsimp
      have hn' : (m : Int) < (d2 : Int) := by omega
      have HW := hid (watOf_ne (er := 3) (by decide) a wat)
      clear hz ht ha'
      go_enter Try.func51, Try.ntmps51
      go_wp2_with fail
      refine Calls.mono HC.out ?_
      rintro e w1 ⟨rfl, hq, hg⟩
      have HQ := hid hq
      have HG := hid hg
      have g2 := hq.c2
      clear hq hg HC
      go_wp2_with fail
      refine (qfail_any HQ.out _ _).mono ?_
      rintro e w2 ⟨rfl, hq, hg⟩
      have HQ2 := hid (hq.setAt a hle)
      have HG2 := hid (gb_trans (gb_trans HG.out hg) (gb_set w2 ⟨b, 1, none⟩ (.int .i64 a)))
      have p2 := hq.c2
      have p1 := hq.c1
      have f1 := hq.fz 1
      clear hq hg
      go_wp2_with fail
      go_ret
      exact ⟨rfl, by rw [HW.out]; exact HQ2.out, HG2.out⟩
    · by_cases hsh : bs.length - a < d3 + d2
      · have hsimp : (er, s, k) = (4, [], 0) := by
          rw [← ht]
          simp [hn, hsh]
        simp only [Prod.mk.injEq] at hsimp
        obtain ⟨rfl, rfl, rfl⟩ := hsimp
        have hn' : ¬ (m : Int) < (d2 : Int) := by omega
        have hsh' : (bs.length : Int) - (a' : Int) < (d2 : Int) := by omega
        have hwr : IntKind.u64.wrap ((bs.length : Int) - (a' : Int)) = (bs.length : Int) - (a' : Int) := by rw [IntKind.wrap_u64]; omega
        have hi63 : (bs.length : Int) - (a' : Int) ≤ 9223372036854775807 := by omega
        have hi0 : 0 ≤ (bs.length : Int) - (a' : Int) := by omega
        have HW := hid (watOf_ne (er := 4) (by decide) a wat)
        clear hz ht ha'
        go_enter Try.func51, Try.ntmps51
        go_wp2_with fail
        refine Calls.mono HC.out ?_
        rintro e w1 ⟨rfl, hq, hg⟩
        have HQ := hid hq
        have HG := hid hg
        have g2 := hq.c2
        have g0 := hq.c0
        have g1 := hq.c1
        clear hq hg HC
        go_wp2_with fail
        go_quiet (fail)
        go_wp2_with fail
        refine (qfail_any (HQ.out.drewN nq) _ _).mono ?_
        rintro e w2 ⟨rfl, hq, hg⟩
        have HQ2 := hid (hq.setAt a hle)
        have HG2 := hid (gb_trans (gb_trans (gb_trans HG.out (gb_drewN _ _ _)) hg) (gb_set w2 ⟨b, 1, none⟩ (.int .i64 a)))
        have p2 := hq.c2
        have p1 := hq.c1
        have f1 := hq.fz 1
        clear hq hg
        go_wp2_with fail
        go_ret
        exact ⟨rfl, by rw [HW.out]; exact HQ2.out, HG2.out⟩
      · have hsimp : (er, s, k) = (0, (bs.drop (a + d3)).take d2, d3 + d2) := by
          rw [← ht]
          simp [hn, hsh]
        simp only [Prod.mk.injEq] at hsimp
        obtain ⟨rfl, rfl, rfl⟩ := hsimp
        have hn' : ¬ (m : Int) < (d2 : Int) := by omega
        have hsh' : ¬ (bs.length : Int) - (a' : Int) < (d2 : Int) := by omega
        have hwr : IntKind.u64.wrap ((bs.length : Int) - (a' : Int)) = (bs.length : Int) - (a' : Int) := by rw [IntKind.wrap_u64]; omega
        have hi63 : (bs.length : Int) - (a' : Int) ≤ 9223372036854775807 := by omega
        have hi0 : 0 ≤ (bs.length : Int) - (a' : Int) := by omega
        have HW := hid (by simp [watOf] : watOf 0 a wat = wat)
        have HS := hid (by omega : a' + d2 ≤ bs.length)
        clear hz ht ha'
        go_enter Try.func51, Try.ntmps51
        go_wp2_with fail
        refine Calls.mono HC.out ?_
        rintro e w1 ⟨rfl, hq, hg⟩
        have HQ := hid hq
        have HG := hid hg
        have g2 := hq.c2
        have g0 := hq.c0
        have g1 := hq.c1
        clear hq hg HC
        go_wp2_with fail
        go_quiet (fail)
        go_wp2_with fail
        refine (qraw_ok d2 (HQ.out.drewN nq) hbl HS.out).mono ?_
        rintro e w2 ⟨v2, rfl, ho, hq, hg⟩
        have hstr := run_str (ho.src (by rw [List.length_take, List.length_drop]; omega))
        have HQ2 := hid hq
        have HG2 := hid (gb_trans (gb_trans HG.out (gb_drewN _ _ _)) hg)
        clear hq hg ho
        rw [HA.out] at hstr HQ2
        go_wp2_with fail
        go_ret
        refine ⟨rfl, ?_, HG2.out⟩
        rw [HW.out, ← Nat.add_assoc]
        exact HQ2.out
  · have hsimp : (er, s, k) = (d1, [], 0) := by
      rw [← ht]
      simp [he]
    simp only [Prod.mk.injEq] at hsimp
    obtain ⟨rfl, rfl, rfl⟩ := hsimp
    obtain ⟨rfl, rfl⟩ := hz he
    have he' : ((er : Int) != 0) = true := by simpa using he
    clear he hz ht
    go_enter Try.func51, Try.ntmps51
    go_wp2_with fail
    refine Calls.mono HC.out ?_
    rintro e w1 ⟨rfl, hq, hg⟩
    have HQ := hid hq
    have HG := hid hg
    have g2 := hq.c2
    clear hq hg HC
    go_wp2_with fail
    go_ret
    exact ⟨rfl, HQ.out, HG.out⟩

theorem qtext_R (m : Int) (hm : m ≤ 9223372036854775807) (hbl : bs.length ≤ 140737488355327) (h : Qd w base b v bs a why wat) :
    Calls Try.prog 51 #[.pointer (some ⟨b, 0, none⟩), .int .i64 m] w fun e w' => e = .returned (.string ⟨(textF bs a why wat m).1.toArray⟩) ∧ Qd w' base b v bs (textF bs a why wat m).2.1 (textF bs a why wat m).2.2.1 (textF bs a why wat m).2.2.2 ∧ w.grownBy w' (some b) := by
  unfold textF
  by_cases hw : why ≠ 0
  · rw [if_pos hw]
    refine (qtext_over m h hw).mono ?_
    rintro e w' ⟨rfl, rfl⟩
    exact ⟨rfl, h, gb_refl _ _⟩
  · rw [if_neg hw]
    obtain rfl : why = 0 := by omega
    by_cases h0 : m < 0
    · rw [if_pos h0]
      exact qtext_arg m h h0
    · rw [if_neg h0]
      obtain ⟨k, rfl⟩ : ∃ k : Nat, m = k := ⟨m.toNat, by omega⟩
      exact qtext_go k (by omega) hbl h _ _ _ rfl
end

end Go.Proofs.Ytggmgbdofjhkdaa
