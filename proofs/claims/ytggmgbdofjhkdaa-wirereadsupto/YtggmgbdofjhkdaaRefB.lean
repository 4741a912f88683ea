/- The document's reader: Uint, Int, Fail, End. -/
import Derived.Test.YtggmgbdofjhkdaaRefA
namespace Go.Proofs.Ytggmgbdofjhkdaa
open Go.RowKit

theorem watOf_ne {er : Nat} (h : er ≠ 0) (a : Nat) (wat : Int) : watOf er a wat = a := by
  unfold watOf
  simp [h]

section
variable {w : World} {base b : Nat} {v : Value} {bs : List UInt8} {a : Nat} {why wat : Int}

set_option maxHeartbeats 1000000 in
theorem quint_over (h : Qd w base b v bs a why wat) (hw : why ≠ 0) :
    Calls Try.prog 46 #[.pointer (some ⟨b, 0, none⟩)] w fun e w' => e = .returned (.int .u64 0) ∧ w' = w := by
  have h2 := h.c2
  have hb : (why != 0) = true := by simpa using hw
  clear h
  go_enter Try.func46, Try.ntmps46
  go_wp2
  go_ret
  exact ⟨rfl, rfl⟩

set_option maxHeartbeats 1000000 in
theorem quint_go (h : Qd w base b v bs a 0 wat) (er n k : Nat) (hdec : dec (bs.drop a) 0 0 = (er, n, k)) :
    Calls Try.prog 46 #[.pointer (some ⟨b, 0, none⟩)] w fun e w' => e = .returned (.int .u64 n) ∧ Qd w' base b v bs (a + k) er (watOf er a wat) ∧ w.grownBy w' (some b) := by
  have HR := hid h
  have h0 := h.c0
  have h1 := h.c1
  have h2 := h.c2
  have f1 := h.fz 1
  have hle := h.le
  have hl := h.own.len
  unfold maxLen at hl
  have HD := hid hdec
  have HL := hid (dec_le _ hdec)
  clear h hdec
  go_enter Try.func46, Try.ntmps46
  go_wp2_with fail
  go_quiet (first | (go_at_call 75; exact Calls.quiet_of_same (short_any base v bs a _ (HR.out.drewN _).own HR.out.le er n k HD.out)))
  by_cases he : er = 0
  · subst he
    have hk : (a : Int) + (k : Int) ≤ 9223372036854775807 := by have := HL.out.1; simp at this; omega
    go_wp2_with fail
    go_ret
    have R := (HR.out.drewN nq).setAt (a + k) (by have := HL.out.1; simp at this; omega)
    rw [Int.natCast_add] at R
    exact ⟨rfl, by simpa [watOf] using R, gb_trans (gb_drewN _ _ _) (gb_set _ _ _)⟩
  · have hW := watOf_ne he a wat
    have HW := hid hW
    clear hW
    have he' : ((er : Int) != 0) = true := by simpa using he
    obtain ⟨rfl, rfl⟩ := HL.out.2.2.2 he
    clear he
    go_wp2_with fail
    refine (qfail_any (HR.out.drewN nq) _ _).mono ?_
    rintro e w1 ⟨rfl, hq, hg⟩
    have HQ := hid hq
    have HG := hid (gb_trans (gb_drewN w nq _) hg)
    clear hq hg
    go_wp2_with fail
    go_ret
    exact ⟨rfl, by rw [HW.out]; exact HQ.out, HG.out⟩

theorem quint_R (h : Qd w base b v bs a why wat) :
    Calls Try.prog 46 #[.pointer (some ⟨b, 0, none⟩)] w fun e w' => e = .returned (.int .u64 (uintF bs a why wat).1) ∧ Qd w' base b v bs (uintF bs a why wat).2.1 (uintF bs a why wat).2.2.1 (uintF bs a why wat).2.2.2 ∧ w.grownBy w' (some b) := by
  unfold uintF
  by_cases hw : why ≠ 0
  · rw [if_pos hw]
    refine (quint_over h hw).mono ?_
    rintro e w' ⟨rfl, rfl⟩
    exact ⟨rfl, h, gb_refl _ _⟩
  · rw [if_neg hw]
    obtain rfl : why = 0 := by omega
    exact quint_go h _ _ _ rfl

set_option maxHeartbeats 1000000 in
theorem qint_R (h : Qd w base b v bs a why wat) :
    Calls Try.prog 47 #[.pointer (some ⟨b, 0, none⟩)] w fun e w' => e = .returned (.int .i64 (uz (uintF bs a why wat).1)) ∧ Qd w' base b v bs (uintF bs a why wat).2.1 (uintF bs a why wat).2.2.1 (uintF bs a why wat).2.2.2 ∧ w.grownBy w' (some b) := by
  have HC := hid (quint_R h)
  have hn := uintF_lt bs a why wat
  clear h
  generalize uintF bs a why wat = F at *
  obtain ⟨n, a', why', wat'⟩ := F
  simp only at HC hn
  go_enter Try.func47, Try.ntmps47
  go_wp2_with fail
  refine Calls.mono HC.out ?_
  rintro e w1 ⟨rfl, hR, hg⟩
  have HR := hid hR
  have HG := hid hg
  clear hR hg HC
  rcases Nat.mod_two_eq_zero_or_one n with h2 | h2
  · obtain ⟨m, rfl⟩ : ∃ m, n = 2 * m := ⟨n / 2, by omega⟩
    clear h2
    go_wp2_with fail
    go_ret
    have e1 : uz (2 * m) = (m : Int) := by unfold uz; rw [if_neg (by omega)]; omega
    rw [e1]
    exact ⟨rfl, HR.out, HG.out⟩
  · obtain ⟨m, rfl⟩ : ∃ m, n = 2 * m + 1 := ⟨n / 2, by omega⟩
    clear h2
    go_wp2_with fail
    go_ret
    have e1 : uz (2 * m + 1) = -((2 * (m : Int) + 1) / 2) - 1 := by unfold uz; rw [if_pos (by omega)]; omega
    rw [e1]
    exact ⟨rfl, HR.out, HG.out⟩

set_option maxHeartbeats 1000000 in
theorem qfailm_R (n : Int) (h : Qd w base b v bs a why wat) :
    Calls Try.prog 55 #[.pointer (some ⟨b, 0, none⟩), .int .i64 n] w fun e w' => e = .returned (.tuple #[]) ∧
      Qd w' base b v bs a (if why = 0 then n else why) (if why = 0 ∧ n ≠ 0 then a else wat) ∧ w.grownBy w' (some b) := by
  have h1 := h.c1
  have h2 := h.c2
  by_cases hw : why = 0
  · subst hw
    by_cases hn : n = 0
    · subst hn
      rw [if_pos rfl, if_neg (by simp)]
      have HR := hid h
      clear h
      go_enter Try.func55, Try.ntmps55
      go_wp2_with fail
      go_end0
      exact ⟨rfl, HR.out, gb_refl _ _⟩
    · rw [if_pos rfl, if_pos ⟨rfl, hn⟩]
      have HR := hid h
      have hn' : (n != 0) = true := by simpa using hn
      clear h hn
      go_enter Try.func55, Try.ntmps55
      go_wp2_with fail
      refine (qfail_any HR.out _ _).mono ?_
      rintro e w1 ⟨rfl, hq, hg⟩
      have HQ := hid hq
      have HG := hid hg
      clear hq hg HR
      go_wp2_with fail
      go_end0
      exact ⟨rfl, HQ.out, HG.out⟩
  · rw [if_neg hw, if_neg (by simp [hw])]
    have HR := hid h
    have hw' : (why == 0) = false := by simpa using hw
    clear h hw
    go_enter Try.func55, Try.ntmps55
    go_wp2_with fail
    go_end0
    exact ⟨rfl, HR.out, gb_refl _ _⟩

set_option maxHeartbeats 1000000 in
theorem qend_more (h : Qd w base b v bs a 0 wat) (hlt : a < bs.length) :
    Calls Try.prog 57 #[.pointer (some ⟨b, 0, none⟩)] w fun e w' => e = .returned (.tuple #[.int .i64 6, .int .i64 a]) ∧ Qd w' base b v bs a 6 a ∧ w.grownBy w' (some b) := by
  obtain ⟨ad, cap, rfl⟩ := h.own.shape
  have HR := hid h
  have h0 := h.c0
  have h1 := h.c1
  have h2 := h.c2
  have hlt' : (a : Int) < (bs.length : Int) := by omega
  clear h
  go_enter Try.func57, Try.ntmps57
  go_wp2_with fail
  go_quiet (fail)
  go_wp2_with fail
  refine (qfail_any (HR.out.drewN nq) _ _).mono ?_
  rintro e w1 ⟨rfl, hq, hg⟩
  have HQ := hid hq
  have HG := hid (gb_trans (gb_drewN w nq _) hg)
  have g2 := hq.c2
  have g3 := hq.c3
  clear hq hg HR
  go_wp2_with fail
  go_quiet (fail)
  go_wp2_with fail
  go_ret2
  exact ⟨rfl, HQ.out.drewN _, gb_trans HG.out (gb_drewN _ _ _)⟩

set_option maxHeartbeats 1000000 in
theorem qend_idle (h : Qd w base b v bs a why wat) (hidle : why ≠ 0 ∨ a = bs.length) :
    Calls Try.prog 57 #[.pointer (some ⟨b, 0, none⟩)] w fun e w' => e = .returned (.tuple #[.int .i64 why, .int .i64 wat]) ∧ Qd w' base b v bs a why wat ∧ w.grownBy w' (some b) := by
  obtain ⟨ad, cap, rfl⟩ := h.own.shape
  have HR := hid h
  have h0 := h.c0
  have h1 := h.c1
  have h2 := h.c2
  have h3 := h.c3
  clear h
  by_cases hw : why = 0
  · subst hw
    obtain rfl : a = bs.length := by rcases hidle with h | h; exact absurd rfl h; exact h
    clear hidle
    go_enter Try.func57, Try.ntmps57
    go_wp2_with fail
    go_quiet (fail)
    go_wp2_with fail
    go_quiet (fail)
    go_wp2_with fail
    go_ret2
    exact ⟨rfl, (HR.out.drewN _).drewN _, gb_trans (gb_drewN _ _ _) (gb_drewN _ _ _)⟩
  · have hw' : (why == 0) = false := by simpa using hw
    clear hidle hw
    go_enter Try.func57, Try.ntmps57
    go_wp2_with fail
    go_quiet (fail)
    go_wp2_with fail
    go_quiet (fail)
    go_wp2_with fail
    go_ret2
    exact ⟨rfl, (HR.out.drewN _).drewN _, gb_trans (gb_drewN _ _ _) (gb_drewN _ _ _)⟩
end

end Go.Proofs.Ytggmgbdofjhkdaa
