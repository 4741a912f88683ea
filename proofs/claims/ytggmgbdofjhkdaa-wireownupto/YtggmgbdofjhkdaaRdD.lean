/- The calls Fail, End and Byte of a reader that NewReader gave. -/
import Derived.Test.YtggmgbdofjhkdaaRdC
namespace Go.Proofs.Ytggmgbdofjhkdaa
open Go.RowKit

section
variable (base b : Nat) (v : Value) (bs : List UInt8) (a : Nat) (why wat : Int) (w : World)

/-- fail over a reader: the first error stays -/
theorem wfail_any (n : Int) (h : Rd w base b v bs a why wat) :
    Calls Try.prog 61 #[.pointer (some ⟨b, 0, none⟩), .int .i64 n] w fun e w' => e = .returned (.tuple #[]) ∧
      Rd w' base b v bs a (if why = 0 then n else why) (if why = 0 ∧ n ≠ 0 then a else wat) ∧ w.grownBy w' (some b) := by
  by_cases h1 : why ≠ 0 ∨ n = 0
  · refine (fail_idle b why n w h.c2 h1).mono ?_
    rintro e w' ⟨rfl, rfl⟩
    refine ⟨rfl, ?_, gb_refl _ _⟩
    rcases h1 with h1 | rfl
    · simpa [h1] using h
    · by_cases h0 : why = 0
      · subst h0; simpa using h
      · simpa [h0] using h
  · obtain ⟨h0, hn⟩ : why = 0 ∧ n ≠ 0 := by
      constructor
      · exact Classical.byContradiction fun e => h1 (Or.inl e)
      · exact fun e => h1 (Or.inr e)
    subst h0
    refine (fail_sets b a n w h.c1 h.c2 _ h.c3 (h.fz _) (h.fz _) hn).mono ?_
    rintro e w' ⟨rfl, rfl⟩
    refine ⟨rfl, ?_, gb_trans (gb_set _ _ _) (gb_set _ _ _)⟩
    simpa [hn] using h.setFault n a

set_option maxHeartbeats 400000 in
theorem next_some (g n c : Nat) (x : Int) (h0 : w.cell? ⟨b, 0, none⟩ = some (.slice (some ⟨g, 0, none⟩) n c)) (h1 : w.cell? ⟨b, 1, none⟩ = some (.int .i64 a)) (f1 : w.frozen? ⟨b, 1, none⟩ = false)
    (hn : n ≤ maxLen) (hlt : a < n) (hx : w.cell? ⟨g, a, none⟩ = some (.int .u8 x)) :
    Calls Try.prog 74 #[.pointer (some ⟨b, 0, none⟩)] w fun e w' => e = .returned (.tuple #[.int .u8 x, .int .i64 0]) ∧ ∃ k, w' = (w.drewN k).setCell ⟨b, 1, none⟩ (.int .i64 (a + 1)) := by
  unfold maxLen at hn
  have hd : ((n : Int) - (a : Int) == 0) = false := by simp; omega
  have hlt' : (a : Int) < (n : Int) := by omega
  go_enter Try.func74, Try.ntmps74
  go_wp2_with (go_at_call 68; refine (pleft_any _ _ _ _ _ _ (by unfold maxLen; omega) (by omega) (by omega) h0 h1).mono ?_; rintro e w' ⟨rfl, k, rfl⟩)
  go_quiet (fail)
  go_wp2
  go_ret2
  exact ⟨rfl, _, rfl⟩

set_option maxHeartbeats 400000 in
theorem next_none (n c : Nat) (va : Option Addr) (h0 : w.cell? ⟨b, 0, none⟩ = some (.slice va n c)) (h1 : w.cell? ⟨b, 1, none⟩ = some (.int .i64 n)) (hn : n ≤ maxLen) :
    Calls Try.prog 74 #[.pointer (some ⟨b, 0, none⟩)] w fun e w' => e = .returned (.tuple #[.int .u8 0, .int .i64 4]) ∧ ∃ k, w' = w.drewN k := by
  unfold maxLen at hn
  have hd : ((n : Int) - (n : Int) == 0) = true := by simp
  go_enter Try.func74, Try.ntmps74
  go_wp2_with (go_at_call 68; refine (pleft_any _ _ _ _ _ _ (by unfold maxLen; omega) (by omega) (by omega) h0 h1).mono ?_; rintro e w' ⟨rfl, k, rfl⟩)
  go_ret2
  exact ⟨rfl, _, rfl⟩

set_option maxHeartbeats 400000 in
theorem byte_over (h : Rd w base b v bs a why wat) (hw : why ≠ 0) :
    Calls Try.prog 44 #[.pointer (some ⟨b, 0, none⟩)] w fun e w' => e = .returned (.int .u8 0) ∧ w' = w := by
  have h4 := h.c4
  have h2 := h.c2
  have hb : (why != 0) = true := by simpa using hw
  clear h hw
  go_enter Try.func44, Try.ntmps44
  go_wp2_with (first
    | (go_at_call 58; refine (own_made _ _ h4).mono ?_; rintro e w' ⟨rfl, rfl⟩)
    | (go_at_call 59; refine (may_none _ _ _ h2).mono ?_; rintro e w' ⟨rfl, rfl⟩))
  go_ret
  exact ⟨rfl, rfl⟩

set_option maxHeartbeats 400000 in
theorem byte_some (h : Rd w base b v bs a 0 wat) (hlt : a < bs.length) :
    Calls Try.prog 44 #[.pointer (some ⟨b, 0, none⟩)] w fun e w' => e = .returned (.int .u8 (bs.getD a 0).toNat) ∧ Rd w' base b v bs (a + 1) 0 wat ∧ w.grownBy w' (some b) := by
  have h4 := h.c4
  have h2 := h.c2
  have h1 := h.c1
  have h0 := h.c0
  have f1 := h.fz 1
  have hl := h.own.len
  have HR := h
  have HH : Hid (Rd w base b v bs a 0 wat) := h
  clear HR
  rcases h.own.forms with ⟨_, rfl⟩ | ⟨g, cap, rfl, _, _, _, _, _, hc⟩
  · simp at hlt
  · have hx := hc a hlt
    clear h hc
    generalize ((bs.getD a 0).toNat : Int) = x at *
    go_enter Try.func44, Try.ntmps44
    go_wp2_with fail
    refine (own_made _ _ h4).mono ?_
    rintro e w' ⟨rfl, rfl⟩
    go_wp2_with fail
    refine (may_none _ _ _ h2).mono ?_
    rintro e w' ⟨rfl, rfl⟩
    go_wp2_with fail
    refine (next_some _ _ _ _ _ _ _ h0 h1 f1 hl hlt hx).mono ?_
    rintro e w' ⟨rfl, k, rfl⟩
    have R := (HH.out.drewN k).setAt (a + 1) (by omega)
    have HR2 : Hid _ := R
    have e1 := R.c2
    clear R
    go_wp2_with fail
    refine (fail_idle _ _ _ _ (by first | exact e1 | assumption) (Or.inr rfl)).mono ?_
    rintro e w' ⟨rfl, rfl⟩
    go_wp2
    go_ret
    exact ⟨rfl, HR2.out, gb_trans (gb_drewN _ _ _) (gb_set _ _ _)⟩

set_option maxHeartbeats 400000 in
theorem byte_none (h : Rd w base b v bs bs.length 0 wat) :
    Calls Try.prog 44 #[.pointer (some ⟨b, 0, none⟩)] w fun e w' => e = .returned (.int .u8 0) ∧ Rd w' base b v bs bs.length 4 bs.length ∧ w.grownBy w' (some b) := by
  have h4 := h.c4
  have h2 := h.c2
  have h1 := h.c1
  have h0 := h.c0
  have hl := h.own.len
  have HH : Hid (Rd w base b v bs bs.length 0 wat) := h
  obtain ⟨ad, cap, rfl⟩ := h.own.shape
  clear h
  go_enter Try.func44, Try.ntmps44
  go_wp2_with fail
  refine (own_made _ _ h4).mono ?_
  rintro e w' ⟨rfl, rfl⟩
  go_wp2_with fail
  refine (may_none _ _ _ h2).mono ?_
  rintro e w' ⟨rfl, rfl⟩
  go_wp2_with fail
  refine (next_none _ _ _ _ _ h0 h1 hl).mono ?_
  rintro e w' ⟨rfl, k, rfl⟩
  go_wp2_with fail
  refine (wfail_any _ _ _ _ _ _ _ _ _ (HH.out.drewN k)).mono ?_
  rintro e w' ⟨rfl, hR, hg⟩
  go_wp2
  go_ret
  exact ⟨rfl, by simpa using hR, gb_trans (gb_drewN _ _ _) hg⟩

set_option maxHeartbeats 400000 in
theorem rfail_any (n : Int) (h : Rd w base b v bs a why wat) :
    Calls Try.prog 54 #[.pointer (some ⟨b, 0, none⟩), .int .i64 n] w fun e w' => e = .returned (.tuple #[]) ∧
      Rd w' base b v bs a (if why = 0 then n else why) (if why = 0 ∧ n ≠ 0 then a else wat) ∧ w.grownBy w' (some b) := by
  have h4 := h.c4
  have HC : Hid _ := (wfail_any _ _ _ _ _ _ _ _ n h)
  clear h
  generalize (if why = 0 then n else why) = why' at *
  generalize (if why = 0 ∧ n ≠ 0 then (a : Int) else wat) = wat' at *
  go_enter Try.func54, Try.ntmps54
  go_wp2_with fail
  refine (own_made _ _ h4).mono ?_
  rintro e w' ⟨rfl, rfl⟩
  go_wp2_with fail
  refine Calls.mono HC.out ?_
  rintro e w' ⟨rfl, hR, hg⟩
  go_wp2
  go_end0
  exact ⟨rfl, hR, hg⟩

set_option maxHeartbeats 400000 in
/-- End where bytes are left and there is no fault -/
theorem rend_more (h : Rd w base b v bs a 0 wat) (hlt : a < bs.length) :
    Calls Try.prog 56 #[.pointer (some ⟨b, 0, none⟩)] w fun e w' => e = .returned (.agg #[.int .i64 6, .int .i64 a]) ∧ Rd w' base b v bs a 6 a ∧ w.grownBy w' (some b) := by
  have hlt' := h.lt
  have HV : Hid (v.ownBlock ≠ some w.heap.size) := fun e => Nat.lt_irrefl _ (h.own.lt _ e).2
  have h := h.below (below_walk w (.cells #[.int .i64 0, .int .i64 0] 56))
  have HH : Hid _ := h
  have h4 := h.c4
  have h0 := h.c0
  have h1 := h.c1
  have hl := h.own.len
  obtain ⟨ad, cap, rfl⟩ := h.own.shape
  clear h
  have hgt : (0 : Int) < (bs.length : Int) - (a : Int) := by omega
  go_enter Try.func56, Try.ntmps56
  go_wp2_with fail
  refine (own_made _ _ h4).mono ?_
  rintro e w' ⟨rfl, rfl⟩
  go_wp2_with fail
  refine (pleft_any _ _ _ _ _ _ hl (by omega) (by omega) h0 h1).mono ?_
  rintro e w' ⟨rfl, k, rfl⟩
  go_wp2_with fail
  refine (wfail_any _ _ _ _ _ _ _ _ _ (HH.out.drewN k)).mono ?_
  rintro e w' ⟨rfl, hR, hg⟩
  have hR : Rd w' base b (.slice ad bs.length cap) bs a 6 a := by simpa using hR
  have c2 := hR.c2
  have c3 := hR.c3
  have hz := hg.size
  have d0 : w'.cell? ⟨w.heap.size, 0, none⟩ = some (.int .i64 0) := by rw [World.cell?_of_block (hg.block w.heap.size (by simp) (by simp; omega))]; simp
  have d1 : w'.cell? ⟨w.heap.size, 1, none⟩ = some (.int .i64 0) := by rw [World.cell?_of_block (hg.block w.heap.size (by simp) (by simp; omega))]; simp
  have e0 : w'.frozen? ⟨w.heap.size, 0, none⟩ = false := by rw [World.frozen?_of_block (hg.block w.heap.size (by simp) (by simp; omega))]; simp
  have e1 : w'.frozen? ⟨w.heap.size, 1, none⟩ = false := by rw [World.frozen?_of_block (hg.block w.heap.size (by simp) (by simp; omega))]; simp
  have HR : Hid _ := hR
  have HG : Hid _ := hg
  clear hR hg
  go_wp2
  have K : w.grownBy ((w'.setCell ⟨w.heap.size, 0, none⟩ (.int .i64 6)).setCell ⟨w.heap.size, 1, none⟩ (.int .i64 a)) (some b) :=
    gb_then (gb_then (gb_trans (gb_trans (gb_alloc _ _ _) (gb_drewN _ _ _)) HG.out) (gb_set _ _ _) (by intro j hj; cases hj; exact Or.inl (Nat.le_refl _))) (gb_set _ _ _) (by intro j hj; cases hj; exact Or.inl (Nat.le_refl _))
  exact bodyPost_ret (v := .agg #[.int .i64 6, .int .i64 a]) (by simp [results, Try.results56, go_sem, d0, d1]) rfl ⟨rfl, (HR.out.grown (gb_set _ _ _) (by simp; omega) (Or.inr HV.out)).grown (gb_set _ _ _) (by simp; omega) (Or.inr HV.out), K⟩

set_option maxHeartbeats 400000 in
/-- End where no bytes are left, or there is a fault -/
theorem rend_idle (h : Rd w base b v bs a why wat) (hidle : why ≠ 0 ∨ a = bs.length) :
    Calls Try.prog 56 #[.pointer (some ⟨b, 0, none⟩)] w fun e w' => e = .returned (.agg #[.int .i64 why, .int .i64 wat]) ∧ Rd w' base b v bs a why wat ∧ w.grownBy w' (some b) := by
  have hlt' := h.lt
  have HV : Hid (v.ownBlock ≠ some w.heap.size) := fun e => Nat.lt_irrefl _ (h.own.lt _ e).2
  have h := h.below (below_walk w (.cells #[.int .i64 0, .int .i64 0] 56))
  have HH : Hid _ := h
  have h4 := h.c4
  have h0 := h.c0
  have h1 := h.c1
  have h2 := h.c2
  have h3 := h.c3
  have hl := h.own.len
  have hle := h.le
  obtain ⟨ad, cap, rfl⟩ := h.own.shape
  clear h
  have HI : Hid (why ≠ 0 ∨ a = bs.length) := hidle
  clear hidle
  by_cases hgt : (0 : Int) < (bs.length : Int) - (a : Int)
  · have HN : Hid (why ≠ 0) := HI.out.elim id (fun e => by omega)
    go_enter Try.func56, Try.ntmps56
    go_wp2_with fail
    refine (own_made _ _ h4).mono ?_
    rintro e w' ⟨rfl, rfl⟩
    go_wp2_with fail
    refine (pleft_any _ _ _ _ _ _ hl (by omega) (by omega) h0 h1).mono ?_
    rintro e w' ⟨rfl, k, rfl⟩
    go_wp2_with fail
    refine (fail_idle _ _ _ _ (by exact h2) (Or.inl HN.out)).mono ?_
    rintro e w' ⟨rfl, rfl⟩
    go_wp2
    have K : w.grownBy ((((w.alloc (.cells #[.int .i64 0, .int .i64 0] 56)).drewN k).setCell ⟨w.heap.size, 0, none⟩ (.int .i64 why)).setCell ⟨w.heap.size, 1, none⟩ (.int .i64 wat)) (some b) :=
      gb_then (gb_then (gb_trans (gb_alloc _ _ _) (gb_drewN _ _ _)) (gb_set _ _ _) (by intro j hj; cases hj; exact Or.inl (Nat.le_refl _))) (gb_set _ _ _) (by intro j hj; cases hj; exact Or.inl (Nat.le_refl _))
    exact bodyPost_ret (v := .agg #[.int .i64 why, .int .i64 wat]) (by simp [results, Try.results56, go_sem]) rfl ⟨rfl, ((HH.out.drewN k).grown (gb_set _ _ _) (by simp; omega) (Or.inr HV.out)).grown (gb_set _ _ _) (by simp; omega) (Or.inr HV.out), K⟩
  · go_enter Try.func56, Try.ntmps56
    go_wp2_with fail
    refine (own_made _ _ h4).mono ?_
    rintro e w' ⟨rfl, rfl⟩
    go_wp2_with fail
    refine (pleft_any _ _ _ _ _ _ hl (by omega) (by omega) h0 h1).mono ?_
    rintro e w' ⟨rfl, k, rfl⟩
    go_wp2
    have K : w.grownBy ((((w.alloc (.cells #[.int .i64 0, .int .i64 0] 56)).drewN k).setCell ⟨w.heap.size, 0, none⟩ (.int .i64 why)).setCell ⟨w.heap.size, 1, none⟩ (.int .i64 wat)) (some b) :=
      gb_then (gb_then (gb_trans (gb_alloc _ _ _) (gb_drewN _ _ _)) (gb_set _ _ _) (by intro j hj; cases hj; exact Or.inl (Nat.le_refl _))) (gb_set _ _ _) (by intro j hj; cases hj; exact Or.inl (Nat.le_refl _))
    exact bodyPost_ret (v := .agg #[.int .i64 why, .int .i64 wat]) (by simp [results, Try.results56, go_sem]) rfl ⟨rfl, ((HH.out.drewN k).grown (gb_set _ _ _) (by simp; omega) (Or.inr HV.out)).grown (gb_set _ _ _) (by simp; omega) (Or.inr HV.out), K⟩
end

end Go.Proofs.Ytggmgbdofjhkdaa
