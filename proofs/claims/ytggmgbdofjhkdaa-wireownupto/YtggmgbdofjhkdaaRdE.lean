/- place.number over a reader that NewReader gave: it reads the short number that stands there, or tells why there is none. -/
import Derived.Test.YtggmgbdofjhkdaaLawPuts
import Derived.Test.YtggmgbdofjhkdaaDec
namespace Go.Proofs.Ytggmgbdofjhkdaa
open Go.RowKit

theorem drop_cons {bs : List UInt8} {j : Nat} (h : j < bs.length) : bs.drop j = bs.getD j 0 :: bs.drop (j + 1) := by
  rw [List.drop_eq_getElem_cons h]
  simp [List.getD_eq_getElem?_getD, List.getElem?_eq_getElem h]

theorem bits_and_127_all : ∀ a : Fin 256, bits BinOp.and IntKind.u8 (a.val : Int) 127 = ((a.val % 128 : Nat) : Int) := by decide +kernel
theorem bits_and_127 (c : Nat) (h : c < 256) : bits BinOp.and IntKind.u8 (c : Int) 127 = ((c % 128 : Nat) : Int) := bits_and_127_all ⟨c, h⟩
theorem seven_pow (j : Nat) : (2 : Nat) ^ (7 * j) = 128 ^ j := by rw [Nat.pow_mul]
theorem group_lt {c j : Nat} (hj : j ≤ 9) (h9 : j = 9 → c ≤ 1) : c % 128 * 128 ^ j < 18446744073709551616 := by
  rcases Nat.lt_or_ge j 9 with h | h
  · have h1 := pow_step h
    have : c % 128 * 128 ^ j ≤ 127 * 72057594037927936 := Nat.mul_le_mul (by omega) h1
    omega
  · obtain rfl : j = 9 := by omega
    have h1 := h9 rfl
    have : c % 128 * 128 ^ 9 ≤ 1 * 128 ^ 9 := Nat.mul_le_mul_right _ (by omega)
    omega
/-- one group more -/
theorem num_step {acc c j : Nat} (hj : j ≤ 9) (ha : acc < 128 ^ j) (hc : c < 256) (h9 : j = 9 → c ≤ 1) :
    bits BinOp.or IntKind.u64 (acc : Int) (IntKind.u64.wrap (IntKind.u64.wrap (bits BinOp.and IntKind.u8 (c : Int) 127) * 2 ^ (7 * j))) = ((acc + c % 128 * 128 ^ j : Nat) : Int) := by
  have hg := group_lt hj h9
  have hp := pow_mono hj
  have e1 : IntKind.u64.wrap (bits BinOp.and IntKind.u8 (c : Int) 127) = ((c % 128 : Nat) : Int) := by rw [bits_and_127 c hc, IntKind.wrap_u64]; omega
  have e2 : ((c % 128 : Nat) : Int) * 2 ^ (7 * j) = ((c % 128 * 128 ^ j : Nat) : Int) := by rw [← seven_pow j]; simp
  have e3 : IntKind.u64.wrap ((c % 128 * 128 ^ j : Nat) : Int) = ((c % 128 * 128 ^ j : Nat) : Int) := by rw [IntKind.wrap_u64]; omega
  rw [e1, e2, e3, bits_or_u64 _ _ (by omega) hg]
  have e4 := Nat.two_pow_add_eq_or_of_lt (i := 7 * j) (b := acc) (by rw [seven_pow]; exact ha) (c % 128)
  rw [seven_pow] at e4
  rw [Nat.or_comm, Nat.mul_comm (c % 128), ← e4]
  omega
theorem num_step9 {acc c : Nat} (ha : acc < 128 ^ 9) (h9 : c ≤ 1) :
    bits BinOp.or IntKind.u64 (acc : Int) (IntKind.u64.wrap (IntKind.u64.wrap (bits BinOp.and IntKind.u8 (c : Int) 127) * 9223372036854775808)) = ((acc + c % 128 * 128 ^ 9 : Nat) : Int) :=
  num_step (j := 9) (by omega) ha (by omega) (fun _ => h9)

theorem ret_num {x y : Int} (h : x = y) : Ending.returned (.tuple #[.int .u64 x, .int .i64 0]) = .returned (.tuple #[.int .u64 y, .int .i64 0]) := by rw [h]

section
variable {er n k j c acc : Nat} {r : List UInt8}
theorem end_wide (H : (er, n, k) = if j = 9 ∧ 1 < c then (10, 0, 0) else if 0 < j ∧ c = 0 then (5, 0, 0) else if c < 128 then (0, acc + c * 128 ^ j, j + 1) else dec r (j + 1) (acc + (c - 128) * 128 ^ j)) (h1 : j = 9) (h2 : 1 < c) : er = 10 ∧ n = 0 ∧ k = 0 := by
  rw [if_pos ⟨h1, h2⟩] at H; simpa using H
theorem end_form (H : (er, n, k) = if j = 9 ∧ 1 < c then (10, 0, 0) else if 0 < j ∧ c = 0 then (5, 0, 0) else if c < 128 then (0, acc + c * 128 ^ j, j + 1) else dec r (j + 1) (acc + (c - 128) * 128 ^ j)) (h1 : ¬ (j = 9 ∧ 1 < c)) (h2 : 0 < j) (h3 : c = 0) : er = 5 ∧ n = 0 ∧ k = 0 := by
  rw [if_neg h1, if_pos ⟨h2, h3⟩] at H; simpa using H
theorem end_done (H : (er, n, k) = if j = 9 ∧ 1 < c then (10, 0, 0) else if 0 < j ∧ c = 0 then (5, 0, 0) else if c < 128 then (0, acc + c * 128 ^ j, j + 1) else dec r (j + 1) (acc + (c - 128) * 128 ^ j)) (h1 : ¬ (j = 9 ∧ 1 < c)) (h2 : ¬ (0 < j ∧ c = 0)) (h3 : c < 128) : er = 0 ∧ n = acc + c * 128 ^ j ∧ k = j + 1 := by
  rw [if_neg h1, if_neg h2, if_pos h3] at H; simpa using H
theorem end_more (H : (er, n, k) = if j = 9 ∧ 1 < c then (10, 0, 0) else if 0 < j ∧ c = 0 then (5, 0, 0) else if c < 128 then (0, acc + c * 128 ^ j, j + 1) else dec r (j + 1) (acc + (c - 128) * 128 ^ j)) (h1 : ¬ j = 9) (h2 : 128 ≤ c) : dec r (j + 1) (acc + (c - 128) * 128 ^ j) = (er, n, k) := by
  rw [if_neg (by omega), if_neg (by omega), if_neg (by omega)] at H; exact H.symm
end

set_option maxRecDepth 100000 in
set_option maxHeartbeats 1000000 in
theorem number_any (base b : Nat) (v : Value) (bs : List UInt8) (a : Nat) (why wat : Int) (w : World) (h : Rd w base b v bs a why wat) (er n k : Nat) (hdec : dec (bs.drop a) 0 0 = (er, n, k)) :
    Calls Try.prog 60 #[.pointer (some ⟨b, 0, none⟩)] w fun e w' => e = .returned (.tuple #[.int .u64 n, .int .i64 er]) ∧ Rd w' base b v bs (a + k) why wat ∧ w.grownBy w' (some b) := by
  have HD := hid hdec
  have HR := hid h
  have h0 := h.c0
  have h1 := h.c1
  have f1 := h.fz 1
  have hl := h.own.len
  have hle := h.le
  have HF := hid h.own.forms
  obtain ⟨ad, cap, rfl⟩ := h.own.shape
  clear h hdec
  have hl' := hl
  unfold maxLen at hl'
  go_enter Try.func60, Try.ntmps60
  go_wp2_with fail
  go_loopw [4, 5] (fun x i wr => ∃ (j acc q : Nat), j ≤ 9 ∧ a + j ≤ bs.length ∧ acc < 128 ^ j ∧ dec (bs.drop (a + j)) j acc = (er, n, k) ∧ x = .int .u64 acc ∧ i = .int .i64 j ∧ wr = w.drewN q) (fun _ i _ => 10 - (intOf i).toNat)
  case atStart => exact ⟨0, 0, 0, by omega, by omega, by simp, HD.out, rfl, rfl, rfl⟩
  case round =>
    obtain ⟨j, acc, q, hj, haj, hacc, hd, rfl, rfl, rfl⟩ := hrel
    have HDR := hid hd
    have HAC := hid hacc
    clear hd hacc HD
    by_cases hlt : a + j < bs.length
    · obtain ⟨g, hadr, hbyte⟩ : ∃ g, ad = some ⟨g, 0, none⟩ ∧ w.cell? ⟨g, a + j, none⟩ = some (.int .u8 (bs.getD (a + j) 0).toNat) := by
        rcases HF.out with ⟨_, rfl⟩ | ⟨g, cp, hv, _, _, _, _, _, hc⟩
        · simp at hlt
        · simp only [Value.slice.injEq] at hv
          exact ⟨g, hv.1, hc _ hlt⟩
      subst hadr
      have HDR2 := hid (by rw [← HDR.out, drop_cons hlt, dec_cons] : (er, n, k) = _)
      have hcl := UInt8.toNat_lt (bs.getD (a + j) 0)
      generalize (bs.getD (a + j) 0).toNat = c at *
      have hbd : (a : Int) + (j : Int) < (bs.length : Int) := by omega
      have hbd0 : 0 ≤ (a : Int) + (j : Int) := by omega
      have hte : ((a : Int) + (j : Int)).toNat = a + j := by omega
      go_wp2_with (go_at_call 68; go_must (refine (pleft_any _ _ _ (a : Int) _ _ hl (by omega) (by omega) (by exact h0) (by exact h1)).mono ?_); rintro e w' ⟨rfl, q2, rfl⟩)
      go_quiet (fail)
      by_cases h9 : (j : Int) = 9
      · have HJ := hid (by omega : j = 9)
        go_wp2_with fail
        · go_ret2
          have hc1 : (1 : Int) < (c : Int) := by assumption
          obtain ⟨rfl, rfl, rfl⟩ := end_wide HDR2.out HJ.out (by omega)
          exact ⟨rfl, HR.out.drewN _, gb_drewN _ _ _⟩
        · go_ret2
          have hz : ((c : Int) == 0) = true := by assumption
          have hz' : c = 0 := by simpa using hz
          obtain ⟨rfl, rfl, rfl⟩ := end_form HDR2.out (by omega) (by have := HJ.out; omega) hz'
          exact ⟨rfl, HR.out.drewN _, gb_drewN _ _ _⟩
        · have hz : ((c : Int) == 0) = false := by assumption
          have hz' : c ≠ 0 := by simpa using hz
          have hc1 : (c : Int) ≤ 1 := by assumption
          go_ret2
          have e0 := end_done HDR2.out (by omega) (by omega) (by omega)
          have R := (HR.out.drewN (q + q2 + nq)).setAt (a + (j + 1)) (by omega)
          have e1 : c % 128 = c := by omega
          have e2 : (a : Int) + 10 = ((a + (j + 1) : Nat) : Int) := by omega
          rw [e2]
          obtain ⟨rfl, rfl, rfl⟩ := e0
          exact ⟨ret_num (by rw [num_step9 (HJ.out ▸ HAC.out) (by omega), e1, HJ.out]), R, gb_trans (gb_drewN _ _ _) (gb_set _ _ _)⟩
      · have HJ9 := hid (by omega : ¬ j = 9)
        by_cases h0 : 0 < j
        · go_wp2_with fail
          · go_ret2
            have hz : ((c : Int) == 0) = true := by assumption
            have hz' : c = 0 := by simpa using hz
            obtain ⟨rfl, rfl, rfl⟩ := end_form HDR2.out (by omega) h0 hz'
            exact ⟨rfl, HR.out.drewN _, gb_drewN _ _ _⟩
          · have hz : ((c : Int) == 0) = false := by assumption
            have hz' : c ≠ 0 := by simpa using hz
            have hc1 : (c : Int) < 128 := by assumption
            go_ret2
            have e0 := end_done HDR2.out (by omega) (by omega) (by omega)
            have R := (HR.out.drewN (q + q2 + nq)).setAt (a + (j + 1)) (by omega)
            have e1 : c % 128 = c := by omega
            have e2 : (a : Int) + ((j : Int) + 1) = ((a + (j + 1) : Nat) : Int) := by omega
            rw [e2]
            obtain ⟨rfl, rfl, rfl⟩ := e0
            exact ⟨ret_num (by rw [num_step (by omega) HAC.out hcl (fun e => absurd e HJ9.out), e1]), R, gb_trans (gb_drewN _ _ _) (gb_set _ _ _)⟩
          · have hz : ((c : Int) == 0) = false := by assumption
            have hc128 : (128 : Int) ≤ (c : Int) := by assumption
            have e0 := end_more HDR2.out HJ9.out (by omega)
            have e1 : c % 128 = c - 128 := by omega
            have hps : 128 ^ (j + 1) = 128 ^ j * 128 := Nat.pow_succ _ _
            have hmul : (c - 128) * 128 ^ j ≤ 127 * 128 ^ j := Nat.mul_le_mul_right _ (by omega)
            have hac := HAC.out
            refine ⟨⟨j + 1, acc + (c - 128) * 128 ^ j, q + q2 + nq, by omega, by omega, by rw [hps]; omega, by rw [← Nat.add_assoc]; exact e0, ?_, by go_num, rfl⟩, by simp [intOf]; omega⟩
            rw [num_step (by omega) HAC.out hcl (fun e => absurd e HJ9.out), e1]
        · go_wp2_with fail
          · have hc1 : (c : Int) < 128 := by assumption
            go_ret2
            have e0 := end_done HDR2.out (by omega) (by omega) (by omega)
            have R := (HR.out.drewN (q + q2 + nq)).setAt (a + (j + 1)) (by omega)
            have e1 : c % 128 = c := by omega
            have e2 : (a : Int) + ((j : Int) + 1) = ((a + (j + 1) : Nat) : Int) := by omega
            rw [e2]
            obtain ⟨rfl, rfl, rfl⟩ := e0
            exact ⟨ret_num (by rw [num_step (by omega) HAC.out hcl (fun e => absurd e HJ9.out), e1]), R, gb_trans (gb_drewN _ _ _) (gb_set _ _ _)⟩
          · have hc128 : (128 : Int) ≤ (c : Int) := by assumption
            have e0 := end_more HDR2.out HJ9.out (by omega)
            have e1 : c % 128 = c - 128 := by omega
            have hps : 128 ^ (j + 1) = 128 ^ j * 128 := Nat.pow_succ _ _
            have hmul : (c - 128) * 128 ^ j ≤ 127 * 128 ^ j := Nat.mul_le_mul_right _ (by omega)
            have hac := HAC.out
            refine ⟨⟨j + 1, acc + (c - 128) * 128 ^ j, q + q2 + nq, by omega, by omega, by rw [hps]; omega, by rw [← Nat.add_assoc]; exact e0, ?_, by go_num, rfl⟩, by simp [intOf]; omega⟩
            rw [num_step (by omega) HAC.out hcl (fun e => absurd e HJ9.out), e1]
    · have hnl : ¬ ((j : Int) < (bs.length : Int) - (a : Int)) := by omega
      have HN := hid (by rw [← HDR.out, List.drop_eq_nil_of_le (by omega)]; rfl : (er, n, k) = (4, 0, 0))
      go_wp2_with (go_at_call 68; go_must (refine (pleft_any _ _ _ (a : Int) _ _ hl (by omega) (by omega) (by exact h0) (by exact h1)).mono ?_); rintro e w' ⟨rfl, q2, rfl⟩)
      go_ret2
      have e1 := HN.out
      simp only [Prod.mk.injEq] at e1
      obtain ⟨rfl, rfl, rfl⟩ := e1
      exact ⟨rfl, HR.out.drewN _, gb_drewN _ _ _⟩

end Go.Proofs.Ytggmgbdofjhkdaa
