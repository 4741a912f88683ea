/- The document's reader: what it means that a block is one; its calls fail and short, and New. -/
import Derived.Test.YtggmgbdofjhkdaaRdK
namespace Go.Proofs.Ytggmgbdofjhkdaa
open Go.RowKit

/-- block b is a reader of the document's: its bytes, its place, its fault -/
structure Qd (w : World) (base b : Nat) (v : Value) (bs : List UInt8) (a : Nat) (why wat : Int) : Prop where
  lo : base ≤ b
  blk : w.heap[b]? = some (.cells #[v, .int .i64 a, .int .i64 why, .int .i64 wat] 40 (0, 0))
  own : OwnB w base v bs
  ne : v.ownBlock ≠ some b
  le : a ≤ bs.length

section
variable {w w' : World} {base b : Nat} {v : Value} {bs : List UInt8} {a : Nat} {why wat : Int}
theorem Qd.lt (h : Qd w base b v bs a why wat) : b < w.heap.size := by
  rcases Nat.lt_or_ge b w.heap.size with h1 | h1
  · exact h1
  · have := h.blk; rw [Array.getElem?_eq_none h1] at this; cases this
theorem Qd.c0 (h : Qd w base b v bs a why wat) : w.cell? ⟨b, 0, none⟩ = some v := by simp [World.cell?, h.blk]
theorem Qd.c1 (h : Qd w base b v bs a why wat) : w.cell? ⟨b, 1, none⟩ = some (.int .i64 a) := by simp [World.cell?, h.blk]
theorem Qd.c2 (h : Qd w base b v bs a why wat) : w.cell? ⟨b, 2, none⟩ = some (.int .i64 why) := by simp [World.cell?, h.blk]
theorem Qd.c3 (h : Qd w base b v bs a why wat) : w.cell? ⟨b, 3, none⟩ = some (.int .i64 wat) := by simp [World.cell?, h.blk]
theorem Qd.fz (h : Qd w base b v bs a why wat) (i : Nat) : w.frozen? ⟨b, i, none⟩ = false := by simp [World.frozen?, h.blk]
theorem Qd.grown {row : Option Nat} (h : Qd w base b v bs a why wat) (hg : w.grownBy w' row) (hb : row ≠ some b) (hv : v.ownBlock = none ∨ v.ownBlock ≠ row) : Qd w' base b v bs a why wat :=
  ⟨h.lo, (hg.block b h.lt (fun e => hb e.symm)).trans h.blk, h.own.kept hg hv, h.ne, h.le⟩
theorem Qd.below (h : Qd w base b v bs a why wat) (hb : Below w.heap.size w w') : Qd w' base b v bs a why wat :=
  ⟨h.lo, (hb.block b h.lt).trans h.blk, h.own.below hb, h.ne, h.le⟩
theorem Qd.drewN (h : Qd w base b v bs a why wat) (k : Nat) : Qd (w.drewN k) base b v bs a why wat := ⟨h.lo, h.blk, h.own, h.ne, h.le⟩
theorem Qd.drew (h : Qd w base b v bs a why wat) : Qd w.drew base b v bs a why wat := ⟨h.lo, h.blk, h.own, h.ne, h.le⟩
theorem Qd.setAt (h : Qd w base b v bs a why wat) (a' : Nat) (h' : a' ≤ bs.length) : Qd (w.setCell ⟨b, 1, none⟩ (.int .i64 a')) base b v bs a' why wat :=
  ⟨h.lo, blk_set h.blk _, h.own.kept (gb_set w _ _) (Or.inr (by simpa using h.ne)), h.ne, h'⟩
theorem Qd.setFault (h : Qd w base b v bs a why wat) (e x : Int) : Qd ((w.setCell ⟨b, 2, none⟩ (.int .i64 e)).setCell ⟨b, 3, none⟩ (.int .i64 x)) base b v bs a e x :=
  ⟨h.lo, blk_set (blk_set h.blk _) _, (h.own.kept (gb_set w _ _) (Or.inr (by simpa using h.ne))).kept (gb_set _ _ _) (Or.inr (by simpa using h.ne)), h.ne, h.le⟩

set_option maxHeartbeats 400000 in
theorem qfail_any (h : Qd w base b v bs a why wat) (e x : Int) :
    Calls Try.prog 76 #[.pointer (some ⟨b, 0, none⟩), .int .i64 e, .int .i64 x] w fun r w' => r = .returned (.tuple #[]) ∧ Qd w' base b v bs a e x ∧ w.grownBy w' (some b) := by
  have HR := hid h
  have h2 := h.c2
  have h3 := h.c3
  have f2 := h.fz 2
  have f3 := h.fz 3
  clear h
  go_enter Try.func76, Try.ntmps76
  go_wp2
  go_end0
  exact ⟨rfl, HR.out.setFault _ _, gb_trans (gb_set _ _ _) (gb_set _ _ _)⟩
end

theorem num_plus {acc c j : Nat} (hj : j ≤ 9) (ha : acc < 128 ^ j) (h9 : j = 9 → c ≤ 1) :
    IntKind.u64.wrap ((acc : Int) + IntKind.u64.wrap ((c : Int) % 128 * 2 ^ (7 * j))) = ((acc + c % 128 * 128 ^ j : Nat) : Int) := by
  have hg := group_lt hj h9
  have hp := pow_mono hj
  have e0 : (c : Int) % 128 = ((c % 128 : Nat) : Int) := by omega
  have e2 : ((c % 128 : Nat) : Int) * 2 ^ (7 * j) = ((c % 128 * 128 ^ j : Nat) : Int) := by rw [← seven_pow j]; simp
  have e3 : IntKind.u64.wrap ((c % 128 * 128 ^ j : Nat) : Int) = ((c % 128 * 128 ^ j : Nat) : Int) := by rw [IntKind.wrap_u64]; omega
  have hb : acc + c % 128 * 128 ^ j < 18446744073709551616 := by
    rcases Nat.lt_or_ge j 9 with h | h
    · have h1 := pow_step h
      have h2 : c % 128 * 128 ^ j ≤ 127 * 72057594037927936 := Nat.mul_le_mul (by omega) h1
      omega
    · obtain rfl : j = 9 := by omega
      have h1 := h9 rfl
      have : c % 128 * 128 ^ 9 ≤ 1 * 128 ^ 9 := Nat.mul_le_mul_right _ (by omega)
      omega
  rw [e0, e2, e3, IntKind.wrap_u64]
  omega

theorem ret_num3 {x y : Int} {k : Int} (h : x = y) : Ending.returned (.tuple #[.int .u64 x, .int .i64 k, .int .i64 0]) = .returned (.tuple #[.int .u64 y, .int .i64 k, .int .i64 0]) := by rw [h]

set_option maxRecDepth 100000 in
set_option maxHeartbeats 1000000 in
theorem short_any (base : Nat) (v : Value) (bs : List UInt8) (a : Nat) (w : World) (ho : OwnB w base v bs) (hle : a ≤ bs.length) (er n k : Nat) (hdec : dec (bs.drop a) 0 0 = (er, n, k)) :
    Calls Try.prog 75 #[v, .int .i64 a] w fun e w' => e = .returned (.tuple #[.int .u64 n, .int .i64 k, .int .i64 er]) ∧ w' = w := by
  have HD := hid hdec
  have hl := ho.len
  have HF := hid ho.forms
  obtain ⟨ad, cap, rfl⟩ := ho.shape
  clear ho hdec
  unfold maxLen at hl
  go_enter Try.func75, Try.ntmps75
  go_wp2_with fail
  go_loop [7, 8] (fun x i => ∃ (j acc : Nat), j ≤ 9 ∧ a + j ≤ bs.length ∧ acc < 128 ^ j ∧ dec (bs.drop (a + j)) j acc = (er, n, k) ∧ x = .int .u64 acc ∧ i = .int .i64 j) (fun _ i => 10 - (intOf i).toNat)
  case atStart => exact ⟨0, 0, by omega, by omega, by simp, HD.out, rfl, rfl⟩
  case round =>
    obtain ⟨j, acc, hj, haj, hacc, hd, rfl, rfl⟩ := hrel
    have HDR := hid hd
    have HAC := hid hacc
    clear hd hacc HD
    by_cases hlt : a + j < bs.length
    · obtain ⟨g, hadr, hbyte⟩ : ∃ g, ad = some ⟨g, 0, none⟩ ∧ w.cell? ⟨g, a + j, none⟩ = some (.int .u8 (bs.getD (a + j) 0).toNat) := by
        rcases HF.out with ⟨_, rfl⟩ | ⟨g, cp, hv, _, _, _, _, _, hc⟩
        · simp at hlt
        · simp only [Value.slice.injEq] at hv
          exact ⟨g, hv.1, hc _ hlt⟩
      subst hadr
      have HDR2 := hid (by rw [← HDR.out, drop_cons hlt, dec_cons] : (er, n, k) = _)
      have hcl := UInt8.toNat_lt (bs.getD (a + j) 0)
      generalize (bs.getD (a + j) 0).toNat = c at *
      have hbd : (a : Int) + (j : Int) < (bs.length : Int) := by omega
      have hbd0 : 0 ≤ (a : Int) + (j : Int) := by omega
      have hte : ((a : Int) + (j : Int)).toNat = a + j := by omega
      by_cases h9 : j = 9
      · subst h9
        have hbd' : (a : Int) + 9 < (bs.length : Int) := by omega
        have hbd0' : 0 ≤ (a : Int) + 9 := by omega
        have hte' : ((a : Int) + 9).toNat = a + 9 := by omega
        by_cases hc1 : (1 : Int) < (c : Int)
        · have HE := hid (end_wide (j := 9) HDR2.out rfl (by omega : 1 < c))
          clear HDR2
          go_wp2_with fail
          go_ret3
          obtain ⟨rfl, rfl, rfl⟩ := HE.out
          exact ⟨rfl, rfl⟩
        · by_cases hz : c = 0
          · have hz' : (c : Int) = 0 := by omega
            have HE := hid (end_form (j := 9) (c := c) HDR2.out (by omega) (by omega) hz)
            clear hz HDR2
            go_wp2_with fail
            go_ret3
            obtain ⟨rfl, rfl, rfl⟩ := HE.out
            exact ⟨rfl, rfl⟩
          · obtain rfl : c = 1 := by omega
            have HE := hid (end_done (j := 9) (c := 1) HDR2.out (by omega) (by omega) (by omega))
            clear HDR2
            go_wp2_with fail
            go_ret3
            obtain ⟨rfl, rfl, rfl⟩ := HE.out
            exact ⟨ret_num3 (num_plus (c := 1) (j := 9) (by omega) HAC.out (by omega)), rfl⟩
      · have HJ9 := hid h9
        have hj9 : ¬ (j : Int) = 9 := by omega
        clear h9
        by_cases hc1 : (c : Int) < 128
        · by_cases hz : c = 0
          · have HZ := hid hz
            have hz' : (c : Int) = 0 := by omega
            clear hz
            by_cases hj0 : 0 < j
            · go_wp2_with fail
              go_ret3
              obtain ⟨rfl, rfl, rfl⟩ := end_form (c := c) (j := j) HDR2.out (by omega) hj0 HZ.out
              exact ⟨rfl, rfl⟩
            · have HE := hid (end_done (c := c) (j := j) HDR2.out (by omega) (by omega) (by omega))
              clear HDR2
              go_wp2_with fail
              go_ret3
              obtain ⟨rfl, rfl, rfl⟩ := HE.out
              refine ⟨ret_num3 (k := (j : Int) + 1) ?_, rfl⟩
              have h1 := pow_mono (show j ≤ 9 by omega)
              have h2 := HAC.out
              rw [HZ.out, IntKind.wrap_u64]
              omega
          · have hz' : ¬ (c : Int) = 0 := by omega
            go_wp2_with fail
            go_ret3
            obtain ⟨rfl, rfl, rfl⟩ := end_done HDR2.out (by have := HJ9.out; omega) (by omega) (by omega)
            have e1 : c % 128 = c := by omega
            exact ⟨ret_num3 (by rw [num_plus (by omega) HAC.out (fun e => absurd e HJ9.out), e1]), rfl⟩
        · go_wp2_with fail
          have e0 := end_more HDR2.out HJ9.out (by omega)
          have e1 : c % 128 = c - 128 := by omega
          have hps : 128 ^ (j + 1) = 128 ^ j * 128 := Nat.pow_succ _ _
          have hlt2 : acc + (c - 128) * 128 ^ j < 128 ^ (j + 1) := by
            have h1 : (c - 128) * 128 ^ j ≤ 127 * 128 ^ j := Nat.mul_le_mul_right _ (by omega)
            have h2 := HAC.out
            omega
          have hj' := HJ9.out
          go_round
          case rel => exact ⟨j + 1, acc + (c - 128) * 128 ^ j, by omega, by omega, hlt2, e0, by rw [num_plus (by omega) HAC.out (fun e => absurd e HJ9.out), e1], by go_num⟩
          case measure => simp [intOf]; omega
    · go_wp2_with fail
      go_ret3
      have e1 : bs.drop (a + j) = [] := List.drop_eq_nil_of_le (by omega)
      have e2 := HDR.out
      rw [e1] at e2
      simp [dec] at e2
      obtain ⟨rfl, rfl, rfl⟩ := e2
      exact ⟨rfl, rfl⟩

end Go.Proofs.Ytggmgbdofjhkdaa
