/- The document's Hex. -/
import Derived.Test.YticmdmnjajjpbaaDoorSRefT
namespace Go.Proofs.YticmdmnjajjpbaaDoor
open Go.RowKit

theorem str_add' (l m : List UInt8) (h : l.length + m.length ≤ 1000000) (W : World) : (Op.stringOp .add ⟨l.toArray⟩ ⟨m.toArray⟩).run Tryd.prog W = .ok (.string ⟨(l ++ m).toArray⟩) W := by
  have := str_add l m h W
  rwa [binOp_string_add] at this

set_option maxRecDepth 100000 in
set_option maxHeartbeats 1000000 in
theorem rhex_any (w : World) (bs : List UInt8) (h32 : bs.length = 32) :
    Calls Tryd.prog 27 #[.agg (bytesV bs).toArray] w fun e w' => e = .returned (.string ⟨(hexT bs).toArray⟩) ∧ Below w.heap.size w w' := by
  have HBX := hid (below_walk w (.cells (bytesV bs).toArray 41))
  have HN := hid (hp_new w (.cells (bytesV bs).toArray 41))
  have H32 := hid h32
  clear h32
  go_enter Tryd.func27, Tryd.ntmps27
  go_upto_region 1 with fail
  generalize w.alloc (.cells (bytesV bs).toArray 41) = w1 at HBX HN ⊢
  go_wp2
  go_loopw [3, 4] (fun vs vi wr => ∃ (k q : Nat) (l : List UInt8), k ≤ 32 ∧ vs = .string ⟨l.toArray⟩ ∧ vi = .int .i64 k ∧ wr = w1.drewN q ∧ Hid (l = hexT (bs.take k))) (fun _ vi _ => 32 - (intOf vi).toNat)
  case atStart => exact ⟨0, 0, [], by omega, rfl, rfl, rfl, rfl⟩
  case round =>
    obtain ⟨k, q, l, hk, rfl, rfl, rfl, HL⟩ := hrel
    by_cases hlt : k < 32
    · have c1 := bytes_row_cell HN.out k (by rw [H32.out]; exact hlt)
      have HT := hid (hexT_take bs k (by rw [H32.out]; exact hlt))
      obtain ⟨c, HC⟩ : ∃ c : UInt8, Hid (c = bs.getD k 0) := ⟨_, rfl⟩
      rw [← HC.out] at c1 HT
      obtain ⟨hi, HI⟩ : ∃ q, Hid (q = c.toNat / 16) := ⟨_, rfl⟩
      obtain ⟨lo, HO⟩ : ∃ r, Hid (r = c.toNat % 16) := ⟨_, rfl⟩
      rw [← HI.out, ← HO.out, ← HL.out] at HT
      have hc := c.toNat_lt
      have hh : hi < 16 := by rw [HI.out]; omega
      have hl : lo < 16 := by rw [HO.out]; omega
      have e1 : ((c.toNat : Nat) : Int) / 2 ^ 4 = (hi : Int) := by rw [HI.out]; omega
      have e1' : ((c.toNat : Nat) : Int) / 16 = (hi : Int) := by rw [HI.out]; omega
      have e2 : bits .and .u8 ((c.toNat : Nat) : Int) 15 = (lo : Int) := by
        have := u8_and_nat c.toNat 15 (by omega) (by omega)
        rw [show (15 : Nat) = 2 ^ 4 - 1 from rfl, Nat.and_two_pow_sub_one_eq_mod, ← show (15 : Nat) = 2 ^ 4 - 1 from rfl] at this
        rw [HO.out]
        exact this
      have w8a : IntKind.u8.wrap ((hi : Int) + 1) = (hi : Int) + 1 := by rw [IntKind.wrap_u8']; omega
      have w8b : IntKind.u8.wrap ((lo : Int) + 1) = (lo : Int) + 1 := by rw [IntKind.wrap_u8']; omega
      have s1 := fun W => slice_digit W hi hh
      have s2 := fun W => slice_digit W lo hl
      have HLL := hid (show l.length ≤ 64 by rw [HL.out, hexT_length, List.length_take]; omega)
      obtain ⟨x, HX⟩ : ∃ x, Hid (x = hexd hi) := ⟨_, rfl⟩
      obtain ⟨y, HY⟩ : ∃ y, Hid (y = hexd lo) := ⟨_, rfl⟩
      rw [← HX.out] at s1 HT
      rw [← HY.out] at s2 HT
      obtain ⟨lx, HLX⟩ : ∃ m, Hid (m = [x]) := ⟨_, rfl⟩
      obtain ⟨ly, HLY⟩ : ∃ m, Hid (m = [y]) := ⟨_, rfl⟩
      rw [← HLX.out] at s1
      rw [← HLY.out] at s2
      have a1 := fun W => str_add' l lx (by rw [HLX.out]; have := HLL.out; simp; omega) W
      obtain ⟨l1, HL1⟩ : ∃ m, Hid (m = l ++ lx) := ⟨_, rfl⟩
      rw [← HL1.out] at a1
      have a2 := fun W => str_add' l1 ly (by rw [HL1.out, HLX.out, HLY.out]; have := HLL.out; simp; omega) W
      obtain ⟨l2, HL2⟩ : ∃ m, Hid (m = l1 ++ ly) := ⟨_, rfl⟩
      rw [← HL2.out] at a2
      have HN2 := hid (show l2 = hexT (bs.take (k + 1)) by rw [HL2.out, HL1.out, HLX.out, HLY.out, HT.out]; simp)
      go_wp2
      go_quiet (fail)
      go_wp2
      exact ⟨⟨k + 1, _, l2, by omega, rfl, by simp, rfl, HN2⟩, by simp [intOf]; omega⟩
    · have hge : ¬ (k : Int) < 32 := by omega
      have HE := hid (show l = hexT bs by rw [HL.out, List.take_of_length_le (by rw [H32.out]; omega)])
      clear hlt
      go_wp2
      go_ret
      refine ⟨by rw [← HE.out]; rfl, ?_⟩
      exact ⟨HBX.out.os, HBX.out.tape, HBX.out.output, HBX.out.size, HBX.out.block⟩

end Go.Proofs.YticmdmnjajjpbaaDoor
