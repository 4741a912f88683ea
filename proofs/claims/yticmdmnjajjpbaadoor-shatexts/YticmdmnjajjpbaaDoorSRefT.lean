/- The document's Hex, half, Unhex, Compare. -/
import Derived.Test.YticmdmnjajjpbaaDoorSCmp
namespace Go.Proofs.YticmdmnjajjpbaaDoor
open Go.RowKit

set_option maxRecDepth 100000 in
set_option maxHeartbeats 1000000 in
theorem rcompare_any (w : World) (a b : List UInt8) (ha : a.length = 32) (hb : b.length = 32) :
    Calls Tryd.prog 29 #[.agg (bytesV a).toArray, .agg (bytesV b).toArray] w fun e w' => e = .returned (.int .i64 (cmpP a b)) ∧ Below w.heap.size w w' := by
  have HA := hid ha
  have HB := hid hb
  have HZ := hid (cmp_zero a b (by omega))
  have HNA := hid (hp_two' w (.cells (bytesV a).toArray 41) (.cells (bytesV b).toArray 41))
  have HBL := hid (below_walk2 w (.cells (bytesV a).toArray 41) (.cells (bytesV b).toArray 41))
  clear ha hb
  go_enter Tryd.func29, Tryd.ntmps29
  go_upto_region 1 with fail
  generalize (w.alloc (.cells (bytesV a).toArray 41)).alloc (.cells (bytesV b).toArray 41) = w2 at HNA HBL ⊢
  go_wp2
  go_loopw [5] (fun vi wr => ∃ k q : Nat, k ≤ 32 ∧ vi = .int .i64 k ∧ wr = w2.drewN q ∧ Hid (a.take k = b.take k)) (fun vi _ => 32 - (intOf vi).toNat)
  case atStart => exact ⟨0, 0, by omega, rfl, rfl, rfl⟩
  case round =>
    obtain ⟨k, q, hk, rfl, rfl, HT⟩ := hrel
    by_cases hlt : k < 32
    · have c1 := bytes_row_cell HNA.out.1 k (by rw [HA.out]; exact hlt)
      have c2 := bytes_row_cell HNA.out.2 k (by rw [HB.out]; exact hlt)
      obtain ⟨x, HX⟩ : ∃ x : UInt8, Hid (x = a.getD k 0) := ⟨_, rfl⟩
      obtain ⟨y, HY⟩ : ∃ y : UInt8, Hid (y = b.getD k 0) := ⟨_, rfl⟩
      rw [← HX.out] at c1
      rw [← HY.out] at c2
      by_cases hxy : x = y
      · subst hxy
        have HN := hid (take_next (by rw [HA.out, HB.out]) (by rw [HA.out]; exact hlt) HT.out (by rw [← HX.out, ← HY.out]))
        go_wp2
        go_quiet (fail)
        go_upto_region 6 with fail
        obtain ⟨W, HW⟩ : ∃ W, Hid (W = (w2.drewN q).drewN nq) := ⟨_, rfl⟩
        have d1 : W.cell? ⟨w.heap.size, k, none⟩ = some (.int .u8 (x.toNat : Nat)) := by rw [HW.out]; exact c1
        have d2 : W.cell? ⟨w.heap.size + 1, k, none⟩ = some (.int .u8 (x.toNat : Nat)) := by rw [HW.out]; exact c2
        obtain ⟨q1, HQ1⟩ : ∃ q1, Hid (W = w2.drewN q1) := ⟨q + nq, hid (by rw [HW.out, World.drewN_drewN])⟩
        rw [← HW.out]
        clear c1 c2 HW
        go_quiet (fail)
        go_wp2
        exact ⟨⟨k + 1, q1 + nq, by omega, by simp, by rw [HQ1.out, World.drewN_drewN], HN⟩, by simp [intOf]; omega⟩
      · have hnn : x.toNat ≠ y.toNat := fun e => hxy (UInt8.toNat_inj.1 e)
        have HC := hid (cmp_at a b k (by rw [HA.out, HB.out]) (by rw [HA.out]; exact hlt) HT.out (by rw [← HX.out, ← HY.out]; exact hxy))
        rw [← HX.out, ← HY.out] at HC
        clear hxy
        by_cases hl : x.toNat < y.toNat
        · have g : ((x.toNat : Nat) : Int) < ((y.toNat : Nat) : Int) := by omega
          rw [if_pos hl] at HC
          clear hl
          go_wp2
          go_quiet (fail)
          go_wp2
          go_ret
          refine ⟨by rw [HC.out]; rfl, ?_⟩
          exact ⟨HBL.out.os, HBL.out.tape, HBL.out.output, HBL.out.size, HBL.out.block⟩
        · have g : ¬ ((x.toNat : Nat) : Int) < ((y.toNat : Nat) : Int) := by omega
          have g2 : ((y.toNat : Nat) : Int) < ((x.toNat : Nat) : Int) := by omega
          rw [if_neg hl] at HC
          clear hl
          go_wp2
          go_quiet (fail)
          go_upto_region 6 with fail
          obtain ⟨W, HW⟩ : ∃ W, Hid (W = (w2.drewN q).drewN nq) := ⟨_, rfl⟩
          have d1 : W.cell? ⟨w.heap.size, k, none⟩ = some (.int .u8 (x.toNat : Nat)) := by rw [HW.out]; exact c1
          have d2 : W.cell? ⟨w.heap.size + 1, k, none⟩ = some (.int .u8 (y.toNat : Nat)) := by rw [HW.out]; exact c2
          have HBW := hid (show Below w.heap.size w W by rw [HW.out]; exact ⟨HBL.out.os, HBL.out.tape, HBL.out.output, HBL.out.size, HBL.out.block⟩)
          rw [← HW.out]
          clear c1 c2 HW
          go_quiet (fail)
          go_wp2
          go_ret
          refine ⟨by rw [HC.out]; rfl, ?_⟩
          exact ⟨HBW.out.os, HBW.out.tape, HBW.out.output, HBW.out.size, HBW.out.block⟩
    · have hge : ¬ (k : Int) < 32 := by omega
      have HE := hid (HZ.out.2 (by
        have h1 := HT.out
        rwa [List.take_of_length_le (by rw [HA.out]; omega), List.take_of_length_le (by rw [HB.out]; omega)] at h1))
      clear hlt
      go_wp2
      go_ret
      refine ⟨by rw [HE.out]; rfl, ?_⟩
      exact ⟨HBL.out.os, HBL.out.tape, HBL.out.output, HBL.out.size, HBL.out.block⟩

theorem index_digit64 (W : World) : ∀ q : Nat, q < 16 → (Instr.index 9 (.string ⟨#[48, 49, 50, 51, 52, 53, 54, 55, 56, 57, 97, 98, 99, 100, 101, 102]⟩) (.int .i64 (q : Int))).run Tryd.prog W = .ok (.int .u8 ((hexd q).toNat : Nat)) W
  | 0, _ => by kernel_rfl
  | 1, _ => by kernel_rfl
  | 2, _ => by kernel_rfl
  | 3, _ => by kernel_rfl
  | 4, _ => by kernel_rfl
  | 5, _ => by kernel_rfl
  | 6, _ => by kernel_rfl
  | 7, _ => by kernel_rfl
  | 8, _ => by kernel_rfl
  | 9, _ => by kernel_rfl
  | 10, _ => by kernel_rfl
  | 11, _ => by kernel_rfl
  | 12, _ => by kernel_rfl
  | 13, _ => by kernel_rfl
  | 14, _ => by kernel_rfl
  | 15, _ => by kernel_rfl
  | n + 16, h => absurd h (by omega)
/-- what the document's half says -/
def rvD (c : UInt8) : Nat := if okD c then valD c else 16
theorem rvD_hit (k : Nat) (hk : k < 16) : rvD (hexd k) = k := by
  have key : ∀ q : Fin 16, rvD (hexd q.val) = q.val := by decide
  exact key ⟨k, hk⟩
theorem rvD_miss (c : UInt8) (h : ∀ j, j < 16 → hexd j ≠ c) : rvD c = 16 := by
  unfold rvD
  cases e : okD c with
  | false => rfl
  | true => exact absurd (hexd_val c e) (h _ (valD_lt c))

set_option maxRecDepth 100000 in
set_option maxHeartbeats 1000000 in
theorem rhalf_any (c : UInt8) (w : World) :
    Calls Tryd.prog 52 #[.int .u8 ((c.toNat : Nat) : Int)] w fun e w' => e = .returned (.int .u8 ((rvD c : Nat) : Int)) ∧ w' = w := by
  go_enter Tryd.func52, Tryd.ntmps52
  go_wp2
  go_loop [3] (fun vi => ∃ k : Nat, k ≤ 16 ∧ vi = .int .i64 k ∧ Hid (∀ j, j < k → hexd j ≠ c)) (fun vi => 16 - (intOf vi).toNat)
  case atStart => exact ⟨0, by omega, rfl, fun j hj => by omega⟩
  case round =>
    obtain ⟨k, hk, rfl, HM⟩ := hrel
    by_cases hlt : k < 16
    · have hi := fun W => index_digit64 W k hlt
      obtain ⟨d, HD⟩ : ∃ d : UInt8, Hid (d = hexd k) := ⟨_, rfl⟩
      rw [← HD.out] at hi
      by_cases hdc : d = c
      · have HV := hid (show rvD c = k by rw [← hdc, HD.out]; exact rvD_hit k hlt)
        have he : (((d.toNat : Nat) : Int) == ((c.toNat : Nat) : Int)) = true := by rw [hdc]; simp
        have hm : (k : Int) % 256 = (k : Int) := by omega
        clear hdc
        go_wp2
        go_ret
        exact ⟨by rw [HV.out]; rfl, rfl⟩
      · have he : (((d.toNat : Nat) : Int) == ((c.toNat : Nat) : Int)) = false := by
          simp only [beq_eq_false_iff_ne, ne_eq]
          intro e
          exact hdc (UInt8.toNat_inj.1 (by omega))
        have HN := hid (fun (j : Nat) (hj : j < k + 1) => (by
          rcases Nat.lt_or_ge j k with h | h
          · exact HM.out j h
          · obtain rfl : j = k := by omega
            rw [← HD.out]
            exact hdc : hexd j ≠ c))
        clear hdc
        go_wp2
        exact ⟨⟨k + 1, by omega, by simp, HN⟩, by simp [intOf]; omega⟩
    · have hge : ¬ (k : Int) < 16 := by omega
      have HV := hid (rvD_miss c (fun j hj => HM.out j (by omega)))
      clear hlt
      go_wp2
      go_ret
      exact ⟨by rw [HV.out]; rfl, rfl⟩

theorem slice_digit (W : World) : ∀ q : Nat, q < 16 → (Instr.sliceAt 9 (.string ⟨#[48, 49, 50, 51, 52, 53, 54, 55, 56, 57, 97, 98, 99, 100, 101, 102]⟩) (some (.int .u8 (q : Int))) (some (.int .u8 ((q : Int) + 1))) none).run Tryd.prog W = .ok (.string ⟨[hexd q].toArray⟩) W
  | 0, _ => by kernel_rfl
  | 1, _ => by kernel_rfl
  | 2, _ => by kernel_rfl
  | 3, _ => by kernel_rfl
  | 4, _ => by kernel_rfl
  | 5, _ => by kernel_rfl
  | 6, _ => by kernel_rfl
  | 7, _ => by kernel_rfl
  | 8, _ => by kernel_rfl
  | 9, _ => by kernel_rfl
  | 10, _ => by kernel_rfl
  | 11, _ => by kernel_rfl
  | 12, _ => by kernel_rfl
  | 13, _ => by kernel_rfl
  | 14, _ => by kernel_rfl
  | 15, _ => by kernel_rfl
  | n + 16, h => absurd h (by omega)
theorem str_join (l m : List UInt8) : ((⟨l.toArray⟩ : ByteArray) ++ (⟨m.toArray⟩ : ByteArray)) = ⟨(l ++ m).toArray⟩ := by
  apply Go.WideShapes.bytes_inj
  simp [ByteArray.data_append]
theorem str_add (l m : List UInt8) (h : l.length + m.length ≤ 1000000) (W : World) : (binOp .add 9 (.string ⟨l.toArray⟩) (.string ⟨m.toArray⟩)).run Tryd.prog W = .ok (.string ⟨(l ++ m).toArray⟩) W := by
  rw [binOp_string_add]
  have hs : ¬ ((((⟨l.toArray⟩ : ByteArray).size + (⟨m.toArray⟩ : ByteArray).size : Nat) : Int) > IntKind.i64.max) := by
    have e1 : (⟨l.toArray⟩ : ByteArray).size = l.length := by simp [ByteArray.size]
    have e2 : (⟨m.toArray⟩ : ByteArray).size = m.length := by simp [ByteArray.size]
    rw [e1, e2, show IntKind.i64.max = 9223372036854775807 from rfl]
    omega
  simp only [Op.stringOp]
  rw [if_neg hs, str_join]
  rfl

end Go.Proofs.YticmdmnjajjpbaaDoor
