/- The document's eight, Pad and Alike; num. -/
import Derived.Test.YticmdmnjajjpbabDoorSPad
namespace Go.Proofs.YticmdmnjajjpbabDoor
open Go.RowKit

set_option maxRecDepth 100000 in
set_option maxHeartbeats 1000000 in
theorem eight_any (w : World) (n : Nat) :
    Calls Tryd.prog 51 #[.int .u64 n] w fun e w' => ∃ v', e = .returned v' ∧ OwnB w' w.heap.size v' (be8 n) ∧ Below w.heap.size w w' := by
  have HL := hid (Lay8.mk (OwnB.nil w w.heap.size) (Below.refl _ _) (Nat.le_refl _) : Lay8 w w.heap.size [] n 0 (.slice none 0 0) w)
  go_enter Tryd.func51, Tryd.ntmps51
  go_wp2
  go_loopw [3, 4] (fun v i wr => ∃ k : Nat, k ≤ 8 ∧ i = .int .i64 (56 - 8 * (k : Int)) ∧ Lay8 w w.heap.size [] n k v wr) (fun _ i _ => ((intOf i) + 8).toNat)
  case atStart => exact ⟨0, by omega, rfl, HL.out⟩
  case round =>
    obtain ⟨k, hk, rfl, hL⟩ := hrel
    clear HL
    have HL := hid hL
    clear hL
    by_cases hk8 : k < 8
    · obtain ⟨s, hs⟩ : ∃ s, s = 56 - 8 * k := ⟨_, rfl⟩
      have hs2 : (56 : Int) - 8 * (k : Int) = (s : Int) := by omega
      have hs56 : s ≤ 56 := by omega
      rw [hs2]
      have HS := hid hs
      clear hs hs2
      go_wp2_with (at_builtin; refine app_src rfl _ _ rfl w.heap.size _ _ rfl (own_alloc HL.out.own _) _ [(n / 2 ^ s).toUInt8] rfl (src_one _ _ _ ?c0) ?c1 ?c2 ?_)
      case c0 => rw [byte_of]; push_cast; rfl
      case c1 => simp [be8_length]; omega
      case c2 => have := HL.out.size; rw [show (_ : World).heap.size = _ from hp_size _ _]; omega
      intro v1 w1 ho1 hg1
      have hsz : w.heap.size ≤ wr.heap.size + 1 := Nat.le_succ_of_le HL.out.size
      have ho2 : OwnB w1 w.heap.size v1 ([] ++ (be8 n).take (k + 1)) := by
        rw [be8_take n k hk8, ← HS.out, ← List.append_assoc]
        simpa using ho1
      have HN := hid (Lay8.mk ho2 ((HL.out.bel.alloc HL.out.size _).grown hg1 (by rw [hp_size]; exact hsz) (fun q hq => (HL.out.own.lt q hq).1)) (Nat.le_trans (by rw [hp_size]; exact hsz) hg1.size) : Lay8 w w.heap.size [] n (k + 1) v1 w1)
      clear ho1 hg1 HL ho2 hsz
      go_wp2
      refine ⟨⟨k + 1, by omega, ?_, HN.out⟩, by simp [intOf]; omega⟩
      have := HS.out
      congr 1
      omega
    · obtain rfl : k = 8 := by omega
      go_wp2
      go_ret
      exact ⟨_, rfl, HL.out.own, HL.out.bel⟩

def lenV' : Value → Nat
  | .slice _ n _ => n
  | _ => 0
/-- the padding's beginning -/
def pb (k : Nat) : List UInt8 := (List.replicate (1 + k) 0).set 0 128
theorem pb_zero : pb 0 = [128] := rfl
theorem pb_eq (k : Nat) : pb k = 128 :: List.replicate k 0 := by
  unfold pb
  rw [Nat.add_comm]
  rfl
theorem pb_succ (k : Nat) : pb (k + 1) = pb k ++ [0] := by
  rw [pb_eq, pb_eq, List.replicate_succ', List.cons_append]
theorem pb_length (k : Nat) : (pb k).length = 1 + k := by simp [pb]
theorem padB_eq (n : Nat) : padB n = pb (noughts n) ++ be8 (8 * n) := rfl

set_option maxRecDepth 100000 in
set_option maxHeartbeats 1000000 in
theorem rpad_ok (w : World) (n : Nat) (hn : n ≤ 2305843009213693951) :
    Calls Tryd.prog 47 #[.int .u64 n] w fun e w' => ∃ v, e = .returned (.tuple #[v, .int .i64 0]) ∧ OwnB w' w.heap.size v (padB n) ∧ Below w.heap.size w w' := by
  have hq : noughts n = (119 - n % 64) % 64 := rfl
  go_enter Tryd.func47, Tryd.ntmps47
  go_wp2
  go_loopw [4] (fun v wr => ∃ k : Nat, k ≤ noughts n ∧ OwnB wr w.heap.size v (pb k) ∧ Below w.heap.size w wr) (fun v _ => 64 - lenV' v)
  case atStart =>
    refine ⟨0, by omega, ?_, below_walk w _⟩
    exact ⟨rfl, Or.inr ⟨w.heap.size, 1, #[.int .u8 128], rfl, Nat.le_refl _, hp_new _ _, Nat.le_refl _, by unfold maxLen; omega, rfl, rfl⟩⟩
  case round =>
    obtain ⟨k, hk, ho, hb⟩ := hrel
    have HO := hid ho
    have HB := hid hb
    obtain ⟨ao, cp, rfl⟩ := ho.shape
    have hpl := pb_length k
    clear ho hb
    have HPL := hid hpl
    rw [hpl]
    clear hpl
    have hk64 : k < 64 := by omega
    by_cases hlt : k < noughts n
    · have hne : (((n : Int) + (1 + (k : Int)) + 8) % 64 != 0) = true := by
        simp only [bne_iff_ne, ne_eq]
        omega
      have HBs := hid HB.out.size
      have HQ := hid hq
      clear hq
      go_wp2_with (at_builtin; refine app_src rfl _ _ rfl w.heap.size _ (pb k) rfl (by rw [← HPL.out]; exact own_alloc HO.out _) _ [0] rfl (src_one _ 0 0 rfl) ?c1 ?c2 ?_)
      case c1 => rw [HPL.out]; have := HQ.out; simp; omega
      case c2 => have := HBs.out; rw [hp_size]; omega
      intro v1 w1 ho1 hg1
      have HN := hid (show OwnB w1 w.heap.size v1 (pb (k + 1)) by rw [pb_succ]; exact ho1)
      have HN2 := hid ((HB.out.alloc HBs.out _).grown hg1 (by rw [hp_size]; exact Nat.le_succ_of_le HBs.out) (fun q hq => (HO.out.lt q (by rw [HPL.out]; exact hq)).1))
      clear ho1 hg1
      go_wp2
      obtain ⟨ao1, cp1, hv1⟩ := HN.out.shape
      refine ⟨⟨k + 1, by omega, HN.out, HN2.out⟩, ?_⟩
      rw [hv1, pb_length]
      show 64 - (1 + (k + 1)) < 64 - (1 + k)
      have := HQ.out
      omega
    · have hne : (((n : Int) + (1 + (k : Int)) + 8) % 64 != 0) = false := by
        simp only [bne_eq_false_iff_eq]
        omega
      have HK := hid (show k = noughts n by omega)
      have HBs := hid HB.out.size
      have HQ := hid hq
      clear hq hk hlt
      go_wp2_with fail
      rw [show (8 * (n : Int)) = ((8 * n : Nat) : Int) by omega]
      refine (eight_any wr (8 * n)).mono ?_
      rintro e w1 ⟨v1, rfl, ho1, hb1⟩
      have HO1 := hid ho1
      have HB1 := hid hb1
      clear ho1 hb1
      go_wp2_with (at_builtin; refine app_src rfl _ _ rfl w.heap.size _ (pb k) rfl (by rw [← HPL.out]; exact HO.out.below HB1.out) _ (be8 (8 * n)) rfl (HO1.out.src (by rw [be8_length]; omega)) ?d1 ?d2 ?_)
      case d1 => rw [HPL.out, be8_length, HK.out]; have := HQ.out; omega
      case d2 => exact Nat.le_trans HBs.out HB1.out.size
      intro v2 w2 ho2 hg2
      have HO2 := hid (show OwnB w2 w.heap.size v2 (padB n) by rw [padB_eq, ← HK.out]; exact ho2)
      have HB2 := hid ((HB.out.trans (HB1.out.mono HBs.out)).grown hg2 (Nat.le_trans HBs.out HB1.out.size) (fun q hq => (HO.out.lt q (by rw [HPL.out]; exact hq)).1))
      clear ho2 hg2
      go_wp2
      exact bodyPost_ret (results_tmp2 rfl _ _ _) rfl ⟨_, rfl, HO2.out, HB2.out⟩

set_option maxRecDepth 100000 in
set_option maxHeartbeats 1000000 in
theorem rpad_long (w : World) (n : Nat) (hn : ¬ n ≤ 2305843009213693951) :
    Calls Tryd.prog 47 #[.int .u64 n] w fun e w' => e = .returned (.tuple #[.slice none 0 0, .int .i64 21]) ∧ w' = w := by
  go_enter Tryd.func47, Tryd.ntmps47
  go_wp2
  exact bodyPost_ret (results_tmp2 rfl _ _ _) rfl ⟨rfl, rfl⟩

set_option maxRecDepth 100000 in
set_option maxHeartbeats 1000000 in
theorem pad_long (w : World) (n : Nat) (hn : ¬ n ≤ 2305843009213693951) :
    Calls Tryd.prog 23 #[.int .u64 n] w fun e w' => e = .returned (.tuple #[.slice none 0 0, .int .i64 21]) ∧ w' = w := by
  go_enter Tryd.func23, Tryd.ntmps23
  go_wp2
  exact bodyPost_ret (results_tmp2 rfl _ _ _) rfl ⟨rfl, rfl⟩

theorem num_any (w : World) (x : Int) : Calls Tryd.prog 12 #[.int .i64 x] w fun e w' => e = .returned (.int .i64 x) ∧ w' = w := by
  go_enter Tryd.func12, Tryd.ntmps12
  go_wp2
  go_ret
  exact ⟨rfl, rfl⟩

set_option maxRecDepth 100000 in
set_option maxHeartbeats 1000000 in
theorem alike_true (va vb : Value) (bs : List UInt8) (w : World) (ha : Src w va bs) (hb : Src w vb bs) :
    Calls Tryd.prog 28 #[va, vb] w fun e w' => e = .returned (.bool true) ∧ ∃ k, w' = w.drewN k := by
  obtain ⟨aa, ca, rfl⟩ : ∃ aa ca, va = .slice aa bs.length ca := by
    rcases ha.2 with ⟨rfl, rfl⟩ | ⟨ad, cap, rfl, _⟩
    · exact ⟨none, 0, rfl⟩
    · exact ⟨_, _, rfl⟩
  obtain ⟨ab, cb, rfl⟩ : ∃ ab cb, vb = .slice ab bs.length cb := by
    rcases hb.2 with ⟨rfl, rfl⟩ | ⟨ad, cap, rfl, _⟩
    · exact ⟨none, 0, rfl⟩
    · exact ⟨_, _, rfl⟩
  have hl := ha.1
  have HA := hid ha
  have HB := hid hb
  clear ha hb
  go_enter Tryd.func28, Tryd.ntmps28
  go_wp2
  go_loopw [5] (fun i wr => ∃ k q : Nat, k ≤ bs.length ∧ i = .int .i64 k ∧ wr = w.drewN q) (fun i _ => bs.length - (intOf i).toNat)
  case atStart => exact ⟨0, 0, by omega, rfl, rfl⟩
  case round =>
    obtain ⟨k, q, hk, rfl, rfl⟩ := hrel
    by_cases hlt : k < bs.length
    · obtain ⟨ad, rfl, c1⟩ : ∃ ad, aa = some ad ∧ w.cell? (ad.add k) = some (.int .u8 (bs.getD k 0).toNat) := by
        rcases HA.out.2 with ⟨_, h0⟩ | ⟨ad, cap, hv, _, _, _, hc⟩
        · rw [h0] at hlt; simp at hlt
        · injection hv with h1
          exact ⟨ad, h1, hc k hlt⟩
      obtain ⟨bd, rfl, c2⟩ : ∃ bd, ab = some bd ∧ w.cell? (bd.add k) = some (.int .u8 (bs.getD k 0).toNat) := by
        rcases HB.out.2 with ⟨_, h0⟩ | ⟨ad, cap, hv, _, _, _, hc⟩
        · rw [h0] at hlt; simp at hlt
        · injection hv with h1
          exact ⟨ad, h1, hc k hlt⟩
      obtain ⟨x, hx⟩ : ∃ x : Nat, x = (bs.getD k 0).toNat := ⟨_, rfl⟩
      rw [← hx] at c1 c2
      clear hx
      go_wp2
      go_quiet (fail)
      go_wp2
      exact ⟨⟨k + 1, _, by omega, by simp, rfl⟩, by simp [intOf]; omega⟩
    · obtain rfl : k = bs.length := by omega
      go_wp2
      go_ret
      exact ⟨rfl, _, rfl⟩

end Go.Proofs.YticmdmnjajjpbabDoor
