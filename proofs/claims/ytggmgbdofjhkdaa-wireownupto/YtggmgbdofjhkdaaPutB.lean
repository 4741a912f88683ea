/- The document's Uint, the program's Size, PutUint, folded, PutInt, PutBool; the document's Int and Bool. -/
import Derived.Test.YtggmgbdofjhkdaaPutA
namespace Go.Proofs.Ytggmgbdofjhkdaa
open Go.RowKit

set_option maxRecDepth 100000 in
set_option maxHeartbeats 400000 in
/-- the document's number -/
theorem refUint_any (n : Nat) (w : World) (hn : n < 18446744073709551616) :
    Calls Try.prog 13 #[.int .u64 n] w fun e w' => ∃ v, e = .returned v ∧ OwnB w' w.heap.size v (sn n) ∧ Below w.heap.size w w' := by
  have HL : Hid (Lays w w.heap.size [] w (.slice none 0 0) n [] (sn n)) := ⟨OwnB.nil _ _, rfl, hn, Below.refl _ _, Nat.le_refl _⟩
  have HD : Hid ((sn n).length ≤ 10) := sn_length_le n
  generalize sn n = ds at *
  go_enter Try.func13, Try.ntmps13
  go_wp2
  go_loopw [0, 3] (fun x v wr => ∃ (m : Nat) (cs : List UInt8), x = .int .u64 m ∧ Lays w w.heap.size [] wr v m cs ds) (fun x _ _ => (intOf x).toNat)
  case atStart => exact ⟨n, [], rfl, HL.out⟩
  case round =>
    obtain ⟨m, cs, rfl, hLr⟩ := hrel
    have HR : Hid _ := hLr
    have hm := hLr.lt
    have hcl := hLr.cs_len HD.out
    simp at hcl
    clear hLr HL
    by_cases hlt : m < 128
    · go_wp2_with (at_builtin; refine app_src rfl _ _ rfl w.heap.size _ _ rfl (own_alloc HR.out.own _) _ [m.toUInt8] rfl (src_one _ _ _ ?c0) ?c1 ?c2 ?_)
      case c0 => rw [byte_of]; omega
      case c1 => simp; omega
      case c2 => have := HR.out.size; simp; omega
      intro v' w1 hown hg
      have HF := HR.out.last hlt _ hown hg
      have HF : Hid _ := HF
      clear hown hg HR
      go_wp2
      go_ret
      exact ⟨_, rfl, by simpa using HF.out.1, HF.out.2⟩
    · obtain ⟨c, HC⟩ : ∃ c : UInt8, Hid (c = (m % 128 + 128).toUInt8) := ⟨_, rfl⟩
      go_wp2_with (at_builtin; refine app_src rfl _ _ rfl w.heap.size _ _ rfl (own_alloc HR.out.own _) _ [c] rfl (src_one _ _ _ ?d0) ?d1 ?d2 ?_)
      case d0 => rw [HC.out, byte_of]; omega
      case d1 => simp; omega
      case d2 => have := HR.out.size; simp; omega
      intro v' w1 hown hg
      have HF := HR.out.step (by omega) _ (HC.out ▸ hown) hg
      have HF : Hid _ := HF
      clear hown hg HR
      go_wp2
      go_roundw
      case rel => exact ⟨m / 128, _, by go_num, HF.out⟩
      case measure => simp [intOf]; omega

theorem bv_u64 (a : Nat) (ha : a < 18446744073709551616) : (BitVec.ofInt 64 (a : Int)).toNat = a := by
  rw [BitVec.ofInt_natCast, BitVec.toNat_ofNat]
  exact Nat.mod_eq_of_lt ha
theorem bits_or_u64 (a b : Nat) (ha : a < 18446744073709551616) (hb : b < 18446744073709551616) : bits BinOp.or IntKind.u64 (a : Int) (b : Int) = ((a ||| b : Nat) : Int) := by
  have hx : (a ||| b) < 18446744073709551616 := Nat.or_lt_two_pow (n := 64) ha hb
  show IntKind.u64.wrap ((BitVec.ofInt 64 (a : Int) ||| BitVec.ofInt 64 (b : Int)).toNat : Int) = _
  rw [BitVec.toNat_or, bv_u64 a ha, bv_u64 b hb, IntKind.wrap_u64]
  omega
theorem bits_or_one (n : Nat) (hn : n < 18446744073709551616) : bits BinOp.or IntKind.u64 (n : Int) 1 = ((n ||| 1 : Nat) : Int) := bits_or_u64 n 1 hn (by decide)

set_option maxHeartbeats 400000 in
theorem size_any (n : Nat) (w : World) (hn : n < 18446744073709551616) :
    Calls Try.prog 12 #[.int .u64 n] w fun e w' => e = .returned (.int .i64 (sn n).length) ∧ w' = w := by
  have hor : (n ||| 1) < 18446744073709551616 := Nat.or_lt_two_pow (n := 64) hn (by decide)
  have HB : Hid _ := bits_or_one n hn
  have HS : Hid _ := size_eq n hn
  have hl := Lib.bitLen_le (n ||| 1) 64 (by omega) hor
  go_enter Try.func12, Try.ntmps12
  go_wp2_with fail
  rw [HB.out]
  refine (len64_any _ _ (by omega) (by omega)).mono ?_
  rintro e w' ⟨rfl, rfl⟩
  rw [Int.toNat_natCast]
  go_wp2
  go_ret
  refine ⟨ret_i64 ?_, rfl⟩
  have := HS.out
  omega

set_option maxHeartbeats 400000 in
theorem putUint_any (v0 : Value) (bs : List UInt8) (n : Nat) (w : World) (hs : Src w v0 bs) (hn : n < 18446744073709551616) (hl : bs.length ≤ 1099511627776) :
    Calls Try.prog 14 #[v0, .int .u64 n] w fun e w' => ∃ v, e = .returned v ∧ OwnB w' w.heap.size v (bs ++ sn n) ∧ Below w.heap.size w w' := by
  have HS : Hid (Src w v0 bs) := hs
  have h10 := sn_length_le n
  clear hs
  go_enter Try.func14, Try.ntmps14
  go_wp2_with fail
  refine (size_any _ _ hn).mono ?_
  rintro e w' ⟨rfl, rfl⟩
  go_wp2_with fail
  refine (withRoom_any _ _ _ _ HS.out (by omega)).mono ?_
  rintro e w1 ⟨v1, rfl, ho, hb⟩
  have HO : Hid _ := ho
  have HB : Hid _ := hb
  clear ho hb
  go_wp2_with fail
  refine (addUint_any _ _ _ _ _ HO.out HB.out.size hn (by omega)).mono ?_
  rintro e w2 ⟨v2, rfl, ho, hb⟩
  go_wp2
  go_ret
  exact ⟨_, rfl, ho, HB.out.trans hb⟩

set_option maxHeartbeats 400000 in
theorem putBool_any (v0 : Value) (bs : List UInt8) (x : Bool) (w : World) (hs : Src w v0 bs) (hl : bs.length ≤ 1099511627776) :
    Calls Try.prog 31 #[v0, .bool x] w fun e w' => ∃ v, e = .returned v ∧ OwnB w' w.heap.size v (bs ++ [if x then 1 else 0]) ∧ Below w.heap.size w w' := by
  have HS : Hid (Src w v0 bs) := hs
  clear hs
  cases x
  all_goals
    go_enter Try.func31, Try.ntmps31
    go_wp2_with fail
    refine (withRoom_any _ _ 1 _ HS.out (by omega)).mono ?_
    rintro e w1 ⟨v1, rfl, ho, hb⟩
    have HO : Hid _ := ho
    have HB : Hid _ := hb
    clear ho hb
  · go_wp2_with (at_builtin; refine app_src rfl _ _ rfl w.heap.size _ _ rfl (own_alloc HO.out _) _ [0] rfl (src_one _ _ _ rfl) ?c1 ?c2 ?_)
    case c1 => simp; omega
    case c2 => have := HB.out.size; simp; omega
    intro v' w2 hown hg
    go_wp2
    go_ret
    exact ⟨_, rfl, hown, (HB.out.alloc HB.out.size _).grown hg (by have := HB.out.size; simp; omega) (fun k e => (HO.out.lt k e).1)⟩
  · go_wp2_with (at_builtin; refine app_src rfl _ _ rfl w.heap.size _ _ rfl (own_alloc HO.out _) _ [1] rfl (src_one _ _ _ rfl) ?d1 ?d2 ?_)
    case d1 => simp; omega
    case d2 => have := HB.out.size; simp; omega
    intro v' w2 hown hg
    go_wp2
    go_ret
    exact ⟨_, rfl, hown, (HB.out.alloc HB.out.size _).grown hg (by have := HB.out.size; simp; omega) (fun k e => (HO.out.lt k e).1)⟩

set_option maxHeartbeats 400000 in
theorem refBool_any (x : Bool) (w : World) :
    Calls Try.prog 38 #[.bool x] w fun e w' => ∃ v, e = .returned v ∧ OwnB w' w.heap.size v [if x then 1 else 0] ∧ Below w.heap.size w w' := by
  cases x
  all_goals
    go_enter Try.func38, Try.ntmps38
    go_wp2
    go_ret
    refine ⟨_, rfl, ?_, below_walk _ _⟩
  · exact ⟨rfl, Or.inr ⟨w.heap.size, 1, #[.int .u8 0], rfl, Nat.le_refl _, heap_alloc_new w _, Nat.le_refl _, by unfold maxLen; omega, rfl, rfl⟩⟩
  · exact ⟨rfl, Or.inr ⟨w.heap.size, 1, #[.int .u8 1], rfl, Nat.le_refl _, heap_alloc_new w _, Nat.le_refl _, by unfold maxLen; omega, rfl, rfl⟩⟩

theorem even_or_one (k : Nat) : (2 * k ||| 1) = 2 * k + 1 := by
  have h1 : (2 * k ||| 1) / 2 = k := by
    have := Nat.or_div_two (a := 2 * k) (b := 1)
    simpa using this
  have h2 : (2 * k ||| 1) % 2 = 1 := Nat.or_mod_two_eq_one.2 (Or.inr rfl)
  omega
theorem bits_xor_max (a : Nat) (ha : a < 18446744073709551616) : bits BinOp.xor IntKind.u64 IntKind.u64.max (a : Int) = ((18446744073709551615 - a : Nat) : Int) := by
  have hx : BitVec.ofInt 64 IntKind.u64.max = BitVec.allOnes 64 := by decide +kernel
  show IntKind.u64.wrap ((BitVec.ofInt 64 IntKind.u64.max ^^^ BitVec.ofInt 64 (a : Int)).toNat : Int) = _
  rw [hx, BitVec.allOnes_xor, BitVec.toNat_not, bv_u64 a ha, IntKind.wrap_u64]
  omega
theorem folded_neg (n : Int) (h0 : -9223372036854775808 ≤ n) (hneg : n < 0) :
    bits BinOp.or IntKind.u64 (IntKind.u64.wrap (bits BinOp.xor IntKind.u64 IntKind.u64.max (IntKind.u64.wrap n) * 2)) 1 = (zz n : Int) := by
  obtain ⟨k, hk⟩ : ∃ k : Nat, n = -(k : Int) - 1 := ⟨(-n - 1).toNat, by omega⟩
  have e1 : IntKind.u64.wrap n = ((18446744073709551615 - k : Nat) : Int) := by rw [IntKind.wrap_u64]; omega
  have e2 : IntKind.u64.wrap (((18446744073709551615 - (18446744073709551615 - k) : Nat) : Int) * 2) = ((2 * k : Nat) : Int) := by rw [IntKind.wrap_u64]; omega
  rw [e1, bits_xor_max _ (by omega), e2, bits_or_one _ (by omega), even_or_one]
  unfold zz
  rw [if_pos hneg]
  omega
theorem zz_pos {n : Int} (h : ¬ n < 0) : (zz n : Int) = 2 * n := by unfold zz; rw [if_neg h]; omega
theorem zz_neg {n : Int} (h : n < 0) : (zz n : Int) = 2 * -(n + 1) + 1 := by unfold zz; rw [if_pos h]; omega
theorem zz_lt {n : Int} (h0 : -9223372036854775808 ≤ n) (h1 : n ≤ 9223372036854775807) : zz n < 18446744073709551616 := by unfold zz; split <;> omega

theorem ret_u64 {a b : Int} (h : a = b) : Ending.returned (.int .u64 a) = .returned (.int .u64 b) := by rw [h]

set_option maxHeartbeats 400000 in
theorem folded_any (n : Int) (w : World) (h0 : -9223372036854775808 ≤ n) (h1 : n ≤ 9223372036854775807) :
    Calls Try.prog 69 #[.int .i64 n] w fun e w' => e = .returned (.int .u64 (zz n)) ∧ w' = w := by
  by_cases hneg : n < 0
  · go_enter Try.func69, Try.ntmps69
    go_wp2
    go_ret
    exact ⟨ret_u64 (folded_neg n h0 hneg), rfl⟩
  · go_enter Try.func69, Try.ntmps69
    go_wp2
    go_ret
    exact ⟨ret_u64 (by rw [zz_pos (by omega)]; omega), rfl⟩

set_option maxHeartbeats 400000 in
theorem putInt_any (v0 : Value) (bs : List UInt8) (n : Int) (w : World) (hs : Src w v0 bs) (h0 : -9223372036854775808 ≤ n) (h1 : n ≤ 9223372036854775807) (hl : bs.length ≤ 1099511627776) :
    Calls Try.prog 30 #[v0, .int .i64 n] w fun e w' => ∃ v, e = .returned v ∧ OwnB w' w.heap.size v (bs ++ sn (zz n)) ∧ Below w.heap.size w w' := by
  have HS : Hid (Src w v0 bs) := hs
  clear hs
  go_enter Try.func30, Try.ntmps30
  go_wp2_with fail
  refine (folded_any _ _ h0 h1).mono ?_
  rintro e w' ⟨rfl, rfl⟩
  go_wp2_with fail
  refine (putUint_any _ _ _ _ HS.out (zz_lt h0 h1) hl).mono ?_
  rintro e w1 ⟨v1, rfl, ho, hb⟩
  go_wp2
  go_ret
  exact ⟨_, rfl, ho, hb⟩

set_option maxHeartbeats 400000 in
theorem refInt_any (n : Int) (w : World) (h0 : -9223372036854775808 ≤ n) (h1 : n ≤ 9223372036854775807) :
    Calls Try.prog 37 #[.int .i64 n] w fun e w' => ∃ v, e = .returned v ∧ OwnB w' w.heap.size v (sn (zz n)) ∧ Below w.heap.size w w' := by
  have HZ : Hid (zz n < 18446744073709551616) := zz_lt h0 h1
  by_cases hneg : n < 0
  · have HE : Hid _ := zz_neg hneg
    go_enter Try.func37, Try.ntmps37
    go_wp2_with fail
    rw [← HE.out]
    refine (refUint_any _ _ HZ.out).mono ?_
    rintro e w1 ⟨v1, rfl, ho, hb⟩
    go_wp2
    go_ret
    exact ⟨_, rfl, ho, hb⟩
  · have HE : Hid _ := zz_pos hneg
    go_enter Try.func37, Try.ntmps37
    go_wp2_with fail
    rw [← HE.out]
    refine (refUint_any _ _ HZ.out).mono ?_
    rintro e w1 ⟨v1, rfl, ho, hb⟩
    go_wp2
    go_ret
    exact ⟨_, rfl, ho, hb⟩

end Go.Proofs.Ytggmgbdofjhkdaa
