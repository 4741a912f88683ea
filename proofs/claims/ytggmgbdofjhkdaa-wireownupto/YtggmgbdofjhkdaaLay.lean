/- lay and told of the statements: what the program lays behind bytes, and what the document says, are the same bytes. -/
import Derived.Test.YtggmgbdofjhkdaaPutC
namespace Go.Proofs.Ytggmgbdofjhkdaa
open Go.RowKit

/-- which of five -/
def five (K : Int) : Int := (wrap64 (K.tmod 5 + 5)).tmod 5
/-- the bytes of one thing laid down -/
def putB (K : Int) (U : Nat) (I : Int) (ss : List ByteArray) : List UInt8 :=
  if (five K == 0) = true then sn U else if (five K == 1) = true then sn (zz I) else if (five K == 2) = true then [if (((U : Int) % 2) == 1) = true then 1 else 0] else if (five K == 3) = true then txs ss else ls ss

theorem putB_len (K : Int) (U : Nat) (I : Int) (ss : List ByteArray) : (putB K U I ss).length ≤ (txs ss).length + 10 := by
  have h1 := sn_length_le U
  have h2 := sn_length_le (zz I)
  have h3 := sn_length_le ss.length
  unfold putB ls
  split
  · omega
  · split
    · omega
    · split
      · simp
      · split
        · omega
        · simp; omega

/-- what is asked of one thing laid down -/
structure PutOk (w : World) (U : Nat) (I : Int) (tv : Value) (ss : List ByteArray) : Prop where
  u : U < 18446744073709551616
  i0 : -9223372036854775808 ≤ I
  i1 : I ≤ 9223372036854775807
  strs : Strs w tv ss
  len : (txs ss).length ≤ 549755813888

theorem PutOk.below {w w' : World} {U : Nat} {I : Int} {tv : Value} {ss : List ByteArray} (h : PutOk w U I tv ss) (hb : Below w.heap.size w w') : PutOk w' U I tv ss := ⟨h.u, h.i0, h.i1, h.strs.below hb, h.len⟩

theorem putB0 {K : Int} {U : Nat} {I : Int} {ss : List ByteArray}  (h0 : ((wrap64 (K.tmod 5 + 5)).tmod 5 == 0) = true) : putB K U I ss = sn U := by
  unfold putB five
  rw [if_pos h0]
theorem putB1 {K : Int} {U : Nat} {I : Int} {ss : List ByteArray} (h0 : ((wrap64 (K.tmod 5 + 5)).tmod 5 == 0) = false) (h1 : ((wrap64 (K.tmod 5 + 5)).tmod 5 == 1) = true) : putB K U I ss = sn (zz I) := by
  unfold putB five
  rw [if_neg (by rw [h0]; decide), if_pos h1]
theorem putB2 {K : Int} {U : Nat} {I : Int} {ss : List ByteArray} (h0 : ((wrap64 (K.tmod 5 + 5)).tmod 5 == 0) = false) (h1 : ((wrap64 (K.tmod 5 + 5)).tmod 5 == 1) = false) (h2 : ((wrap64 (K.tmod 5 + 5)).tmod 5 == 2) = true) : putB K U I ss = [if (((U : Int) % 2) == 1) = true then 1 else 0] := by
  unfold putB five
  rw [if_neg (by rw [h0]; decide), if_neg (by rw [h1]; decide), if_pos h2]
theorem putB3 {K : Int} {U : Nat} {I : Int} {ss : List ByteArray} (h0 : ((wrap64 (K.tmod 5 + 5)).tmod 5 == 0) = false) (h1 : ((wrap64 (K.tmod 5 + 5)).tmod 5 == 1) = false) (h2 : ((wrap64 (K.tmod 5 + 5)).tmod 5 == 2) = false) (h3 : ((wrap64 (K.tmod 5 + 5)).tmod 5 == 3) = true) : putB K U I ss = txs ss := by
  unfold putB five
  rw [if_neg (by rw [h0]; decide), if_neg (by rw [h1]; decide), if_neg (by rw [h2]; decide), if_pos h3]
theorem putB4 {K : Int} {U : Nat} {I : Int} {ss : List ByteArray} (h0 : ((wrap64 (K.tmod 5 + 5)).tmod 5 == 0) = false) (h1 : ((wrap64 (K.tmod 5 + 5)).tmod 5 == 1) = false) (h2 : ((wrap64 (K.tmod 5 + 5)).tmod 5 == 2) = false) (h3 : ((wrap64 (K.tmod 5 + 5)).tmod 5 == 3) = false) : putB K U I ss = ls ss := by
  unfold putB five
  rw [if_neg (by rw [h0]; decide), if_neg (by rw [h1]; decide), if_neg (by rw [h2]; decide), if_neg (by rw [h3]; decide)]

set_option maxRecDepth 100000 in
set_option maxHeartbeats 1000000 in
theorem lay_any (v0 : Value) (bs : List UInt8) (K : Int) (U : Nat) (I : Int) (tv : Value) (ss : List ByteArray) (w : World) (h0 : Src w v0 bs) (hp : PutOk w U I tv ss) (hl : bs.length ≤ 549755813888) :
    Calls Try.prog 9 #[v0, .agg #[.int .i64 K, .int .u64 U, .int .i64 I, tv]] w fun e w' => ∃ v', e = .returned v' ∧ OwnB w' w.heap.size v' (bs ++ putB K U I ss) ∧ Below w.heap.size w w' := by
  have HP := hid (hp.below (below_walk w (.cells #[.int .i64 K, .int .u64 U, .int .i64 I, tv] 27)))
  have H0 := hid (h0.below (below_walk w (.cells #[.int .i64 K, .int .u64 U, .int .i64 I, tv] 27)))
  have hsh := hp.strs.shape
  clear hp h0
  obtain ⟨ao, c, rfl⟩ := hsh
  go_enter Try.func9, Try.ntmps9
  go_wp2_with fail
  · have HE := hid (putB0 (K := K) (U := U) (I := I) (ss := ss) (by assumption))
    refine (putUint_any _ _ _ _ H0.out HP.out.u (by omega)).mono ?_
    rintro e w1 ⟨v1, rfl, ho, hb⟩
    have HO := hid ho
    have HB := hid hb
    clear ho hb
    go_wp2
    go_ret
    exact ⟨_, rfl, by rw [HE.out]; exact HO.out.le (by simp), (below_walk _ _).trans (HB.out.mono (by simp))⟩
  · have HE := hid (putB1 (K := K) (U := U) (I := I) (ss := ss) (by assumption) (by assumption))
    refine (putInt_any _ _ _ _ H0.out HP.out.i0 HP.out.i1 (by omega)).mono ?_
    rintro e w1 ⟨v1, rfl, ho, hb⟩
    have HO := hid ho
    have HB := hid hb
    clear ho hb
    go_wp2
    go_ret
    exact ⟨_, rfl, by rw [HE.out]; exact HO.out.le (by simp), (below_walk _ _).trans (HB.out.mono (by simp))⟩
  · have HE := hid (putB2 (K := K) (U := U) (I := I) (ss := ss) (by assumption) (by assumption) (by assumption))
    refine (putBool_any _ _ _ _ H0.out (by omega)).mono ?_
    rintro e w1 ⟨v1, rfl, ho, hb⟩
    have HO := hid ho
    have HB := hid hb
    clear ho hb
    go_wp2
    go_ret
    exact ⟨_, rfl, by rw [HE.out]; exact HO.out.le (by simp), (below_walk _ _).trans (HB.out.mono (by simp))⟩
  · have HE := hid (putB3 (K := K) (U := U) (I := I) (ss := ss) (by assumption) (by assumption) (by assumption) (by assumption))
    refine (putText_any _ _ _ _ _ H0.out HP.out.strs (by omega) (by have := HP.out.len; omega)).mono ?_
    rintro e w1 ⟨v1, rfl, ho, hb⟩
    have HO := hid ho
    have HB := hid hb
    clear ho hb
    go_wp2
    go_ret
    exact ⟨_, rfl, by rw [HE.out]; exact HO.out.le (by simp), (below_walk _ _).trans (HB.out.mono (by simp))⟩
  · have HE := hid (putB4 (K := K) (U := U) (I := I) (ss := ss) (by assumption) (by assumption) (by assumption) (by assumption))
    refine (putList_any _ _ _ _ _ H0.out HP.out.strs hl HP.out.len).mono ?_
    rintro e w1 ⟨v1, rfl, ho, hb⟩
    have HO := hid ho
    have HB := hid hb
    clear ho hb
    go_wp2
    go_ret
    exact ⟨_, rfl, by rw [HE.out]; exact HO.out.le (by simp), (below_walk _ _).trans (HB.out.mono (by simp))⟩

set_option maxRecDepth 100000 in
set_option maxHeartbeats 1000000 in
theorem told_any (K : Int) (U : Nat) (I : Int) (tv : Value) (ss : List ByteArray) (w : World) (hp : PutOk w U I tv ss) :
    Calls Try.prog 10 #[.agg #[.int .i64 K, .int .u64 U, .int .i64 I, tv]] w fun e w' => ∃ v', e = .returned v' ∧ OwnB w' w.heap.size v' (putB K U I ss) ∧ Below w.heap.size w w' := by
  have HP := hid (hp.below (below_walk w (.cells #[.int .i64 K, .int .u64 U, .int .i64 I, tv] 27)))
  have hsh := hp.strs.shape
  clear hp
  obtain ⟨ao, c, rfl⟩ := hsh
  go_enter Try.func10, Try.ntmps10
  go_wp2_with fail
  · have HE := hid (putB0 (K := K) (U := U) (I := I) (ss := ss) (by assumption))
    refine (refUint_any _ _ HP.out.u).mono ?_
    rintro e w1 ⟨v1, rfl, ho, hb⟩
    have HO := hid ho
    have HB := hid hb
    clear ho hb
    go_wp2
    go_ret
    exact ⟨_, rfl, by rw [HE.out]; exact HO.out.le (by simp), (below_walk _ _).trans (HB.out.mono (by simp))⟩
  · have HE := hid (putB1 (K := K) (U := U) (I := I) (ss := ss) (by assumption) (by assumption))
    refine (refInt_any _ _ HP.out.i0 HP.out.i1).mono ?_
    rintro e w1 ⟨v1, rfl, ho, hb⟩
    have HO := hid ho
    have HB := hid hb
    clear ho hb
    go_wp2
    go_ret
    exact ⟨_, rfl, by rw [HE.out]; exact HO.out.le (by simp), (below_walk _ _).trans (HB.out.mono (by simp))⟩
  · have HE := hid (putB2 (K := K) (U := U) (I := I) (ss := ss) (by assumption) (by assumption) (by assumption))
    refine (refBool_any _ _).mono ?_
    rintro e w1 ⟨v1, rfl, ho, hb⟩
    have HO := hid ho
    have HB := hid hb
    clear ho hb
    go_wp2
    go_ret
    exact ⟨_, rfl, by rw [HE.out]; exact HO.out.le (by simp), (below_walk _ _).trans (HB.out.mono (by simp))⟩
  · have HE := hid (putB3 (K := K) (U := U) (I := I) (ss := ss) (by assumption) (by assumption) (by assumption) (by assumption))
    refine (refTexts_any _ _ _ HP.out.strs (by have := HP.out.len; omega)).mono ?_
    rintro e w1 ⟨v1, rfl, ho, hb⟩
    have HO := hid ho
    have HB := hid hb
    clear ho hb
    go_wp2
    go_ret
    exact ⟨_, rfl, by rw [HE.out]; exact HO.out.le (by simp), (below_walk _ _).trans (HB.out.mono (by simp))⟩
  · have HE := hid (putB4 (K := K) (U := U) (I := I) (ss := ss) (by assumption) (by assumption) (by assumption) (by assumption))
    refine (refList_any _ _ _ HP.out.strs HP.out.len).mono ?_
    rintro e w1 ⟨v1, rfl, ho, hb⟩
    have HO := hid ho
    have HB := hid hb
    clear ho hb
    go_wp2
    go_ret
    exact ⟨_, rfl, by rw [HE.out]; exact HO.out.le (by simp), (below_walk _ _).trans (HB.out.mono (by simp))⟩

end Go.Proofs.Ytggmgbdofjhkdaa
