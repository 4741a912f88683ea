/- word of the statements: what a call reads, as bytes. -/
import Derived.Test.YtggmgbdofjhkdaaRdK
import Derived.Test.YtggmgbdofjhkdaaLawForm
namespace Go.Proofs.Ytggmgbdofjhkdaa
open Go.RowKit

/-- which of ten -/
def ten (K : Int) : Int := (wrap64 (K.tmod 10 + 10)).tmod 10
/-- what a call reads, as bytes, and where the reader stands then -/
def wordF (bs : List UInt8) (a : Nat) (why wat K A B : Int) : List UInt8 × Nat × Int × Int :=
  if (ten K == 0) = true then ([UInt8.ofNat (byteF bs a why wat).1], (byteF bs a why wat).2)
  else if (ten K == 1) = true then (sn (uintF bs a why wat).1, (uintF bs a why wat).2)
  else if (ten K == 2) = true then (sn (zz (uz (uintF bs a why wat).1)), (uintF bs a why wat).2)
  else if (ten K == 3) = true then (sn (zz (((countF bs a why wat A).1 : Nat) : Int)), (countF bs a why wat A).2)
  else if (ten K == 4) = true then ([if (boolF bs a why wat).1 = true then 1 else 0], (boolF bs a why wat).2)
  else if (ten K == 5) = true then (tx (mk (textF bs a why wat A).1), (textF bs a why wat A).2)
  else if (ten K == 6) = true then (ls (((listF bs a why wat A B).1).map mk), (listF bs a why wat A B).2)
  else ((rawF bs a why wat A).1, (rawF bs a why wat A).2)

theorem wordF0 (bs : List UInt8) (a : Nat) (why wat : Int) {K : Int} (A B : Int) (h0 : ((wrap64 (K.tmod 10 + 10)).tmod 10 == 0) = true) : wordF bs a why wat K A B = ([UInt8.ofNat (byteF bs a why wat).1], (byteF bs a why wat).2) := by
  unfold wordF ten
  rw [if_pos h0]
theorem wordF1 (bs : List UInt8) (a : Nat) (why wat : Int) {K : Int} (A B : Int) (h0 : ((wrap64 (K.tmod 10 + 10)).tmod 10 == 0) = false) (h1 : ((wrap64 (K.tmod 10 + 10)).tmod 10 == 1) = true) : wordF bs a why wat K A B = (sn (uintF bs a why wat).1, (uintF bs a why wat).2) := by
  unfold wordF ten
  rw [if_neg (by rw [h0]; decide), if_pos h1]
theorem wordF2 (bs : List UInt8) (a : Nat) (why wat : Int) {K : Int} (A B : Int) (h0 : ((wrap64 (K.tmod 10 + 10)).tmod 10 == 0) = false) (h1 : ((wrap64 (K.tmod 10 + 10)).tmod 10 == 1) = false) (h2 : ((wrap64 (K.tmod 10 + 10)).tmod 10 == 2) = true) : wordF bs a why wat K A B = (sn (zz (uz (uintF bs a why wat).1)), (uintF bs a why wat).2) := by
  unfold wordF ten
  rw [if_neg (by rw [h0]; decide), if_neg (by rw [h1]; decide), if_pos h2]
theorem wordF3 (bs : List UInt8) (a : Nat) (why wat : Int) {K : Int} (A B : Int) (h0 : ((wrap64 (K.tmod 10 + 10)).tmod 10 == 0) = false) (h1 : ((wrap64 (K.tmod 10 + 10)).tmod 10 == 1) = false) (h2 : ((wrap64 (K.tmod 10 + 10)).tmod 10 == 2) = false) (h3 : ((wrap64 (K.tmod 10 + 10)).tmod 10 == 3) = true) : wordF bs a why wat K A B = (sn (zz (((countF bs a why wat A).1 : Nat) : Int)), (countF bs a why wat A).2) := by
  unfold wordF ten
  rw [if_neg (by rw [h0]; decide), if_neg (by rw [h1]; decide), if_neg (by rw [h2]; decide), if_pos h3]
theorem wordF4 (bs : List UInt8) (a : Nat) (why wat : Int) {K : Int} (A B : Int) (h0 : ((wrap64 (K.tmod 10 + 10)).tmod 10 == 0) = false) (h1 : ((wrap64 (K.tmod 10 + 10)).tmod 10 == 1) = false) (h2 : ((wrap64 (K.tmod 10 + 10)).tmod 10 == 2) = false) (h3 : ((wrap64 (K.tmod 10 + 10)).tmod 10 == 3) = false) (h4 : ((wrap64 (K.tmod 10 + 10)).tmod 10 == 4) = true) : wordF bs a why wat K A B = ([if (boolF bs a why wat).1 = true then 1 else 0], (boolF bs a why wat).2) := by
  unfold wordF ten
  rw [if_neg (by rw [h0]; decide), if_neg (by rw [h1]; decide), if_neg (by rw [h2]; decide), if_neg (by rw [h3]; decide), if_pos h4]
theorem wordF5 (bs : List UInt8) (a : Nat) (why wat : Int) {K : Int} (A B : Int) (h0 : ((wrap64 (K.tmod 10 + 10)).tmod 10 == 0) = false) (h1 : ((wrap64 (K.tmod 10 + 10)).tmod 10 == 1) = false) (h2 : ((wrap64 (K.tmod 10 + 10)).tmod 10 == 2) = false) (h3 : ((wrap64 (K.tmod 10 + 10)).tmod 10 == 3) = false) (h4 : ((wrap64 (K.tmod 10 + 10)).tmod 10 == 4) = false) (h5 : ((wrap64 (K.tmod 10 + 10)).tmod 10 == 5) = true) : wordF bs a why wat K A B = (tx (mk (textF bs a why wat A).1), (textF bs a why wat A).2) := by
  unfold wordF ten
  rw [if_neg (by rw [h0]; decide), if_neg (by rw [h1]; decide), if_neg (by rw [h2]; decide), if_neg (by rw [h3]; decide), if_neg (by rw [h4]; decide), if_pos h5]
theorem wordF6 (bs : List UInt8) (a : Nat) (why wat : Int) {K : Int} (A B : Int) (h0 : ((wrap64 (K.tmod 10 + 10)).tmod 10 == 0) = false) (h1 : ((wrap64 (K.tmod 10 + 10)).tmod 10 == 1) = false) (h2 : ((wrap64 (K.tmod 10 + 10)).tmod 10 == 2) = false) (h3 : ((wrap64 (K.tmod 10 + 10)).tmod 10 == 3) = false) (h4 : ((wrap64 (K.tmod 10 + 10)).tmod 10 == 4) = false) (h5 : ((wrap64 (K.tmod 10 + 10)).tmod 10 == 5) = false) (h6 : ((wrap64 (K.tmod 10 + 10)).tmod 10 == 6) = true) : wordF bs a why wat K A B = (ls (((listF bs a why wat A B).1).map mk), (listF bs a why wat A B).2) := by
  unfold wordF ten
  rw [if_neg (by rw [h0]; decide), if_neg (by rw [h1]; decide), if_neg (by rw [h2]; decide), if_neg (by rw [h3]; decide), if_neg (by rw [h4]; decide), if_neg (by rw [h5]; decide), if_pos h6]
theorem wordF7 (bs : List UInt8) (a : Nat) (why wat : Int) {K : Int} (A B : Int) (h0 : ((wrap64 (K.tmod 10 + 10)).tmod 10 == 0) = false) (h1 : ((wrap64 (K.tmod 10 + 10)).tmod 10 == 1) = false) (h2 : ((wrap64 (K.tmod 10 + 10)).tmod 10 == 2) = false) (h3 : ((wrap64 (K.tmod 10 + 10)).tmod 10 == 3) = false) (h4 : ((wrap64 (K.tmod 10 + 10)).tmod 10 == 4) = false) (h5 : ((wrap64 (K.tmod 10 + 10)).tmod 10 == 5) = false) (h6 : ((wrap64 (K.tmod 10 + 10)).tmod 10 == 6) = false) : wordF bs a why wat K A B = ((rawF bs a why wat A).1, (rawF bs a why wat A).2) := by
  unfold wordF ten
  rw [if_neg (by rw [h0]; decide), if_neg (by rw [h1]; decide), if_neg (by rw [h2]; decide), if_neg (by rw [h3]; decide), if_neg (by rw [h4]; decide), if_neg (by rw [h5]; decide), if_neg (by rw [h6]; decide)]

theorem wordF_begin (bs : List UInt8) (n a : Nat) (why wat K A B : Int) (h : (wordF (bs.take n) a why wat K A B).2.2.1 ≠ 4) : wordF (bs.take n) a why wat K A B = wordF bs a why wat K A B := by
  unfold wordF at h ⊢
  by_cases h0 : (ten K == 0) = true
  · rw [if_pos h0] at h ⊢
    rw [if_pos h0, byteF_begin bs n a why wat h]
  rw [if_neg h0] at h ⊢
  rw [if_neg h0]
  by_cases h1 : (ten K == 1) = true
  · rw [if_pos h1] at h ⊢
    rw [if_pos h1, uintF_begin bs n a why wat h]
  rw [if_neg h1] at h ⊢
  rw [if_neg h1]
  by_cases h2 : (ten K == 2) = true
  · rw [if_pos h2] at h ⊢
    rw [if_pos h2, uintF_begin bs n a why wat h]
  rw [if_neg h2] at h ⊢
  rw [if_neg h2]
  by_cases h3 : (ten K == 3) = true
  · rw [if_pos h3] at h ⊢
    rw [if_pos h3, countF_begin bs n a why wat A h]
  rw [if_neg h3] at h ⊢
  rw [if_neg h3]
  by_cases h4 : (ten K == 4) = true
  · rw [if_pos h4] at h ⊢
    rw [if_pos h4, boolF_begin bs n a why wat h]
  rw [if_neg h4] at h ⊢
  rw [if_neg h4]
  by_cases h5 : (ten K == 5) = true
  · rw [if_pos h5] at h ⊢
    rw [if_pos h5, textF_begin bs n a why wat A h]
  rw [if_neg h5] at h ⊢
  rw [if_neg h5]
  by_cases h6 : (ten K == 6) = true
  · rw [if_pos h6] at h ⊢
    rw [if_pos h6, listF_begin bs n a why wat A B h]
  rw [if_neg h6] at h ⊢
  rw [if_neg h6]
  rw [rawF_begin bs n a why wat A h]

theorem own_one (w : World) (n : Nat) (hn : n < 256) : OwnB (w.alloc (.cells #[.int .u8 (n : Int)] 5)) w.heap.size (.slice (some ⟨w.heap.size, 0, none⟩) 1 1) [UInt8.ofNat n] := by
  have e : ((UInt8.ofNat n).toNat : Int) = n := by simp; omega
  unfold OwnB bytesV
  simp only [List.map_cons, List.map_nil, List.length_cons, List.length_nil, e]
  exact ⟨rfl, Or.inr ⟨w.heap.size, 1, #[.int .u8 (n : Int)], rfl, Nat.le_refl _, heap_alloc_new w _, Nat.le_refl _, by unfold maxLen; omega, rfl, rfl⟩⟩

theorem byteF_lt (bs : List UInt8) (a : Nat) (why wat : Int) : (byteF bs a why wat).1 < 256 := by
  unfold byteF
  split
  · simp
  · split
    · exact (bs.getD a 0).toNat_lt
    · simp

set_option maxRecDepth 100000 in
set_option maxHeartbeats 2000000 in
theorem word_made {base b : Nat} {v : Value} {bs : List UInt8} {a : Nat} {why wat : Int} (K A B : Int) (w : World) (hA : A ≤ 9223372036854775807) (hB : B ≤ 9223372036854775807) (hbl : bs.length ≤ 549755813888) (h : Rd w base b v bs a why wat) :
    Calls Try.prog 34 #[.pointer (some ⟨b, 0, none⟩), .agg #[.int .i64 K, .int .i64 A, .int .i64 B]] w fun e w' => ∃ v', e = .returned v' ∧ OwnB w' w.heap.size v' (wordF bs a why wat K A B).1 ∧ Rd w' base b v bs (wordF bs a why wat K A B).2.1 (wordF bs a why wat K A B).2.2.1 (wordF bs a why wat K A B).2.2.2 ∧ w.grownBy w' (some b) := by
  have HR := hid (h.below (below_walk w (.cells #[.int .i64 K, .int .i64 A, .int .i64 B] 43)))
  have HL := hid h.lt
  clear h
  go_enter Try.func34, Try.ntmps34
  go_wp2_with fail
  · have HE := hid (wordF0 bs a why wat (K := K) A B (by assumption))
    refine (byte_R HR.out).mono ?_
    rintro e w1 ⟨rfl, hR1, hg1⟩
    have HR1 := hid hR1
    have HG1 := hid (gb_trans (gb_alloc _ _ _) hg1)
    clear hR1 hg1
    have HX := hid (byteF_lt bs a why wat)
    go_wp2
    go_ret
    exact ⟨_, rfl, by rw [HE.out]; exact (own_one _ _ HX.out).le (HG1.out.size), by rw [HE.out]; exact HR1.out.below (below_walk _ _), gb_trans HG1.out (gb_alloc _ _ _)⟩
  · have HE := hid (wordF1 bs a why wat (K := K) A B (by assumption) (by assumption))
    refine (uint_R HR.out).mono ?_
    rintro e w1 ⟨rfl, hR1, hg1⟩
    have HR1 := hid hR1
    have HG1 := hid (gb_trans (gb_alloc _ _ _) hg1)
    clear hR1 hg1
    go_wp2_with fail
    refine (refUint_any _ _ (uintF_lt _ _ _ _)).mono ?_
    rintro e w2 ⟨v2, rfl, ho2, hb2⟩
    have HO2 := hid ho2
    have HB2 := hid hb2
    clear ho2 hb2
    go_wp2
    go_ret
    exact ⟨_, rfl, by rw [HE.out]; exact HO2.out.le (HG1.out.size), by rw [HE.out]; exact HR1.out.below HB2.out, gb_trans HG1.out (below_gb HB2.out _)⟩
  · have HE := hid (wordF2 bs a why wat (K := K) A B (by assumption) (by assumption) (by assumption))
    refine (int_R HR.out).mono ?_
    rintro e w1 ⟨rfl, hR1, hg1⟩
    have HR1 := hid hR1
    have HG1 := hid (gb_trans (gb_alloc _ _ _) hg1)
    clear hR1 hg1
    go_wp2_with fail
    refine (refInt_any _ _ (uz_bounds _ (uintF_lt _ _ _ _)).1 (uz_bounds _ (uintF_lt _ _ _ _)).2).mono ?_
    rintro e w2 ⟨v2, rfl, ho2, hb2⟩
    have HO2 := hid ho2
    have HB2 := hid hb2
    clear ho2 hb2
    go_wp2
    go_ret
    exact ⟨_, rfl, by rw [HE.out]; exact HO2.out.le (HG1.out.size), by rw [HE.out]; exact HR1.out.below HB2.out, gb_trans HG1.out (below_gb HB2.out _)⟩
  · have HE := hid (wordF3 bs a why wat (K := K) A B (by assumption) (by assumption) (by assumption) (by assumption))
    refine (count_R A hA HR.out).mono ?_
    rintro e w1 ⟨rfl, hR1, hg1⟩
    have HR1 := hid hR1
    have HG1 := hid (gb_trans (gb_alloc _ _ _) hg1)
    clear hR1 hg1
    go_wp2_with fail
    refine (refInt_any _ _ (by omega) (by have := countF_lt bs a why wat A hA; omega)).mono ?_
    rintro e w2 ⟨v2, rfl, ho2, hb2⟩
    have HO2 := hid ho2
    have HB2 := hid hb2
    clear ho2 hb2
    go_wp2
    go_ret
    exact ⟨_, rfl, by rw [HE.out]; exact HO2.out.le (HG1.out.size), by rw [HE.out]; exact HR1.out.below HB2.out, gb_trans HG1.out (below_gb HB2.out _)⟩
  · have HE := hid (wordF4 bs a why wat (K := K) A B (by assumption) (by assumption) (by assumption) (by assumption) (by assumption))
    refine (bool_R HR.out).mono ?_
    rintro e w1 ⟨rfl, hR1, hg1⟩
    have HR1 := hid hR1
    have HG1 := hid (gb_trans (gb_alloc _ _ _) hg1)
    clear hR1 hg1
    go_wp2_with fail
    refine (refBool_any _ _).mono ?_
    rintro e w2 ⟨v2, rfl, ho2, hb2⟩
    have HO2 := hid ho2
    have HB2 := hid hb2
    clear ho2 hb2
    go_wp2
    go_ret
    exact ⟨_, rfl, by rw [HE.out]; exact HO2.out.le (HG1.out.size), by rw [HE.out]; exact HR1.out.below HB2.out, gb_trans HG1.out (below_gb HB2.out _)⟩
  · have HE := hid (wordF5 bs a why wat (K := K) A B (by assumption) (by assumption) (by assumption) (by assumption) (by assumption) (by assumption))
    refine (text_R A hA (by omega) HR.out).mono ?_
    rintro e w1 ⟨rfl, hR1, hg1⟩
    have HR1 := hid hR1
    have HG1 := hid (gb_trans (gb_alloc _ _ _) hg1)
    clear hR1 hg1
    go_wp2_with fail
    refine (refText_any _ _ (by have := textF_len bs a why wat A; rw [show (ByteArray.mk (textF bs a why wat A).1.toArray) = mk (textF bs a why wat A).1 from rfl, mk_size]; omega)).mono ?_
    rintro e w2 ⟨v2, rfl, ho2, hb2⟩
    have HO2 := hid ho2
    have HB2 := hid hb2
    clear ho2 hb2
    go_wp2
    go_ret
    exact ⟨_, rfl, by rw [HE.out]; exact HO2.out.le (HG1.out.size), by rw [HE.out]; exact HR1.out.below HB2.out, gb_trans HG1.out (below_gb HB2.out _)⟩
  · have HE := hid (wordF6 bs a why wat (K := K) A B (by assumption) (by assumption) (by assumption) (by assumption) (by assumption) (by assumption) (by assumption))
    refine (list_R A B hA hB (by omega) HR.out).mono ?_
    rintro e w1 ⟨v1, rfl, hs1, hR1, hg1⟩
    have HS1 := hid hs1
    clear hs1
    have HR1 := hid hR1
    have HG1 := hid (gb_trans (gb_alloc _ _ _) hg1)
    clear hR1 hg1
    go_wp2_with fail
    refine (refList_any _ _ _ HS1.out.strs (by have := listF_len bs a why wat A B; omega)).mono ?_
    rintro e w2 ⟨v2, rfl, ho2, hb2⟩
    have HO2 := hid ho2
    have HB2 := hid hb2
    clear ho2 hb2
    go_wp2
    go_ret
    exact ⟨_, rfl, by rw [HE.out]; exact HO2.out.le (HG1.out.size), by rw [HE.out]; exact HR1.out.below HB2.out, gb_trans HG1.out (below_gb HB2.out _)⟩
  · have HE := hid (wordF7 bs a why wat (K := K) A B (by assumption) (by assumption) (by assumption) (by assumption) (by assumption) (by assumption) (by assumption))
    refine (raw_R A hA (by omega) HR.out).mono ?_
    rintro e w1 ⟨v1, rfl, ho1, hR1, hg1⟩
    have HO1 := hid ho1
    clear ho1
    have HR1 := hid hR1
    have HG1 := hid (gb_trans (gb_alloc _ _ _) hg1)
    clear hR1 hg1
    go_wp2
    go_ret
    exact ⟨_, rfl, by rw [HE.out]; exact HO1.out.le (by simp), by rw [HE.out]; exact HR1.out, HG1.out⟩

end Go.Proofs.Ytggmgbdofjhkdaa
