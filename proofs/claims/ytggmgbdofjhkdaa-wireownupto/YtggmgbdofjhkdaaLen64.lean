/- math/bits.Len64 answers how many bits its number has. -/
import Derived.Test.YtggmgbdofjhkdaaBase
import Derived.Lib.Strings
import Derived.Lib.Slices
import Derived.Lib.Small
import Derived.Lib.Walk
import Derived.Lib.BitFns
namespace Go.Proofs.Ytggmgbdofjhkdaa
open Go.RowKit

theorem ret_i64 {a b : Int} (h : a = b) : Ending.returned (.int .i64 a) = .returned (.int .i64 b) := by rw [h]

theorem wrap64_id {a : Int} (h0 : -9223372036854775808 ≤ a) (h1 : a ≤ 9223372036854775807) : wrap64 a = a := by
  unfold wrap64
  omega

/-- one way through: x has k bits more than the byte that is looked up -/
theorem len_way (k : Nat) (x i : Int) (hk : k ≤ 56) (h0 : 0 ≤ x) (h1 : x ≤ 18446744073709551615) (hi0 : 0 ≤ i) (hi1 : i ≤ 255) (he : i.toNat = x.toNat / 2 ^ k) (hx : k = 0 ∨ 2 ^ k ≤ x.toNat) (hb : i.toNat < Lib.len8tab.size) :
    wrap64 ((k : Int) + wrap64 ((Lib.len8tab[i.toNat]'hb).toNat : Int)) = (Lib.bitLen x.toNat : Int) := by
  have e1 : ((Lib.len8tab[i.toNat]'hb).toNat : Int) = Lib.bitLen i.toNat := by
    rw [← Lib.len8_of i hi0 hi1]
    simp [Lib.len8, ByteArray.getElem?_lt' _ _ hb]
  have e2 := Lib.bitLen_le8' i hi0 hi1
  have e3 : Lib.bitLen x.toNat = k + Lib.bitLen i.toNat := by
    rw [he]
    rcases hx with rfl | hx
    · simp
    · exact Lib.bitLen_shift k x.toNat hx (by omega)
  rw [e1, wrap64_id (a := (Lib.bitLen i.toNat : Int)) (by omega) (by omega), wrap64_id (by omega) (by omega), e3]
  omega

theorem len_way0 (x : Int) (h0 : 0 ≤ x) (hi1 : x ≤ 255) (hb : x.toNat < Lib.len8tab.size) :
    wrap64 (wrap64 ((Lib.len8tab[x.toNat]'hb).toNat : Int)) = (Lib.bitLen x.toNat : Int) := by
  have := len_way 0 x x (by omega) h0 (by omega) h0 hi1 (by simp) (Or.inl rfl) hb
  simpa using this

set_option maxHeartbeats 4000000 in
set_option maxRecDepth 100000 in
theorem len64_any (x : Int) (w : World) (h0 : 0 ≤ x) (h1 : x ≤ 18446744073709551615) :
    Calls Try.prog 41 #[.int .u64 x] w fun e w' => e = .returned (.int .i64 (Lib.bitLen x.toNat)) ∧ w' = w := by
  go_enter Try.func41, Try.ntmps41
  go_wp2
  all_goals first
    | (exfalso; rename_i h; exact h ⟨by omega, by rw [Lib.len8tab_size]; omega⟩)
    | (go_ret; refine ⟨ret_i64 ?_, rfl⟩)
  · exact len_way 56 x _ (by omega) h0 h1 (by omega) (by omega) (by omega) (Or.inr (by omega)) _
  · exact len_way 48 x _ (by omega) h0 h1 (by omega) (by omega) (by omega) (Or.inr (by omega)) _
  · exact len_way 40 x _ (by omega) h0 h1 (by omega) (by omega) (by omega) (Or.inr (by omega)) _
  · exact len_way 32 x _ (by omega) h0 h1 (by omega) (by omega) (by omega) (Or.inr (by omega)) _
  · exact len_way 24 x _ (by omega) h0 h1 (by omega) (by omega) (by omega) (Or.inr (by omega)) _
  · exact len_way 16 x _ (by omega) h0 h1 (by omega) (by omega) (by omega) (Or.inr (by omega)) _
  · exact len_way 8 x _ (by omega) h0 h1 (by omega) (by omega) (by omega) (Or.inr (by omega)) _
  · exact len_way0 x h0 (by omega) _

end Go.Proofs.Ytggmgbdofjhkdaa
