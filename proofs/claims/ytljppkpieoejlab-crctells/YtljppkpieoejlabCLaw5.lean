/- CrcTells answers true. -/
import Derived.Test.YtljppkpieoejlabCTellP
import Derived.StillTailTactics
namespace Go.Proofs.Ytljppkpieoejlab
open Go.RowKit

theorem OwnB.setAt {w : World} {base g n cap : Nat} {bs : List UInt8} (h : OwnB w base (.slice (some ⟨g, 0, none⟩) n cap) bs) (k : Nat) (m : UInt8) :
    OwnB (w.setCell ⟨g, k, none⟩ (.int .u8 m.toNat)) base (.slice (some ⟨g, 0, none⟩) n cap) (bs.set k m) := by
  obtain ⟨h1, ⟨h2, _⟩ | ⟨g', cap', cur, hv, hb, hh, h3, h4, h5, h6⟩⟩ := h
  · simp at h2
  · simp only [Value.slice.injEq, Option.some.injEq, Addr.mk.injEq, and_true] at hv
    obtain ⟨rfl, rfl, rfl⟩ := hv
    refine ⟨by simp [bytesV], Or.inr ⟨g, cap, cur.setIfInBounds k (.int .u8 m.toNat), by simp, hb, blk_set hh _, by simpa using h3, h4, by simpa using h5, ?_⟩⟩
    rw [Array.toList_setIfInBounds, List.length_set, List.take_set, h6]
    simp [bytesV, List.map_set]
theorem OwnB.drewN {w : World} {base : Nat} {v : Value} {bs : List UInt8} (h : OwnB w base v bs) (k : Nat) : OwnB (w.drewN k) base v bs := h

theorem op_bad {S : List UInt8} (h4 : 4 ≤ S.length) (h : okP S = false) : opB S = [] ∧ opE S = 71 := by
  unfold opB opE
  have hn : ¬ S.length < 4 := by omega
  rw [if_neg hn, if_neg hn, h]
  exact ⟨rfl, rfl⟩

set_option maxRecDepth 100000 in
set_option maxHeartbeats 1000000 in
theorem lawTells_any (w : World) (v : Value) (bs : List UInt8) (a : Int) (b : Nat) (hv : Src w v bs) (hl : bs.length ≤ 140737488355000) (hb : b < 4294967296) (ha : -9223372036854775808 ≤ a ∧ a ≤ 9223372036854775807) :
    Calls Try.prog 4 #[v, .int .i64 a, .int .u32 (b : Int)] w fun e w' => e = .returned (.bool true) ∧ Below w.heap.size w w' := by
  obtain ⟨av, cv, rfl⟩ := src_shape hv
  have HV := hid hv
  clear hv
  obtain ⟨N, HN⟩ : ∃ N, Hid (N = bs.length + 4) := ⟨_, rfl⟩
  have HLS := hid (show (sealP bs).length = N by rw [HN.out, sealP_length])
  obtain ⟨M, hmax⟩ : ∃ M : Nat, (if a < 0 then (0 : Int) else a) = (M : Int) := ⟨(if a < 0 then (0 : Int) else a).toNat, by split <;> omega⟩
  obtain ⟨A, hmin, hA⟩ : ∃ A : Nat, (if 8 * (N : Int) - 32 < (M : Int) then 8 * (N : Int) - 32 else (M : Int)) = (A : Int) ∧ A + 32 ≤ 8 * N := by
    have h2 := HN.out
    refine ⟨(if 8 * (N : Int) - 32 < (M : Int) then 8 * (N : Int) - 32 else (M : Int)).toNat, ?_, ?_⟩ <;> split <;> omega
  have hNl : N ≤ 140737488355004 := by have := HN.out; omega
  have h4N : 4 ≤ N := by have := HN.out; omega
  have hnn : ((bs.length : Int) + 4) = (N : Int) := by rw [HN.out]; push_cast; rfl
  have hne : (((N : Nat) : Int) != ((N : Nat) : Int)) = false := by simp
  have HB := hid hb
  clear ha hb
  go_enter Try.func4, Try.ntmps4
  go_wp2_with fail
  refine (seal_any w _ bs HV.out hl).mono ?_
  rintro e w1 ⟨v1, rfl, ho1, hb1⟩
  obtain ⟨g, cap, rfl, hg0, hglt, _, _, _, _⟩ : ∃ g cap, v1 = .slice (some ⟨g, 0, none⟩) (sealP bs).length cap ∧ w.heap.size ≤ g ∧ g < w1.heap.size ∧ (sealP bs).length ≤ cap ∧ cap ≤ maxLen ∧ (∀ j, w1.frozen? ⟨g, j, none⟩ = false) ∧ ∀ j, j < (sealP bs).length → w1.cell? ⟨g, j, none⟩ = some (.int .u8 ((sealP bs).getD j 0).toNat) := by
    rcases ho1.forms with ⟨_, h0⟩ | h
    · have := sealP_length bs
      rw [h0] at this
      simp at this
    · exact h
  rw [HLS.out] at ho1 ⊢
  have HO1 := hid ho1
  have HB1 := hid hb1
  have HG := hid hg0
  clear ho1 hb1 hg0 hglt
  go_wp2_with fail
  refine (check_any _).mono ?_
  rintro e w2 ⟨rfl, hb2⟩
  have HO2 := hid (HO1.out.below hb2)
  have HB2 := hid (HB1.out.trans (hb2.mono HB1.out.size))
  clear hb2 HO1 HB1
  go_wp2
  go_loopw [8, 31] (fun vt vi wr => ∃ (k : Nat) (S : List UInt8) (t : Bool), k ≤ 32 ∧ vt = .bool t ∧ vi = .int .i64 k ∧ Hid (Tl (sealP bs) A b k S t) ∧ OwnB wr w.heap.size (.slice (some ⟨g, 0, none⟩) N cap) S ∧ Below w.heap.size w wr) (fun _ vi _ => 32 - (intOf vi).toNat)
  case atStart => exact ⟨0, sealP bs, false, by omega, rfl, rfl, Tl.begin _ _ _, HO2.out, HB2.out⟩
  case round =>
    obtain ⟨k, S, t, hk, rfl, rfl, HT, hO, hB⟩ := hrel
    have HO := hid hO
    have HBW := hid hB
    clear HO2 HB2 hO hB
    by_cases hlt : k < 32
    · have HD := hid (show ((b : Int) / 2 ^ k) = ((b / 2 ^ k : Nat) : Int) by push_cast; rfl)
      have HA1 := hid (and_one (b / 2 ^ k) (Nat.lt_of_le_of_lt (Nat.div_le_self _ _) HB.out))
      rcases Nat.mod_two_eq_zero_or_one (b / 2 ^ k) with h | h
      · have hand : bits .and .u32 ((b : Int) / 2 ^ k) 1 = 0 := by rw [HD.out, HA1.out, h]; rfl
        have HT2 := hid (HT.out.keep h)
        clear h
        go_wp2
        exact ⟨⟨k + 1, S, t, by omega, rfl, by simp, HT2, HO.out, HBW.out⟩, by simp [intOf]; omega⟩
      · have hand : bits .and .u32 ((b : Int) / 2 ^ k) 1 = 1 := by rw [HD.out, HA1.out, h]; rfl
        have HT2 := hid (HT.out.turn hlt (by rw [HLS.out]; exact hA) h)
        clear h
        obtain ⟨J, HJ⟩ : ∃ J, Hid (J = A + k) := ⟨_, rfl⟩
        obtain ⟨q, HQ8⟩ : ∃ q, Hid (q = J / 8) := ⟨_, rfl⟩
        obtain ⟨m, HM8⟩ : ∃ m, Hid (m = J % 8) := ⟨_, rfl⟩
        have hw : IntKind.i64.wrap ((A : Int) + (k : Int)) = (J : Int) := by rw [IntKind.wrap_i64, HJ.out]; omega
        have hq1 : (J : Int).tdiv 8 = (q : Int) := by rw [HQ8.out]; rfl
        have hq2 : (J : Int) / 8 = (q : Int) := by rw [HQ8.out]; rfl
        have hm1 : (J : Int).tmod 8 = (m : Int) := by rw [HM8.out]; rfl
        have hm2 : (J : Int) % 8 = (m : Int) := by rw [HM8.out]; rfl
        have hq0 : (0 : Int) ≤ (q : Int) := by omega
        have hqN : (q : Int) < (N : Int) := by rw [HQ8.out, HJ.out]; omega
        have hqw : IntKind.i64.wrap (q : Int) = (q : Int) := by rw [IntKind.wrap_i64]; omega
        have hm7 : m ≤ 7 := by rw [HM8.out]; omega
        have hmw : IntKind.i64.wrap (m : Int) = (m : Int) := by rw [IntKind.wrap_i64]; omega
        go_upto_region 10 with fail
        obtain ⟨X, HXW⟩ : ∃ X : World, Hid (X = { wr with drawn := wr.drawn + 1 }) := ⟨_, rfl⟩
        have HOX := hid (show OwnB X w.heap.size (.slice (some ⟨g, 0, none⟩) N cap) S by rw [HXW.out]; exact HO.out)
        have HBX := hid (show Below w.heap.size w X by rw [HXW.out]; exact ⟨HBW.out.os, HBW.out.tape, HBW.out.output, HBW.out.size, HBW.out.block⟩)
        refine wp_region_still_tail 14 (by kernel_rfl) (by kernel_rfl) ?_
        simp only [List.take_succ_cons, List.take_zero, List.drop_succ_cons, List.drop_zero]
        rw [show ({ wr with drawn := wr.drawn + 1 } : World) = X from HXW.out.symm]
        have HSL := hid (show S.length = N by rw [HT.out.len, HLS.out])
        obtain ⟨f1, x, c1, HXX⟩ : X.frozen? ⟨g, q, none⟩ = false ∧ ∃ x : UInt8, X.cell? ⟨g, q, none⟩ = some (.int .u8 x.toNat) ∧ Hid (x = S.getD q 0) := by
          rcases HOX.out.forms with ⟨h0, _⟩ | ⟨g', cap', hv, _, _, _, _, hf, hc⟩
          · cases h0
          · injection hv with h1 h2 h3
            injection h1 with h1
            injection h1 with h1
            subst h1
            exact ⟨hf q, _, hc q (by rw [HSL.out]; omega), rfl⟩
        repeat still_step
        refine wpStill_nil ?_
        go_wp2
        refine ⟨⟨k + 1, flip S (A + k), true, by omega, rfl, by simp, HT2, ?_, ?_⟩, by simp [intOf]; omega⟩
        · have e : bits .xor .u8 ((x.toNat : Nat) : Int) (2 ^ m % 256) = (((turnB x (2 ^ m)).toNat : Nat) : Int) := by
            have hp : 2 ^ m < 256 := by rw [HM8.out]; exact pow8_lt J
            rw [turnB_nat x _ hp, ← u8_xor_nat x.toNat (2 ^ m) x.toNat_lt hp]
            congr 1
            rw [show (((2 ^ m : Nat)) : Int) = (2 : Int) ^ m by push_cast; rfl]
            refine Int.emod_eq_of_lt (Int.pow_nonneg (by omega)) ?_
            have : ((2 ^ m : Nat) : Int) < 256 := by omega
            push_cast at this
            exact this
          rw [e]
          unfold flip
          rw [← HJ.out, ← HQ8.out, ← HM8.out, ← HXX.out]
          exact HOX.out.setAt q _
        · exact HBX.out.grown (gb_set X _ _) HBX.out.size (by intro k hk; cases hk; exact HG.out)
    · obtain rfl : k = 32 := by omega
      have HSL := hid (show S.length = N by rw [HT.out.len, HLS.out])
      cases t with
      | false =>
        have HSE := hid (HT.out.no rfl).2
        rw [HSE.out] at HO
        have HOP := hid (op_seal bs)
        go_wp2_with fail
        refine (open_say wr _ (sealP bs) (HO.out.src (by rw [HLS.out]; omega))).mono ?_
        rintro e w12 ⟨v12, rfl, hs12, hb12⟩
        rw [HOP.out.1] at hs12
        rw [HOP.out.2]
        have HB12 := hid (HBW.out.trans (hb12.mono HBW.out.size))
        have HS12 := hid hs12
        clear hb12 hs12
        go_wp2_with fail
        refine (bequal_true w12 _ _ bs HS12.out (HV.out.below HB12.out)).mono ?_
        rintro e w13 ⟨rfl, rfl⟩
        go_wp2
        go_ret
        exact ⟨rfl, HB12.out⟩
      | true =>
        have HBAD := hid (HT.out.bad HB.out)
        have HOE := hid (op_bad (by rw [HSL.out]; exact h4N) HBAD.out)
        go_wp2_with fail
        refine (open_say wr _ S (HO.out.src (by rw [HSL.out]; omega))).mono ?_
        rintro e w12 ⟨v12, rfl, hs12, hb12⟩
        rw [HOE.out.1] at hs12
        rw [HOE.out.2]
        have HB12 := hid (HBW.out.trans (hb12.mono HBW.out.size))
        obtain ⟨a12, c12, rfl⟩ := src_shape hs12
        clear hb12 hs12
        go_wp2
        go_ret
        exact ⟨rfl, HB12.out⟩

end Go.Proofs.Ytljppkpieoejlab
