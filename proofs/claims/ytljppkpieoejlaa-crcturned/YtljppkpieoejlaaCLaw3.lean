/- CrcTurned answers true. -/
import Derived.Test.YtljppkpieoejlaaCLaw2
import Derived.Test.YtljppkpieoejlaaCPure2
namespace Go.Proofs.Ytljppkpieoejlaa
open Go.RowKit

theorem OwnB.setAt {w : World} {base g n cap : Nat} {bs : List UInt8} (h : OwnB w base (.slice (some ⟨g, 0, none⟩) n cap) bs) (k : Nat) (m : UInt8) :
    OwnB (w.setCell ⟨g, k, none⟩ (.int .u8 m.toNat)) base (.slice (some ⟨g, 0, none⟩) n cap) (bs.set k m) := by
  obtain ⟨h1, ⟨h2, _⟩ | ⟨g', cap', cur, hv, hb, hh, h3, h4, h5, h6⟩⟩ := h
  · simp at h2
  · simp only [Value.slice.injEq, Option.some.injEq, Addr.mk.injEq, and_true] at hv
    obtain ⟨rfl, rfl, rfl⟩ := hv
    refine ⟨by simp [bytesV], Or.inr ⟨g, cap, cur.setIfInBounds k (.int .u8 m.toNat), by simp, hb, blk_set hh _, by simpa using h3, h4, by simpa using h5, ?_⟩⟩
    rw [Array.toList_setIfInBounds, List.length_set, List.take_set, h6]
    simp [bytesV, List.map_set]

set_option maxRecDepth 100000 in
set_option maxHeartbeats 1000000 in
theorem lawTurned_any (w : World) (v : Value) (bs : List UInt8) (a : Int) (m : Nat) (hv : Src w v bs) (hm : m < 256) :
    Calls Try.prog 8 #[v, .int .i64 a, .int .u8 (m : Int)] w fun e w' => e = .returned (.bool true) ∧ Below w.heap.size w w' := by
  obtain ⟨av, cv, rfl⟩ := src_shape hv
  have hl := hv.1
  have HV := hid hv
  clear hv
  have HQ := hid (sumP_lt bs)
  by_cases hin : a < 0 ∨ (bs.length : Int) ≤ a
  · have HI := hid hin
    clear hin
    go_enter Try.func8, Try.ntmps8
    go_wp2_with fail
    refine (check_any _).mono ?_
    rintro e w1 ⟨rfl, hb1⟩
    have HB1 := hid hb1
    have HV1 := hid (HV.out.below hb1)
    clear hb1
    go_wp2_with fail
    refine (sum_one w1 _ bs HV1.out).mono ?_
    rintro e w2 ⟨rfl, hb2⟩
    have HB2 := hid (HB1.out.trans (hb2.mono HB1.out.size))
    clear hb2
    go_wp2_with fail
    refine (turned_place _ _ _ _ (by omega) HI.out _).mono ?_
    rintro e w3 ⟨rfl, rfl⟩
    by_cases h0 : a < 0
    · go_wp2
      go_ret
      exact ⟨rfl, HB2.out⟩
    · have h1 : (bs.length : Int) ≤ a := by have := HI.out; omega
      go_wp2
      go_ret
      exact ⟨rfl, HB2.out⟩
  · obtain ⟨A, rfl⟩ : ∃ A : Nat, a = (A : Int) := ⟨a.toNat, by omega⟩
    have hA : A < bs.length := by omega
    clear hin
    have HT := hid (show turnP (sumP bs) bs.length A m = sumP (bs.set A (turnB (bs.getD A 0) m)) from (sumP_turn m hm bs A hA).symm)
    obtain ⟨x, HX⟩ : ∃ x : UInt8, Hid (x = bs.getD A 0) := ⟨_, rfl⟩
    rw [← HX.out] at HT
    have hx : bits .xor .u8 ((x.toNat : Nat) : Int) (m : Int) = (((turnB x m).toNat : Nat) : Int) := by
      rw [turnB_nat x m hm]
      exact u8_xor_nat x.toNat m x.toNat_lt hm
    go_enter Try.func8, Try.ntmps8
    go_wp2_with fail
    refine (check_any _).mono ?_
    rintro e w1 ⟨rfl, hb1⟩
    have HB1 := hid hb1
    have HV1 := hid (HV.out.below hb1)
    clear hb1
    go_wp2_with fail
    refine (sum_one w1 _ bs HV1.out).mono ?_
    rintro e w2 ⟨rfl, hb2⟩
    have HB2 := hid (HB1.out.trans (hb2.mono HB1.out.size))
    have HV2 := hid (HV1.out.below hb2)
    clear hb2
    go_wp2_with fail
    refine (turned_ok _ bs.length A m HQ.out hm (by omega) hA _).mono ?_
    rintro e w3 ⟨rfl, rfl⟩
    rw [HT.out]
    go_wp2_with (at_builtin; refine app_src rfl _ _ rfl w3.heap.size _ [] rfl (OwnB.nil _ _) _ bs rfl HV2.out (by simp; exact hl) (Nat.le_refl _) ?_)
    intro v4 w4 ho4 hg4
    replace ho4 : OwnB w4 w3.heap.size v4 bs := ho4
    obtain ⟨g, cap, rfl, hg0, hglt, hcap, hcm, hfz, hcell⟩ : ∃ g cap, v4 = .slice (some ⟨g, 0, none⟩) bs.length cap ∧ w3.heap.size ≤ g ∧ g < w4.heap.size ∧ bs.length ≤ cap ∧ cap ≤ maxLen ∧ (∀ j, w4.frozen? ⟨g, j, none⟩ = false) ∧ ∀ j, j < bs.length → w4.cell? ⟨g, j, none⟩ = some (.int .u8 (bs.getD j 0).toNat) := by
      rcases ho4.forms with ⟨_, h0⟩ | h
      · rw [h0] at hA; simp at hA
      · exact h
    have c1 := hcell A hA
    rw [← HX.out] at c1
    have f1 := hfz A
    have HO := hid (ho4.setAt A (turnB x m))
    have HB4 := hid (HB2.out.trans ((gb_below hg4).mono HB2.out.size))
    have HB5 := hid (HB4.out.grown (gb_set w4 ⟨g, A, none⟩ (.int .u8 (((turnB x m).toNat : Nat) : Int))) HB4.out.size (by intro k hk; cases hk; simp only []; exact Nat.le_trans HB2.out.size hg0))
    clear ho4 hg4 hcell hfz
    have g1 : (A : Int) < (bs.length : Int) := by omega
    go_upto_region 8 with fail
    generalize w4.setCell ⟨g, A, none⟩ (.int .u8 (((turnB x m).toNat : Nat) : Int)) = w5 at HO HB5 ⊢
    go_wp2_with fail
    refine (sum_one w5 _ _ (HO.out.src (by rw [List.length_set]; exact hl))).mono ?_
    rintro e w6 ⟨rfl, hb6⟩
    have HB6 := hid (HB5.out.trans (hb6.mono HB5.out.size))
    clear hb6
    go_wp2
    go_ret
    exact ⟨rfl, HB6.out⟩

end Go.Proofs.Ytljppkpieoejlaa
