/- The document's Compare. -/
import Derived.Test.YtoehopigjmmagaaDoorPCom
import Derived.Test.YtoehopigjmmagaaDoorPCmp2
import Derived.Test.YtoehopigjmmagaaDoorPPieces
namespace Go.Proofs.YtoehopigjmmagaaDoor
open Go.RowKit

theorem less_cb : ∀ x y, Op.bytesLess x y = decide (cb x y < 0)
  | [], [] => by decide
  | _ :: _, [] => by simp [Op.bytesLess, cb, Lib.compareBytes]
  | [], _ :: _ => by simp [Op.bytesLess, cb, Lib.compareBytes]
  | a :: x, b :: y => by
    have ih := less_cb x y
    have hc : cb (a :: x) (b :: y) = if a < b then -1 else if b < a then 1 else cb x y := by
      show Lib.compareBytes _ _ = _
      rw [Lib.compareBytes]
      rfl
    simp only [Op.bytesLess, ih]
    rw [hc]
    by_cases h1 : a < b
    · rw [if_pos h1]; simp [h1]
    · rw [if_neg h1]
      by_cases h2 : b < a
      · rw [if_pos h2]
        have hne : ¬ a = b := fun e => by subst e; exact h1 h2
        simp [h1, hne]
      · rw [if_neg h2]
        have he := u8_eq h1 h2
        subst he
        simp [h1]

/-- the order by the names that both begin with -/
theorem cmp_com : ∀ x y : List (List UInt8), (comL x y = x.length ∧ comL x y = y.length → cmpL x y = 0) ∧ (comL x y = x.length ∧ comL x y ≠ y.length → cmpL x y = -1) ∧ (comL x y ≠ x.length ∧ comL x y = y.length → cmpL x y = 1) ∧ (comL x y ≠ x.length ∧ comL x y ≠ y.length → cmpL x y = cb (x.getD (comL x y) []) (y.getD (comL x y) []) ∧ cmpL x y ≠ 0)
  | [], [] => by simp [comL, cmpL]
  | [], _ :: _ => by simp [comL, cmpL]
  | _ :: _, [] => by simp [comL, cmpL]
  | x :: a, y :: b => by
    have ih := cmp_com a b
    by_cases h : x = y
    · subst h
      rw [show comL (x :: a) (x :: b) = comL a b + 1 by simp [comL], show cmpL (x :: a) (x :: b) = cmpL a b by rw [cmpL, if_pos (cb_self x)]]
      simpa using ih
    · have hc : ¬ cb x y = 0 := fun e => h (cb_zero e)
      rw [show comL (x :: a) (y :: b) = 0 by simp [comL, h], show cmpL (x :: a) (y :: b) = cb x y by rw [cmpL, if_neg hc]]
      simp [hc]

set_option maxRecDepth 100000 in
set_option maxHeartbeats 1000000 in
theorem rcompare_any (a b : ByteArray) (w : World) (ha : (bl a).length ≤ 1048576) (hb : (bl b).length ≤ 1048576) :
    Calls Tryd.prog 29 #[.string a, .string b] w fun e w' => e = .returned (.tuple #[.int .i64 (cmP (bl a) (bl b)), .int .i64 (pN (bl a) (bl b))]) ∧ Below w.heap.size w w' := by
  have HA := hid (rnames_any a w (by omega))
  have HBN := hid (rnames_any b · (by omega))
  clear ha hb
  go_enter Tryd.func29, Tryd.ntmps29
  go_wp2_with fail
  refine HA.out.mono ?_
  rintro e w1 ⟨⟨oa, va, rfl, hoa⟩ | ⟨oa, rfl⟩, hb1⟩
  · obtain ⟨aa, ca, rfl⟩ := hoa.strs.shape
    have HOA := hid hoa
    have HB1 := hid hb1
    have hxl := ((okP_iff _).1 oa).2
    have HOKA := hid oa
    clear hoa hb1 oa HA
    go_wp2_with fail
    refine (HBN.out w1).mono ?_
    rintro e w2 ⟨⟨ob, vb, rfl, hob⟩ | ⟨ob, rfl⟩, hb2⟩
    · obtain ⟨ab, cb', rfl⟩ := hob.strs.shape
      have hyl := ((okP_iff _).1 ob).2
      have HB2 := hid (below_tr HB1.out (below_le hb2 HB1.out.size))
      have HSA := hid (HOA.out.below hb2).strs
      have HSB := hid hob.strs
      have HSH := hid (rcommon_any _ _ _ _ w2 (HOA.out.below hb2).strs hob.strs (by omega) (by omega))
      have HP := hid (show pN (bl a) (bl b) = 0 by unfold pN; rw [if_pos ⟨HOKA.out, ob⟩])
      have HCM := hid (show cmP (bl a) (bl b) = cmpL (nms (bl a)) (nms (bl b)) by unfold cmP; rw [if_pos ⟨HOKA.out, ob⟩])
      have HUP := hid (cmp_com (nms (bl a)) (nms (bl b)))
      have HLE := hid (comL_le (nms (bl a)) (nms (bl b)))
      have HRG := hid (cmpL_range (nms (bl a)) (nms (bl b)))
      clear hob hb2 ob HBN HOA HB1
      generalize nms (bl a) = x at *
      generalize nms (bl b) = y at *
      by_cases h1 : comL x y = x.length
      · have q1 : ((comL x y : Int) == (x.length : Int)) = true := by simp; omega
        have q1' : (comL x y : Int) = (x.length : Int) := by omega
        by_cases h2 : comL x y = y.length
        · have HT := hid (HUP.out.1 ⟨h1, h2⟩)
          have q2 : ((comL x y : Int) == (y.length : Int)) = true := by simp; omega
          have q2' : (comL x y : Int) = (y.length : Int) := by omega
          generalize comL x y = cc at *
          clear h1 h2
          go_wp2_with (go_at_call 47; refine HSH.out.mono ?_; rintro e w' ⟨rfl, n, rfl⟩)
          go_ret2
          exact ⟨ret_ii (by rw [HCM.out, HT.out]) HP.out.symm, ⟨HB2.out.os, HB2.out.tape, HB2.out.output, HB2.out.size, HB2.out.block⟩⟩
        · have HT := hid (HUP.out.2.1 ⟨h1, h2⟩)
          have q2 : ((comL x y : Int) == (y.length : Int)) = false := by simp; omega
          have q2' : ¬ (comL x y : Int) = (y.length : Int) := by omega
          generalize comL x y = cc at *
          clear h1 h2
          go_wp2_with (go_at_call 47; refine HSH.out.mono ?_; rintro e w' ⟨rfl, n, rfl⟩)
          go_ret2
          exact ⟨ret_ii (by rw [HCM.out, HT.out]) HP.out.symm, ⟨HB2.out.os, HB2.out.tape, HB2.out.output, HB2.out.size, HB2.out.block⟩⟩
      · have q1 : ((comL x y : Int) == (x.length : Int)) = false := by simp; omega
        have q1' : ¬ (comL x y : Int) = (x.length : Int) := by omega
        by_cases h2 : comL x y = y.length
        · have HT := hid (HUP.out.2.2.1 ⟨h1, h2⟩)
          have q2 : ((comL x y : Int) == (y.length : Int)) = true := by simp; omega
          have q2' : (comL x y : Int) = (y.length : Int) := by omega
          generalize comL x y = cc at *
          clear h1 h2
          go_wp2_with (go_at_call 47; refine HSH.out.mono ?_; rintro e w' ⟨rfl, n, rfl⟩)
          go_ret2
          exact ⟨ret_ii (by rw [HCM.out, HT.out]) HP.out.symm, ⟨HB2.out.os, HB2.out.tape, HB2.out.output, HB2.out.size, HB2.out.block⟩⟩
        · have q2 : ((comL x y : Int) == (y.length : Int)) = false := by simp; omega
          have q2' : ¬ (comL x y : Int) = (y.length : Int) := by omega
          have hlx : comL x y < x.length := by have := HLE.out.1; omega
          have hly : comL x y < y.length := by have := HLE.out.2.1; omega
          obtain ⟨g1, o1, rfl, e1⟩ := HSA.out.at (comL x y) hlx
          obtain ⟨g2, o2, rfl, e2⟩ := HSB.out.at (comL x y) hly
          have HX := hid (HUP.out.2.2.2 ⟨h1, h2⟩)
          have l1 : (mk (x.getD (comL x y) [])).toList = x.getD (comL x y) [] := bl_mk _
          have l2 : (mk (y.getD (comL x y) [])).toList = y.getD (comL x y) [] := bl_mk _
          have q3 : ((comL x y : Nat) : Int) < (x.length : Int) := by omega
          have q4 : ((comL x y : Nat) : Int) < (y.length : Int) := by omega
          by_cases h3 : cmpL x y < 0
          · have hls : Op.bytesLess (mk (x.getD (comL x y) [])).toList (mk (y.getD (comL x y) [])).toList = true := by
              rw [l1, l2, less_cb, ← HX.out.1]; simpa using h3
            have HT := hid (show cmpL x y = -1 by have := HRG.out; omega)
            clear l1 l2 h3
            generalize mk (x.getD (comL x y) []) = s1 at *
            generalize mk (y.getD (comL x y) []) = s2 at *
            generalize comL x y = cc at *
            clear h1 h2
            go_wp2_with (go_at_call 47; refine HSH.out.mono ?_; rintro e w' ⟨rfl, n, rfl⟩)
            go_quiet (fail)
            go_wp2
            go_ret2
            exact ⟨ret_ii (by rw [HCM.out, HT.out]) HP.out.symm, ⟨HB2.out.os, HB2.out.tape, HB2.out.output, HB2.out.size, HB2.out.block⟩⟩
          · have hls : Op.bytesLess (mk (x.getD (comL x y) [])).toList (mk (y.getD (comL x y) [])).toList = false := by
              rw [l1, l2, less_cb, ← HX.out.1]; simpa using h3
            have HT := hid (show cmpL x y = 1 by have := HRG.out; have := HX.out.2; omega)
            clear l1 l2 h3
            generalize mk (x.getD (comL x y) []) = s1 at *
            generalize mk (y.getD (comL x y) []) = s2 at *
            generalize comL x y = cc at *
            clear h1 h2
            go_wp2_with (go_at_call 47; refine HSH.out.mono ?_; rintro e w' ⟨rfl, n, rfl⟩)
            go_quiet (fail)
            go_wp2
            go_ret2
            exact ⟨ret_ii (by rw [HCM.out, HT.out]) HP.out.symm, ⟨HB2.out.os, HB2.out.tape, HB2.out.output, HB2.out.size, HB2.out.block⟩⟩
    · have HB2 := hid (below_tr HB1.out (below_le hb2 HB1.out.size))
      have HP := hid (show pN (bl a) (bl b) = 45 by unfold pN; rw [if_neg (by rw [ob]; simp)])
      have HAB := hid (show cmP (bl a) (bl b) = 0 by unfold cmP; rw [if_neg (by rw [ob]; simp)])
      clear hb2 ob HBN HOA HB1
      go_wp2
      go_ret2
      exact ⟨ret_ii HAB.out.symm HP.out.symm, HB2.out⟩
  · have HB1 := hid hb1
    have HP := hid (show pN (bl a) (bl b) = 45 by unfold pN; rw [if_neg (by rw [oa]; simp)])
    have HAB := hid (show cmP (bl a) (bl b) = 0 by unfold cmP; rw [if_neg (by rw [oa]; simp)])
    clear hb1 oa HA
    go_wp2_with fail
    refine (HBN.out w1).mono ?_
    rintro e w2 ⟨⟨ob, vb, rfl, hob⟩ | ⟨ob, rfl⟩, hb2⟩
    · obtain ⟨ab, cb', rfl⟩ := hob.strs.shape
      have HB2 := hid (below_tr HB1.out (below_le hb2 HB1.out.size))
      clear hb2 ob HBN HB1 hob
      go_wp2
      go_ret2
      exact ⟨ret_ii HAB.out.symm HP.out.symm, HB2.out⟩
    · have HB2 := hid (below_tr HB1.out (below_le hb2 HB1.out.size))
      clear hb2 ob HBN HB1
      go_wp2
      go_ret2
      exact ⟨ret_ii HAB.out.symm HP.out.symm, HB2.out⟩

end Go.Proofs.YtoehopigjmmagaaDoor
