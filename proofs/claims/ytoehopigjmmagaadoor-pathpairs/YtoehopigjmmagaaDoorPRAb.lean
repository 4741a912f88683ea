/- The document's Above. -/
import Derived.Test.YtoehopigjmmagaaDoorPCom
import Derived.Test.YtoehopigjmmagaaDoorPPieces
namespace Go.Proofs.YtoehopigjmmagaaDoor
open Go.RowKit

theorem comL_up {x y : List (List UInt8)} : upP x y = true ↔ comL x y = x.length ∧ x.length < y.length := by
  obtain ⟨c1, c2, c3⟩ := comL_le x y
  unfold upP
  rw [decide_eq_true_iff]
  constructor
  · rintro ⟨h1, h2⟩
    exact ⟨comL_is (Nat.le_refl _) (by omega) (by rw [h2, List.take_length]) (Or.inl rfl), h1⟩
  · rintro ⟨h1, h2⟩
    rw [h1, List.take_length] at c3
    exact ⟨h2, c3.symm⟩

set_option maxRecDepth 100000 in
set_option maxHeartbeats 1000000 in
theorem rabove_any (a b : ByteArray) (w : World) (ha : (bl a).length ≤ 1048576) (hb : (bl b).length ≤ 1048576) :
    Calls Tryd.prog 27 #[.string a, .string b] w fun e w' => e = .returned (.tuple #[.bool (abB (bl a) (bl b)), .int .i64 (pN (bl a) (bl b))]) ∧ Below w.heap.size w w' := by
  have HA := hid (rnames_any a w (by omega))
  have HBN := hid (rnames_any b · (by omega))
  clear ha hb
  go_enter Tryd.func27, Tryd.ntmps27
  go_wp2_with fail
  refine HA.out.mono ?_
  rintro e w1 ⟨⟨oa, va, rfl, hoa⟩ | ⟨oa, rfl⟩, hb1⟩
  · obtain ⟨aa, ca, rfl⟩ := hoa.strs.shape
    have HOA := hid hoa
    have HB1 := hid hb1
    have hxl := ((okP_iff _).1 oa).2
    have HOKA := hid oa
    clear hoa hb1 oa HA
    go_wp2_with fail
    refine (HBN.out w1).mono ?_
    rintro e w2 ⟨⟨ob, vb, rfl, hob⟩ | ⟨ob, rfl⟩, hb2⟩
    · obtain ⟨ab, cb', rfl⟩ := hob.strs.shape
      have hyl := ((okP_iff _).1 ob).2
      have HB2 := hid (below_tr HB1.out (below_le hb2 HB1.out.size))
      have HSH := hid (rcommon_any _ _ _ _ w2 (HOA.out.below hb2).strs hob.strs (by omega) (by omega))
      have HP := hid (show pN (bl a) (bl b) = 0 by unfold pN; rw [if_pos ⟨HOKA.out, ob⟩])
      have HAB := hid (show abB (bl a) (bl b) = upP (nms (bl a)) (nms (bl b)) by unfold abB; rw [HOKA.out, ob]; rfl)
      have HUP := hid (comL_up (x := nms (bl a)) (y := nms (bl b)))
      clear hob hb2 ob HBN HOA HB1
      generalize nms (bl a) = x at *
      generalize nms (bl b) = y at *
      by_cases h1 : comL x y = x.length
      · rw [h1] at HSH HUP
        by_cases h2 : x.length < y.length
        · have q2 : (x.length : Int) < (y.length : Int) := by omega
          have HT := hid (HUP.out.2 ⟨rfl, h2⟩)
          go_wp2_with (go_at_call 47; refine HSH.out.mono ?_; rintro e w' ⟨rfl, n, rfl⟩)
          go_ret2
          exact ⟨ret_bi (by rw [HAB.out, HT.out]) HP.out.symm, ⟨HB2.out.os, HB2.out.tape, HB2.out.output, HB2.out.size, HB2.out.block⟩⟩
        · have q2 : ¬ (x.length : Int) < (y.length : Int) := by omega
          have HT := hid (show upP x y = false by rw [Bool.eq_false_iff]; exact fun e => h2 (HUP.out.1 e).2)
          go_wp2_with (go_at_call 47; refine HSH.out.mono ?_; rintro e w' ⟨rfl, n, rfl⟩)
          go_ret2
          exact ⟨ret_bi (by rw [HAB.out, HT.out]) HP.out.symm, ⟨HB2.out.os, HB2.out.tape, HB2.out.output, HB2.out.size, HB2.out.block⟩⟩
      · have HT := hid (show upP x y = false by rw [Bool.eq_false_iff]; exact fun e => h1 (HUP.out.1 e).1)
        have q1 : ((comL x y : Int) == (x.length : Int)) = false := by simp; omega
        have q1' : ¬ (comL x y : Int) = (x.length : Int) := by omega
        generalize comL x y = cc at *
        go_wp2_with (go_at_call 47; refine HSH.out.mono ?_; rintro e w' ⟨rfl, n, rfl⟩)
        go_ret2
        exact ⟨ret_bi (by rw [HAB.out, HT.out]) HP.out.symm, ⟨HB2.out.os, HB2.out.tape, HB2.out.output, HB2.out.size, HB2.out.block⟩⟩
    · have HB2 := hid (below_tr HB1.out (below_le hb2 HB1.out.size))
      have HP := hid (show pN (bl a) (bl b) = 45 by unfold pN; rw [if_neg (by rw [ob]; simp)])
      have HAB := hid (show abB (bl a) (bl b) = false by unfold abB; rw [ob]; simp)
      clear hb2 ob HBN HOA HB1
      go_wp2
      go_ret2
      exact ⟨ret_bi HAB.out.symm HP.out.symm, HB2.out⟩
  · have HB1 := hid hb1
    have HP := hid (show pN (bl a) (bl b) = 45 by unfold pN; rw [if_neg (by rw [oa]; simp)])
    have HAB := hid (show abB (bl a) (bl b) = false by unfold abB; rw [oa]; simp)
    clear hb1 oa HA
    go_wp2_with fail
    refine (HBN.out w1).mono ?_
    rintro e w2 ⟨⟨ob, vb, rfl, hob⟩ | ⟨ob, rfl⟩, hb2⟩
    · obtain ⟨ab, cb', rfl⟩ := hob.strs.shape
      have HB2 := hid (below_tr HB1.out (below_le hb2 HB1.out.size))
      clear hb2 ob HBN HB1 hob
      go_wp2
      go_ret2
      exact ⟨ret_bi HAB.out.symm HP.out.symm, HB2.out⟩
    · have HB2 := hid (below_tr HB1.out (below_le hb2 HB1.out.size))
      clear hb2 ob HBN HB1
      go_wp2
      go_ret2
      exact ⟨ret_bi HAB.out.symm HP.out.symm, HB2.out⟩

end Go.Proofs.YtoehopigjmmagaaDoor
