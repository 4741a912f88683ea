/- The document's Rel. -/
import Derived.Test.YtoehopigjmmagaaDoorPRel
import Derived.Test.YtoehopigjmmagaaDoorPPieces
namespace Go.Proofs.YtoehopigjmmagaaDoor
open Go.RowKit

theorem relL_nil {x y : List (List UInt8)} : relL x y = [] ↔ x = y := by
  obtain ⟨c1, c2, c3⟩ := comL_le x y
  unfold relL
  constructor
  · intro h
    obtain ⟨h1, h2⟩ := List.append_eq_nil_iff.1 h
    have h1' : x.length - comL x y = 0 := by simpa using congrArg List.length h1
    have h2' : y.length - comL x y = 0 := by simpa using congrArg List.length h2
    rw [List.take_of_length_le (by omega), List.take_of_length_le (by omega)] at c3
    exact c3
  · rintro rfl
    have : comL x x = x.length := comL_is (Nat.le_refl _) (Nat.le_refl _) rfl (Or.inl rfl)
    rw [this]
    simp

set_option maxRecDepth 100000 in
set_option maxHeartbeats 2000000 in
theorem rrel_any (a b : ByteArray) (w : World) (ha : (bl a).length ≤ 1048576) (hb : (bl b).length ≤ 1048576) :
    Calls Tryd.prog 31 #[.string a, .string b] w fun e w' => e = .returned (.tuple #[.string (mk (relP (bl a) (bl b))), .int .i64 (pN (bl a) (bl b))]) ∧ Below w.heap.size w w' := by
  have HA := hid (rnames_any a w (by omega))
  have HBN := hid (rnames_any b · (by omega))
  clear ha hb
  go_enter Tryd.func31, Tryd.ntmps31
  go_wp2_with fail
  refine HA.out.mono ?_
  rintro e w1 ⟨⟨oa, va, rfl, hoa⟩ | ⟨oa, rfl⟩, hb1⟩
  · obtain ⟨aa, ca, rfl⟩ := hoa.strs.shape
    have HOA := hid hoa
    have HB1 := hid hb1
    have hxl := ((okP_iff _).1 oa).2
    have HOKA := hid oa
    clear hoa hb1 oa HA
    go_wp2_with fail
    refine (HBN.out w1).mono ?_
    rintro e w2 ⟨⟨ob, vb, rfl, hob⟩ | ⟨ob, rfl⟩, hb2⟩
    · have hyl := ((okP_iff _).1 ob).2
      have HB2 := hid (below_tr HB1.out (below_le hb2 HB1.out.size))
      have HSH := hid (rcommon_any _ _ _ _ w2 (HOA.out.below hb2).strs hob.strs (by omega) (by omega))
      have HP := hid (show pN (bl a) (bl b) = 0 by unfold pN; rw [if_pos ⟨HOKA.out, ob⟩])
      have HR := hid (show relP (bl a) (bl b) = if relL (nms (bl a)) (nms (bl b)) = [] then [46] else txt (relL (nms (bl a)) (nms (bl b))) by
        unfold relP
        rw [if_pos ⟨HOKA.out, ob⟩]
        by_cases he : bl a = bl b
        · rw [if_pos he, if_pos (relL_nil.2 (by rw [he]))]
        · rw [if_neg he, if_neg (fun h => he (by rw [← txt_nms (bl a), ← txt_nms (bl b), relL_nil.1 h]))])
      have HSB := hid (relL_short ((okP_iff _).1 HOKA.out) ((okP_iff _).1 ob))
      obtain ⟨hc1, hc2, _⟩ := comL_le (nms (bl a)) (nms (bl b))
      obtain ⟨vc, hvc, hsl⟩ := cut_from hob.strs (comL (nms (bl a)) (nms (bl b))) hc2
      obtain ⟨ab, cb', rfl⟩ := hob.strs.shape
      obtain ⟨ac, cc', rfl⟩ := hvc.shape
      have HVC := hid hvc
      clear hob hb2 ob HBN HOA HB1 hvc HOKA
      unfold relL at HR HSB
      generalize nms (bl a) = x at *
      generalize nms (bl b) = y at *
      generalize comL x y = K at *
      have hDl : (y.drop K).length ≤ 32 := by simp; omega
      generalize y.drop K = D at *
      go_wp2_with (go_at_call 47; refine HSH.out.mono ?_; rintro e w' ⟨rfl, n0, rfl⟩)
      go_loopw [11, 12] (fun vl i wr => ∃ k : Nat, K ≤ k ∧ k ≤ x.length ∧ i = .int .i64 k ∧ OwnS wr w2.heap.size vl (List.replicate (k - K) [46, 46]) ∧ Below w2.heap.size w2 wr) (fun _ i _ => x.length - (intOf i).toNat)
      case atStart => exact ⟨K, by omega, hc1, rfl, by rw [Nat.sub_self]; exact OwnS.nil _ _, ⟨rfl, rfl, rfl, Nat.le_refl _, fun _ _ => rfl⟩⟩
      case round =>
        obtain ⟨k, hk0, hk, rfl, ho, hb3⟩ := hrel
        have HO := hid ho
        have HB3 := hid hb3
        have hbs := hb3.size
        obtain ⟨ax, cx, rfl⟩ := ho.strs.shape
        have hrl : (List.replicate (k - K) ([46, 46] : List UInt8)).length ≤ 32 := by simp; omega
        clear ho hb3
        by_cases hlt : k < x.length
        · have q1 : (k : Int) < (x.length : Int) := by omega
          have HRS := hid (show List.replicate (k - K) ([46, 46] : List UInt8) ++ [[46, 46]] = List.replicate (k + 1 - K) [46, 46] by
            rw [show k + 1 - K = k - K + 1 by omega, List.replicate_succ'])
          generalize List.replicate (k - K) ([46, 46] : List UInt8) = RR at *
          go_wp2_with (at_builtin; refine app_text rfl _ _ rfl w2.heap.size _ _ rfl (HO.out.alloc _) _ _ rfl (strs_one _ ⟨#[46, 46]⟩) ?c1 ?c2 ?_)
          case c1 => simp; omega
          case c2 => simp; omega
          intro v3 w3 ho3 hg3 hp3
          rw [show bl ⟨#[46, 46]⟩ = [46, 46] from bl_mk [46, 46], HRS.out] at ho3
          obtain ⟨ao3, c3, rfl⟩ := ho3.strs.shape
          have HO3 := hid ho3
          have HB5 := hid (below_tr HB3.out (below_tr (below_le (below_walk wr _) hbs) (own_below (HO.out.alloc _) (by simp; omega) hg3)))
          clear ho3 hg3 hp3
          go_wp2
          exact ⟨⟨k + 1, by omega, by omega, by simp, HO3.out, HB5.out⟩, by simp [intOf]; omega⟩
        · have q1 : ¬ (k : Int) < (x.length : Int) := by omega
          obtain rfl : k = x.length := by omega
          obtain ⟨RR, HRR⟩ : ∃ RR : List (List UInt8), Hid (List.replicate (x.length - K) [46, 46] = RR) := ⟨_, rfl⟩
          rw [HRR.out] at HR HSB HO hrl ⊢
          have HVC4 := hid (HVC.out.below HB3.out)
          go_wp2_with (at_builtin; refine app_text rfl _ _ rfl _ _ _ rfl HO.out _ _ rfl HVC4.out ?e1 hbs ?_)
          case e1 => omega
          intro v5 w5 ho5 hg5 hp5
          have hTl : (RR ++ D).length ≤ 64 := by rw [List.length_append]; omega
          generalize RR ++ D = T at ho5 HR HSB hTl
          have HB5 := hid (below_tr HB2.out (below_le (below_tr HB3.out (own_below HO.out hbs hg5)) HB2.out.size))
          have HTX := hid (rtext_any v5 _ w5 ho5.strs (by omega) (by have := HSB.out; omega))
          obtain ⟨a5, c5, rfl⟩ := ho5.strs.shape
          clear ho5 hg5 hp5
          by_cases hT0 : T = []
          · subst hT0
            have HR2 := hid (HR.out.trans (if_pos rfl))
            go_wp2
            go_ret2
            exact ⟨ret_si HR2.out.symm HP.out.symm, HB5.out⟩
          · have HR2 := hid (HR.out.trans (if_neg hT0))
            have hTp : 0 < T.length := List.length_pos_iff.2 hT0
            have q2 : ((T.length : Int) == 0) = false := by simp; exact hT0
            have q2' : ¬ (T.length : Int) = 0 := by omega
            clear hT0
            go_wp2_with (go_at_call 41; refine HTX.out.mono ?_; rintro e w' ⟨rfl, hw⟩; subst w')
            go_ret2
            exact ⟨ret_si HR2.out.symm HP.out.symm, HB5.out⟩
    · have HB2 := hid (below_tr HB1.out (below_le hb2 HB1.out.size))
      have HP := hid (show pN (bl a) (bl b) = 45 by unfold pN; rw [if_neg (by rw [ob]; simp)])
      have HAB := hid (show relP (bl a) (bl b) = [] by unfold relP; rw [if_neg (by rw [ob]; simp)])
      clear hb2 ob HBN HOA HB1
      go_wp2
      go_ret2
      exact ⟨ret_si HAB.out.symm HP.out.symm, HB2.out⟩
  · have HB1 := hid hb1
    have HP := hid (show pN (bl a) (bl b) = 45 by unfold pN; rw [if_neg (by rw [oa]; simp)])
    have HAB := hid (show relP (bl a) (bl b) = [] by unfold relP; rw [if_neg (by rw [oa]; simp)])
    clear hb1 oa HA
    go_wp2_with fail
    refine (HBN.out w1).mono ?_
    rintro e w2 ⟨⟨ob, vb, rfl, hob⟩ | ⟨ob, rfl⟩, hb2⟩
    · obtain ⟨ab, cb', rfl⟩ := hob.strs.shape
      have HB2 := hid (below_tr HB1.out (below_le hb2 HB1.out.size))
      clear hb2 ob HBN HB1 hob
      go_wp2
      go_ret2
      exact ⟨ret_si HAB.out.symm HP.out.symm, HB2.out⟩
    · have HB2 := hid (below_tr HB1.out (below_le hb2 HB1.out.size))
      clear hb2 ob HBN HB1
      go_wp2
      go_ret2
      exact ⟨ret_si HAB.out.symm HP.out.symm, HB2.out⟩

end Go.Proofs.YtoehopigjmmagaaDoor
