/- Rel: the shortest written path from a path to another one. -/
import Derived.Test.YtoehopigjmmagaaDoorPRep
namespace Go.Proofs.YtoehopigjmmagaaDoor
open Go.RowKit

def relL (x y : List (List UInt8)) : List (List UInt8) := List.replicate (x.length - comL x y) [46, 46] ++ y.drop (comL x y)
def relP (a b : List UInt8) : List UInt8 := if okP a = true ∧ okP b = true then (if a = b then [46] else txt (relL (nms a) (nms b))) else []
theorem txt_bound : ∀ (l : List (List UInt8)), (∀ p ∈ l, p.length ≤ 64) → (txt l).length ≤ 65 * l.length
  | [], _ => by simp [txt]
  | [x], h => by
    have := h x (by simp)
    rw [txt_one]; simp only [List.length_singleton]; omega
  | x :: y :: r, h => by
    have h1 := h x (by simp)
    have h2 := txt_bound (y :: r) (fun p hp => h p (List.mem_cons_of_mem _ hp))
    rw [txt_two]; simp only [List.length_append, List.length_cons] at *; omega
theorem relL_len {x y : List (List UInt8)} (hx : x.length ≤ 32) (hy : y.length ≤ 32) : (relL x y).length ≤ 64 := by
  simp [relL]; omega
theorem relL_short {x y : List (List UInt8)} (hx : pathL x) (hy : pathL y) : (txt (relL x y)).length ≤ 4160 := by
  have h1 := relL_len hx.2 hy.2
  have := txt_bound (relL x y) (fun p hp => by
    unfold relL at hp
    rcases List.mem_append.1 hp with h | h
    · rw [(List.mem_replicate.1 h).2]; decide
    · exact nmP_len (hy.1 p (List.mem_of_mem_drop h)))
  omega

theorem one_cell (W : World) (v : Value) : (W.alloc (.cells #[v] 9)).cell? ⟨W.heap.size, 0, none⟩ = some v := by simp

set_option maxRecDepth 100000 in
set_option maxHeartbeats 2000000 in
theorem rel_any (a b : ByteArray) (w : World) (ha : (bl a).length ≤ 9223372036854775807) (hb : (bl b).length ≤ 9223372036854775807) :
    Calls Tryd.prog 30 #[.string a, .string b] w fun e w' => e = .returned (.tuple #[.string (mk (relP (bl a) (bl b))), .int .i64 (pN (bl a) (bl b))]) ∧ Below w.heap.size w w' := by
  have HB := hid (below_walk w (.cells #[.string a, .string b] 9))
  by_cases hok : okP (bl a) = true ∧ okP (bl b) = true
  · have HP := hid (show pN (bl a) (bl b) = 0 by unfold pN; rw [if_pos hok])
    have HC := hid (checkTwo a b w ha hb 0 HP.out)
    by_cases he : bl a = bl b
    · obtain rfl := bl_inj he
      have HR := hid (show relP (bl a) (bl a) = [46] by unfold relP; rw [if_pos hok, if_pos rfl])
      clear he hok ha hb
      go_enter Tryd.func30, Tryd.ntmps30
      go_wp2_with (go_at_call 45; refine HC.out.mono ?_; rintro e w' ⟨rfl, n, rfl⟩)
      go_ret2
      exact ⟨ret_si HR.out.symm HP.out.symm, ⟨HB.out.os, HB.out.tape, HB.out.output, HB.out.size, HB.out.block⟩⟩
    · have hne : (a.toList == b.toList) = false := by simp; exact he
      have hne' : ¬ a.toList = b.toList := he
      have HR := hid (show relP (bl a) (bl b) = txt (relL (nms (bl a)) (nms (bl b))) by unfold relP; rw [if_pos hok, if_neg he])
      have hpa := (okP_iff _).1 hok.1
      have hpb := (okP_iff _).1 hok.2
      have sa := okP_short hok.1
      have sb := okP_short hok.2
      have HNA := hid (namesOf_any a · (by rw [bl_size]; omega))
      have HNB := hid (namesOf_any b · (by rw [bl_size]; omega))
      have HSB := hid (relL_short hpa hpb)
      have hxl := hpa.2
      have hyl := hpb.2
      obtain ⟨hc1, hc2, _⟩ := comL_le (nms (bl a)) (nms (bl b))
      unfold relL at HSB HR
      generalize nms (bl a) = x at *
      generalize nms (bl b) = y at *
      obtain ⟨I, HI⟩ : ∃ I : Nat, Hid (x.length - comL x y = I) := ⟨_, rfl⟩
      rw [HI.out] at HSB HR
      clear he hok ha hb sa sb hpa hpb
      have HW0 := hid (show w.heap.size ≤ (w.alloc (.cells #[.string a, .string b] 9)).heap.size by simp)
      go_enter Tryd.func30, Tryd.ntmps30
      go_wp2_with fail
      refine HC.out.mono ?_
      rintro e w1 ⟨rfl, n, hw⟩
      have HB1 : Hid (Below w.heap.size w w1) := by rw [hw]; exact ⟨HB.out.os, HB.out.tape, HB.out.output, HB.out.size, HB.out.block⟩
      clear hw HC HB HW0
      go_wp2_with fail
      refine (HNA.out w1).mono ?_
      rintro e w2 ⟨va, rfl, hoa, hba⟩
      obtain ⟨aa, ca, rfl⟩ := hoa.strs.shape
      have HOA := hid hoa
      have HB2 := hid (below_tr HB1.out (below_le hba HB1.out.size))
      clear hoa hba HNA HB1
      go_wp2_with fail
      refine (HNB.out w2).mono ?_
      rintro e w3 ⟨vb, rfl, hob, hbb⟩
      have HOB := hid hob.strs
      have HOA3 := hid (HOA.out.below hbb).strs
      have HB3 := hid (below_tr HB2.out (below_le hbb HB2.out.size))
      obtain ⟨ab, cb', rfl⟩ := hob.strs.shape
      have HSH := hid (shared_any _ _ x y w3 HOA3.out HOB.out (by omega) (by omega))
      obtain ⟨vc, hvc, hsl⟩ := cut_from HOB.out (comL x y) hc2
      have HVC := hid hvc
      obtain ⟨ac, cc', rfl⟩ := hvc.shape
      clear hob hbb HNB HOA HB2 hvc
      generalize comL x y = K at *
      have hDl : (y.drop K).length ≤ 32 := by simp; omega
      generalize y.drop K = D at *
      obtain ⟨RR, HRR⟩ : ∃ RR : List (List UInt8), Hid (List.replicate I [46, 46] = RR) := ⟨_, rfl⟩
      have hRl : RR.length ≤ 32 := by rw [← HRR.out, List.length_replicate, ← HI.out]; omega
      rw [HRR.out] at HR HSB
      have hwr : IntKind.i64.wrap ((x.length : Int) - (K : Int)) = (I : Int) := by rw [IntKind.wrap_i64, ← HI.out]; omega
      go_wp2_with (first | (go_at_call 49; refine HSH.out.mono ?_; rintro e w' ⟨rfl, n2, rfl⟩) | fail)
      refine (repeat_any w3.heap.size [46, 46] I _ (one_cell (w3.drewN n2) _) (by rw [← HI.out]; omega)).mono ?_
      rintro e w4 ⟨vr, rfl, hor, hbr⟩
      rw [HRR.out] at hor
      have HOR := hid hor
      have HB4 := hid (below_tr HB3.out (below_le (below_d (below_tr (below_walk (w3.drewN n2) _) (below_le hbr (by simp)))) HB3.out.size))
      have HVC4 := hid (show Strs w4 (.slice ac D.length cc') D from HVC.out.below (below_d (below_tr (below_walk (w3.drewN n2) _) (below_le hbr (by simp)))))
      have hsz4 := hbr.size
      obtain ⟨ar, cr, rfl⟩ := hor.strs.shape
      clear hor hbr HSH HVC
      go_wp2_with (at_builtin; refine app_text rfl _ _ rfl _ _ _ rfl HOR.out _ _ rfl HVC4.out ?c1 hsz4 ?_)
      case c1 => omega
      intro v5 w5 ho5 hg5 hp5
      have hTl : (RR ++ D).length ≤ 64 := by rw [List.length_append]; omega
      generalize RR ++ D = T at ho5 HR HSB hTl
      have HB5 := hid (below_tr HB4.out (below_le (own_below HOR.out hsz4 hg5) (Nat.le_trans HB3.out.size (by simp))))
      have HJ := hid (joins_any v5 _ w5 ho5.strs (by omega) (by have := HSB.out; omega))
      obtain ⟨a5, c5, rfl⟩ := ho5.strs.shape
      clear ho5 hg5 hp5
      go_wp2_with (go_at_call 51; refine HJ.out.mono ?_; rintro e w6 ⟨rfl, hb6⟩)
      go_ret2
      exact ⟨ret_si HR.out.symm HP.out.symm, below_tr HB5.out (below_le hb6 HB5.out.size)⟩
  · have HP := hid (show pN (bl a) (bl b) = 45 by unfold pN; rw [if_neg hok])
    have HC := hid (checkTwo a b w ha hb 45 HP.out)
    have HR := hid (show relP (bl a) (bl b) = [] by unfold relP; rw [if_neg hok])
    clear hok ha hb
    go_enter Tryd.func30, Tryd.ntmps30
    go_wp2_with (go_at_call 45; refine HC.out.mono ?_; rintro e w' ⟨rfl, n, rfl⟩)
    go_ret2
    exact ⟨ret_si HR.out.symm HP.out.symm, ⟨HB.out.os, HB.out.tape, HB.out.output, HB.out.size, HB.out.block⟩⟩

end Go.Proofs.YtoehopigjmmagaaDoor
