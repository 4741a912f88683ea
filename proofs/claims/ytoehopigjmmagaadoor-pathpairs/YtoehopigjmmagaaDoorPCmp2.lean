/- Compare. -/
import Derived.Test.YtoehopigjmmagaaDoorPCmp
namespace Go.Proofs.YtoehopigjmmagaaDoor
open Go.RowKit

theorem ret_ii {a b x y : Int} (h : a = b) (k : x = y) : Ending.returned (.tuple #[.int .i64 a, .int .i64 x]) = .returned (.tuple #[.int .i64 b, .int .i64 y]) := by rw [h, k]

set_option maxRecDepth 100000 in
set_option maxHeartbeats 1000000 in
theorem compare_any (a b : ByteArray) (w : World) (ha : (bl a).length ≤ 9223372036854775807) (hb : (bl b).length ≤ 9223372036854775807) :
    Calls Tryd.prog 28 #[.string a, .string b] w fun e w' => e = .returned (.tuple #[.int .i64 (cmP (bl a) (bl b)), .int .i64 (pN (bl a) (bl b))]) ∧ Below w.heap.size w w' := by
  have HB := hid (below_walk w (.cells #[.string a, .string b] 9))
  by_cases hok : okP (bl a) = true ∧ okP (bl b) = true
  · have HP := hid (show pN (bl a) (bl b) = 0 by unfold pN; rw [if_pos hok])
    have HC := hid (checkTwo a b w ha hb 0 HP.out)
    have HR := hid (show cmP (bl a) (bl b) = cmpL (nms (bl a)) (nms (bl b)) by unfold cmP; rw [if_pos hok])
    have HCN := hid (compareNames_any (nms (bl a)) (nms (bl b)) · ⟨((okP_iff _).1 hok.1).1, ((okP_iff _).1 hok.2).1, by rw [txt_nms]; exact okP_short hok.1, by rw [txt_nms]; exact okP_short hok.2, rfl⟩)
    rw [txt_nms, txt_nms, mk_bl, mk_bl] at HCN
    clear hok ha hb
    go_enter Tryd.func28, Tryd.ntmps28
    go_wp2_with (first | (go_at_call 45; refine HC.out.mono ?_; rintro e w' ⟨rfl, n, rfl⟩) | (go_at_call 48; refine (HCN.out _).mono ?_; rintro e w' ⟨rfl, n2, rfl⟩))
    go_ret2
    exact ⟨ret_ii HR.out.symm HP.out.symm, ⟨HB.out.os, HB.out.tape, HB.out.output, HB.out.size, HB.out.block⟩⟩
  · have HP := hid (show pN (bl a) (bl b) = 45 by unfold pN; rw [if_neg hok])
    have HC := hid (checkTwo a b w ha hb 45 HP.out)
    have HR := hid (show cmP (bl a) (bl b) = 0 by unfold cmP; rw [if_neg hok])
    clear hok ha hb
    go_enter Tryd.func28, Tryd.ntmps28
    go_wp2_with (go_at_call 45; refine HC.out.mono ?_; rintro e w' ⟨rfl, n, rfl⟩)
    go_ret2
    exact ⟨ret_ii HR.out.symm HP.out.symm, ⟨HB.out.os, HB.out.tape, HB.out.output, HB.out.size, HB.out.block⟩⟩

end Go.Proofs.YtoehopigjmmagaaDoor
