/- The document's Same, of states that are alike. -/
import Derived.Test.YticmdmnjajjpbabDoorSState
import Derived.Test.YticmdmnjajjpbabDoorSAlike
import Derived.Test.YticmdmnjajjpbabDoorSLawBack
namespace Go.Proofs.YticmdmnjajjpbabDoor
open Go.RowKit

theorem eq8 (H : List Int) (h : H.length = 8) (W : World) : (binOp .eql 23 (.agg (u32V H).toArray) (.agg (u32V H).toArray)).run Tryd.prog W = .ok (.bool true) W :=
  eql_row W 23 22 8 .u32 Tryd.underlying23 Tryd.underlying22 (by kernel_rfl) _ h

set_option maxRecDepth 100000 in
set_option maxHeartbeats 2000000 in
theorem same_state (w : World) (H : List Int) (N : Int) (va vb : Value) (buf : List UInt8) (hH : H.length = 8) (ha : Src w va buf) (hb : Src w vb buf) :
    Calls Tryd.prog 13 #[.agg (scells H va N).toArray, .agg (scells H vb N).toArray] w fun e w' => e = .returned (.bool true) ∧ Below w.heap.size w w' := by
  have HBW := hid (below_walk2 w (.cells (scells H va N).toArray 27) (.cells (scells H vb N).toArray 27))
  have H2 := hid (hp_two' w (.cells (scells H va N).toArray 27) (.cells (scells H vb N).toArray 27))
  have HA := hid (ha.below HBW.out)
  have HB := hid (hb.below HBW.out)
  have HH := hid hH
  have eq := eq8 H hH
  obtain ⟨a1, c1, rfl⟩ := src_shape ha
  obtain ⟨a2, c2, rfl⟩ := src_shape hb
  clear ha hb hH
  go_enter Tryd.func13, Tryd.ntmps13
  go_upto_region 1 with fail
  generalize (w.alloc (.cells (scells H (.slice a1 buf.length c1) N).toArray 27)).alloc (.cells (scells H (.slice a2 buf.length c2) N).toArray 27) = w2 at HBW H2 HA HB ⊢
  have HS1 := hid (⟨H2.out.1, HH.out⟩ : Sb w2 w.heap.size H (.slice a1 buf.length c1) N)
  have HS2 := hid (⟨H2.out.2, HH.out⟩ : Sb w2 (w.heap.size + 1) H (.slice a2 buf.length c2) N)
  have d8 := HS1.out.c8
  have d9 := HS1.out.c9
  have e8 := HS2.out.c8
  have e9 := HS2.out.c9
  have HR1 := hid HS1.out.words
  have HR2 := hid HS2.out.words
  have HSZ : Hid ((Tryd.prog.info? 23).map (·.size) = some (u32V H).length) := by rw [u32V_length, HH.out]; exact hid (by kernel_rfl)
  have HAL := hid (alike_true _ _ _ w2 HA.out HB.out)
  generalize u32V H = V at *
  go_wp2_with (first
    | (refine wpList_load_mid (by rfl) 23 (.tmp 5) (by rfl) w.heap.size 0 (by rfl) V _ HR1.out Tryd.underlying23 rfl HSZ.out ?_)
    | (refine wpList_load_mid (by rfl) 23 (.tmp 7) (by rfl) (w.heap.size + 1) 0 (by rfl) V _ HR2.out Tryd.underlying23 rfl HSZ.out ?_))
  refine HAL.out.mono ?_
  rintro e w3 ⟨rfl, q, hw⟩
  have HB3 : Hid (Below w.heap.size w w3) := by rw [hw]; exact ⟨HBW.out.os, HBW.out.tape, HBW.out.output, HBW.out.size, HBW.out.block⟩
  clear hw
  go_wp2
  go_ret
  exact ⟨rfl, HB3.out⟩

end Go.Proofs.YticmdmnjajjpbabDoor
