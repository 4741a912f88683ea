/- ShaOf answers true. -/
import Derived.Test.YticmdmnjajjpbaaDoorSAwake
import Derived.Test.YticmdmnjajjpbaaDoorSLawBack
import Derived.Test.YticmdmnjajjpbaaDoorSRefS
import Derived.Test.YticmdmnjajjpbaaDoorSRefP
namespace Go.Proofs.YticmdmnjajjpbaaDoor
open Go.RowKit

theorem of_eq (H : List Int) (h : H.length = 32) (W : World) : (binOp .eql 41 (.agg (u8V H).toArray) (.agg (u8V H).toArray)).run Tryd.prog W = .ok (.bool true) W :=
  eql_row W 41 5 32 .u8 Tryd.underlying41 Tryd.underlying5 (by kernel_rfl) _ h
theorem fl_each (pss : List (List UInt8)) (j : Nat) (hj : j < pss.length) : (pss.getD j []).length ≤ (fl pss).length := by
  have h1 := fl_length pss j hj
  have h2 := fl_le pss (j + 1)
  omega

set_option maxRecDepth 100000 in
set_option maxHeartbeats 2000000 in
theorem of_law (X : Nat → Prop) (w : World) (v : Value) (pss : List (List UInt8)) (hT : Tabs w) (hR : TabR w) (hv : Lists X w v pss) (hn : pss.length ≤ 1048576) (hN : (fl pss).length ≤ 1048576) :
    Calls Tryd.prog 5 #[v] w fun e w' => e = .returned (.bool true) ∧ Below w.heap.size w w' := by
  have HT := hid hT
  have HR := hid hR
  have HV := hid hv
  have eqd := of_eq (ofP (fl pss)) (ofP_length _)
  have HE := hid (fun j hj => Nat.le_trans (fl_each pss j hj) (Nat.le_trans hN (by omega : 1048576 ≤ 140737488355327)))
  have HNN := hid hN
  have HN1 := hid hn
  obtain ⟨D, HD⟩ : ∃ D, Hid (D = u8V (ofP (fl pss))) := ⟨_, rfl⟩
  rw [← HD.out] at eqd
  clear hT hR hv hN hn
  go_enter Tryd.func5, Tryd.ntmps5
  go_wp2_with fail
  refine (parts_any X w v pss HV.out HN1.out).mono ?_
  rintro e w1 ⟨v1, rfl, us, hp⟩
  have HL1 := hid (hp.lists HE.out)
  have HB1 := hid hp.bel
  clear hp
  go_wp2_with fail
  refine (of_any w1 v1 pss (HT.out.below HB1.out) HL1.out (by have := HN1.out; omega) (by have := HNN.out; omega)).mono ?_
  rintro e w2 ⟨rfl, hb2⟩
  have HB2 := hid (HB1.out.trans (hb2.mono HB1.out.size))
  have HL2 := hid (HL1.out.below hb2)
  rw [← HD.out]
  clear hb2
  go_wp2_with fail
  refine (rof_any X w2 v pss (HR.out.below HB2.out) (HV.out.below HB2.out) (by have := HN1.out; omega) (by have := HNN.out; omega)).mono ?_
  rintro e w3 ⟨rfl, hb3⟩
  have HB3 := hid (HB2.out.trans (hb3.mono HB2.out.size))
  have HL3 := hid (HL2.out.below hb3)
  rw [← HD.out]
  clear hb3
  go_wp2_with fail
  refine (same_parts _ X w3 v1 v pss HL3.out (HV.out.below HB3.out) HN1.out).mono ?_
  rintro e w4 ⟨rfl, q, hw4⟩
  have HB4 := hid (show Below w.heap.size w w4 by rw [hw4]; exact ⟨HB3.out.os, HB3.out.tape, HB3.out.output, HB3.out.size, HB3.out.block⟩)
  clear hw4
  go_wp2_with fail
  refine (awake_any _ (HT.out.below HB4.out)).mono ?_
  rintro e w5 ⟨rfl, hb5⟩
  have HB5 := hid (HB4.out.trans (hb5.mono HB4.out.size))
  clear hb5
  go_wp2
  go_ret
  exact ⟨rfl, HB5.out⟩

end Go.Proofs.YticmdmnjajjpbaaDoor
