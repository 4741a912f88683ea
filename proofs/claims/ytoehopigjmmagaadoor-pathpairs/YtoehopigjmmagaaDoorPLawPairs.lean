/- PathPairs answers true. -/
import Derived.Test.YtoehopigjmmagaaDoorPRAb
import Derived.Test.YtoehopigjmmagaaDoorPRCmp
import Derived.Test.YtoehopigjmmagaaDoorPRRel
import Derived.Test.YtoehopigjmmagaaDoorPRSp
namespace Go.Proofs.YtoehopigjmmagaaDoor
open Go.RowKit

set_option maxRecDepth 100000 in
set_option maxHeartbeats 4000000 in
theorem lawPairs_any (a b : ByteArray) (w : World) (ha : (bl a).length ≤ 1048576) (hb : (bl b).length ≤ 1048576) :
    Calls Tryd.prog 7 #[.string a, .string b] w fun e w' => e = .returned (.bool true) ∧ Below w.heap.size w w' := by
  have H1 := hid (above_any a b · (by omega) (by omega))
  have H2 := hid (rabove_any a b · ha hb)
  have H3 := hid (compare_any a b · (by omega) (by omega))
  have H4 := hid (rcompare_any a b · ha hb)
  have H5 := hid (rel_any a b · (by omega) (by omega))
  have H6 := hid (rrel_any a b · ha hb)
  have H7 := hid (psplit_any a · (by omega))
  have H8 := hid (rsplit_any a · ha)
  generalize abB (bl a) (bl b) = A at *
  generalize cmP (bl a) (bl b) = C at *
  generalize mk (relP (bl a) (bl b)) = R at *
  generalize mk (spD (bl a)) = D at *
  generalize mk (spN (bl a)) = L at *
  generalize pN (bl a) (bl b) = P at *
  generalize spE (bl a) = S at *
  have HN1 := hid (num_any P)
  have HN2 := hid (num_any S)
  have HAW := hid awake_any
  clear ha hb
  go_enter Tryd.func7, Tryd.ntmps7
  go_wp2_with fail
  refine (H1.out w).mono ?_
  rintro e w1 ⟨rfl, hb1⟩
  have HB1 := hid hb1
  clear hb1 H1
  go_wp2_with fail
  refine (H2.out w1).mono ?_
  rintro e w2 ⟨rfl, hb2⟩
  have HB2 := hid (below_tr HB1.out (below_le hb2 HB1.out.size))
  clear hb2 H2 HB1
  go_wp2_with fail
  refine (H3.out w2).mono ?_
  rintro e w3 ⟨rfl, hb3⟩
  have HB3 := hid (below_tr HB2.out (below_le hb3 HB2.out.size))
  clear hb3 H3 HB2
  go_wp2_with fail
  refine (H4.out w3).mono ?_
  rintro e w4 ⟨rfl, hb4⟩
  have HB4 := hid (below_tr HB3.out (below_le hb4 HB3.out.size))
  clear hb4 H4 HB3
  go_wp2_with fail
  refine (H5.out w4).mono ?_
  rintro e w5 ⟨rfl, hb5⟩
  have HB5 := hid (below_tr HB4.out (below_le hb5 HB4.out.size))
  clear hb5 H5 HB4
  go_wp2_with fail
  refine (H6.out w5).mono ?_
  rintro e w6 ⟨rfl, hb6⟩
  have HB6 := hid (below_tr HB5.out (below_le hb6 HB5.out.size))
  clear hb6 H6 HB5
  go_wp2_with fail
  refine (H7.out w6).mono ?_
  rintro e w7 ⟨rfl, n7, hw7⟩
  have HB7 : Hid (Below w.heap.size w w7) := by rw [hw7]; exact ⟨HB6.out.os, HB6.out.tape, HB6.out.output, HB6.out.size, HB6.out.block⟩
  clear hw7 H7 HB6
  go_wp2_with fail
  refine (H8.out w7).mono ?_
  rintro e w8 ⟨rfl, hb8⟩
  have HB8 := hid (below_tr HB7.out (below_le hb8 HB7.out.size))
  clear hb8 H8 HB7
  go_wp2_with (first | (go_at_call 19; with_reducible refine Calls.mono (HN1.out _) ?_; rintro e w' ⟨rfl, h0⟩; subst w') | (go_at_call 19; with_reducible refine Calls.mono (HN2.out _) ?_; rintro e w' ⟨rfl, h0⟩; subst w') | (go_at_call 15; refine (HAW.out _).mono ?_; rintro e w9 ⟨rfl, hb9⟩))
  go_ret
  exact ⟨rfl, below_tr HB8.out (below_le hb9 HB8.out.size)⟩

end Go.Proofs.YtoehopigjmmagaaDoor
