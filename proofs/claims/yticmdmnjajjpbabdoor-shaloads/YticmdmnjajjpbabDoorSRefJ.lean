/- The document's joined. -/
import Derived.Test.YticmdmnjajjpbabDoorSFit
namespace Go.Proofs.YticmdmnjajjpbabDoor
open Go.RowKit

set_option maxRecDepth 100000 in
set_option maxHeartbeats 1000000 in
theorem joined_any (X : Nat → Prop) (w : World) (v : Value) (pss : List (List UInt8)) (hv : Lists X w v pss) (hn : pss.length ≤ 140737488355327) (hN : (fl pss).length ≤ 140737488355327) :
    Calls Tryd.prog 49 #[v] w fun e w' => ∃ v', e = .returned v' ∧ OwnB w' w.heap.size v' (fl pss) ∧ Below w.heap.size w w' := by
  rcases hv with ⟨ao, c, rfl, rfl⟩ | ⟨g, o, c, rfl, hlt, hX, hc⟩
  · go_enter Tryd.func49, Tryd.ntmps49
    go_wp2
    go_loop [3, 4] (fun s i => s = .slice none 0 0 ∧ i = .int .i64 0) (fun _ _ => 0)
    case atStart => exact ⟨rfl, rfl⟩
    case round =>
      obtain ⟨rfl, rfl⟩ := hrel
      go_wp2
      go_ret
      exact ⟨_, rfl, OwnB.nil _ _, Below.refl _ _⟩
  · have HC := hid hc
    have HLT := hid hlt
    clear hc hlt
    have HON := hid (OwnB.nil w w.heap.size)
    go_enter Tryd.func49, Tryd.ntmps49
    go_wp2
    go_loopw [3, 4] (fun s i wr => ∃ k : Nat, k ≤ pss.length ∧ i = .int .i64 k ∧ OwnB wr w.heap.size s (fl (pss.take k)) ∧ Below w.heap.size w wr) (fun _ i _ => pss.length - (intOf i).toNat)
    case atStart => exact ⟨0, by omega, rfl, HON.out, Below.refl _ _⟩
    case round =>
      obtain ⟨k, hk, rfl, ho, hb⟩ := hrel
      have HO := hid ho
      have HB := hid hb
      clear ho hb
      by_cases hkl : k < pss.length
      · obtain ⟨u, hcell0, hsrc0, _⟩ := HC.out k hkl
        have hcell : wr.cell? ⟨g, o + k, none⟩ = some u := by rw [HB.out.cell (p := ⟨g, o + k, none⟩) HLT.out]; exact hcell0
        have HSRC := hid (hsrc0.below HB.out)
        obtain ⟨ab, cu, rfl⟩ := src_shape hsrc0
        have HS1 := hid (fl_snoc pss k hkl)
        have HS2 := hid (fl_le pss (k + 1))
        clear hsrc0 hcell0
        obtain ⟨cs, HCS⟩ : ∃ cs, Hid (cs = pss.getD k []) := ⟨_, rfl⟩
        obtain ⟨bs, HBS⟩ : ∃ bs, Hid (bs = fl (pss.take k)) := ⟨_, rfl⟩
        rw [← HCS.out] at HSRC HS1 hcell
        rw [← HBS.out] at HS1 HO
        have HLEN := hid (show bs.length + cs.length ≤ 140737488355327 by have h1 := HS1.out; have h2 := HS2.out; rw [h1, List.length_append] at h2; omega)
        go_wp2_with (at_builtin; refine app_src rfl _ _ rfl w.heap.size _ bs rfl HO.out _ cs rfl HSRC.out HLEN.out HB.out.size ?_)
        intro v1 w1 ho1 hg1
        have HN1 := hid (show OwnB w1 w.heap.size v1 (fl (pss.take (k + 1))) by rw [HS1.out]; exact ho1)
        have HN2 := hid (HB.out.grown hg1 HB.out.size (fun q hq => (HO.out.lt q hq).1))
        clear ho1 hg1
        go_wp2
        exact ⟨⟨k + 1, by omega, by simp, HN1.out, HN2.out⟩, by simp [intOf]; omega⟩
      · obtain rfl : k = pss.length := by omega
        have HO2 := hid (show OwnB wr w.heap.size _ (fl pss) by rw [← fl_all pss]; exact HO.out)
        go_wp2
        go_ret
        exact ⟨_, rfl, HO2.out, HB.out⟩

end Go.Proofs.YticmdmnjajjpbabDoor
