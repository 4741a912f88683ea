/- The document's Split. -/
import Derived.Test.YtoehopigjmmagaaDoorPSplit
import Derived.Test.YtoehopigjmmagaaDoorPSl
import Derived.Test.YtoehopigjmmagaaDoorPPieces
namespace Go.Proofs.YtoehopigjmmagaaDoor
open Go.RowKit

set_option maxRecDepth 100000 in
set_option maxHeartbeats 1000000 in
theorem rsplit_any (s : ByteArray) (w : World) (hs : (bl s).length ≤ 1048576) :
    Calls Tryd.prog 33 #[.string s] w fun e w' => e = .returned (.tuple #[.string (mk (spD (bl s))), .string (mk (spN (bl s))), .int .i64 (spE (bl s))]) ∧ Below w.heap.size w w' := by
  have HN := hid (rnames_any s w (by omega))
  clear hs
  go_enter Tryd.func33, Tryd.ntmps33
  go_wp2_with fail
  refine HN.out.mono ?_
  rintro e w1 ⟨⟨ok, v, rfl, ho⟩ | ⟨ok, rfl⟩, hb⟩
  · have hpl := (okP_iff _).1 ok
    have HB := hid hb
    have HPL := hid hpl
    by_cases h0 : bl s = []
    · have hD : spD (bl s) = [] := by rw [h0]; rfl
      have hN : spN (bl s) = [] := by rw [h0]; rfl
      have hE : spE (bl s) = 46 := by rw [h0]; rfl
      have hn : nms (bl s) = [] := by rw [h0]; rfl
      rw [hn] at ho
      obtain ⟨a, c, rfl⟩ := ho.strs.shape
      have H1 := hid hD
      have H2 := hid hN
      have H3 := hid hE
      clear hD hN hE hn h0 hb ok hpl HN ho HPL
      go_wp2
      go_ret3
      exact ⟨ret_ssi H1.out.symm H2.out.symm H3.out.symm, HB.out⟩
    · have hne : nms (bl s) ≠ [] := by unfold nms; rw [if_neg h0]; exact pcs_ne _
      have hpos : 0 < (nms (bl s)).length := List.length_pos_iff.2 hne
      obtain ⟨I, HI⟩ : ∃ I : Nat, Hid (I = (nms (bl s)).length - 1) := ⟨_, rfl⟩
      have hIl : I < (nms (bl s)).length := by rw [HI.out]; omega
      obtain ⟨vz, hvz, hsl⟩ := cut_to ho.strs I (by omega)
      have hl : (nms (bl s)).getLastD [] = (nms (bl s)).getD I [] := by
        rw [List.getLastD_eq_getLast?, List.getLast?_eq_getElem?, HI.out, List.getD_eq_getElem?_getD]
      have H1 := hid (show spD (bl s) = txt ((nms (bl s)).take I) by unfold spD; rw [ok, if_pos rfl, List.dropLast_eq_take, HI.out])
      have H2 := hid (show spN (bl s) = (nms (bl s)).getD I [] by unfold spN; rw [ok, if_pos rfl, hl])
      have H3 := hid (show spE (bl s) = 0 by unfold spE; rw [ok, if_pos rfl, if_neg h0])
      have hb2 := lens_pcs ((nms (bl s)).take I) (fun p hp => hpl.1 p (List.mem_of_mem_take hp))
      have hll : ((nms (bl s)).take I).length = I := by rw [List.length_take]; omega
      have h32 := hpl.2
      have HT := hid (fun q : Nat => rtext_any vz _ (w1.drewN q) hvz (by omega) (by omega))
      obtain ⟨az, cz, hzz⟩ := hvz.shape
      rw [hll] at hzz
      subst hzz
      obtain ⟨a, c, rfl⟩ := ho.strs.shape
      obtain ⟨g, o, rfl, hcell⟩ := ho.strs.at I hIl
      have i1 : IntKind.i64.wrap (((nms (bl s)).length : Int) - 1) = (I : Int) := by rw [IntKind.wrap_i64, HI.out]; omega
      have q0 : (((nms (bl s)).length : Int) == 0) = false := by simp; exact hne
      have q0' : ¬ ((nms (bl s)).length : Int) = 0 := by omega
      have q1 : (I : Int) < ((nms (bl s)).length : Int) := by omega
      have HX := hid (show mk ((nms (bl s)).getD I []) = mk (spN (bl s)) by rw [H2.out])
      generalize mk ((nms (bl s)).getD I []) = x at *
      clear hb2 hll h32 hl ok hpl hne hpos hvz hb ho HN h0
      go_wp2_with fail
      go_quiet (first | (go_at_call 41; exact Calls.quiet_of_same (HT.out _)))
      go_wp2
      go_ret3
      rw [HX.out]
      exact ⟨ret_ssi H1.out.symm rfl H3.out.symm, ⟨HB.out.os, HB.out.tape, HB.out.output, HB.out.size, HB.out.block⟩⟩
  · have HB := hid hb
    have H1 := hid (show spD (bl s) = [] by unfold spD; rw [ok]; rfl)
    have H2 := hid (show spN (bl s) = [] by unfold spN; rw [ok]; rfl)
    have H3 := hid (show spE (bl s) = 45 by unfold spE; rw [ok]; rfl)
    clear hb ok HN
    go_wp2
    go_ret3
    exact ⟨ret_ssi H1.out.symm H2.out.symm H3.out.symm, HB.out⟩

end Go.Proofs.YtoehopigjmmagaaDoor
