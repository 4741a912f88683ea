/- PathSplits: a path is its directory and its last name. -/
import Derived.Test.YtoehopigjmmagabDoorPSplit
import Derived.Test.YtoehopigjmmagabDoorPLawInside
import Derived.Test.YtoehopigjmmagabDoorPLawNames
import Derived.Test.YtoehopigjmmagabDoorPLawOf
namespace Go.Proofs.YtoehopigjmmagabDoor
open Go.RowKit

theorem okP_name {n : List UInt8} (h : nmP n = true) : okP n = true ∧ nms n = [n] := by
  have h1 : nms n = [n] := by
    have := nms_txt (l := [n]) (by simp [h])
    rw [txt_one] at this
    exact this
  refine ⟨?_, h1⟩
  rw [okP_iff, h1]
  exact ⟨by simp [h], by simp⟩
theorem splits_pure {s : List UInt8} (h : okP s = true) (h0 : s ≠ []) : nmP (spN s) = true ∧ joinP (spD s) [spN s] = .ok s ∧ abB (spD s) s = true ∧ pN (spD s) s = 0 ∧ (spD s).length ≤ 2080 := by
  have hp := (okP_iff s).1 h
  have hne : nms s ≠ [] := by unfold nms; rw [if_neg h0]; exact pcs_ne s
  have hl : (nms s).getLastD [] = (nms s).getLast hne := by
    rw [List.getLastD_eq_getLast?, List.getLast?_eq_some_getLast hne]
    rfl
  have hD : spD s = txt (nms s).dropLast := by unfold spD; rw [h, if_pos rfl]
  have hN : spN s = (nms s).getLast hne := by unfold spN; rw [h, if_pos rfl, hl]
  have hcat := List.dropLast_concat_getLast hne
  have hnn : nmP (spN s) = true := by rw [hN]; exact hp.1 _ (List.getLast_mem hne)
  have hpd : pathL (nms s).dropLast := ⟨fun p hq => hp.1 p ((List.dropLast_sublist _).subset hq), by have := hp.2; simp; omega⟩
  have hod : okP (spD s) = true := by rw [hD]; exact okP_txt hpd
  have hnd : nms (spD s) = (nms s).dropLast := by rw [hD]; exact nms_txt hpd.1
  obtain ⟨hon, hnn2⟩ := okP_name hnn
  refine ⟨hnn, ?_, ?_, ?_, okP_short hod⟩
  · unfold joinP
    rw [hod, if_pos rfl]
    have e : walksP (nms (spD s)) [spN s] = .ok (nms s) := by
      rw [walksP, walk_path hon]
      show Except.ok (nms (spD s) ++ nms (spN s)) = _
      rw [hnd, hnn2, hN, hcat]
    rw [e]
    unfold finP endP
    simp only
    rw [if_neg (by have := hp.2; omega), txt_nms]
  · unfold abB
    rw [hod, h, hnd, upP_iff.2 ⟨[(nms s).getLast hne], by simp, hcat.symm⟩]
    rfl
  · unfold pN; rw [if_pos ⟨hod, h⟩]

set_option maxRecDepth 100000 in
set_option maxHeartbeats 2000000 in
theorem lawSplits_any (s : ByteArray) (w : World) (hs : (bl s).length ≤ 9223372036854775807) :
    Calls Tryd.prog 7 #[.string s] w fun e w' => e = .returned (.bool true) ∧ Below w.heap.size w w' := by
  have HN := hid (names_any s w hs)
  have HAW := hid awake_any
  have HSP := hid (psplit_any s · hs)
  have HLS := hid hs
  have hsz := bl_size s
  clear hs
  go_enter Tryd.func7, Tryd.ntmps7
  go_wp2_with fail
  refine HN.out.mono ?_
  rintro e w1 ⟨⟨hok, v1, rfl, ho1⟩ | ⟨hok, rfl⟩, hb1⟩
  · have hp := (okP_iff _).1 hok
    have hend : ofP (nms (bl s)) = .ok (bl s) := by
      rw [ofP_ok hp.1]; unfold endP; rw [if_neg (by have := hp.2; omega), txt_nms]
    have HOF := hid (of_any v1 (nms (bl s)) w1 ho1.strs (by have := hp.2; omega))
    rw [hend] at HOF
    have HOF2 : Hid (Calls Tryd.prog 18 #[v1] w1 fun e w' => e = .returned (.tuple #[.string s, .int .i64 0]) ∧ Below w1.heap.size w1 w') := by
      have := HOF.out
      simp only [aS, aN, mk_bl] at this
      exact this
    obtain ⟨a1, c1, rfl⟩ := ho1.strs.shape
    have HB1 := hid hb1
    have HO1 := hid ho1
    have HOK := hid hok
    clear hok hp hend ho1 hb1 HN HOF
    go_wp2_with fail
    refine HOF2.out.mono ?_
    rintro e w2 ⟨rfl, hb2⟩
    have HB2 := hid (below_tr HB1.out (below_le hb2 HB1.out.size))
    clear hb2 HOF2 HB1
    by_cases h0 : bl s = []
    · have e1 : s.toList = [] := h0
      have hl0 : (bl s).length = 0 := by rw [h0]; rfl
      rw [hl0] at hsz
      have hD : spD (bl s) = [] := by rw [h0]; rfl
      have hN : spN (bl s) = [] := by rw [h0]; rfl
      have hE : spE (bl s) = 46 := by rw [h0]; rfl
      rw [hD, hN, hE] at HSP
      have hn0 : (nms (bl s)).length = 0 := by rw [h0]; rfl
      have HN0 := hid hn0
      generalize (nms (bl s)).length = N at *
      subst hn0
      clear h0 hD hN hE hl0
      go_wp2_with (first | (go_at_call 19; refine (HSP.out _).mono ?_; rintro e w' ⟨rfl, n, rfl⟩) | (go_at_call 10; refine (HAW.out _).mono ?_; rintro e w5 ⟨rfl, hb5⟩))
      go_ret
      exact ⟨rfl, below_tr HB2.out (below_le (below_d hb5) HB2.out.size)⟩
    · obtain ⟨hnn, hj, hab, hpn, hdl⟩ := splits_pure HOK.out h0
      have hE : spE (bl s) = 0 := by unfold spE; rw [HOK.out, if_pos rfl, if_neg h0]
      have hpos : 0 < (bl s).length := List.length_pos_iff.2 h0
      have q0 : (0 : Int) < ((bl s).length : Int) := by omega
      have HJ := hid (fun W : World => join_any (mk (spD (bl s))) _ [bl (mk (spN (bl s)))] _ (by rw [bl_mk]; omega) (strs_one W (mk (spN (bl s)))) (by simp))
      have HAB := hid (above_any (mk (spD (bl s))) s · (by rw [bl_mk]; omega) HLS.out)
      have HNM := hid (name_ok (mk (spN (bl s))) (by rw [bl_mk]; exact hnn))
      rw [bl_mk, bl_mk, hj] at HJ
      have HJ2 : Hid (∀ W : World, Calls Tryd.prog 9 #[.string (mk (spD (bl s))), .slice (some ⟨W.heap.size, 0, none⟩) 1 1] (W.alloc (.cells #[.string (mk (spN (bl s)))] 9)) fun e w' => e = .returned (.tuple #[.string s, .int .i64 0]) ∧ Below (W.alloc (.cells #[.string (mk (spN (bl s)))] 9)).heap.size (W.alloc (.cells #[.string (mk (spN (bl s)))] 9)) w') := by
        have := HJ.out
        simp only [aS, aN, mk_bl] at this
        exact this
      rw [bl_mk, hab, hpn] at HAB
      rw [hE] at HSP
      generalize mk (spD (bl s)) = d at *
      generalize mk (spN (bl s)) = nm at *
      clear hnn hj hab hpn hdl hE h0 HJ
      generalize (bl s).length = L at *
      have hdp : decide (0 < L) = true := by simpa using hpos
      go_wp2_with (go_at_call 19; refine (HSP.out _).mono ?_; rintro e w' ⟨rfl, n, rfl⟩)
      refine (HJ2.out (w2.drewN n)).mono ?_
      rintro e w3 ⟨rfl, hb3⟩
      have HB3 := hid (below_tr HB2.out (below_le (below_d (below_tr (below_walk (w2.drewN n) _) (below_le hb3 (by simp)))) HB2.out.size))
      clear hb3 HJ2
      go_wp2_with fail
      refine (HAB.out w3).mono ?_
      rintro e w4 ⟨rfl, hb4⟩
      have HB4 := hid (below_tr HB3.out (below_le hb4 HB3.out.size))
      clear hb4 HAB
      go_wp2_with (first | (go_at_call 20; refine (HNM.out _).mono ?_; rintro e w' ⟨rfl, hw⟩; subst w') | (go_at_call 10; refine (HAW.out _).mono ?_; rintro e w5 ⟨rfl, hb5⟩))
      go_ret
      exact ⟨rfl, below_tr HB4.out (below_le hb5 HB4.out.size)⟩
  · have HB1 := hid hb1
    clear hok hb1 HN
    go_wp2_with (go_at_call 10; refine (HAW.out _).mono ?_; rintro e w5 ⟨rfl, hb5⟩)
    go_ret
    exact ⟨rfl, below_tr HB1.out (below_le hb5 HB1.out.size)⟩

end Go.Proofs.YtoehopigjmmagabDoor
