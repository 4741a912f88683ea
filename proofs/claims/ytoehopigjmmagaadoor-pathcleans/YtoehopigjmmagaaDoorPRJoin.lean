/- The document's Join and Clean; PathJoins. -/
import Derived.Test.YtoehopigjmmagaaDoorPGone
namespace Go.Proofs.YtoehopigjmmagaaDoor
open Go.RowKit

set_option maxRecDepth 100000 in
set_option maxHeartbeats 1000000 in
theorem rjoin_any (s : ByteArray) (vm : Value) (more : List (List UInt8)) (w : World) (hs : (bl s).length ≤ 1099511627776) (hm : Strs w vm more) (hl : more.length ≤ 268000000) :
    Calls Tryd.prog 21 #[.string s, vm] w fun e w' => e = .returned (.tuple #[.string (mk (aS (joinP (bl s) more))), .int .i64 (aN (joinP (bl s) more))]) ∧ Below w.heap.size w w' := by
  have HM := hid hm
  have HNM := hid (rnames_any s w hs)
  clear hm hs
  obtain ⟨am, cm, rfl⟩ := HM.out.shape
  generalize bl s = b at *
  go_enter Tryd.func21, Tryd.ntmps21
  go_wp2_with fail
  refine HNM.out.mono ?_
  rintro e w1 ⟨⟨hok, v1, rfl, ho⟩ | ⟨hok, rfl⟩, hb⟩
  · have HPL := hid ((okP_iff _).1 hok)
    have HJ := hid (show joinP b more = finP (walksP (nms b) more) by unfold joinP; rw [hok, if_pos rfl])
    have HO := hid ho.strs
    have HB := hid hb
    obtain ⟨a1, c1, rfl⟩ := ho.strs.shape
    clear hb ho hok HNM
    go_wp2
    go_loopw [6, 8, 9] (fun x e i wr => ∃ (k : Nat) (m : List (List UInt8)), k ≤ more.length ∧ e = .int .i64 0 ∧ i = .int .i64 k ∧ Strs wr x m ∧ Below w.heap.size w wr ∧ Hid (walksP m (more.drop k) = walksP (nms b) more ∧ m.length ≤ 32 + 4097 * k ∧ (∀ p ∈ m, nmP p = true))) (fun _ _ i _ => more.length - (intOf i).toNat)
    case atStart => exact ⟨0, _, by omega, rfl, rfl, HO.out, HB.out, by rw [List.drop_zero]; exact ⟨rfl, by have := HPL.out.2; omega, HPL.out.1⟩⟩
    case round =>
      obtain ⟨k, m, hk, rfl, rfl, hx, hbr, HW⟩ := hrel
      have HX := hid hx
      have HBR := hid hbr
      have hle := hbr.size
      have hml := HW.out.2.1
      have HMR := hid (HM.out.below hbr)
      obtain ⟨ax, cx, rfl⟩ := hx.shape
      clear hx hbr HO HB
      by_cases hlt : k < more.length
      · have q1 : (k : Int) < (more.length : Int) := by omega
        obtain ⟨g, o, rfl, hc⟩ := HMR.out.at k hlt
        have HD := hid (drop_cons hlt)
        obtain ⟨pc, HPK⟩ : ∃ pc, Hid (more.getD k [] = pc) := ⟨_, rfl⟩
        rw [HPK.out] at hc HD
        have HWK := hid (gone_any _ m (mk pc) wr HX.out (by omega))
        rw [bl_mk] at HWK
        go_wp2_with fail
        refine HWK.out.mono ?_
        rintro e w2 (⟨m2, v2, hR, rfl, ho2, hb2⟩ | ⟨x, hR, rfl, hb2⟩)
        · have HB2 := hid (below_tr HBR.out (below_le hb2 hle))
          have HO2 := hid ho2
          have HW2 : Hid (walksP m2 (more.drop (k + 1)) = walksP (nms b) more ∧ m2.length ≤ 32 + 4097 * (k + 1) ∧ (∀ p ∈ m2, nmP p = true)) :=
            ⟨by rw [← HW.out.1, HD.out, walksP, hR], by have := walkP_len hR; omega, walkP_names hR HW.out.2.2⟩
          obtain ⟨a2, c2, rfl⟩ := ho2.shape
          clear hR ho2 hb2
          go_wp2
          exact ⟨⟨k + 1, m2, by omega, rfl, by simp, HO2.out, HB2.out, HW2⟩, by simp [intOf]; omega⟩
        · have HB2 := hid (below_tr HBR.out (below_le hb2 hle))
          have HR := hid (show joinP b more = .error x by rw [HJ.out, ← HW.out.1, HD.out, walksP, hR]; rfl)
          have hx := walkP_err hR
          have q2 : (x != 0) = true := by simp; omega
          have q3 : ¬ x = 0 := by omega
          clear hR hb2 hx
          go_wp2
          go_ret2
          exact ⟨ret_si (by rw [HR.out]; rfl) (by rw [HR.out]; rfl), HB2.out⟩
      · have q1 : ¬ (k : Int) < (more.length : Int) := by omega
        obtain rfl : k = more.length := by omega
        have HE := hid (show joinP b more = endP m by rw [HJ.out, ← HW.out.1, List.drop_length, walksP]; rfl)
        by_cases h32 : 32 < m.length
        · have q2 : (32 : Int) < (m.length : Int) := by omega
          have HR := hid (show joinP b more = .error 44 by rw [HE.out]; unfold endP; rw [if_pos h32])
          clear h32
          go_wp2
          go_ret2
          exact ⟨ret_si (by rw [HR.out]; rfl) (by rw [HR.out]; rfl), HBR.out⟩
        · have q2 : ¬ (32 : Int) < (m.length : Int) := by omega
          have HR := hid (show joinP b more = .ok (txt m) by rw [HE.out]; unfold endP; rw [if_neg h32])
          have hb := lens_pcs m HW.out.2.2
          have HT := hid (rtext_any _ m wr HX.out (by omega) (by omega))
          clear h32 hb
          go_wp2_with (go_at_call 41; refine HT.out.mono ?_; rintro e w2 ⟨rfl, hw⟩; subst w2)
          go_ret2
          exact ⟨ret_si (by rw [HR.out]; rfl) (by rw [HR.out]; rfl), HBR.out⟩
  · have HB := hid hb
    have HR := hid (show joinP b more = .error 45 by unfold joinP; rw [hok]; rfl)
    clear hb hok HNM
    go_wp2
    go_ret2
    exact ⟨ret_si (by rw [HR.out]; rfl) (by rw [HR.out]; rfl), HB.out⟩

set_option maxHeartbeats 1000000 in
theorem rclean_any (s : ByteArray) (w : World) :
    Calls Tryd.prog 23 #[.string s] w fun e w' => e = .returned (.tuple #[.string (mk (aS (joinP [] [bl s]))), .int .i64 (aN (joinP [] [bl s]))]) ∧ Below w.heap.size w w' := by
  have HJ := hid (rjoin_any (mk []) _ [bl s] _ (by rw [bl_mk]; decide) (strs_one w s) (by simp))
  rw [bl_mk] at HJ
  have HB := hid (below_walk w (.cells #[.string s] 9))
  have HSZ := hid (show w.heap.size ≤ (w.alloc (.cells #[.string s] 9)).heap.size by simp)
  go_enter Tryd.func23, Tryd.ntmps23
  go_wp2_with (go_at_call 21; refine HJ.out.mono ?_; rintro e w2 ⟨rfl, hb2⟩)
  go_ret2
  exact ⟨rfl, below_tr HB.out (below_le hb2 HSZ.out)⟩

set_option maxRecDepth 100000 in
set_option maxHeartbeats 1000000 in
theorem lawJoins_any (s : ByteArray) (v : Value) (ts : List (List UInt8)) (w : World) (hs : (bl s).length ≤ 1048576) (h : Strs w v ts) (hn : ts.length ≤ 1048576) :
    Calls Tryd.prog 5 #[.string s, v] w fun e w' => e = .returned (.bool true) ∧ Below w.heap.size w w' := by
  obtain ⟨ao, c, rfl⟩ := h.shape
  have HS := hid h
  have HT := hid (twin_any _ ts w h (by omega))
  have HLE := hid hs
  clear h hs
  go_enter Tryd.func5, Tryd.ntmps5
  go_wp2_with fail
  refine HT.out.mono ?_
  rintro e w1 ⟨v1, rfl, ho1, hb1⟩
  obtain ⟨a1, c1, rfl⟩ := ho1.strs.shape
  have HO1 := hid ho1
  have HB1 := hid hb1
  clear ho1 hb1 HT
  go_wp2_with fail
  refine (join_any s _ ts w1 (by have := HLE.out; omega) HO1.out.strs (by omega)).mono ?_
  rintro e w2 ⟨rfl, hb2⟩
  have HB2 := hid (below_tr HB1.out (below_le hb2 HB1.out.size))
  have HO2 := hid (HO1.out.below hb2)
  clear hb2 HO1
  go_wp2_with fail
  refine (rjoin_any s _ ts w2 (by have := HLE.out; omega) (HS.out.below HB2.out) (by omega)).mono ?_
  rintro e w3 ⟨rfl, hb3⟩
  have HB3 := hid (below_tr HB2.out (below_le hb3 HB2.out.size))
  have HO3 := hid (HO2.out.below hb3)
  clear hb3 HO2 HB2
  generalize joinP (bl s) ts = R
  have HNU := hid (num_any (aN R))
  have HSA := hid (same_true _ _ ts w3 HO3.out.strs (HS.out.below HB3.out) (by omega))
  have HAW := hid awake_any
  go_wp2_with (first | (go_at_call 19; refine (HNU.out _).mono ?_; rintro e w' ⟨rfl, h0⟩; subst w') | (go_at_call 14; refine HSA.out.mono ?_; rintro e w' ⟨rfl, n, rfl⟩) | (go_at_call 15; refine (HAW.out _).mono ?_; rintro e w4 ⟨rfl, hb4⟩))
  go_ret
  exact ⟨rfl, below_tr HB3.out ⟨hb4.os, hb4.tape, hb4.output, hb4.size, fun k hk => hb4.block k (Nat.lt_of_lt_of_le hk HB3.out.size)⟩⟩

end Go.Proofs.YtoehopigjmmagaaDoor
