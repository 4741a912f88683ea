/- awake answers true, and only makes memory. -/
import Derived.Test.YticmdmnjajjpbabDoorSOf
import Derived.Lib.SlBytesConst
import Derived.Deep.RegionHeld3
namespace Go.Proofs.YticmdmnjajjpbabDoor
open Go.RowKit

/-- the digest of a, b, c -/
def wantL : List Int := [186, 120, 22, 191, 143, 1, 207, 234, 65, 65, 64, 222, 93, 174, 34, 35, 176, 3, 97, 163, 150, 23, 122, 156, 180, 16, 255, 97, 242, 0, 21, 173]
def wantP : List (Nat × Value) := [(0, .int .u8 186), (1, .int .u8 120), (2, .int .u8 22), (3, .int .u8 191), (4, .int .u8 143), (5, .int .u8 1), (6, .int .u8 207), (7, .int .u8 234), (8, .int .u8 65), (9, .int .u8 65), (10, .int .u8 64), (11, .int .u8 222), (12, .int .u8 93), (13, .int .u8 174), (14, .int .u8 34), (15, .int .u8 35), (16, .int .u8 176), (17, .int .u8 3), (18, .int .u8 97), (19, .int .u8 163), (20, .int .u8 150), (21, .int .u8 23), (22, .int .u8 122), (23, .int .u8 156), (24, .int .u8 180), (25, .int .u8 16), (26, .int .u8 255), (27, .int .u8 97), (28, .int .u8 242), (29, .int .u8 0), (30, .int .u8 21), (31, .int .u8 173)]
theorem want_built : Tryd.prog.built 53 wantP = some (u8V wantL).toArray := by kernel_rfl
theorem want_eq (W : World) : (binOp .eql 53 (.agg (u8V wantL).toArray) (.agg (u8V wantL).toArray)).run Tryd.prog W = .ok (.bool true) W := by kernel_rfl
theorem abc_sum : sumP Hs [97, 98, 99] 3 = wantL := by kernel_rfl
theorem abc_of : ofP [97, 98, 99] = wantL := by kernel_rfl
theorem abc_abs : absorb (Hs, []) (fl [[97], [98, 99]]) = (Hs, [97, 98, 99]) := by rw [absorb_short _ _ _ (by decide)]; rfl

/-- bytes that a literal lays -/
theorem src_lit {w : World} {g : Nat} {bs : List UInt8} {C : Array Value} {fr : Nat × Nat} (hb : w.heap[g]? = some (.cells C 5 fr)) (hC : C = (bytesV bs).toArray) (hl : bs.length ≤ 1000) (n : Nat) (hn : n = bs.length) :
    Src w (.slice (some ⟨g, 0, none⟩) n n) bs := by
  subst hn hC
  refine ⟨by omega, Or.inr ⟨⟨g, 0, none⟩, bs.length, rfl, Nat.le_refl _, by unfold maxLen; omega, fun _ => hp_lt hb, fun j hj => ?_⟩⟩
  rw [addr_add, cell_of_row w g j _ _ _ hb]
  simp [bytesV, List.getD_eq_getElem?_getD, hj]
theorem parts2 (w : World) (f1 f2 : Nat × Nat) :
    Lists (fun k => w.heap.size ≤ k) (((w.alloc (.cells #[.int .u8 97] 5 f1)).alloc (.cells #[.int .u8 98, .int .u8 99] 5 f2)).alloc (.cells #[.slice (some ⟨w.heap.size, 0, none⟩) 1 1, .slice (some ⟨w.heap.size + 1, 0, none⟩) 2 2] 24))
      (.slice (some ⟨w.heap.size + 1 + 1, 0, none⟩) 2 2) [[97], [98, 99]] := by
  obtain ⟨h1, h2, h3⟩ := hp_three w (.cells #[.int .u8 97] 5 f1) (.cells #[.int .u8 98, .int .u8 99] 5 f2) (.cells #[.slice (some ⟨w.heap.size, 0, none⟩) 1 1, .slice (some ⟨w.heap.size + 1, 0, none⟩) 2 2] 24)
  refine Or.inr ⟨w.heap.size + 1 + 1, 0, 2, rfl, hp_lt h3, by simp only []; omega, fun j hj => ?_⟩
  match j, hj with
  | 0, _ => exact ⟨_, by rw [cell_of_row _ _ _ _ _ _ h3]; rfl, src_lit h1 rfl (by decide) _ rfl, by intro k _ hk; cases hk; exact Nat.le_refl _⟩
  | 1, _ => exact ⟨_, by rw [cell_of_row _ _ _ _ _ _ h3]; rfl, src_lit h2 rfl (by decide) _ rfl, by intro k _ hk; cases hk; exact Nat.le_succ _⟩
theorem parts1 (w : World) (f1 : Nat × Nat) :
    Lists (fun k => k < w.heap.size + 1 + 1) ((w.alloc (.cells #[.int .u8 97, .int .u8 98, .int .u8 99] 5 f1)).alloc (.cells #[.slice (some ⟨w.heap.size, 0, none⟩) 3 3] 24))
      (.slice (some ⟨w.heap.size + 1, 0, none⟩) 1 1) [[97, 98, 99]] := by
  have h1 : ((w.alloc (.cells #[.int .u8 97, .int .u8 98, .int .u8 99] 5 f1)).alloc (.cells #[.slice (some ⟨w.heap.size, 0, none⟩) 3 3] 24)).heap[w.heap.size]? = some (.cells #[.int .u8 97, .int .u8 98, .int .u8 99] 5 f1) := by
    rw [hp_old _ _ _ (by rw [hp_size]; omega), hp_new]
  have h3 : ((w.alloc (.cells #[.int .u8 97, .int .u8 98, .int .u8 99] 5 f1)).alloc (.cells #[.slice (some ⟨w.heap.size, 0, none⟩) 3 3] 24)).heap[w.heap.size + 1]? = some (.cells #[.slice (some ⟨w.heap.size, 0, none⟩) 3 3] 24 (0, 0)) := by
    have := hp_new (w.alloc (.cells #[.int .u8 97, .int .u8 98, .int .u8 99] 5 f1)) (.cells #[.slice (some ⟨w.heap.size, 0, none⟩) 3 3] 24)
    rwa [hp_size] at this
  refine Or.inr ⟨w.heap.size + 1, 0, 1, rfl, hp_lt h3, by simp only []; omega, fun j hj => ?_⟩
  match j, hj with
  | 0, _ => exact ⟨_, by rw [cell_of_row _ _ _ _ _ _ h3]; rfl, src_lit h1 rfl (by decide) _ rfl, by intro k _ hk; cases hk; simp only []; omega⟩

theorem conv2 (w : World) (o : Obj) (C : Array Value) (n c : Nat) : (convert 24 24 (.slice (some ⟨w.heap.size + 1, 0, none⟩) n c)).run Tryd.prog ((w.alloc o).alloc (.cells C 5)) = .ok (.slice (some ⟨w.heap.size + 1, 0, none⟩) n c) ((w.alloc o).alloc (.cells C 5 (C.size, C.size + 1))) := by
  have := Lib.run_convert_bytes_const (P := Tryd.prog) (w.alloc o) 24 5 C n c Tryd.underlying24 Tryd.underlying5
  rwa [hp_size] at this

set_option maxRecDepth 100000 in
set_option maxHeartbeats 1000000 in
theorem awake_any (w : World) (hT : Tabs w) :
    Calls Tryd.prog 14 #[] w fun e w' => e = .returned (.bool true) ∧ Below w.heap.size w w' := by
  have HT := hid hT
  clear hT
  have kc := fun (w : World) (C : Array Value) (n c : Nat) => Lib.run_convert_bytes_const (P := Tryd.prog) w 24 5 C n c Tryd.underlying24 Tryd.underlying5
  have kc2 := conv2
  go_enter Tryd.func14, Tryd.ntmps14
  go_wp2_with fail
  refine (new_any w HT.out).mono ?_
  rintro e w1 ⟨rfl, hw1⟩
  have HS1 := hid (new_hst HT.out)
  have HB1 := hid (below_walk w (.cells (hcells Hs (zeros 64) 0 true).toArray 74))
  rw [← hw1] at HS1 HB1
  clear hw1
  go_wp2_with fail
  have s1 := HB1.out.size
  have hlt := HS1.out.lt
  have HB2 := hid (((below_walk2 w1 (.cells #[.int .u8 97] 5 (1, 2)) (.cells #[.int .u8 98, .int .u8 99] 5 (2, 3))).alloc (by rw [hp_size, hp_size]; omega) (.cells #[.slice (some ⟨w1.heap.size, 0, none⟩) 1 1, .slice (some ⟨w1.heap.size + 1, 0, none⟩) 2 2] 24)))
  have HL2 := hid ((parts2 w1 (1, 2) (2, 3)).imp (Y := (· ≠ w.heap.size)) (fun k hk => by omega))
  have HS2 := hid (HS1.out.below HB2.out)
  have HT2 := hid ((HT.out.below HB1.out).below HB2.out)
  have HBW := hid (HB1.out.trans (HB2.out.mono s1))
  refine (write_ok _ w.heap.size Hs [] 0 _ [[97], [98, 99]] HT2.out HS2.out.hg HL2.out (by decide) (by decide)).mono ?_
  rintro e w3 ⟨rfl, hs3, ht3, hg3⟩
  rw [abc_abs] at hs3
  have HS3 := hid (show Hst w3 w.heap.size Hs [97, 98, 99] 3 from hs3)
  have HT3 := hid ht3
  have HB3 := hid (HBW.out.grown hg3 HBW.out.size (by intro k hk; cases hk; exact Nat.le_refl _))
  clear hs3 ht3 hg3 HS2 HT2 HBW HL2 HB2 HS1 HB1 s1 hlt HT
  go_upto_region 4 with fail
  obtain ⟨z41, s41⟩ := zero_of_info (P := Tryd.prog) (t := 53) (v := .agg (u8V (zeros 32)).toArray) (n := 32) (by kernel_rfl)
  have HZ41 := hid s41
  clear s41
  refine wp_region_list ?_
  show wpList _ _ _ (_ :: _) _ _
  refine bd_row (by rfl) 53 _ (by rfl) wantP (by simp [Act.eval, wantP]) _ want_built ?_
  refine al_row (by rfl) 53 (by rfl) _ z41 ?_
  refine st_new (by rfl) 53 (.tmp 2) (.tmp 16) (by rfl) (u8V wantL) (by rfl) (by rfl) _ _ HZ41.out (by simp [u8V_length, zeros_length, wantL]) (u8V_one _) ?_
  have HB4 := hid (below_walk w3 (.cells (u8V wantL).toArray 53))
  have hR4 : (w3.alloc (.cells (u8V wantL).toArray 53)).rangeAt w3.heap.size 0 (u8V wantL) := fun j v hv => by
    rw [Nat.zero_add, cell_of_row _ _ j _ _ _ (hp_new w3 (.cells (u8V wantL).toArray 53))]
    simpa using hv
  have HS4 := hid (HS3.out.below HB4.out)
  have HT4 := hid (HT3.out.below HB4.out)
  have HBW := hid (HB3.out.trans (HB4.out.mono HB3.out.size))
  generalize w3.alloc (.cells (u8V wantL).toArray 53) = w4 at hR4 HS4 HT4 HBW HB4 ⊢
  generalize w3.heap.size = b2 at hR4 ⊢
  obtain ⟨D, hD⟩ : ∃ D, D = u8V wantL := ⟨_, rfl⟩
  have HEQ := want_eq
  have hl : D.length = 32 := by rw [hD]; rfl
  have HSU := hid (fun W (hW : Tabs W) (hh : Hst W w.heap.size Hs [97, 98, 99] 3) => by
    have := sum_any W w.heap.size Hs [97, 98, 99] 3 hW hh.hg (by decide)
    rw [abc_sum, ← hD] at this
    exact this)
  have HOF := hid (fun W v (hW : Tabs W) (hh : Lists (· < W.heap.size) W v [[97, 98, 99]]) => by
    have := of_any W v [[97, 98, 99]] hW hh (by decide) (by decide)
    rw [show fl [[97, 98, 99]] = [97, 98, 99] from rfl, abc_of, ← hD] at this
    exact this)
  rw [← hD] at HEQ hR4 ⊢
  have HDD := hid hD
  clear hD kc2 HS3 HT3 HB3 HB4 z41
  have hu := Tryd.underlying53
  have hi : (Tryd.prog.info? 53).map (·.size) = some D.length := by rw [hl]; exact HZ41.out
  go_upto_region 5 with fail
  have HTd := hid (show Tabs w4.drew from ⟨HT4.out.k, HT4.out.h⟩)
  have HSd := hid (show Hst w4.drew w.heap.size Hs [97, 98, 99] 3 from ⟨⟨HS4.out.hb.blk, HS4.out.hb.hl, HS4.out.hb.rl⟩, HS4.out.len, HS4.out.nk, HS4.out.nh⟩)
  have hRd : w4.drew.rangeAt b2 0 D := hR4
  have HC1 := hid (HSU.out w4.drew HTd.out HSd.out)
  have HC2 := hid (fun (w5 : World) (hb : Below w4.drew.heap.size w4.drew w5) =>
    HOF.out ((w5.alloc (.cells #[.int .u8 97, .int .u8 98, .int .u8 99] 5 (3, 4))).alloc (.cells #[.slice (some ⟨w5.heap.size, 0, none⟩) 3 3] 24)) (.slice (some ⟨w5.heap.size + 1, 0, none⟩) 1 1) ((HTd.out.below hb).below (below_walk2 w5 _ _)) (by rw [hp_size, hp_size]; exact parts1 w5 (3, 4)))
  have HB45 := hid (fun (w5 w6 : World) (hb : Below w4.drew.heap.size w4.drew w5) (h6 : Below ((w5.alloc (.cells #[.int .u8 97, .int .u8 98, .int .u8 99] 5 (3, 4))).alloc (.cells #[.slice (some ⟨w5.heap.size, 0, none⟩) 3 3] 24)).heap.size ((w5.alloc (.cells #[.int .u8 97, .int .u8 98, .int .u8 99] 5 (3, 4))).alloc (.cells #[.slice (some ⟨w5.heap.size, 0, none⟩) 3 3] 24)) w6) =>
    hb.trans (((below_walk2 w5 _ _).trans (h6.mono (by rw [hp_size, hp_size]; omega))).mono hb.size))
  have HC3 := hid (fun (w6 : World) (hb : Below w4.drew.heap.size w4.drew w6) => len_any w6 w.heap.size _ _ _ _ (HSd.out.below hb).hb)
  clear HSU HOF HT4 HS4 hR4
  refine wp_noPanic (wp_region_held_drew (S := fun w' => w'.rangeAt b2 0 D) (by kernel_rfl) hRd ?_)
  intro hHeld
  refine wpAnyH_take (i := 0) (v := (.pointer (some ⟨w.heap.size, 0, none⟩))) rfl (by kernel_rfl) (by kernel_rfl) (by kernel_rfl) (fun _ _ _ h => h) (Or.inl ⟨by rfl, fun W _ => by go_simp⟩) hHeld ?_
  simp only [Act.put, List.getElem_toArray, List.getElem_cons_zero, List.setIfInBounds_toArray, List.set_cons_succ, List.set_cons_zero]
  refine wpAnyH_take (i := 2) (v := .agg D.toArray) rfl (by kernel_rfl) (by kernel_rfl) (by kernel_rfl) (fun _ _ _ h => h) (yieldsIf_load_mid (by rfl) 53 (.tmp 2) rfl b2 0 rfl D _ (fun W hW => hW) hu rfl hi) hHeld ?_
  simp only [Act.put, List.getElem_toArray, List.getElem_cons_zero, List.getElem_cons_succ, List.setIfInBounds_toArray, List.set_cons_succ, List.set_cons_zero]
  refine wpAnyH_ready (rs := [1]) (by kernel_rfl) (by simp) ?_
  refine AllReadyH.cons rfl (fun K hK => ?_) AllReadyH.nil
  go_simp
  refine HC1.out.mono ?_
  rintro e w5 ⟨rfl, hb5⟩
  have n5 : w5.rangeAt b2 0 D := range_below hRd hb5
  have HB5 := hid hb5
  clear hb5
  go_wp2_with fail
  refine hK.out _ _ n5 (fun hHeld => ?_)
  clear hK K
  refine wpAnyH_take (i := 3) (v := (.bool true)) rfl (by kernel_rfl) (by kernel_rfl) (by kernel_rfl) (fun _ _ _ h => h) (Or.inl ⟨by rfl, fun W _ => by go_simp⟩) hHeld ?_
  simp only [Act.put, List.getElem_toArray, List.getElem_cons_zero, List.getElem_cons_succ, List.setIfInBounds_toArray, List.set_cons_succ, List.set_cons_zero]
  refine wpAnyH_take (i := 4) (v := (.bool true)) rfl (by kernel_rfl) (by kernel_rfl) (by kernel_rfl) (fun _ _ _ h => h) (Or.inl ⟨by rfl, fun W _ => by go_simp⟩) hHeld ?_
  simp only [Act.put, List.getElem_toArray, List.getElem_cons_zero, List.getElem_cons_succ, List.setIfInBounds_toArray, List.set_cons_succ, List.set_cons_zero]
  refine wpAnyH_take (i := 9) (v := .agg D.toArray) rfl (by kernel_rfl) (by kernel_rfl) (by kernel_rfl) (fun _ _ _ h => h) (yieldsIf_load_mid (by rfl) 53 (.tmp 2) rfl b2 0 rfl D _ (fun W hW => hW) hu rfl hi) hHeld ?_
  simp only [Act.put, List.getElem_toArray, List.getElem_cons_zero, List.getElem_cons_succ, List.setIfInBounds_toArray, List.set_cons_succ, List.set_cons_zero]
  refine wpAnyH_ready (rs := [5]) (by kernel_rfl) (by simp) ?_
  refine AllReadyH.cons rfl (fun K hK => ?_) AllReadyH.nil
  go_simp
  refine hK.out _ _ (World.rangeAt_alloc hHeld _) (fun hHeld => ?_)
  clear hK K
  refine wpAnyH_ready (rs := [6]) (by kernel_rfl) (by simp) ?_
  refine AllReadyH.cons rfl (fun K hK => ?_) AllReadyH.nil
  go_simp
  refine hK.out _ _ (World.rangeAt_alloc n5 _) (fun hHeld => ?_)
  clear hK K
  refine wpAnyH_ready (rs := [7]) (by kernel_rfl) (by simp) ?_
  refine AllReadyH.cons rfl (fun K hK => ?_) AllReadyH.nil
  go_simp
  refine hK.out _ _ (World.rangeAt_alloc hHeld _) (fun hHeld => ?_)
  clear hK K
  refine wpAnyH_ready (rs := [8]) (by kernel_rfl) (by simp) ?_
  refine AllReadyH.cons rfl (fun K hK => ?_) AllReadyH.nil
  go_simp
  refine (HC2.out _ HB5.out).mono ?_
  rintro e w6 ⟨rfl, hb6⟩
  have HB6 := hid (HB45.out _ _ HB5.out hb6)
  have n6 : w6.rangeAt b2 0 D := range_below hRd HB6.out
  clear hb6
  go_wp2_with fail
  refine hK.out _ _ n6 (fun hHeld => ?_)
  clear hK K
  refine wpAnyH_take (i := 10) (v := (.bool true)) rfl (by kernel_rfl) (by kernel_rfl) (by kernel_rfl) (fun _ _ _ h => h) (Or.inl ⟨by rfl, fun W _ => by go_simp⟩) hHeld ?_
  simp only [Act.put, List.getElem_toArray, List.getElem_cons_zero, List.getElem_cons_succ, List.setIfInBounds_toArray, List.set_cons_succ, List.set_cons_zero]
  refine wpAnyH_take (i := 11) (v := (.bool true)) rfl (by kernel_rfl) (by kernel_rfl) (by kernel_rfl) (fun _ _ _ h => h) (Or.inl ⟨by rfl, fun W _ => by go_simp⟩) hHeld ?_
  simp only [Act.put, List.getElem_toArray, List.getElem_cons_zero, List.getElem_cons_succ, List.setIfInBounds_toArray, List.set_cons_succ, List.set_cons_zero]
  refine wpAnyH_take (i := 12) (v := (.bool true)) rfl (by kernel_rfl) (by kernel_rfl) (by kernel_rfl) (fun _ _ _ h => h) (Or.inl ⟨by rfl, fun W _ => by go_simp⟩) hHeld ?_
  simp only [Act.put, List.getElem_toArray, List.getElem_cons_zero, List.getElem_cons_succ, List.setIfInBounds_toArray, List.set_cons_succ, List.set_cons_zero]
  refine wpAnyH_take (i := 13) (v := (.pointer (some ⟨w.heap.size, 0, none⟩))) rfl (by kernel_rfl) (by kernel_rfl) (by kernel_rfl) (fun _ _ _ h => h) (Or.inl ⟨by rfl, fun W _ => by go_simp⟩) hHeld ?_
  simp only [Act.put, List.getElem_toArray, List.getElem_cons_zero, List.getElem_cons_succ, List.setIfInBounds_toArray, List.set_cons_succ, List.set_cons_zero]
  refine wpAnyH_ready (rs := [14]) (by kernel_rfl) (by simp) ?_
  refine AllReadyH.cons rfl (fun K hK => ?_) AllReadyH.nil
  go_simp
  refine (HC3.out _ HB6.out).mono ?_
  rintro e w7 ⟨rfl, hh⟩
  replace hh := hh.symm
  subst hh
  go_wp2_with fail
  refine hK.out _ _ hHeld (fun hHeld => ?_)
  clear hK K
  refine wpAnyH_take (i := 15) (v := (.bool true)) rfl (by kernel_rfl) (by kernel_rfl) (by kernel_rfl) (fun _ _ _ h => h) (Or.inl ⟨by rfl, fun W _ => by go_simp⟩) hHeld ?_
  simp only [Act.put, List.getElem_toArray, List.getElem_cons_zero, List.getElem_cons_succ, List.setIfInBounds_toArray, List.set_cons_succ, List.set_cons_zero]
  refine wpAnyH_take (i := 16) (v := (.bool true)) rfl (by kernel_rfl) (by kernel_rfl) (by kernel_rfl) (fun _ _ _ h => h) (Or.inl ⟨by rfl, fun W _ => by go_simp⟩) hHeld ?_
  simp only [Act.put, List.getElem_toArray, List.getElem_cons_zero, List.getElem_cons_succ, List.setIfInBounds_toArray, List.set_cons_succ, List.set_cons_zero]
  refine wpAnyH_take (i := 17) (v := (.bool true)) rfl (by kernel_rfl) (by kernel_rfl) (by kernel_rfl) (fun _ _ _ h => h) (Or.inl ⟨by rfl, fun W _ => by go_simp⟩) hHeld ?_
  simp only [Act.put, List.getElem_toArray, List.getElem_cons_zero, List.getElem_cons_succ, List.setIfInBounds_toArray, List.set_cons_zero]
  refine wpAnyH_done (by kernel_rfl) ?_ _
  simp only [noPanic]
  go_wp2
  go_ret
  have hd : Below w.heap.size w w4.drew := ⟨HBW.out.os, HBW.out.tape, HBW.out.output, HBW.out.size, HBW.out.block⟩
  exact ⟨rfl, hd.trans (HB6.out.mono hd.size)⟩

end Go.Proofs.YticmdmnjajjpbabDoor
