/- Clone and Reset; lists of one and of two. -/
import Derived.Test.YticmdmnjajjpbabDoorSOf
namespace Go.Proofs.YticmdmnjajjpbabDoor
open Go.RowKit

set_option maxRecDepth 100000 in
set_option maxHeartbeats 1000000 in
theorem clone_any (w : World) (b : Nat) (H : List Int) (buf : List UInt8) (N : Nat) (hT : Tabs w) (hs : Hg w b H buf N) :
    Calls Tryd.prog 38 #[.pointer (some ⟨b, 0, none⟩)] w fun e w' => e = .returned (.pointer (some ⟨w.heap.size, 0, none⟩)) ∧ Hg w' w.heap.size H buf N ∧ Below w.heap.size w w' := by
  obtain ⟨z97, s97⟩ := zero_of_info (P := Tryd.prog) (t := 74) (v := .agg (hcells (zeros 8) (zeros 64) 0 false).toArray) (n := 74) (by kernel_rfl)
  have HZ97 := hid z97
  clear s97 z97
  obtain ⟨H0, R0, m, hb, e1, e2, e3⟩ := hs.ex
  have HB := hid hb
  have HF := hid (⟨⟨H0, R0, m, ⟨hp_new w _, hb.hl, hb.rl⟩, e1, e2, e3⟩, hs.len, (tabs_ne hT (Nat.le_refl _)).1, (tabs_ne hT (Nat.le_refl _)).2⟩ : Hg (w.alloc (.cells (hcells H0 R0 N m).toArray 74)) w.heap.size H buf N)
  clear hb e1 e2 e3 hs hT
  go_enter Tryd.func38, Tryd.ntmps38
  go_upto_region 3 with fail
  refine wp_region_list ?_
  show wpList _ _ _ (_ :: _) _ _
  refine mv_row (by rfl) (.tmp 0) (by rfl) (.pointer (some ⟨b, 0, none⟩)) (by rfl) ?_
  refine nc_row (by rfl) (.tmp 6) (by rfl) ⟨b, 0, none⟩ (by rfl) ?_
  refine ld_row (by rfl) 74 (.tmp 7) (by rfl) b (by rfl) _ 74 HB.out.blk _ Tryd.underlying74 rfl (by rw [hcells_length _ _ _ _ HB.out.hl HB.out.rl]; exact Tryd.sizeHash) ?_
  refine al_row (by rfl) 74 (by rfl) _ HZ97.out ?_
  refine st_new (by rfl) 74 (.tmp 3) (.tmp 8) (by rfl) (hcells H0 R0 N m) (by rfl) (by rfl) _ _ (by rw [hcells_length _ _ _ _ HB.out.hl HB.out.rl]; exact Tryd.sizeHash) (by rw [List.size_toArray, hcells_length _ _ _ _ (zeros_length _) (zeros_length _), hcells_length _ _ _ _ HB.out.hl HB.out.rl]) (hcells_one _ _ _ _) ?_
  have HBel := hid (below_walk w (.cells (hcells H0 R0 N m).toArray 74))
  generalize w.alloc (.cells (hcells H0 R0 N m).toArray 74) = w2 at HF HBel ⊢
  go_wp2
  go_ret
  exact ⟨rfl, HF.out, HBel.out⟩

set_option maxRecDepth 100000 in
set_option maxHeartbeats 1000000 in
theorem reset_any (w : World) (b : Nat) (H : List Int) (buf : List UInt8) (N : Nat) (hT : Tabs w) (hs : Hg w b H buf N) :
    Calls Tryd.prog 37 #[.pointer (some ⟨b, 0, none⟩)] w fun e w' => e = .returned (.tuple #[]) ∧ Hst w' b Hs [] 0 ∧ Tabs w' ∧ w.grownBy w' (some b) := by
  obtain ⟨H0, R0, m, hb, _, _, _⟩ := hs.ex
  have HB := hid hb
  have HS := hid hs
  have HT := hid hT
  clear hb hs hT
  go_enter Tryd.func37, Tryd.ntmps37
  go_wp2_with fail
  refine (new_any w HT.out).mono ?_
  rintro e w1 ⟨rfl, hw1⟩
  have HN := hid (hp_new w (.cells (hcells Hs (zeros 64) 0 true).toArray 74))
  have HB1 := hid (below_walk w (.cells (hcells Hs (zeros 64) 0 true).toArray 74))
  rw [← hw1] at HN HB1
  clear hw1
  rename_i Kx hKx
  refine hKx _ _ ?_
  clear hKx
  have HBb := hid (HB.out.below HB1.out)
  refine nc_row (by rfl) (.tmp 5) (by rfl) ⟨w.heap.size, 0, none⟩ (by rfl) ?_
  refine ld_row (by rfl) 74 (.tmp 6) (by rfl) w.heap.size (by rfl) _ 74 HN.out _ Tryd.underlying74 rfl (by rw [hcells_length _ _ _ _ Hs_length (zeros_length _)]; exact Tryd.sizeHash) ?_
  refine nc_row (by rfl) (.tmp 4) (by rfl) ⟨b, 0, none⟩ (by rfl) ?_
  refine st_row (by rfl) 74 (.tmp 8) (.tmp 7) (by rfl) b _ (by rfl) (by rfl) 74 _ HBb.out.blk (by rw [hcells_length _ _ _ _ Hs_length (zeros_length _)]; exact Tryd.sizeHash) (by rw [List.size_toArray, hcells_length _ _ _ _ HB.out.hl HB.out.rl, hcells_length _ _ _ _ Hs_length (zeros_length _)]) (hcells_one _ _ _ _) ?_
  intro w3 hw3
  have HG := hid (gb_trans (below_gb HB1.out _) hw3.grown)
  have HF := hid (⟨⟨hw3.blk, Hs_length, zeros_length _⟩, rfl, HS.out.nk, HS.out.nh⟩ : Hst w3 b Hs [] 0)
  clear hw3
  go_wp2
  refine bodyPost_end (results_none rfl _ _ _) rfl ⟨rfl, HF.out, tabs_grown HT.out HG.out HS.out.nk HS.out.nh, HG.out⟩

/-- a list of one -/
theorem lists_one {X : Nat → Prop} {w : World} {v : Value} {bs : List UInt8} (h : Src w v bs) (hX : ∀ k, 0 < bs.length → v.ownBlock = some k → X k) (hn : X w.heap.size) :
    Lists X (w.alloc (.cells #[v] 24)) (.slice (some ⟨w.heap.size, 0, none⟩) 1 1) [bs] := by
  have hb := hp_new w (.cells #[v] 24)
  refine Or.inr ⟨w.heap.size, 0, 1, rfl, hp_lt hb, hn, fun j hj => ?_⟩
  match j, hj with
  | 0, _ => exact ⟨v, by rw [cell_of_row _ _ _ _ _ _ hb]; rfl, h.below (below_walk _ _), hX⟩
/-- a list of two -/
theorem lists_two {X : Nat → Prop} {w : World} {v u : Value} {bs cs : List UInt8} (h : Src w v bs) (g : Src w u cs) (hX : ∀ k, 0 < bs.length → v.ownBlock = some k → X k) (gX : ∀ k, 0 < cs.length → u.ownBlock = some k → X k) (hn : X w.heap.size) :
    Lists X (w.alloc (.cells #[v, u] 24)) (.slice (some ⟨w.heap.size, 0, none⟩) 2 2) [bs, cs] := by
  have hb := hp_new w (.cells #[v, u] 24)
  refine Or.inr ⟨w.heap.size, 0, 2, rfl, hp_lt hb, hn, fun j hj => ?_⟩
  match j, hj with
  | 0, _ => exact ⟨v, by rw [cell_of_row _ _ _ _ _ _ hb]; rfl, h.below (below_walk _ _), hX⟩
  | 1, _ => exact ⟨u, by rw [cell_of_row _ _ _ _ _ _ hb]; rfl, g.below (below_walk _ _), gX⟩

end Go.Proofs.YticmdmnjajjpbabDoor
