/- A Hash in memory; New, begun, Len. -/
import Derived.Test.YticmdmnjajjpbabDoorSRow2
import Derived.KernelRfl
namespace Go.Proofs.YticmdmnjajjpbabDoor
open Go.RowKit

/-- a Hash's cells -/
def hcells (H R : List Int) (n : Int) (m : Bool) : List Value := u32V H ++ (u8V R ++ [.int .u64 n, .bool m])
theorem hcells_length (H R : List Int) (n : Int) (m : Bool) (h : H.length = 8) (r : R.length = 64) : (hcells H R n m).length = 74 := by simp [hcells, u32V_length, u8V_length, h, r]
theorem hcells_one (H R : List Int) (n : Int) (m : Bool) : ∀ v ∈ hcells H R n m, v.oneCell' = true := by
  intro v hv
  simp only [hcells, List.mem_append, List.mem_cons, List.not_mem_nil, or_false] at hv
  rcases hv with h | h | h | h
  · exact u32V_one _ v h
  · exact u8V_one _ v h
  · subst h; rfl
  · subst h; rfl
theorem hcells_n (H R : List Int) (n : Int) (m : Bool) (h : H.length = 8) (r : R.length = 64) : (hcells H R n m)[72]? = some (.int .u64 n) := by
  rw [hcells, List.getElem?_append_right (by simp [u32V_length, h]), List.getElem?_append_right (by simp [u32V_length, u8V_length, h, r])]
  simp [u32V_length, u8V_length, h, r]
theorem hcells_m (H R : List Int) (n : Int) (m : Bool) (h : H.length = 8) (r : R.length = 64) : (hcells H R n m)[73]? = some (.bool m) := by
  rw [hcells, List.getElem?_append_right (by simp [u32V_length, h]), List.getElem?_append_right (by simp [u32V_length, u8V_length, h, r])]
  simp [u32V_length, u8V_length, h, r]

theorem Tryd.sizeHash : (Tryd.prog.info? 74).map (·.size) = some 74 := by kernel_rfl
theorem Tryd.undHash : ∃ d, Tryd.prog.underlying 74 = some d ∧ d.isRow = true := ⟨_, Tryd.underlying74, rfl⟩

/-- block b is a Hash -/
structure Hb (w : World) (b : Nat) (H R : List Int) (n : Int) (m : Bool) : Prop where
  blk : w.heap[b]? = some (.cells (hcells H R n m).toArray 74 (0, 0))
  hl : H.length = 8
  rl : R.length = 64
section
variable {w w' : World} {b : Nat} {H R : List Int} {n : Int} {m : Bool}
theorem Hb.lt (h : Hb w b H R n m) : b < w.heap.size := hp_lt h.blk
theorem Hb.cn (h : Hb w b H R n m) : w.cell? ⟨b, 72, none⟩ = some (.int .u64 n) := by
  have := hcells_n H R n m h.hl h.rl
  simp [World.cell?, h.blk, this]
theorem Hb.cm (h : Hb w b H R n m) : w.cell? ⟨b, 73, none⟩ = some (.bool m) := by
  have := hcells_m H R n m h.hl h.rl
  simp [World.cell?, h.blk, this]
theorem Hb.fz (h : Hb w b H R n m) (i : Nat) : w.frozen? ⟨b, i, none⟩ = false := by simp [World.frozen?, h.blk]
theorem Hb.below (h : Hb w b H R n m) (hb : Below w.heap.size w w') : Hb w' b H R n m := ⟨(hb.block b h.lt).trans h.blk, h.hl, h.rl⟩
theorem Hb.grown {row : Option Nat} (h : Hb w b H R n m) (hg : w.grownBy w' row) (hne : row ≠ some b) : Hb w' b H R n m := ⟨(hg.block b h.lt (fun e => hne e.symm)).trans h.blk, h.hl, h.rl⟩
theorem Hb.drewN (h : Hb w b H R n m) (k : Nat) : Hb (w.drewN k) b H R n m := ⟨h.blk, h.hl, h.rl⟩
end

theorem new_built : Tryd.prog.built 74 [(0, .agg (u32V Hs).toArray), (3, .bool true)] = some (hcells Hs (zeros 64) 0 true).toArray := by kernel_rfl

set_option maxRecDepth 100000 in
set_option maxHeartbeats 400000 in
theorem new_any (w : World) (hT : Tabs w) :
    Calls Tryd.prog 15 #[] w fun e w' => e = .returned (.pointer (some ⟨w.heap.size, 0, none⟩)) ∧ w' = w.alloc (.cells (hcells Hs (zeros 64) 0 true).toArray 74) := by
  have HT := hid hT
  clear hT
  go_enter Tryd.func15, Tryd.ntmps15
  go_upto_region 1 with fail
  refine wp_region_list ?_
  show wpList _ _ _ (_ :: _) _ _
  refine wpList_load_mid (by rfl) 23 (.global 0) (by rfl) 0 0 (by rfl) (u32V Hs) _ HT.out.h Tryd.underlying23 rfl (by kernel_rfl) ?_
  refine bd_row (by rfl) 74 _ (by rfl) _ (by simp [Act.eval, Act.put]) _ new_built ?_
  refine bx_row (by rfl) 74 (.tmp 2) (by rfl) _ (by rfl) ?_
  go_wp2
  go_ret
  exact ⟨rfl, rfl⟩

set_option maxRecDepth 100000 in
set_option maxHeartbeats 400000 in
theorem len_any (w : World) (b : Nat) (H R : List Int) (n : Int) (m : Bool) (h : Hb w b H R n m) :
    Calls Tryd.prog 22 #[.pointer (some ⟨b, 0, none⟩)] w fun e w' => e = .returned (.int .u64 n) ∧ w' = w := by
  have hn := h.cn
  clear h
  go_enter Tryd.func22, Tryd.ntmps22
  go_wp2
  go_ret
  exact ⟨rfl, rfl⟩

/-- how a Hash stands that has its words -/
def begunH (H : List Int) (m : Bool) : List Int := if m then H else Hs
def begunR (R : List Int) (m : Bool) : List Int := if m then R else zeros 64
def begunN (n : Int) (m : Bool) : Int := if m then n else 0

set_option maxRecDepth 100000 in
set_option maxHeartbeats 400000 in
theorem begun_any (w : World) (H R : List Int) (n : Int) (m : Bool) (hl : H.length = 8) (rl : R.length = 64) (hT : Tabs w) :
    Calls Tryd.prog 40 #[.agg (hcells H R n m).toArray] w fun e w' => e = .returned (.agg (hcells (begunH H m) (begunR R m) (begunN n m) true).toArray) ∧ Below w.heap.size w w' := by
  obtain ⟨z, sz⟩ := zero_of_info (P := Tryd.prog) (t := 74) (v := .agg (hcells (zeros 8) (zeros 64) 0 false).toArray) (n := 74) (by kernel_rfl)
  have HZ := hid z
  clear z sz
  go_enter Tryd.func40, Tryd.ntmps40
  go_upto_region 0 with fail
  refine wp_region_list ?_
  show wpList _ _ _ (_ :: _) _ _
  refine bx_row (by rfl) 74 (.tmp 0) (by rfl) _ (by rfl) ?_
  refine al_row (by rfl) 74 (by rfl) _ HZ.out ?_
  have hA : Hid (((w.alloc (.cells (hcells H R n m).toArray 74)).alloc (.cells (hcells (zeros 8) (zeros 64) 0 false).toArray 74)).heap[w.heap.size]? = some (.cells (hcells H R n m).toArray 74 (0, 0))) := by
    refine hid ?_
    rw [hp_old _ _ _ (by rw [hp_size]; omega), hp_new]
  have hB : Hid (((w.alloc (.cells (hcells H R n m).toArray 74)).alloc (.cells (hcells (zeros 8) (zeros 64) 0 false).toArray 74)).heap[w.heap.size + 1]? = some (.cells (hcells (zeros 8) (zeros 64) 0 false).toArray 74 (0, 0))) := by
    refine hid ?_
    have := hp_new (w.alloc (.cells (hcells H R n m).toArray 74)) (.cells (hcells (zeros 8) (zeros 64) 0 false).toArray 74)
    rwa [hp_size] at this
  have HBel := hid (below_walk2 w (.cells (hcells H R n m).toArray 74) (.cells (hcells (zeros 8) (zeros 64) 0 false).toArray 74))
  rw [hp_size]
  generalize (w.alloc (.cells (hcells H R n m).toArray 74)).alloc (.cells (hcells (zeros 8) (zeros 64) 0 false).toArray 74) = wv at hA hB HBel ⊢
  have HT := hid (hT.below HBel.out)
  clear hT
  have HH := hid (Hb.mk hA.out hl rl)
  have cm := HH.out.cm
  cases m with
  | true =>
    go_upto_region 3 with fail
    refine wp_region_list ?_
    show wpList _ _ _ (_ :: _) _ _
    refine ld_row (by rfl) 74 (.tmp 1) (by rfl) w.heap.size (by rfl) _ 74 hA.out _ Tryd.underlying74 rfl (by rw [hcells_length _ _ _ _ hl rl]; exact Tryd.sizeHash) ?_
    refine st_row (by rfl) 74 (.tmp 2) (.tmp 9) (by rfl) (w.heap.size + 1) _ (by rfl) (by rfl) 74 _ hB.out (by rw [hcells_length _ _ _ _ hl rl]; exact Tryd.sizeHash) (by rw [List.size_toArray, hcells_length _ _ _ _ hl rl, hcells_length _ _ _ _ (zeros_length _) (zeros_length _)]) (hcells_one _ _ _ _) ?_
    intro w4 hw4
    have HW := hid hw4
    clear hw4
    go_wp2
    refine ret_row 2 74 rfl (w.heap.size + 1) rfl _ 74 HW.out.blk _ Tryd.underlying74 rfl (by rw [hcells_length _ _ _ _ hl rl]; exact Tryd.sizeHash) rfl ⟨rfl, ?_⟩
    exact HBel.out.grown HW.out.grown HBel.out.size (by intro k hk; cases hk; omega)
  | false =>
    go_wp2_with fail
    refine (new_any _ HT.out).mono ?_
    rintro e w3 ⟨rfl, hw3⟩
    have HB3 := hid (show Below w.heap.size w w3 by rw [hw3]; exact HBel.out.alloc HBel.out.size _)
    have HN3 := hid (show w3.heap[wv.heap.size]? = some (.cells (hcells Hs (zeros 64) 0 true).toArray 74 (0, 0)) by rw [hw3]; exact hp_new _ _)
    have HR3 := hid (show w3.heap[w.heap.size + 1]? = some (.cells (hcells (zeros 8) (zeros 64) 0 false).toArray 74 (0, 0)) by rw [hw3, hp_old _ _ _ (hp_lt hB.out)]; exact hB.out)
    clear hw3 hA hB HBel HT HH cm
    rename_i Kx hKx
    refine hKx _ _ ?_
    clear hKx
    refine nc_row (by rfl) (.tmp 6) (by rfl) ⟨wv.heap.size, 0, none⟩ (by rfl) ?_
    refine ld_row (by rfl) 74 (.tmp 7) (by rfl) wv.heap.size (by rfl) _ 74 HN3.out _ Tryd.underlying74 rfl (by rw [hcells_length _ _ _ _ Hs_length (zeros_length _)]; exact Tryd.sizeHash) ?_
    refine st_row (by rfl) 74 (.tmp 2) (.tmp 8) (by rfl) (w.heap.size + 1) _ (by rfl) (by rfl) 74 _ HR3.out (by rw [hcells_length _ _ _ _ Hs_length (zeros_length _)]; exact Tryd.sizeHash) (by rw [List.size_toArray, hcells_length _ _ _ _ Hs_length (zeros_length _), hcells_length _ _ _ _ (zeros_length _) (zeros_length _)]) (hcells_one _ _ _ _) ?_
    intro w4 hw4
    have HW := hid hw4
    clear hw4
    go_wp2
    refine ret_row 2 74 rfl (w.heap.size + 1) rfl _ 74 HW.out.blk _ Tryd.underlying74 rfl (by rw [hcells_length _ _ _ _ Hs_length (zeros_length _)]; exact Tryd.sizeHash) rfl ⟨rfl, ?_⟩
    exact HB3.out.grown HW.out.grown HB3.out.size (by intro k hk; cases hk; omega)

end Go.Proofs.YticmdmnjajjpbabDoor
