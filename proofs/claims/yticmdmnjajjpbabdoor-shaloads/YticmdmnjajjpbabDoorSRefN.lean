/- The document's beginning, New and Copy. -/
import Derived.Test.YticmdmnjajjpbabDoorSLoad
import Derived.Test.YticmdmnjajjpbabDoorSUnhex
namespace Go.Proofs.YticmdmnjajjpbabDoor
open Go.RowKit

/-- a state of noughts -/
def z10 : List Value := scells (zeros 8) (.slice none 0 0) 0
theorem z10_length : z10.length = 10 := rfl
theorem scells_length (H : List Int) (vb : Value) (N : Int) (h : H.length = 8) : (scells H vb N).length = 10 := by simp [scells, u32V_length, h]
theorem scells_one (H : List Int) (vb : Value) (N : Int) (h : vb.oneCell' = true) : ∀ v ∈ scells H vb N, v.oneCell' = true := by
  intro v hv
  simp only [scells, List.mem_append, List.mem_cons, List.not_mem_nil, or_false] at hv
  rcases hv with hv | rfl | rfl
  · exact u32V_one _ v hv
  · exact h
  · rfl
theorem Tryd.sizeState : (Tryd.prog.info? 27).map (·.size) = some 10 := by kernel_rfl
theorem field_sB (b : Nat) (w : World) : (Instr.fieldAt 27 (.pointer (some ⟨b, 0, none⟩)) 1).run Tryd.prog w = .ok (.pointer (some ⟨b, 8, none⟩)) w := by go_simp

/-- block b is a state that stands so -/
structure Sb (w : World) (b : Nat) (H : List Int) (vb : Value) (N : Int) : Prop where
  blk : w.heap[b]? = some (.cells (scells H vb N).toArray 27 (0, 0))
  hl : H.length = 8
section
variable {w w' : World} {b : Nat} {H : List Int} {vb : Value} {N : Int}
theorem Sb.lt (h : Sb w b H vb N) : b < w.heap.size := hp_lt h.blk
theorem Sb.c8 (h : Sb w b H vb N) : w.cell? ⟨b, 8, none⟩ = some vb := by
  rw [cell_of_row w b _ _ _ _ h.blk]
  simp [scells, u32V_length, h.hl]
theorem Sb.c9 (h : Sb w b H vb N) : w.cell? ⟨b, 9, none⟩ = some (.int .u64 N) := by
  rw [cell_of_row w b _ _ _ _ h.blk]
  simp [scells, u32V_length, h.hl]
theorem Sb.fz (h : Sb w b H vb N) (i : Nat) : w.frozen? ⟨b, i, none⟩ = false := by simp [World.frozen?, h.blk]
theorem Sb.below (h : Sb w b H vb N) (hb : Below w.heap.size w w') : Sb w' b H vb N := ⟨(hb.block b h.lt).trans h.blk, h.hl⟩
theorem Sb.grown {row : Option Nat} (h : Sb w b H vb N) (hg : w.grownBy w' row) (hne : row ≠ some b) : Sb w' b H vb N := ⟨(hg.block b h.lt (fun e => hne e.symm)).trans h.blk, h.hl⟩
theorem Sb.set8 (h : Sb w b H vb N) (u : Value) : Sb (w.setCell ⟨b, 8, none⟩ u) b H u N := by
  refine ⟨(blk_set (w := w) (i := 8) h.blk u).trans ?_, h.hl⟩
  congr 2
  rw [List.setIfInBounds_toArray]
  congr 1
  unfold scells
  rw [List.set_append_right _ _ (by simp [u32V_length, h.hl])]
  simp [u32V_length, h.hl]
theorem Sb.set9 (h : Sb w b H vb N) (n : Int) : Sb (w.setCell ⟨b, 9, none⟩ (.int .u64 n)) b H vb n := by
  refine ⟨(blk_set (w := w) (i := 9) h.blk (.int .u64 n)).trans ?_, h.hl⟩
  congr 2
  rw [List.setIfInBounds_toArray]
  congr 1
  unfold scells
  rw [List.set_append_right _ _ (by simp [u32V_length, h.hl])]
  simp [u32V_length, h.hl]
theorem Sb.words (h : Sb w b H vb N) : w.rangeAt b 0 (u32V H) := fun j v hv => by
  rw [Nat.zero_add, cell_of_row w b j _ _ _ h.blk]
  simp only [scells, List.getElem?_toArray]
  rw [List.getElem?_append_left (List.getElem?_eq_some_iff.1 hv).1]
  exact hv
theorem Sb.there (h : Sb w b H vb N) (o k : Nat) (hk : o + k ≤ 10) : w.there b o k := fun j hj => by
  refine ⟨?_, h.fz _⟩
  rw [cell_of_row w b _ _ _ _ h.blk]
  have := scells_length H vb N h.hl
  simp [List.getElem?_eq_getElem (show o + j < (scells H vb N).length by omega)]
theorem Sb.newWords (h : Sb w b H vb N) (H2 : List Int) (hl2 : H2.length = 8) : Sb (w.setCells b 0 (u32V H2)) b H2 vb N ∧ w.grownBy (w.setCells b 0 (u32V H2)) (some b) := by
  have := setCells_row (t := 27) (u32V H2) 0 (scells H vb N) w h.blk (by rw [scells_length _ _ _ h.hl, u32V_length]; omega)
  refine ⟨⟨?_, hl2⟩, this.grown⟩
  rw [this.blk]
  congr 3
  have e := splice_app ([] : List Value) (u32V H) [vb, .int .u64 N] (u32V H2) (by simp [u32V_length, h.hl, hl2])
  simpa [scells] using e
end

theorem OwnB.one {w : World} {base : Nat} {v : Value} {bs : List UInt8} (h : OwnB w base v bs) : v.oneCell' = true := by
  obtain ⟨a, c, rfl⟩ := h.shape
  rfl

theorem beg_built : Tryd.prog.built 23 [(0, .int .u32 1779033703), (1, .int .u32 3144134277), (2, .int .u32 1013904242), (3, .int .u32 2773480762), (4, .int .u32 1359893119), (5, .int .u32 2600822924), (6, .int .u32 528734635), (7, .int .u32 1541459225)] = some (u32V Hs).toArray := by kernel_rfl

set_option maxRecDepth 100000 in
set_option maxHeartbeats 1000000 in
theorem beginning_any (w : World) :
    Calls Tryd.prog 33 #[] w fun e w' => e = .returned (.agg (u32V Hs).toArray) ∧ Below w.heap.size w w' := by
  obtain ⟨z, sz⟩ := zero_of_info (P := Tryd.prog) (t := 23) (v := .agg (u32V (zeros 8)).toArray) (n := 8) (by kernel_rfl)
  have HZ := hid sz
  clear sz
  have HB0 := hid (below_walk w (.cells (u32V (zeros 8)).toArray 23))
  have HR0 := hid (hp_new w (.cells (u32V (zeros 8)).toArray 23))
  have HL8 : Hid ((Tryd.prog.info? 23).map (·.size) = some (u32V Hs).length) := by rw [u32V_length, Hs_length]; exact HZ.out
  go_enter Tryd.func33, Tryd.ntmps33
  go_upto_region 1 with fail
  generalize w.alloc (.cells (u32V (zeros 8)).toArray 23) = wv at HB0 HR0 ⊢
  refine wp_region_list ?_
  show wpList _ _ _ (_ :: _) _ _
  refine bd_row (by rfl) 23 _ (by rfl) _ (by simp [Act.eval]) _ beg_built ?_
  refine st_row (by rfl) 23 (.tmp 0) (.tmp 1) (by rfl) w.heap.size (u32V Hs) (by rfl) (by rfl) 23 _ HR0.out HL8.out (by simp [u32V_length, Hs_length, zeros_length]) (u32V_one _) ?_
  intro w6 hw6
  have HW := hid hw6
  clear hw6
  go_wp2
  refine ret_row 0 23 rfl w.heap.size rfl _ 23 HW.out.blk _ Tryd.underlying23 rfl HL8.out rfl ⟨rfl, ?_⟩
  exact HB0.out.grown HW.out.grown HB0.out.size (by intro k hk; cases hk; exact Nat.le_refl _)

theorem rnew_built : Tryd.prog.built 27 [(0, .agg (u32V Hs).toArray)] = some (scells Hs (.slice none 0 0) 0).toArray := by kernel_rfl

set_option maxRecDepth 100000 in
set_option maxHeartbeats 1000000 in
theorem rnew_any (w : World) :
    Calls Tryd.prog 16 #[] w fun e w' => e = .returned (.agg (scells Hs (.slice none 0 0) 0).toArray) ∧ Below w.heap.size w w' := by
  obtain ⟨z, sz⟩ := zero_of_info (P := Tryd.prog) (t := 27) (v := .agg z10.toArray) (n := 10) (by kernel_rfl)
  have HZ := hid sz
  clear sz
  have HB0 := hid (below_walk w (.cells z10.toArray 27))
  have HR0 := hid (hp_new w (.cells z10.toArray 27))
  have HL : Hid ((Tryd.prog.info? 27).map (·.size) = some (scells Hs (.slice none 0 0) 0).length) := by rw [scells_length _ _ _ Hs_length]; exact HZ.out
  go_enter Tryd.func16, Tryd.ntmps16
  go_upto_region 1 with fail
  generalize w.alloc (.cells z10.toArray 27) = wv at HB0 HR0 ⊢
  go_wp2_with fail
  refine (beginning_any wv).mono ?_
  rintro e w1 ⟨rfl, hb1⟩
  have HB1 := hid (HB0.out.trans (hb1.mono HB0.out.size))
  have HR1 := hid ((hb1.block w.heap.size (hp_lt HR0.out)).trans HR0.out)
  clear hb1
  rename_i Kx hKx
  refine hKx _ _ ?_
  clear hKx
  refine bd_row (by rfl) 27 _ (by rfl) _ (by simp [Act.eval]) _ rnew_built ?_
  refine st_row (by rfl) 27 (.tmp 0) (.tmp 2) (by rfl) w.heap.size (scells Hs (.slice none 0 0) 0) (by rfl) (by rfl) 27 _ HR1.out HL.out (by rw [List.size_toArray, scells_length _ _ _ Hs_length]; rfl) (scells_one _ _ _ rfl) ?_
  intro w6 hw6
  have HW := hid hw6
  clear hw6
  go_wp2
  refine ret_row 0 27 rfl w.heap.size rfl _ 27 HW.out.blk _ Tryd.underlying27 rfl HL.out rfl ⟨rfl, ?_⟩
  exact HB1.out.grown HW.out.grown HB1.out.size (by intro k hk; cases hk; exact Nat.le_refl _)

set_option maxRecDepth 100000 in
set_option maxHeartbeats 1000000 in
theorem rcopy_any (w : World) (H : List Int) (vb : Value) (buf : List UInt8) (N : Nat) (hH : H.length = 8) (hs : Src w vb buf) :
    Calls Tryd.prog 9 #[.agg (scells H vb N).toArray] w fun e w' => ∃ v', e = .returned (.agg (scells H v' N).toArray) ∧ OwnB w' w.heap.size v' buf ∧ Below w.heap.size w w' := by
  obtain ⟨z, sz⟩ := zero_of_info (P := Tryd.prog) (t := 27) (v := .agg z10.toArray) (n := 10) (by kernel_rfl)
  clear sz
  have HH := hid hH
  have HBW := hid (below_walk2 w (.cells (scells H vb N).toArray 27) (.cells z10.toArray 27))
  have H2 := hid (hp_two' w (.cells (scells H vb N).toArray 27) (.cells z10.toArray 27))
  have HSR := hid (hs.below HBW.out)
  clear hH hs
  go_enter Tryd.func9, Tryd.ntmps9
  go_upto_region 1 with fail
  generalize (w.alloc (.cells (scells H vb N).toArray 27)).alloc (.cells z10.toArray 27) = w2 at HBW H2 HSR ⊢
  have HS2 := hid (⟨H2.out.1, HH.out⟩ : Sb w2 w.heap.size H vb N)
  have c8 := HS2.out.c8
  have HON := hid (OwnB.nil w2 w2.heap.size)
  have HL := hid (show ([] : List UInt8).length + buf.length ≤ 140737488355327 by have := HSR.out.1; simpa using this)
  go_wp2_with (at_builtin; refine app_src rfl _ _ rfl w2.heap.size _ [] rfl HON.out _ buf rfl HSR.out HL.out (Nat.le_refl _) ?_)
  intro v1 w3 ho hg
  have HO3 := hid (show OwnB w3 w2.heap.size v1 buf from ho)
  have HG3 := hid (show w2.grownBy w3 none from hg)
  have HS3 := hid (HS2.out.grown HG3.out (by simp))
  have HZ3 := hid ((HG3.out.block _ (hp_lt H2.out.2) (by simp)).trans H2.out.2)
  have HB3 := hid (HBW.out.grown HG3.out HBW.out.size (by intro k hk; cases hk))
  have f8 := HS3.out.fz 8
  have d8 := HS3.out.c8
  clear ho hg c8
  obtain ⟨ao, cp, hv1⟩ := HO3.out.shape
  subst hv1
  go_upto_region 4 with fail
  have HS4 := hid (HS3.out.set8 (.slice ao buf.length cp))
  have HG4 := hid (gb_set w3 ⟨w.heap.size, 8, none⟩ (.slice ao buf.length cp))
  have HO4 := hid (HO3.out.kept HG4.out (by
    cases e : (Value.slice ao buf.length cp).ownBlock with
    | none => exact Or.inl rfl
    | some k =>
      refine Or.inr ?_
      have h1 := (HO3.out.lt k e).1
      have h2 := HS2.out.lt
      simp only [ne_eq, Option.some.injEq]
      omega))
  have HZ4 := hid ((hp_set w3 (w.heap.size + 1) w.heap.size 8 (.slice ao buf.length cp) (by omega)).trans HZ3.out)
  have HB4 := hid (HB3.out.grown HG4.out HB3.out.size (by intro k hk; cases hk; exact Nat.le_refl _))
  generalize w3.setCell ⟨w.heap.size, 8, none⟩ (.slice ao buf.length cp) = w4 at HS4 HG4 HO4 HZ4 HB4 ⊢
  clear HS3 HZ3 HB3 f8 d8 HG3 HO3 HG4
  have HSZ : Hid ((Tryd.prog.info? 27).map (·.size) = some (scells H (.slice ao buf.length cp) N).length) := by rw [scells_length _ _ _ HH.out]; exact hid Tryd.sizeState
  refine wp_region_list ?_
  show wpList _ _ _ (_ :: _) _ _
  refine ld_row (by rfl) 27 (.tmp 1) (by rfl) w.heap.size (by rfl) _ 27 HS4.out.blk _ Tryd.underlying27 rfl HSZ.out ?_
  refine st_row (by rfl) 27 (.tmp 2) (.tmp 10) (by rfl) (w.heap.size + 1) (scells H (.slice ao buf.length cp) N) (by rfl) (by rfl) 27 _ HZ4.out HSZ.out (by rw [List.size_toArray, scells_length _ _ _ HH.out]; rfl) (scells_one _ _ _ rfl) ?_
  intro w6 hw6
  have HW := hid hw6
  clear hw6
  go_wp2
  refine ret_row 2 27 rfl (w.heap.size + 1) rfl _ 27 HW.out.blk _ Tryd.underlying27 rfl HSZ.out rfl ⟨_, rfl, ?_, ?_⟩
  · refine (HO4.out.kept HW.out.grown ?_).le HBW.out.size
    cases e : (Value.slice ao buf.length cp).ownBlock with
    | none => exact Or.inl rfl
    | some k =>
      refine Or.inr ?_
      have h1 := (HO4.out.lt k e).1
      have h2 := hp_lt H2.out.2
      simp only [ne_eq, Option.some.injEq]
      omega
  · exact HB4.out.grown HW.out.grown HB4.out.size (by intro k hk; cases hk; omega)

end Go.Proofs.YticmdmnjajjpbabDoor
