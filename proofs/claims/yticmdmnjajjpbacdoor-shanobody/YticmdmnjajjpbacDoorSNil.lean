/- The calls of a hash that is nil. -/
import Derived.Test.YticmdmnjajjpbacDoorSState
namespace Go.Proofs.YticmdmnjajjpbacDoor
open Go.RowKit

set_option maxRecDepth 100000 in
theorem nreset (w : World) : Calls Tryd.prog 15 #[.pointer none] w fun e w' => e = .returned (.tuple #[]) ∧ w' = w := by
  go_enter Tryd.func15, Tryd.ntmps15
  go_wp2
  refine bodyPost_end (results_none rfl _ _ _) rfl ⟨rfl, rfl⟩

set_option maxRecDepth 100000 in
theorem nwrite (w : World) (v : Value) : Calls Tryd.prog 11 #[.pointer none, v] w fun e w' => e = .returned (.int .i64 2) ∧ w' = w := by
  go_enter Tryd.func11, Tryd.ntmps11
  go_wp2
  go_ret
  exact ⟨rfl, rfl⟩

set_option maxRecDepth 100000 in
theorem nlen (w : World) : Calls Tryd.prog 16 #[.pointer none] w fun e w' => e = .returned (.int .u64 0) ∧ w' = w := by
  go_enter Tryd.func16, Tryd.ntmps16
  go_wp2
  go_ret
  exact ⟨rfl, rfl⟩

set_option maxRecDepth 100000 in
theorem nclone (w : World) : Calls Tryd.prog 12 #[.pointer none] w fun e w' => e = .returned (.pointer none) ∧ w' = w := by
  go_enter Tryd.func12, Tryd.ntmps12
  go_wp2
  go_ret
  exact ⟨rfl, rfl⟩

set_option maxRecDepth 100000 in
set_option maxHeartbeats 1000000 in
theorem nsum (w : World) : Calls Tryd.prog 13 #[.pointer none] w fun e w' => e = .returned (.agg (u8V (zeros 32)).toArray) ∧ Below w.heap.size w w' := by
  obtain ⟨z41, s41⟩ := zero_of_info (P := Tryd.prog) (t := 23) (v := .agg (u8V (zeros 32)).toArray) (n := 32) (by kernel_rfl)
  have HZ := hid s41
  clear s41
  have HB0 := hid (below_walk w (.cells (u8V (zeros 32)).toArray 23))
  have HR0 := hid (hp_new w (.cells (u8V (zeros 32)).toArray 23))
  have HBU := hid (show Tryd.prog.built 23 [] = some (u8V (zeros 32)).toArray by kernel_rfl)
  have HSZ : Hid ((Tryd.prog.info? 23).map (·.size) = some (u8V (zeros 32)).length) := by rw [u8V_length, zeros_length]; exact HZ
  go_enter Tryd.func13, Tryd.ntmps13
  go_upto_region 1 with fail
  generalize w.alloc (.cells (u8V (zeros 32)).toArray 23) = wv at HB0 HR0 ⊢
  go_upto_region 2 with fail
  refine wp_region_list ?_
  show wpList _ _ _ (_ :: _) _ _
  refine bd_row (by rfl) 23 _ (by rfl) [] (by simp) _ HBU.out ?_
  refine st_row (by rfl) 23 (.tmp 2) (.tmp 8) (by rfl) w.heap.size (u8V (zeros 32)) (by rfl) (by rfl) 23 _ HR0.out HSZ.out (by rw [List.size_toArray]) (u8V_one _) ?_
  intro w6 hw6
  have HW := hid hw6
  clear hw6
  go_wp2
  refine ret_row 2 23 rfl w.heap.size rfl _ 23 HW.out.blk _ Tryd.underlying23 rfl HSZ.out rfl ⟨rfl, ?_⟩
  exact HB0.out.grown HW.out.grown HB0.out.size (by intro k hk; cases hk; exact Nat.le_refl _)

set_option maxRecDepth 100000 in
set_option maxHeartbeats 1000000 in
theorem nstate (w : World) : Calls Tryd.prog 18 #[.pointer none] w fun e w' => e = .returned (.agg z10.toArray) ∧ Below w.heap.size w w' := by
  obtain ⟨z, sz⟩ := zero_of_info (P := Tryd.prog) (t := 43) (v := .agg z10.toArray) (n := 10) (by kernel_rfl)
  have HZ := hid sz
  clear sz
  have HB0 := hid (below_walk w (.cells z10.toArray 43))
  have HR0 := hid (hp_new w (.cells z10.toArray 43))
  have HBU := hid (show Tryd.prog.built 43 [] = some z10.toArray by kernel_rfl)
  have HSZ : Hid ((Tryd.prog.info? 43).map (·.size) = some z10.length) := HZ
  go_enter Tryd.func18, Tryd.ntmps18
  go_upto_region 1 with fail
  generalize w.alloc (.cells z10.toArray 43) = wv at HB0 HR0 ⊢
  go_upto_region 2 with fail
  refine wp_region_list ?_
  show wpList _ _ _ (_ :: _) _ _
  refine bd_row (by rfl) 43 _ (by rfl) [] (by simp) _ HBU.out ?_
  refine st_row (by rfl) 43 (.tmp 2) (.tmp 6) (by rfl) w.heap.size z10 (by rfl) (by rfl) 43 _ HR0.out HSZ.out (by rw [List.size_toArray]) (scells_one _ _ _ rfl) ?_
  intro w6 hw6
  have HW := hid hw6
  clear hw6
  go_wp2
  refine ret_row 2 43 rfl w.heap.size rfl _ 43 HW.out.blk _ Tryd.underlying43 rfl HSZ.out rfl ⟨rfl, ?_⟩
  exact HB0.out.grown HW.out.grown HB0.out.size (by intro k hk; cases hk; exact Nat.le_refl _)

end Go.Proofs.YticmdmnjajjpbacDoor
