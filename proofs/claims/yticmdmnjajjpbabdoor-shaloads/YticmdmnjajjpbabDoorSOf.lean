/- Of. -/
import Derived.Test.YticmdmnjajjpbabDoorSSum
namespace Go.Proofs.YticmdmnjajjpbabDoor
open Go.RowKit

/-- SHA-256 of bytes -/
def ofP (bs : List UInt8) : List Int := sumP (absorb (Hs, []) bs).1 (absorb (Hs, []) bs).2 bs.length
theorem sumP_length (H : List Int) (buf : List UInt8) (N : Nat) : (sumP H buf N).length = 32 := by
  unfold sumP
  exact dig_length _
theorem ofP_length (bs : List UInt8) : (ofP bs).length = 32 := by
  unfold ofP
  exact sumP_length _ _ _

theorem pad64_nil : pad64 [] = zeros 64 := rfl
theorem tabs_ne {w : World} (hT : Tabs w) {b : Nat} (h : w.heap.size ≤ b) : 1 ≠ b ∧ 0 ≠ b := by
  have h1 := World.block_lt_of_cell? w _ (tab_cell hT.k 0 (by rw [Ks_length]; omega))
  have h2 := World.block_lt_of_cell? w _ (tab_cell hT.h 0 (by rw [Hs_length]; omega))
  simp only [] at h1 h2
  exact ⟨by omega, by omega⟩
/-- what New gives -/
theorem new_hst {w : World} (hT : Tabs w) : Hst (w.alloc (.cells (hcells Hs (zeros 64) 0 true).toArray 74)) w.heap.size Hs [] 0 :=
  ⟨⟨hp_new _ _, Hs_length, zeros_length _⟩, rfl, (tabs_ne hT (Nat.le_refl _)).1, (tabs_ne hT (Nat.le_refl _)).2⟩

set_option maxRecDepth 100000 in
set_option maxHeartbeats 1000000 in
theorem of_any (w : World) (v : Value) (pss : List (List UInt8)) (hT : Tabs w) (hv : Lists (· < w.heap.size) w v pss) (hn : pss.length ≤ 140737488355327) (hN : (fl pss).length ≤ 2305843009213693951) :
    Calls Tryd.prog 21 #[v] w fun e w' => e = .returned (.agg (u8V (ofP (fl pss))).toArray) ∧ Below w.heap.size w w' := by
  obtain ⟨z41, s41⟩ := zero_of_info (P := Tryd.prog) (t := 53) (v := .agg (u8V (zeros 32)).toArray) (n := 32) (by kernel_rfl)
  have HZ41 := hid s41
  clear s41
  have HB0 := hid (below_walk w (.cells (u8V (zeros 32)).toArray 53))
  have HR0 := hid (hp_new w (.cells (u8V (zeros 32)).toArray 53))
  have HV := hid (hv.below HB0.out)
  have HT := hid (hT.below HB0.out)
  clear hv hT
  go_enter Tryd.func21, Tryd.ntmps21
  go_upto_region 1 with fail
  generalize w.alloc (.cells (u8V (zeros 32)).toArray 53) = wv at HB0 HR0 HV HT ⊢
  go_wp2_with fail
  refine (new_any wv HT.out).mono ?_
  rintro e w1 ⟨rfl, hw1⟩
  have HS1 := hid (new_hst HT.out)
  have HB1 := hid (below_walk wv (.cells (hcells Hs (zeros 64) 0 true).toArray 74))
  rw [← hw1] at HS1 HB1
  clear hw1
  go_wp2_with fail
  have hsz := HB0.out.size
  refine (write_ok w1 wv.heap.size Hs [] 0 v pss (HT.out.below HB1.out) HS1.out.hg ((HV.out.below HB1.out).imp (fun k hk => by omega)) hn (by omega)).mono ?_
  rintro e w2 ⟨rfl, hs2, ht2, hg2⟩
  rw [Nat.zero_add] at hs2
  have HS2 := hid hs2
  have HT2 := hid ht2
  have HB2 := hid (HB1.out.grown hg2 HB1.out.size (by intro k hk; cases hk; exact Nat.le_refl _))
  clear hs2 ht2 hg2
  go_wp2_with fail
  refine (sum_any w2 wv.heap.size _ _ _ HT2.out HS2.out.hg hN).mono ?_
  rintro e w3 ⟨rfl, hb3⟩
  have HB3 := hid (HB2.out.trans (hb3.mono HB2.out.size))
  clear hb3
  have HR3 := hid ((HB3.out.block w.heap.size (hp_lt HR0.out)).trans HR0.out)
  rename_i Kx hKx
  refine hKx _ _ ?_
  clear hKx
  have HL32 : Hid ((Tryd.prog.info? 53).map (·.size) = some (u8V (ofP (fl pss))).length) := by rw [u8V_length, ofP_length]; exact HZ41.out
  refine st_row (by rfl) 53 (.tmp 2) (.tmp 9) (by rfl) w.heap.size (u8V (ofP (fl pss))) (by rfl) (by rfl) 53 _ HR3.out HL32.out (by simp [u8V_length, ofP_length, zeros_length]) (u8V_one _) ?_
  intro w6 hw6
  have HW := hid hw6
  clear hw6
  go_wp2
  refine ret_row 2 53 rfl w.heap.size rfl _ 53 HW.out.blk _ Tryd.underlying53 rfl HL32.out rfl ⟨rfl, ?_⟩
  exact (HB0.out.trans (HB3.out.mono HB0.out.size)).grown HW.out.grown (Nat.le_trans HB0.out.size HB3.out.size) (by intro k hk; cases hk; exact Nat.le_refl _)

end Go.Proofs.YticmdmnjajjpbabDoor
