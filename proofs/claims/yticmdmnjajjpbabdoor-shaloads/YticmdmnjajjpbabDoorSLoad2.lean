/- Load, of any state. -/
import Derived.Test.YticmdmnjajjpbabDoorSLoad
import Derived.Test.YticmdmnjajjpbabDoorSState
namespace Go.Proofs.YticmdmnjajjpbabDoor
open Go.RowKit

theorem hcells_load (H : List Int) (buf : List UInt8) (N : Int) (hl : H.length = 8) (h : buf.length ≤ 64) : splice (hcells H (zeros 64) N true) 8 (bytesV buf) = hcells H (pad64 buf) N true := by
  have := splice_rest H [] buf N true hl (by simpa using h)
  simpa [pad64_nil] using this

set_option maxRecDepth 100000 in
set_option maxHeartbeats 1000000 in
theorem load_ok (w : World) (H : List Int) (vb : Value) (buf : List UInt8) (N : Nat) (hH : H.length = 8) (hN : N ≤ 2305843009213693951) (hm : buf.length = N % 64) (hs : Src w vb buf) (hT : Tabs w) :
    Calls Tryd.prog 10 #[.agg (scells H vb N).toArray] w fun e w' => e = .returned (.tuple #[.pointer (some ⟨w.heap.size + 1, 0, none⟩), .int .i64 0]) ∧ Hst w' (w.heap.size + 1) H buf N ∧ Below w.heap.size w w' := by
  obtain ⟨K, HK⟩ : ∃ K, Hid (K = N % 64) := ⟨_, rfl⟩
  have hK64 : K < 64 := by rw [HK.out]; omega
  have hrem : ((N : Nat) : Int).tmod 64 = (K : Int) := by rw [HK.out]; rfl
  obtain ⟨ao, cp, rfl⟩ := src_shape hs
  have HBL := hid (show buf.length = K by rw [HK.out]; exact hm)
  have HM := hid hm
  have HS := hid hs
  rw [HBL.out] at HS ⊢
  have hHid := hid hH
  obtain ⟨a, b, c, d, e, f, g, i, rfl⟩ := eight_of hH
  have hb0 := hp_new w (.cells (scells [a, b, c, d, e, f, g, i] (.slice ao K cp) N).toArray 27)
  have HB0 := hid (below_walk w (.cells (scells [a, b, c, d, e, f, g, i] (.slice ao K cp) N).toArray 27))
  have HSb := hid (⟨hb0, hH⟩ : Sb (w.alloc (.cells (scells [a, b, c, d, e, f, g, i] (.slice ao K cp) N).toArray 27)) w.heap.size [a, b, c, d, e, f, g, i] (.slice ao K cp) N)
  have hsz : (w.alloc (.cells (scells [a, b, c, d, e, f, g, i] (.slice ao K cp) N).toArray 27)).heap.size = w.heap.size + 1 := hp_size _ _
  have HT := hid (hT.below HB0.out)
  clear hb0 hT hH hs hm
  go_enter Tryd.func10, Tryd.ntmps10
  go_upto_region 1 with fail
  have HSZ := hid hsz
  clear hsz
  generalize w.alloc (.cells (scells [a, b, c, d, e, f, g, i] (.slice ao K cp) N).toArray 27) = wv at HB0 HSb HT HSZ ⊢
  have c8 := HSb.out.c8
  have c9 := HSb.out.c9
  have HRg := hid HSb.out.words
  go_upto_region 3 with fail
  refine wp_region_list ?_
  show wpList _ _ _ (_ :: _) _ _
  refine fa_row (by rfl) 27 (.tmp 1) 0 (by rfl) ⟨w.heap.size, 0, none⟩ ⟨w.heap.size, 0, none⟩ (by rfl) (field_sH w.heap.size) ?_
  refine wpList_load_mid (by rfl) 23 (.tmp 18) (by rfl) w.heap.size 0 (by rfl) (u32V [a, b, c, d, e, f, g, i]) _ HRg.out Tryd.underlying23 rfl (by kernel_rfl) ?_
  refine fa_row (by rfl) 27 (.tmp 1) 2 (by rfl) ⟨w.heap.size, 0, none⟩ ⟨w.heap.size, 9, none⟩ (by rfl) (field_sN w.heap.size) ?_
  refine ld_cell (by rfl) 25 (.tmp 20) (by rfl) ⟨w.heap.size, 9, none⟩ (by rfl) (.int .u64 N) c9 .u64 Tryd.underlying25 ?_
  refine bd_row (by rfl) 74 _ (by rfl) _ (by simp [Act.eval, Act.put]) _ (load_built a b c d e f g i N) ?_
  refine bx_row (by rfl) 74 (.tmp 22) (by rfl) _ (by rfl) ?_
  rw [HSZ.out]
  have hbw := below_walk wv (.cells (hcells [a, b, c, d, e, f, g, i] (zeros 64) N true).toArray 74)
  have HBel := hid (HB0.out.trans (hbw.mono HB0.out.size))
  have hnew := hp_new wv (.cells (hcells [a, b, c, d, e, f, g, i] (zeros 64) N true).toArray 74)
  rw [HSZ.out] at hnew
  have HNEW := hid hnew
  have HNE := hid (tabs_ne HT.out (Nat.le_of_eq HSZ.out))
  have HS4 := hid (HS.out.below HBel.out)
  have HS8 := hid (HSb.out.below hbw)
  clear hnew hbw c8 c9 HRg HB0 HT HSb
  generalize wv.alloc (.cells (hcells [a, b, c, d, e, f, g, i] (zeros 64) N true).toArray 74) = wz at HBel HNEW HS4 HS8 ⊢
  have c8' := HS8.out.c8
  obtain ⟨H, HQ⟩ : ∃ H, Hid ([a, b, c, d, e, f, g, i] = H) := ⟨_, rfl⟩
  rw [HQ.out] at hHid HNEW
  have hsl := slice_all (w.heap.size + 1)
  have HU1 := hid (show (Tryd.prog.info? 5).map (·.size) = some 1 by kernel_rfl)
  have HNL := hid (show (bytesV buf).length = Nat.min K 64 by rw [bytesV_length, HBL.out]; show K = min K 64; omega)
  have HFT := hid (show 8 + (bytesV buf).length ≤ (hcells H (zeros 64) N true).length by rw [bytesV_length, HBL.out, hcells_length _ _ _ _ hHid.out (zeros_length _)]; omega)
  have HPOS := hid (show 0 < (bytesV buf).length → (some (⟨w.heap.size + 1, 8, none⟩ : Addr)) = some ⟨w.heap.size + 1, 8, none⟩ ∧ ∃ ad, ao = some ad ∧ ∀ j v, (bytesV buf)[j]? = some v → wz.cell? (ad.add j) = some v from fun hp => by
    obtain ⟨_, ⟨h1, h2⟩ | ⟨ad, cap, hv, _, _, _, hc⟩⟩ := HS4.out
    · rw [h2] at hp; simp [bytesV] at hp
    · injection hv with h1
      exact ⟨rfl, ad, h1, fun j v hj => src_cells hc j v hj⟩)
  have HSPL := hid (hcells_load H buf N hHid.out (by rw [HBL.out]; omega))
  have HBZ := hid (Below.refl (w.heap.size + 1) wz)
  go_upto_region 4 with fail
  go_region_held_law (fun w' => w'.cell? ⟨w.heap.size, 8, none⟩ = some (.slice ao K cp)) (first | exact c8' | go_keep | exact n4) ((refine step_copy_splice (by rfl) (.tmp 27) (.tmp 29) 24 24 (by rfl) 5 Tryd.underlying24 HU1.out (some ⟨w.heap.size + 1, 8, none⟩) ao 64 64 K cp (by rfl) (by rfl) (w.heap.size + 1) 8 (hcells H (zeros 64) N true) 74 (by exact HNEW.out) (bytesV buf) HNL.out (by exact HPOS.out) HFT.out (bytesV_one _) (w.heap.size + 1) wz (by exact ⟨rfl, rfl, rfl, Nat.le_refl _, fun _ _ => rfl⟩) (Nat.le_refl _) ?_; intro w4 hw4 hb4; have HB4 := hid hb4; have HW4 := hid hw4.out; have n4 : w4.cell? ⟨w.heap.size, 8, none⟩ = some (.slice ao K cp) := (by rw [hb4.cell (p := ⟨w.heap.size, 8, none⟩) (Nat.lt_succ_self _)]; exact c8'); clear hw4 hb4))
  rw [HSPL.out] at HW4
  go_wp2
  refine bodyPost_ret (results_tmp2 rfl _ _ _) rfl ⟨rfl, ?_, ?_⟩
  · rw [HQ.out]
    exact ⟨⟨HW4.out, hHid.out, pad64_length _ (by rw [HBL.out]; omega)⟩, HM.out, HNE.out.1, HNE.out.2⟩
  · exact HBel.out.trans (HB4.out.mono (Nat.le_succ _))

end Go.Proofs.YticmdmnjajjpbabDoor
