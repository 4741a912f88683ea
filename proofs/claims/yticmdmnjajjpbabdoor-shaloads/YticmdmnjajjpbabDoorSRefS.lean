/- The document's Sum and Of. -/
import Derived.Test.YticmdmnjajjpbabDoorSRefK
import Derived.Test.YticmdmnjajjpbabDoorSRefJ
import Derived.Test.YticmdmnjajjpbabDoorSRef1
import Derived.Test.YticmdmnjajjpbabDoorSOf
namespace Go.Proofs.YticmdmnjajjpbabDoor
open Go.RowKit

/-- one byte of a digest -/
def digb (H : List Int) (i : Nat) : Int := H.getD (i / 4) 0 / 2 ^ (24 - 8 * (i % 4)) % 256
theorem dig_bytes (a b c d e f g i : Int) : dig [a, b, c, d, e, f, g, i] = (List.range 32).map (digb [a, b, c, d, e, f, g, i]) := by
  simp [dig, digS, upN, dig1, digb, zeros, List.range_succ]
theorem dig_get (H : List Int) (h : H.length = 8) : dig H = (List.range 32).map (digb H) := by
  obtain ⟨a, b, c, d, e, f, g, i, rfl⟩ := eight_of h
  exact dig_bytes a b c d e f g i

theorem range_next (f : Nat → Int) (k : Nat) (hk : k < 32) : ((List.range k).map f ++ zeros (32 - k)).set k (f k) = (List.range (k + 1)).map f ++ zeros (32 - (k + 1)) := by
  rw [List.set_append_right _ _ (by simp), show 32 - k = (32 - (k + 1)) + 1 by omega]
  simp [zeros, List.replicate_succ, List.range_succ]
theorem u8_set {w : World} {g : Nat} {T : TypeId} {D : List Int} (h : w.heap[g]? = some (.cells (u8V D).toArray T (0, 0))) (k : Nat) (x : Int) : (w.setCell ⟨g, k, none⟩ (.int .u8 x)).heap[g]? = some (.cells (u8V (D.set k x)).toArray T (0, 0)) := by
  refine (blk_set (w := w) (i := k) h (.int .u8 x)).trans ?_
  simp [u8V, List.map_set]
theorem Sb.word {w : World} {b : Nat} {H : List Int} {vb : Value} {N : Int} (h : Sb w b H vb N) (k : Nat) (hk : k < 8) : w.cell? ⟨b, k, none⟩ = some (.int .u32 (H.getD k 0)) := by
  have := h.words k (.int .u32 (H.getD k 0)) (by
    have hl := h.hl
    simp [u32V, List.getElem?_eq_getElem (show k < H.length by omega), List.getD_eq_getElem?_getD])
  rwa [Nat.zero_add] at this

/-- while Sum writes the digest -/
structure Sm (w : World) (g : Nat) (H : List Int) (vb : Value) (N : Int) (k : Nat) (wr : World) : Prop where
  sb : Sb wr w.heap.size H vb N
  z : wr.heap[w.heap.size + 1]? = some (.cells (u8V (zeros 32)).toArray 53 (0, 0))
  d : wr.heap[g]? = some (.cells (u8V ((List.range k).map (digb H) ++ zeros (32 - k))).toArray 53 (0, 0))
  bel : Below w.heap.size w wr
theorem Sm.step {w : World} {g : Nat} {H : List Int} {vb : Value} {N : Int} {k : Nat} {wr : World} (h : Sm w g H vb N k wr) (hk : k < 32) (hg : w.heap.size + 2 ≤ g) : Sm w g H vb N (k + 1) (wr.setCell ⟨g, k, none⟩ (.int .u8 (digb H k))) := by
  have hgb := gb_set wr ⟨g, k, none⟩ (.int .u8 (digb H k))
  refine ⟨h.sb.grown hgb (by simp; omega), (hp_set wr _ _ _ _ (by omega)).trans h.z, ?_, h.bel.grown hgb h.bel.size (by intro j hj; cases hj; show w.heap.size ≤ g; omega)⟩
  have := u8_set h.d k (digb H k)
  rwa [range_next _ k hk] at this

set_option maxRecDepth 100000 in
set_option maxHeartbeats 2000000 in
theorem rsum_any (w : World) (H : List Int) (vb : Value) (buf : List UInt8) (N : Nat) (hH : H.length = 8) (hT : TabR w) (hs : Src w vb buf) (hb : buf.length < 64) (hN : N ≤ 2305843009213693951) :
    Calls Tryd.prog 34 #[.agg (scells H vb N).toArray] w fun e w' => e = .returned (.agg (u8V (sumP H buf N)).toArray) ∧ Below w.heap.size w w' := by
  obtain ⟨z, sz⟩ := zero_of_info (P := Tryd.prog) (t := 53) (v := .agg (u8V (zeros 32)).toArray) (n := 32) (by kernel_rfl)
  have HZ32 := hid sz
  clear sz
  have HH := hid hH
  have HT0 := hid hT
  have HNN := hid hN
  have HBW := hid (below_walk2 w (.cells (scells H vb N).toArray 27) (.cells (u8V (zeros 32)).toArray 53))
  have H2 := hid (hp_two' w (.cells (scells H vb N).toArray 27) (.cells (u8V (zeros 32)).toArray 53))
  have HS0 := hid hs
  have HPD := hid (fun (W : World) => rpad_ok W N hN)
  have HPL := hid (show (padB N).length ≤ 200 by rw [padB_eq, List.length_append, pb_length, be8_length]; unfold noughts; omega)
  obtain ⟨P, HP⟩ : ∃ l, Hid (l = padB N) := ⟨_, rfl⟩
  rw [← HP.out] at HPL HPD
  have HSM := hid (show sumP H buf N = dig (absorb (H, []) (buf ++ P)).1 by
    unfold sumP
    rw [absorb_append, absorb_short H buf [] (by simpa using hb), HP.out]
    rfl)
  rw [HSM.out]
  have HAH := hid (absorb_H (H, []) (buf ++ P) hH)
  have HBL := hid hb
  obtain ⟨R, HR⟩ : ∃ l, Hid (l = absorb (H, []) (buf ++ P)) := ⟨_, rfl⟩
  rw [← HR.out] at HAH ⊢
  rw [dig_get _ HAH.out]
  obtain ⟨ds, HDS⟩ : ∃ l, Hid (l = (List.range 32).map (digb R.1)) := ⟨_, rfl⟩
  rw [← HDS.out]
  clear hH hT hs hb hN HSM
  go_enter Tryd.func34, Tryd.ntmps34
  go_upto_region 1 with fail
  generalize (w.alloc (.cells (scells H vb N).toArray 27)).alloc (.cells (u8V (zeros 32)).toArray 53) = w2 at HBW H2 ⊢
  have HS2 := hid (⟨H2.out.1, HH.out⟩ : Sb w2 w.heap.size H vb N)
  have c9 := HS2.out.c9
  go_wp2_with fail
  refine (HPD.out w2).mono ?_
  rintro e w3 ⟨v3, rfl, ho3, hb3⟩
  have HO3 := hid (ho3.src (by have := HPL.out; omega))
  have HS3 := hid (HS2.out.below hb3)
  have HZ3 := hid ((hb3.block _ (hp_lt H2.out.2)).trans H2.out.2)
  have HB3 := hid (HBW.out.trans (hb3.mono HBW.out.size))
  clear ho3 hb3 HS2 H2 HBW c9
  go_upto_region 2 with fail
  have HSZ : Hid ((Tryd.prog.info? 27).map (·.size) = some (scells H vb N).length) := by rw [scells_length _ _ _ HH.out]; exact hid Tryd.sizeState
  refine wp_region_list ?_
  show wpList _ _ _ (_ :: _) _ _
  refine ld_row (by rfl) 27 (.tmp 1) (by rfl) w.heap.size (by rfl) _ 27 HS3.out.blk _ Tryd.underlying27 rfl HSZ.out ?_
  go_wp2_with fail
  refine (rtaken_any w3 H vb buf N v3 P HH.out (HT0.out.below HB3.out) (HS0.out.below HB3.out) HO3.out (by have h1 := HPL.out; have h2 := HBL.out; omega) (by have h1 := HPL.out; have h2 := HNN.out; omega)).mono ?_
  rintro e w4 ⟨v4, rfl, ho4, hb4⟩
  rw [← HR.out] at ho4 ⊢
  have HR4 := hid ((hb4.block _ HS3.out.lt).trans HS3.out.blk)
  have HZ4 := hid ((hb4.block _ (hp_lt HZ3.out)).trans HZ3.out)
  have HB4 := hid (HB3.out.trans (hb4.mono HB3.out.size))
  have HONE := hid ho4.one
  clear ho4 hb4 HS3 HZ3 HB3
  rename_i Kx hKx
  refine hKx _ _ ?_
  clear hKx
  have HSZ1 : Hid ((Tryd.prog.info? 27).map (·.size) = some (scells R.1 v4 ((N + P.length : Nat) : Int)).length) := by rw [scells_length _ _ _ HAH.out]; exact hid Tryd.sizeState
  refine st_row (by rfl) 27 (.tmp 1) (.tmp 15) (by rfl) w.heap.size (scells R.1 v4 ((N + P.length : Nat) : Int)) (by rfl) (by rfl) 27 _ HR4.out HSZ1.out (by rw [List.size_toArray, scells_length _ _ _ HAH.out, scells_length _ _ _ HH.out]) (scells_one _ _ _ HONE.out) ?_
  intro w5 hw5
  obtain ⟨H5, HH5⟩ : ∃ l, Hid (l = R.1) := ⟨_, rfl⟩
  obtain ⟨N5, HN5⟩ : ∃ l : Int, Hid (l = ((N + P.length : Nat) : Int)) := ⟨_, rfl⟩
  rw [← HH5.out] at HAH HDS
  rw [← HH5.out, ← HN5.out] at hw5
  have HS5 := hid (⟨hw5.blk, HAH.out⟩ : Sb w5 w.heap.size H5 v4 N5)
  have HZ5 := hid ((hw5.grown.block _ (hp_lt HZ4.out) (by simp)).trans HZ4.out)
  have HB5 := hid (HB4.out.grown hw5.grown HB4.out.size (by intro k hk; cases hk; exact Nat.le_refl _))
  clear hw5 HR4 HZ4 HB4
  go_upto_region 4 with fail
  have HGS := hid (show w.heap.size + 2 ≤ w5.heap.size by have := hp_lt HZ5.out; omega)
  have HBA := hid (below_walk w5 (.cells (u8V (zeros 32)).toArray 53))
  have HM0 := hid (⟨HS5.out.below HBA.out, (hp_old w5 _ _ (hp_lt HZ5.out)).trans HZ5.out, hp_new w5 _, HB5.out.alloc HB5.out.size _⟩ : Sm w w5.heap.size H5 v4 N5 0 (w5.alloc (.cells (u8V (zeros 32)).toArray 53)))
  generalize w5.alloc (.cells (u8V (zeros 32)).toArray 53) = w6 at HM0 HBA ⊢
  obtain ⟨g, HG⟩ : ∃ g, Hid (g = w5.heap.size) := ⟨_, rfl⟩
  rw [← HG.out] at HM0 HGS ⊢
  clear HG HS5 HZ5 HB5 HBA
  go_upto_region 5 with fail
  go_loopw [6] (fun vi wr => ∃ k : Nat, k ≤ 32 ∧ vi = .int .i64 k ∧ Sm w g H5 v4 N5 k wr) (fun vi _ => 32 - (intOf vi).toNat)
  case atStart => exact ⟨0, by omega, rfl, HM0.out⟩
  case round =>
    obtain ⟨k, hk, rfl, hm⟩ := hrel
    clear HM0
    have HM0 := hid hm
    clear hm
    by_cases hlt : k < 32
    · obtain ⟨q, HQ⟩ : ∃ q, Hid (q = k / 4) := ⟨_, rfl⟩
      have hq8 : q < 8 := by rw [HQ.out]; omega
      have cq := HM0.out.sb.word q hq8
      obtain ⟨x, HX⟩ : ∃ x, Hid (x = H5.getD q 0) := ⟨_, rfl⟩
      rw [← HX.out] at cq
      have hqd : (k : Int).tdiv 4 = (q : Int) := by rw [HQ.out]; exact (Int.ofNat_tdiv k 4).symm
      have hqd2 : (k : Int) / 4 = (q : Int) := by rw [HQ.out]; omega
      have HDL := hid (show ((List.range k).map (digb H5) ++ zeros (32 - k)).length = 32 by simp [zeros_length]; omega)
      have cg := u8_cell HM0.out.d k (by rw [HDL.out]; exact hlt)
      have fg := row_fz HM0.out.d k
      obtain ⟨y, HY⟩ : ∃ y : Int, Hid (y = ((List.range k).map (digb H5) ++ zeros (32 - k)).getD k 0) := ⟨_, rfl⟩
      rw [← HY.out] at cg
      have HST := hid (HM0.out.step hlt HGS.out)
      have HDG := hid (show digb H5 k = x / 2 ^ (24 - 8 * (k % 4)) % 256 by rw [HX.out, HQ.out]; rfl)
      rw [HDG.out] at HST
      have hr : k % 4 = 0 ∨ k % 4 = 1 ∨ k % 4 = 2 ∨ k % 4 = 3 := by omega
      rcases hr with hr | hr | hr | hr
      all_goals
        rw [hr] at HST
        have hrm := show (k : Int).tmod 4 = ((k % 4 : Nat) : Int) from (Int.ofNat_tmod k 4).symm
        rw [hr] at hrm
        clear hr
        go_wp2
        refine ⟨⟨k + 1, by omega, by simp, ?_⟩, by simp [intOf]; omega⟩
        first
          | exact HST.out
          | (have h := HST.out; rw [show x / 2 ^ (24 - 8 * 3) = x by simp] at h; exact h)
    · obtain rfl : k = 32 := by omega
      have HD2 := hid (show wr.heap[g]? = some (.cells (u8V ds).toArray 53 (0, 0)) by
        have := HM0.out.d
        rw [← HDS.out] at this
        simpa [zeros] using this)
      have HDL := hid (show ds.length = 32 by rw [HDS.out]; simp)
      have HL32 : Hid ((Tryd.prog.info? 53).map (·.size) = some (u8V ds).length) := by rw [u8V_length, HDL.out]; exact HZ32.out
      go_upto_region 8 with fail
      refine wp_region_list ?_
      show wpList _ _ _ (_ :: _) _ _
      refine ld_row (by rfl) 53 (.tmp 5) (by rfl) g (by rfl) _ 53 HD2.out _ Tryd.underlying53 rfl HL32.out ?_
      refine st_row (by rfl) 53 (.tmp 2) (.tmp 34) (by rfl) (w.heap.size + 1) (u8V ds) (by rfl) (by rfl) 53 _ HM0.out.z HL32.out (by rw [List.size_toArray, u8V_length, u8V_length, HDL.out]; rfl) (u8V_one _) ?_
      intro w9 hw9
      have HW := hid hw9
      clear hw9
      go_wp2
      refine ret_row 2 53 rfl (w.heap.size + 1) rfl _ 53 HW.out.blk _ Tryd.underlying53 rfl HL32.out rfl ⟨rfl, ?_⟩
      exact HM0.out.bel.grown HW.out.grown HM0.out.bel.size (by intro k hk; cases hk; omega)

end Go.Proofs.YticmdmnjajjpbabDoor
