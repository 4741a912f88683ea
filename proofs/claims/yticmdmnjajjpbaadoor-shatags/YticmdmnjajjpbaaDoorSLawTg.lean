/- ShaTags answers true. -/
import Derived.Test.YticmdmnjajjpbaaDoorSLawTags
namespace Go.Proofs.YticmdmnjajjpbaaDoor
open Go.RowKit

/-- a tag and parts, in a block of their own -/
structure Nb (w : World) (b : Nat) (s : ByteArray) (v : Value) : Prop where
  blk : w.heap[b]? = some (.cells #[.string s, v] 47 (0, 0))
theorem Nb.c0 {w : World} {b : Nat} {s : ByteArray} {v : Value} (h : Nb w b s v) : w.cell? ⟨b, 0, none⟩ = some (.string s) := by
  rw [cell_of_row _ _ _ _ _ _ h.blk]; rfl
theorem Nb.c1 {w : World} {b : Nat} {s : ByteArray} {v : Value} (h : Nb w b s v) : w.cell? ⟨b, 1, none⟩ = some v := by
  rw [cell_of_row _ _ _ _ _ _ h.blk]; rfl
theorem Nb.below {w w' : World} {b : Nat} {s : ByteArray} {v : Value} (h : Nb w b s v) (hb : Below w.heap.size w w') : Nb w' b s v := ⟨(hb.block b (hp_lt h.blk)).trans h.blk⟩

set_option maxRecDepth 100000 in
set_option maxHeartbeats 2000000 in
theorem tags_any (X : Nat → Prop) (w : World) (s : ByteArray) (ao : Option Addr) (n c : Nat) (pss : List (List UInt8)) (hT : Tabs w) (hR : TabR w) (hs : s.size ≤ 1048576) (hv : Lists X w (.slice ao n c) pss) (hn : pss.length ≤ 1048576) (hN : (fl pss).length ≤ 1048576) :
    Calls Tryd.prog 6 #[.agg #[.string s, .slice ao n c]] w fun e w' => e = .returned (.bool true) ∧ Below w.heap.size w w' := by
  have HT := hid hT
  have HR := hid hR
  obtain ⟨l, HL⟩ : ∃ l, Hid (s.data.toList = l) := ⟨_, rfl⟩
  have HSS := hid hs
  have HE := hid (fun j hj => Nat.le_trans (fl_each pss j hj) (Nat.le_trans hN (by omega : 1048576 ≤ 140737488355327)))
  have HNN := hid hN
  have HN1 := hid hn
  have HB0 := hid (below_walk w (.cells #[.string s, .slice ao n c] 47))
  have HX0 := hid (⟨hp_new w _⟩ : Nb (w.alloc (.cells #[.string s, .slice ao n c] 47)) w.heap.size s (.slice ao n c))
  have HV0 := hid (hv.below HB0.out)
  have eqd := of_eq (tgD l pss) (tgD_length l pss)
  have HSZ : Hid ((Tryd.prog.info? 41).map (·.size) = some (u8V (tgD l pss)).length) := by rw [u8V_length, tgD_length]; exact hid (by kernel_rfl)
  have HDL := hid (show (u8V (tgD l pss)).length = (u8V (zeros 32)).length by rw [u8V_length, u8V_length, tgD_length, zeros_length])
  have HD1 := hid (u8V_one (tgD l pss))
  obtain ⟨D, HD⟩ : ∃ D, Hid (D = u8V (tgD l pss)) := ⟨_, rfl⟩
  rw [← HD.out] at eqd HSZ HDL HD1
  obtain ⟨E, HEE⟩ : ∃ E, Hid (E = tgE l) := ⟨_, rfl⟩
  obtain ⟨z, sz⟩ := zero_of_info (P := Tryd.prog) (t := 41) (v := .agg (u8V (zeros 32)).toArray) (n := 32) (by kernel_rfl)
  have HZ := hid z
  clear z sz hT hR hs hv hn hN
  go_enter Tryd.func6, Tryd.ntmps6
  go_upto_region 1 with fail
  generalize w.alloc (.cells #[.string s, .slice ao n c] 47) = w0 at HB0 HX0 HV0 ⊢
  have c1 := HX0.out.c1
  go_wp2_with fail
  refine (parts_any X w0 _ pss HV0.out HN1.out).mono ?_
  rintro e w1 ⟨v1, rfl, us, hp⟩
  have HL1 := hid (hp.lists HE.out)
  have HB1 := hid (HB0.out.trans (hp.bel.mono HB0.out.size))
  have HX1 := hid (HX0.out.below hp.bel)
  have HV1 := hid (HV0.out.below hp.bel)
  clear hp c1 HB0 HX0 HV0
  obtain ⟨a1, cc1, hv1⟩ := lists_shape HL1.out
  subst hv1
  have c0 := HX1.out.c0
  go_wp2_with fail
  refine (pre_any _ w1 s l _ pss HL.out HL1.out HN1.out HNN.out).mono ?_
  rintro e w2 ⟨v2, rfl, ha2, hb2⟩
  rw [← HEE.out]
  have HA2 := hid ha2.src
  have HB2 := hid (HB1.out.trans (hb2.mono HB1.out.size))
  have HX2 := hid (HX1.out.below hb2)
  have HV2 := hid (HV1.out.below hb2)
  have HL2 := hid (HL1.out.below hb2)
  clear c0 ha2 hb2 HB1 HX1 HV1 HL1
  obtain ⟨a2, cc2, hv2⟩ := src_shape HA2.out
  subst hv2
  have c0 := HX2.out.c0
  have c1 := HX2.out.c1
  go_wp2_with fail
  refine (rpre_any X w2 s l _ pss HL.out HSS.out HV2.out HN1.out HNN.out).mono ?_
  rintro e w3 ⟨v3, rfl, ha3, hb3⟩
  rw [← HEE.out]
  have HA3 := hid (HA2.out.below hb3)
  have HR3 := hid ha3.src
  have HB3 := hid (HB2.out.trans (hb3.mono HB2.out.size))
  have HX3 := hid (HX2.out.below hb3)
  have HV3 := hid (HV2.out.below hb3)
  have HL3 := hid (HL2.out.below hb3)
  clear c0 c1 ha3 hb3 HB2 HX2 HV2 HL2 HA2
  obtain ⟨a3, cc3, hv3⟩ := src_shape HR3.out
  subst hv3
  have c0 := HX3.out.c0
  go_wp2_with fail
  refine (tagged_any _ w3 s l _ pss (HT.out.below HB3.out) HL.out HL3.out HN1.out HNN.out).mono ?_
  rintro e w4 ⟨rfl, hb4⟩
  rw [← HEE.out, ← HD.out]
  have HA4 := hid (HA3.out.below hb4)
  have HR4 := hid (HR3.out.below hb4)
  have HB4 := hid (HB3.out.trans (hb4.mono HB3.out.size))
  have HX4 := hid (HX3.out.below hb4)
  have HV4 := hid (HV3.out.below hb4)
  have HL4 := hid (HL3.out.below hb4)
  clear c0 hb4 HA3 HR3 HB3 HX3 HV3 HL3
  rename_i Kx hKx
  refine hKx _ _ ?_
  clear hKx
  refine mv_row (by rfl) (.tmp 34) (by rfl) (.tuple #[.agg D.toArray, .int .i64 E]) (by rfl) ?_
  refine ex_row (by rfl) (.tmp 30) 0 (by rfl) _ (by rfl) (.agg D.toArray) rfl ?_
  refine ex_row (by rfl) (.tmp 30) 1 (by rfl) _ (by rfl) (.int .i64 E) rfl ?_
  refine al_row (by rfl) 41 (by rfl) _ HZ.out ?_
  refine st_new (by rfl) 41 (.tmp 8) (.tmp 35) (by rfl) D (by rfl) (by rfl) _ _ HSZ.out (by rw [List.size_toArray, HDL.out]) HD1.out ?_
  have HN5 := hid (hp_new w4 (.cells D.toArray 41))
  have hbw := below_walk w4 (.cells D.toArray 41)
  have HB5 := hid (HB4.out.alloc HB4.out.size (.cells D.toArray 41))
  have HA5 := hid (HA4.out.below hbw)
  have HR5 := hid (HR4.out.below hbw)
  have HX5 := hid (HX4.out.below hbw)
  have HV5 := hid (HV4.out.below hbw)
  have HL5 := hid (HL4.out.below hbw)
  clear hbw HA4 HR4 HB4 HX4 HV4 HL4
  generalize w4.alloc (.cells D.toArray 41) = w5 at HN5 HB5 HA5 HR5 HX5 HV5 HL5 ⊢
  obtain ⟨g, HG⟩ : ∃ g, Hid (g = w4.heap.size) := ⟨_, rfl⟩
  rw [← HG.out] at HN5 ⊢
  clear HG
  go_upto_region 5 with fail
  have c0 := HX5.out.c0
  have c1 := HX5.out.c1
  go_wp2_with fail
  refine (rtagged_any X w5 s l _ pss (HR.out.below HB5.out) HL.out HSS.out HV5.out HN1.out HNN.out).mono ?_
  rintro e w6 ⟨rfl, hb6⟩
  rw [← HEE.out, ← HD.out]
  have HA6 := hid (HA5.out.below hb6)
  have HR6 := hid (HR5.out.below hb6)
  have HB6 := hid (HB5.out.trans (hb6.mono HB5.out.size))
  have HX6 := hid (HX5.out.below hb6)
  have HV6 := hid (HV5.out.below hb6)
  have HL6 := hid (HL5.out.below hb6)
  have HN6 := hid ((hb6.block g (hp_lt HN5.out)).trans HN5.out)
  clear c0 c1 hb6 HA5 HR5 HB5 HX5 HV5 HL5 HN5
  rename_i Kx hKx
  refine hKx _ _ ?_
  clear hKx
  refine mv_row (by rfl) (.tmp 42) (by rfl) (.tuple #[.agg D.toArray, .int .i64 E]) (by rfl) ?_
  refine ex_row (by rfl) (.tmp 37) 0 (by rfl) _ (by rfl) (.agg D.toArray) rfl ?_
  refine ex_row (by rfl) (.tmp 37) 1 (by rfl) _ (by rfl) (.int .i64 E) rfl ?_
  refine al_row (by rfl) 41 (by rfl) _ HZ.out ?_
  refine st_new (by rfl) 41 (.tmp 10) (.tmp 43) (by rfl) D (by rfl) (by rfl) _ _ HSZ.out (by rw [List.size_toArray, HDL.out]) HD1.out ?_
  have HM7 := hid (hp_new w6 (.cells D.toArray 41))
  have hbw := below_walk w6 (.cells D.toArray 41)
  have HN7 := hid ((hbw.block g (hp_lt HN6.out)).trans HN6.out)
  have HB7 := hid (HB6.out.alloc HB6.out.size (.cells D.toArray 41))
  have HA7 := hid (HA6.out.below hbw)
  have HR7 := hid (HR6.out.below hbw)
  have HX7 := hid (HX6.out.below hbw)
  have HV7 := hid (HV6.out.below hbw)
  have HL7 := hid (HL6.out.below hbw)
  clear hbw HA6 HR6 HB6 HX6 HV6 HL6 HN6
  generalize w6.alloc (.cells D.toArray 41) = w7 at HN7 HM7 HB7 HA7 HR7 HX7 HV7 HL7 ⊢
  obtain ⟨h, HG⟩ : ∃ g, Hid (g = w6.heap.size) := ⟨_, rfl⟩
  rw [← HG.out] at HM7 ⊢
  clear HG
  go_upto_region 6 with fail
  have HNU := hid (fun W => num_any W E)
  have HAL := hid (alike_true _ _ _ w7 HA7.out HR7.out)
  go_wp2_with (first
    | (go_at_call 14; refine (HNU.out _).mono ?_; rintro e w' ⟨rfl, hw⟩; subst w')
    | fail)
  refine HAL.out.mono ?_
  rintro e w8 ⟨rfl, q8, hw8⟩
  have HN8 : Hid (w8.heap[g]? = some (.cells D.toArray 41 (0, 0))) := by rw [hw8]; exact HN7.out
  have HM8 : Hid (w8.heap[h]? = some (.cells D.toArray 41 (0, 0))) := by rw [hw8]; exact HM7.out
  have c1 : w8.cell? ⟨w.heap.size, 1, none⟩ = some (.slice ao n c) := by rw [hw8]; exact HX7.out.c1
  have HV8 : Hid (Lists X w8 (.slice ao n c) pss) := by rw [hw8]; exact HV7.out.drewN _
  have HL8 : Hid (Lists (fun x => x < w1.heap.size) w8 (.slice a1 pss.length cc1) pss) := by rw [hw8]; exact HL7.out.drewN _
  have HB8 : Hid (Below w.heap.size w w8) := by rw [hw8]; exact ⟨HB7.out.os, HB7.out.tape, HB7.out.output, HB7.out.size, HB7.out.block⟩
  clear hw8 HN7 HM7 HB7 HX7 HV7 HL7 HA7 HR7 HAL
  go_wp2_with (first
    | (go_at_call 14; refine (HNU.out _).mono ?_; rintro e w' ⟨rfl, hw⟩; subst w')
    | (refine unguard (by rfl) ?_; refine ld_row (by rfl) 41 (.tmp 8) (by rfl) g (by rfl) _ 41 HN8.out _ Tryd.underlying41 rfl HSZ.out ?_)
    | (refine unguard (by rfl) ?_; refine ld_row (by rfl) 41 (.tmp 10) (by rfl) h (by rfl) _ 41 HM8.out _ Tryd.underlying41 rfl HSZ.out ?_))
  refine (same_parts _ X w8 _ _ pss HL8.out HV8.out HN1.out).mono ?_
  rintro e w9 ⟨rfl, q9, hw9⟩
  have HB9 : Hid (Below w.heap.size w w9) := by rw [hw9]; exact ⟨HB8.out.os, HB8.out.tape, HB8.out.output, HB8.out.size, HB8.out.block⟩
  clear hw9
  go_wp2_with fail
  refine (awake_any _ (HT.out.below HB9.out)).mono ?_
  rintro e w10 ⟨rfl, hb10⟩
  have HB10 := hid (HB9.out.trans (hb10.mono HB9.out.size))
  clear hb10
  go_wp2
  go_ret
  exact ⟨rfl, HB10.out⟩

end Go.Proofs.YticmdmnjajjpbaaDoor
