/- The document's Write. -/
import Derived.Test.YticmdmnjajjpbabDoorSRefK
import Derived.Test.YticmdmnjajjpbabDoorSUnhex
import Derived.Test.YticmdmnjajjpbabDoorSRefJ
namespace Go.Proofs.YticmdmnjajjpbabDoor
open Go.RowKit

theorem absorb_from (H : List Int) (buf bs : List UInt8) (h : buf.length < 64) : absorb (H, []) (buf ++ bs) = absorb (H, buf) bs := by
  rw [absorb_append, absorb_short H buf [] (by simpa using h)]
  rfl

set_option maxRecDepth 100000 in
set_option maxHeartbeats 1000000 in
theorem rwrite_ok (X : Nat → Prop) (w : World) (H : List Int) (vb : Value) (buf : List UInt8) (N : Nat) (v : Value) (pss : List (List UInt8)) (hH : H.length = 8) (hT : TabR w) (hs : Src w vb buf) (hb64 : buf.length < 64) (hv : Lists X w v pss) (hn : pss.length ≤ 1048576) (hL : (fl pss).length ≤ 1048576) (hN : N + (fl pss).length ≤ 2305843009213693951) :
    Calls Tryd.prog 36 #[.agg (scells H vb N).toArray, v] w fun e w' => ∃ v', e = .returned (.tuple #[.agg (scells (absorb (H, buf) (fl pss)).1 v' ((N + (fl pss).length : Nat) : Int)).toArray, .int .i64 0]) ∧ OwnB w' w.heap.size v' (absorb (H, buf) (fl pss)).2 ∧ Below w.heap.size w w' := by
  obtain ⟨z, sz⟩ := zero_of_info (P := Tryd.prog) (t := 27) (v := .agg z10.toArray) (n := 10) (by kernel_rfl)
  have HZS := hid sz
  clear sz
  have HH := hid hH
  have HBW := hid (below_walk2 w (.cells (scells H vb N).toArray 27) (.cells z10.toArray 27))
  have H2 := hid (hp_two' w (.cells (scells H vb N).toArray 27) (.cells z10.toArray 27))
  have HSR := hid (hs.below HBW.out)
  have HTR := hid (hT.below HBW.out)
  have HV := hid (hv.below HBW.out)
  have HBF := hid hb64
  have HSZ : Hid ((Tryd.prog.info? 27).map (·.size) = some (scells H vb N).length) := by rw [scells_length _ _ _ hH]; exact HZS
  obtain ⟨ao, cv, rfl⟩ : ∃ ao cv, v = .slice ao pss.length cv := by
    rcases hv with ⟨ao, c, rfl, rfl⟩ | ⟨g, o, c, rfl, _⟩
    · exact ⟨ao, c, rfl⟩
    · exact ⟨_, c, rfl⟩
  have hN2 : (N : Int) ≤ 2305843009213693951 := by omega
  clear hH hs hT hv hb64
  go_enter Tryd.func36, Tryd.ntmps36
  go_upto_region 1 with fail
  generalize (w.alloc (.cells (scells H vb N).toArray 27)).alloc (.cells z10.toArray 27) = w2 at HBW H2 HSR HTR HV ⊢
  go_wp2_with fail
  refine (joined_any X w2 _ pss HV.out (by omega) (by omega)).mono ?_
  rintro e w3 ⟨v3, rfl, ho3, hb3⟩
  have HO3 := hid ho3
  have HB3 := hid (HBW.out.trans (hb3.mono HBW.out.size))
  have HS3 := hid (⟨(hb3.block _ (hp_lt H2.out.1)).trans H2.out.1, HH.out⟩ : Sb w3 w.heap.size H vb N)
  have HZ3 := hid ((hb3.block _ (hp_lt H2.out.2)).trans H2.out.2)
  have HSR3 := hid (HSR.out.below hb3)
  have HTR3 := hid (HTR.out.below hb3)
  clear ho3 hb3 HBW H2 HSR HTR HV
  obtain ⟨L, HL⟩ : ∃ L, Hid (L = (fl pss).length) := ⟨_, rfl⟩
  have hLs : L ≤ 1048576 := by rw [HL.out]; exact hL
  have hLN : N + L ≤ 2305843009213693951 := by rw [HL.out]; exact hN
  obtain ⟨a3, k3, hv3⟩ := HO3.out.shape
  rw [← HL.out] at hv3
  subst hv3
  have c9 := HS3.out.c9
  have q1 : ¬ (2305843009213693951 - (N : Int)) < (L : Int) := by omega
  go_upto_region 4 with fail
  refine wp_region_list ?_
  show wpList _ _ _ (_ :: _) _ _
  refine ld_row (by rfl) 27 (.tmp 2) (by rfl) w.heap.size (by rfl) _ 27 HS3.out.blk _ Tryd.underlying27 rfl HSZ.out ?_
  clear c9
  go_wp2_with fail
  refine (rtaken_any w3 H vb buf N _ (fl pss) HH.out HTR3.out HSR3.out (HO3.out.src (by rw [← HL.out]; omega)) (by have := HBF.out; rw [← HL.out]; omega) (by rw [← HL.out]; omega)).mono ?_
  rintro e w4 ⟨v4, rfl, ho4, hb4⟩
  rw [absorb_from _ _ _ HBF.out] at ho4 ⊢
  have HO4 := hid ho4
  have HB4 := hid (HB3.out.trans (hb4.mono HB3.out.size))
  have HZ4 := hid ((hb4.block _ (hp_lt HZ3.out)).trans HZ3.out)
  have HLT := hid (show w.heap.size + 1 < w3.heap.size from hp_lt HZ3.out)
  have HHL := hid (absorb_H (H, buf) (fl pss) HH.out)
  clear ho4 hb4 HO3 HS3 HZ3
  obtain ⟨a4, k4, hv4⟩ := HO4.out.shape
  subst hv4
  obtain ⟨S, HS⟩ : ∃ S, Hid (S = scells (absorb (H, buf) (fl pss)).1 (.slice a4 (absorb (H, buf) (fl pss)).2.length k4) ((N + (fl pss).length : Nat) : Int)) := ⟨_, rfl⟩
  have HSL := hid (show S.length = 10 by rw [HS.out]; exact scells_length _ _ _ HHL.out)
  have HS1 := hid (show ∀ v ∈ S, v.oneCell' = true by rw [HS.out]; exact scells_one _ _ _ rfl)
  have HSZ4 : Hid ((Tryd.prog.info? 27).map (·.size) = some S.length) := by rw [HSL.out]; exact HZS
  rw [← HS.out]
  rename_i Kx hKx
  refine hKx _ _ ?_
  clear hKx
  refine st_row (by rfl) 27 (.tmp 4) (.tmp 19) (by rfl) (w.heap.size + 1) S (by rfl) (by rfl) 27 _ HZ4.out HSZ4.out (by rw [List.size_toArray, HSL.out]; rfl) HS1.out ?_
  intro w6 hw6
  have HW := hid hw6
  clear hw6
  go_wp2
  refine ret_row2 4 5 27 rfl (w.heap.size + 1) rfl S 27 HW.out.blk _ Tryd.underlying27 rfl HSZ4.out (.int .i64 0) rfl rfl ⟨.slice a4 (absorb (H, buf) (fl pss)).2.length k4, by rw [HS.out], ?_, ?_⟩
  · refine (HO4.out.kept HW.out.grown ?_).le (by have := HB3.out.size; exact this)
    cases e : (Value.slice a4 (absorb (H, buf) (fl pss)).2.length k4).ownBlock with
    | none => exact Or.inl rfl
    | some k =>
      refine Or.inr ?_
      have h1 := (HO4.out.lt k e).1
      have h2 := HLT.out
      simp only [ne_eq, Option.some.injEq]
      omega
  · exact HB4.out.grown HW.out.grown HB4.out.size (by intro k hk; cases hk; omega)

set_option maxRecDepth 100000 in
set_option maxHeartbeats 1000000 in
theorem rwrite_long (X : Nat → Prop) (w : World) (H : List Int) (vb : Value) (N : Nat) (v : Value) (pss : List (List UInt8)) (hH : H.length = 8) (hv1 : vb.oneCell' = true) (hv : Lists X w v pss) (hn : pss.length ≤ 1048576) (hL : (fl pss).length ≤ 1048576) (hN0 : N ≤ 2305843009213693951) (hN : 2305843009213693951 < N + (fl pss).length) :
    Calls Tryd.prog 36 #[.agg (scells H vb N).toArray, v] w fun e w' => e = .returned (.tuple #[.agg (scells H vb N).toArray, .int .i64 21]) ∧ Below w.heap.size w w' := by
  obtain ⟨z, sz⟩ := zero_of_info (P := Tryd.prog) (t := 27) (v := .agg z10.toArray) (n := 10) (by kernel_rfl)
  have HZS := hid sz
  clear sz
  have HH := hid hH
  have HV1 := hid hv1
  have HBW := hid (below_walk2 w (.cells (scells H vb N).toArray 27) (.cells z10.toArray 27))
  have H2 := hid (hp_two' w (.cells (scells H vb N).toArray 27) (.cells z10.toArray 27))
  have HV := hid (hv.below HBW.out)
  have HSZ : Hid ((Tryd.prog.info? 27).map (·.size) = some (scells H vb N).length) := by rw [scells_length _ _ _ hH]; exact HZS
  obtain ⟨ao, cv, rfl⟩ : ∃ ao cv, v = .slice ao pss.length cv := by
    rcases hv with ⟨ao, c, rfl, rfl⟩ | ⟨g, o, c, rfl, _⟩
    · exact ⟨ao, c, rfl⟩
    · exact ⟨_, c, rfl⟩
  have hN2 : (N : Int) ≤ 2305843009213693951 := by omega
  clear hH hv hv1
  go_enter Tryd.func36, Tryd.ntmps36
  go_upto_region 1 with fail
  generalize (w.alloc (.cells (scells H vb N).toArray 27)).alloc (.cells z10.toArray 27) = w2 at HBW H2 HV ⊢
  go_wp2_with fail
  refine (joined_any X w2 _ pss HV.out (by omega) (by omega)).mono ?_
  rintro e w3 ⟨v3, rfl, ho3, hb3⟩
  have HO3 := hid ho3
  have HB3 := hid (HBW.out.trans (hb3.mono HBW.out.size))
  have HS3 := hid (⟨(hb3.block _ (hp_lt H2.out.1)).trans H2.out.1, HH.out⟩ : Sb w3 w.heap.size H vb N)
  have HZ3 := hid ((hb3.block _ (hp_lt H2.out.2)).trans H2.out.2)
  clear ho3 hb3 HBW H2 HV
  obtain ⟨L, HL⟩ : ∃ L, Hid (L = (fl pss).length) := ⟨_, rfl⟩
  have hLs : L ≤ 1048576 := by rw [HL.out]; exact hL
  have hLN : 2305843009213693951 < N + L := by rw [HL.out]; exact hN
  obtain ⟨a3, k3, hv3⟩ := HO3.out.shape
  rw [← HL.out] at hv3
  subst hv3
  have c9 := HS3.out.c9
  have q1 : (2305843009213693951 - (N : Int)) < (L : Int) := by omega
  go_upto_region 3 with fail
  refine wp_region_list ?_
  show wpList _ _ _ (_ :: _) _ _
  refine ld_row (by rfl) 27 (.tmp 2) (by rfl) w.heap.size (by rfl) _ 27 HS3.out.blk _ Tryd.underlying27 rfl HSZ.out ?_
  clear c9
  refine st_row (by rfl) 27 (.tmp 4) (.tmp 16) (by rfl) (w.heap.size + 1) (scells H vb N) (by rfl) (by rfl) 27 _ HZ3.out HSZ.out (by rw [List.size_toArray, scells_length _ _ _ HH.out]; rfl) (scells_one _ _ _ HV1.out) ?_
  intro w6 hw6
  have HW := hid hw6
  clear hw6
  go_wp2
  refine ret_row2 4 5 27 rfl (w.heap.size + 1) rfl (scells H vb N) 27 HW.out.blk _ Tryd.underlying27 rfl HSZ.out (.int .i64 21) rfl rfl ⟨rfl, ?_⟩
  exact HB3.out.grown HW.out.grown HB3.out.size (by intro k hk; cases hk; omega)

end Go.Proofs.YticmdmnjajjpbabDoor
