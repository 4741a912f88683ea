/- ShaTexts answers true. -/
import Derived.Test.YticmdmnjajjpbaaDoorSAwake
import Derived.Test.YticmdmnjajjpbaaDoorSRef1
import Derived.Test.YticmdmnjajjpbaaDoorSCmp
import Derived.Test.YticmdmnjajjpbaaDoorSLawBack
import Derived.Test.YticmdmnjajjpbaaDoorSRefH
import Derived.Test.YticmdmnjajjpbaaDoorSRefU
namespace Go.Proofs.YticmdmnjajjpbaaDoor
open Go.RowKit

/-- four digests that lie in memory -/
def Four (a b c d : Nat) (A B C : List Value) : World → Prop := fun w => w.rangeAt a 0 A ∧ w.rangeAt b 0 B ∧ w.rangeAt c 0 C ∧ w.rangeAt d 0 C
theorem four_below {w w' : World} {a b c d : Nat} {A B C : List Value} (h : Four a b c d A B C w) (hb : Below w.heap.size w w') : Four a b c d A B C w' := ⟨range_below h.1 hb, range_below h.2.1 hb, range_below h.2.2.1 hb, range_below h.2.2.2 hb⟩
theorem row_range' {w : World} {b : Nat} {cs : List Value} {T : TypeId} (h : w.heap[b]? = some (.cells cs.toArray T (0, 0))) : w.rangeAt b 0 cs := fun j v hv => by
  rw [Nat.zero_add, cell_of_row w b j _ _ _ h]
  simpa using hv

set_option maxRecDepth 100000 in
set_option maxHeartbeats 2000000 in
theorem texts_any (w : World) (a b : List UInt8) (s : ByteArray) (hT : Tabs w) (ha : a.length = 32) (hb : b.length = 32) :
    Calls Tryd.prog 7 #[.agg (bytesV a).toArray, .agg (bytesV b).toArray, .string s] w fun e w' => e = .returned (.bool true) ∧ Below w.heap.size w w' := by
  have HT := hid hT
  have HA := hid ha
  have HB := hid hb
  obtain ⟨l, HL⟩ : ∃ l, Hid (s.data.toList = l) := ⟨_, rfl⟩
  have H2 := hid (hp_two' w (.cells (bytesV a).toArray 41) (.cells (bytesV b).toArray 41))
  have HBW := hid (below_walk2 w (.cells (bytesV a).toArray 41) (.cells (bytesV b).toArray 41))
  clear ha hb hT
  obtain ⟨z, sz⟩ := zero_of_info (P := Tryd.prog) (t := 41) (v := .agg (bytesV z32).toArray) (n := 32) (by kernel_rfl)
  have HZ := hid z
  clear z sz
  have hu : Tryd.prog.underlying 41 = some _ := Tryd.underlying41
  have HSA : Hid ((Tryd.prog.info? 41).map (·.size) = some (bytesV a).length) := by rw [bytesV_length, HA.out]; exact hid (by kernel_rfl)
  have HSB : Hid ((Tryd.prog.info? 41).map (·.size) = some (bytesV b).length) := by rw [bytesV_length, HB.out]; exact hid (by kernel_rfl)
  have HUL : Hid ((Tryd.prog.info? 41).map (·.size) = some (bytesV (uhB l)).length) := by rw [bytesV_length, uhB_length]; exact hid (by kernel_rfl)
  have HEQ := hid (four_eq (uhB l) (uhB_length l))
  have HU1 := hid (fun (W : World) => unhex_any W s l HL.out)
  have HU2 := hid (fun (W : World) => runhex_any W s l HL.out)
  have HX1 := hid (fun (W : World) => hex_any W a HA.out)
  have HX2 := hid (fun (W : World) => rhex_any W a HA.out)
  have HC1 := hid (fun (W : World) => compare_any W a b HA.out HB.out)
  have HC2 := hid (fun (W : World) => rcompare_any W a b HA.out HB.out)
  have HVL := hid (show (bytesV (uhB l)).length = (bytesV z32).length by rw [bytesV_length, bytesV_length, uhB_length]; rfl)
  have HONE := hid (bytesV_one (uhB l))
  obtain ⟨p, HP⟩ : ∃ p, Hid (p = cmpP a b) := ⟨_, rfl⟩
  obtain ⟨la, HLA⟩ : ∃ p, Hid (p = hexT a) := ⟨_, rfl⟩
  obtain ⟨E, HE⟩ : ∃ p, Hid (p = uhE l) := ⟨_, rfl⟩
  obtain ⟨VA, HVA⟩ : ∃ V, Hid (V = bytesV a) := ⟨_, rfl⟩
  obtain ⟨VB, HVB⟩ : ∃ V, Hid (V = bytesV b) := ⟨_, rfl⟩
  obtain ⟨VD, HVD⟩ : ∃ V, Hid (V = bytesV (uhB l)) := ⟨_, rfl⟩
  rw [← HP.out] at HC1 HC2
  rw [← HLA.out] at HX1 HX2
  rw [← HE.out] at HU1 HU2
  rw [← HVA.out] at HSA HC1 HC2 HX1 HX2 H2 HBW
  rw [← HVB.out] at HSB HC1 HC2 H2 HBW
  rw [← HVD.out] at HUL HU1 HU2 HEQ HVL HONE
  rw [← HVA.out, ← HVB.out]
  go_enter Tryd.func7, Tryd.ntmps7
  go_upto_region 1 with fail
  generalize (w.alloc (.cells VA.toArray 41)).alloc (.cells VB.toArray 41) = w1 at H2 HBW ⊢
  go_wp2_with fail
  refine (HU1.out w1).mono ?_
  rintro e w2 ⟨rfl, hb2⟩
  have HB2 := hid (HBW.out.trans (hb2.mono HBW.out.size))
  have HNA := hid ((hb2.block _ (hp_lt H2.out.1)).trans H2.out.1)
  have HNB := hid ((hb2.block _ (hp_lt H2.out.2)).trans H2.out.2)
  clear hb2 HBW H2
  rename_i Kx hKx
  refine hKx _ _ ?_
  clear hKx
  refine mv_row (by rfl) (.tmp 13) (by rfl) (.tuple #[.agg VD.toArray, .int .i64 E]) (by rfl) ?_
  refine ex_row (by rfl) (.tmp 11) 0 (by rfl) _ (by rfl) (.agg VD.toArray) rfl ?_
  refine ex_row (by rfl) (.tmp 11) 1 (by rfl) _ (by rfl) (.int .i64 E) rfl ?_
  refine al_row (by rfl) 41 (by rfl) _ HZ.out ?_
  refine st_new (by rfl) 41 (.tmp 7) (.tmp 14) (by rfl) VD (by rfl) (by rfl) _ _ HUL.out (by rw [List.size_toArray, HVL.out]) HONE.out ?_
  have HN3 := hid (hp_new w2 (.cells VD.toArray 41))
  have HB3 := hid (HB2.out.alloc HB2.out.size (.cells VD.toArray 41))
  have HNA3 := hid ((hp_old w2 (.cells VD.toArray 41) _ (hp_lt HNA.out)).trans HNA.out)
  have HNB3 := hid ((hp_old w2 (.cells VD.toArray 41) _ (hp_lt HNB.out)).trans HNB.out)
  generalize w2.alloc (.cells VD.toArray 41) = w3 at HN3 HB3 HNA3 HNB3 ⊢
  clear HNA HNB HB2
  obtain ⟨g, HG⟩ : ∃ g, Hid (g = w2.heap.size) := ⟨_, rfl⟩
  rw [← HG.out] at HN3 ⊢
  clear HG
  go_upto_region 2 with fail
  go_wp2_with fail
  refine (HU2.out w3).mono ?_
  rintro e w4 ⟨rfl, hb4⟩
  have HB4 := hid (HB3.out.trans (hb4.mono HB3.out.size))
  have HNA4 := hid ((hb4.block _ (hp_lt HNA3.out)).trans HNA3.out)
  have HNB4 := hid ((hb4.block _ (hp_lt HNB3.out)).trans HNB3.out)
  have HN4 := hid ((hb4.block _ (hp_lt HN3.out)).trans HN3.out)
  clear hb4 HB3 HN3 HNA3 HNB3
  rename_i Kx hKx
  refine hKx _ _ ?_
  clear hKx
  refine mv_row (by rfl) (.tmp 18) (by rfl) (.tuple #[.agg VD.toArray, .int .i64 E]) (by rfl) ?_
  refine ex_row (by rfl) (.tmp 16) 0 (by rfl) _ (by rfl) (.agg VD.toArray) rfl ?_
  refine ex_row (by rfl) (.tmp 16) 1 (by rfl) _ (by rfl) (.int .i64 E) rfl ?_
  refine al_row (by rfl) 41 (by rfl) _ HZ.out ?_
  refine st_new (by rfl) 41 (.tmp 9) (.tmp 19) (by rfl) VD (by rfl) (by rfl) _ _ HUL.out (by rw [List.size_toArray, HVL.out]) HONE.out ?_
  have HM5 := hid (hp_new w4 (.cells VD.toArray 41))
  have HB5 := hid (HB4.out.alloc HB4.out.size (.cells VD.toArray 41))
  have HNA5 := hid ((hp_old w4 (.cells VD.toArray 41) _ (hp_lt HNA4.out)).trans HNA4.out)
  have HNB5 := hid ((hp_old w4 (.cells VD.toArray 41) _ (hp_lt HNB4.out)).trans HNB4.out)
  have HN5 := hid ((hp_old w4 (.cells VD.toArray 41) _ (hp_lt HN4.out)).trans HN4.out)
  generalize w4.alloc (.cells VD.toArray 41) = w5 at HM5 HB5 HNA5 HNB5 HN5 ⊢
  clear HNA4 HNB4 HN4 HB4
  obtain ⟨h, HG⟩ : ∃ g, Hid (g = w4.heap.size) := ⟨_, rfl⟩
  rw [← HG.out] at HM5 ⊢
  clear HG
  go_upto_region 3 with fail
  have HF0 := hid (show Four w.heap.size (w.heap.size + 1) g h VA VB VD w5.drew from ⟨row_range' HNA5.out, row_range' HNB5.out, row_range' HN5.out, row_range' HM5.out⟩)
  have HQ0 := hid (show Below w.heap.size w w5.drew from ⟨HB5.out.os, HB5.out.tape, HB5.out.output, HB5.out.size, HB5.out.block⟩)
  clear HNA5 HNB5 HN5 HM5 HB5
  refine wp_noPanic (wp_region_held_drew (S := Four w.heap.size (w.heap.size + 1) g h VA VB VD) (by kernel_rfl) HF0.out ?_)
  intro hHeld
  refine wpAnyH_take (i := 0) (v := .agg VA.toArray) rfl (by kernel_rfl) (by kernel_rfl) (by kernel_rfl) (fun _ _ _ h => h) (yieldsIf_load_mid (by rfl) 41 (.tmp 3) rfl (w.heap.size) 0 rfl VA _ (fun W hW => hW.1) hu rfl HSA.out) hHeld ?_
  simp only [Act.put, List.getElem_toArray, List.getElem_cons_zero, List.setIfInBounds_toArray, List.set_cons_succ, List.set_cons_zero]
  refine wpAnyH_take (i := 2) (v := .agg VA.toArray) rfl (by kernel_rfl) (by kernel_rfl) (by kernel_rfl) (fun _ _ _ h => h) (yieldsIf_load_mid (by rfl) 41 (.tmp 3) rfl (w.heap.size) 0 rfl VA _ (fun W hW => hW.1) hu rfl HSA.out) hHeld ?_
  simp only [Act.put, List.getElem_toArray, List.getElem_cons_zero, List.getElem_cons_succ, List.setIfInBounds_toArray, List.set_cons_succ, List.set_cons_zero]
  refine wpAnyH_ready (rs := [1]) (by kernel_rfl) (by simp) ?_
  refine AllReadyH.cons rfl (fun K hK => ?_) AllReadyH.nil
  go_simp
  refine (HX1.out _).mono ?_
  rintro e v1 ⟨rfl, hb⟩
  have HF1 := hid (four_below HF0.out hb)
  have HQ1 := hid (HQ0.out.trans (hb.mono HQ0.out.size))
  clear hb
  go_wp2_with fail
  refine hK.out _ _ HF1.out (fun hHeld => ?_)
  clear hK K
  refine wpAnyH_ready (rs := [3]) (by kernel_rfl) (by simp) ?_
  refine AllReadyH.cons rfl (fun K hK => ?_) AllReadyH.nil
  go_simp
  refine (HX2.out _).mono ?_
  rintro e v2 ⟨rfl, hb⟩
  have HF2 := hid (four_below HF1.out hb)
  have HQ2 := hid (HQ1.out.trans (hb.mono HQ1.out.size))
  clear hb
  go_wp2_with fail
  refine hK.out _ _ HF2.out (fun hHeld => ?_)
  clear hK K
  refine wpAnyH_take (i := 4) (v := (.bool true)) rfl (by kernel_rfl) (by kernel_rfl) (by kernel_rfl) (fun _ _ _ h => h) (Or.inl ⟨by rfl, fun W _ => by go_simp⟩) hHeld ?_
  simp only [Act.put, List.getElem_toArray, List.getElem_cons_zero, List.getElem_cons_succ, List.setIfInBounds_toArray, List.set_cons_succ, List.set_cons_zero]
  refine wpAnyH_take (i := 5) (v := (.bool true)) rfl (by kernel_rfl) (by kernel_rfl) (by kernel_rfl) (fun _ _ _ h => h) (Or.inl ⟨by rfl, fun W _ => by go_simp⟩) hHeld ?_
  simp only [Act.put, List.getElem_toArray, List.getElem_cons_zero, List.getElem_cons_succ, List.setIfInBounds_toArray, List.set_cons_succ, List.set_cons_zero]
  refine wpAnyH_take (i := 6) (v := .agg VA.toArray) rfl (by kernel_rfl) (by kernel_rfl) (by kernel_rfl) (fun _ _ _ h => h) (yieldsIf_load_mid (by rfl) 41 (.tmp 3) rfl (w.heap.size) 0 rfl VA _ (fun W hW => hW.1) hu rfl HSA.out) hHeld ?_
  simp only [Act.put, List.getElem_toArray, List.getElem_cons_zero, List.getElem_cons_succ, List.setIfInBounds_toArray, List.set_cons_succ, List.set_cons_zero]
  refine wpAnyH_take (i := 7) (v := .agg VB.toArray) rfl (by kernel_rfl) (by kernel_rfl) (by kernel_rfl) (fun _ _ _ h => h) (yieldsIf_load_mid (by rfl) 41 (.tmp 4) rfl (w.heap.size + 1) 0 rfl VB _ (fun W hW => hW.2.1) hu rfl HSB.out) hHeld ?_
  simp only [Act.put, List.getElem_toArray, List.getElem_cons_zero, List.getElem_cons_succ, List.setIfInBounds_toArray, List.set_cons_succ, List.set_cons_zero]
  refine wpAnyH_take (i := 9) (v := .agg VA.toArray) rfl (by kernel_rfl) (by kernel_rfl) (by kernel_rfl) (fun _ _ _ h => h) (yieldsIf_load_mid (by rfl) 41 (.tmp 3) rfl (w.heap.size) 0 rfl VA _ (fun W hW => hW.1) hu rfl HSA.out) hHeld ?_
  simp only [Act.put, List.getElem_toArray, List.getElem_cons_zero, List.getElem_cons_succ, List.setIfInBounds_toArray, List.set_cons_succ, List.set_cons_zero]
  refine wpAnyH_take (i := 10) (v := .agg VB.toArray) rfl (by kernel_rfl) (by kernel_rfl) (by kernel_rfl) (fun _ _ _ h => h) (yieldsIf_load_mid (by rfl) 41 (.tmp 4) rfl (w.heap.size + 1) 0 rfl VB _ (fun W hW => hW.2.1) hu rfl HSB.out) hHeld ?_
  simp only [Act.put, List.getElem_toArray, List.getElem_cons_zero, List.getElem_cons_succ, List.setIfInBounds_toArray, List.set_cons_succ, List.set_cons_zero]
  refine wpAnyH_ready (rs := [8]) (by kernel_rfl) (by simp) ?_
  refine AllReadyH.cons rfl (fun K hK => ?_) AllReadyH.nil
  go_simp
  refine (HC1.out _).mono ?_
  rintro e v3 ⟨rfl, hb⟩
  have HF3 := hid (four_below HF2.out hb)
  have HQ3 := hid (HQ2.out.trans (hb.mono HQ2.out.size))
  clear hb
  go_wp2_with fail
  refine hK.out _ _ HF3.out (fun hHeld => ?_)
  clear hK K
  refine wpAnyH_ready (rs := [11]) (by kernel_rfl) (by simp) ?_
  refine AllReadyH.cons rfl (fun K hK => ?_) AllReadyH.nil
  go_simp
  refine (HC2.out _).mono ?_
  rintro e v4 ⟨rfl, hb⟩
  have HF4 := hid (four_below HF3.out hb)
  have HQ4 := hid (HQ3.out.trans (hb.mono HQ3.out.size))
  clear hb
  go_wp2_with fail
  refine hK.out _ _ HF4.out (fun hHeld => ?_)
  clear hK K
  refine wpAnyH_take (i := 12) (v := (.bool true)) rfl (by kernel_rfl) (by kernel_rfl) (by kernel_rfl) (fun _ _ _ h => h) (Or.inl ⟨by rfl, fun W _ => by go_simp⟩) hHeld ?_
  simp only [Act.put, List.getElem_toArray, List.getElem_cons_zero, List.getElem_cons_succ, List.setIfInBounds_toArray, List.set_cons_succ, List.set_cons_zero]
  refine wpAnyH_take (i := 13) (v := (.bool true)) rfl (by kernel_rfl) (by kernel_rfl) (by kernel_rfl) (fun _ _ _ h => h) (Or.inl ⟨by rfl, fun W _ => by go_simp⟩) hHeld ?_
  simp only [Act.put, List.getElem_toArray, List.getElem_cons_zero, List.getElem_cons_succ, List.setIfInBounds_toArray, List.set_cons_succ, List.set_cons_zero]
  refine wpAnyH_take (i := 14) (v := (.bool true)) rfl (by kernel_rfl) (by kernel_rfl) (by kernel_rfl) (fun _ _ _ h => h) (Or.inl ⟨by rfl, fun W _ => by go_simp⟩) hHeld ?_
  simp only [Act.put, List.getElem_toArray, List.getElem_cons_zero, List.getElem_cons_succ, List.setIfInBounds_toArray, List.set_cons_succ, List.set_cons_zero]
  refine wpAnyH_take (i := 15) (v := .agg VD.toArray) rfl (by kernel_rfl) (by kernel_rfl) (by kernel_rfl) (fun _ _ _ h => h) (yieldsIf_load_mid (by rfl) 41 (.tmp 7) rfl g 0 rfl VD _ (fun W hW => hW.2.2.1) hu rfl HUL.out) hHeld ?_
  simp only [Act.put, List.getElem_toArray, List.getElem_cons_zero, List.getElem_cons_succ, List.setIfInBounds_toArray, List.set_cons_succ, List.set_cons_zero]
  refine wpAnyH_take (i := 16) (v := .agg VD.toArray) rfl (by kernel_rfl) (by kernel_rfl) (by kernel_rfl) (fun _ _ _ h => h) (yieldsIf_load_mid (by rfl) 41 (.tmp 9) rfl h 0 rfl VD _ (fun W hW => hW.2.2.2) hu rfl HUL.out) hHeld ?_
  simp only [Act.put, List.getElem_toArray, List.getElem_cons_zero, List.getElem_cons_succ, List.setIfInBounds_toArray, List.set_cons_succ, List.set_cons_zero]
  refine wpAnyH_take (i := 17) (v := (.bool true)) rfl (by kernel_rfl) (by kernel_rfl) (by kernel_rfl) (fun _ _ _ h => h) (Or.inl ⟨by rfl, fun W _ => by have eq := HEQ.out; go_simp; first | done | simp [eq]⟩) hHeld ?_
  simp only [Act.put, List.getElem_toArray, List.getElem_cons_zero, List.getElem_cons_succ, List.setIfInBounds_toArray, List.set_cons_succ, List.set_cons_zero]
  refine wpAnyH_take (i := 18) (v := (.bool true)) rfl (by kernel_rfl) (by kernel_rfl) (by kernel_rfl) (fun _ _ _ h => h) (Or.inl ⟨by rfl, fun W _ => by go_simp⟩) hHeld ?_
  simp only [Act.put, List.getElem_toArray, List.getElem_cons_zero, List.getElem_cons_succ, List.setIfInBounds_toArray, List.set_cons_succ, List.set_cons_zero]
  refine wpAnyH_take (i := 19) (v := (.bool true)) rfl (by kernel_rfl) (by kernel_rfl) (by kernel_rfl) (fun _ _ _ h => h) (Or.inl ⟨by rfl, fun W _ => by go_simp⟩) hHeld ?_
  simp only [Act.put, List.getElem_toArray, List.getElem_cons_zero, List.getElem_cons_succ, List.setIfInBounds_toArray, List.set_cons_succ, List.set_cons_zero]
  refine wpAnyH_take (i := 20) (v := (.int .i64 E)) rfl (by kernel_rfl) (by kernel_rfl) (by kernel_rfl) (fun _ _ _ h => h) (Or.inl ⟨by rfl, fun W _ => by go_simp⟩) hHeld ?_
  simp only [Act.put, List.getElem_toArray, List.getElem_cons_zero, List.getElem_cons_succ, List.setIfInBounds_toArray, List.set_cons_succ, List.set_cons_zero]
  refine wpAnyH_take (i := 22) (v := (.int .i64 E)) rfl (by kernel_rfl) (by kernel_rfl) (by kernel_rfl) (fun _ _ _ h => h) (Or.inl ⟨by rfl, fun W _ => by go_simp⟩) hHeld ?_
  simp only [Act.put, List.getElem_toArray, List.getElem_cons_zero, List.getElem_cons_succ, List.setIfInBounds_toArray, List.set_cons_succ, List.set_cons_zero]
  refine wpAnyH_ready (rs := [21]) (by kernel_rfl) (by simp) ?_
  refine AllReadyH.cons rfl (fun K hK => ?_) AllReadyH.nil
  go_simp
  refine (num_any _ E).mono ?_
  rintro e w' ⟨rfl, hb⟩
  subst hb
  go_wp2_with fail
  refine hK.out _ _ HF4.out (fun hHeld => ?_)
  clear hK K
  refine wpAnyH_take (i := 23) (v := (.bool true)) rfl (by kernel_rfl) (by kernel_rfl) (by kernel_rfl) (fun _ _ _ h => h) (Or.inl ⟨by rfl, fun W _ => by go_simp⟩) hHeld ?_
  simp only [Act.put, List.getElem_toArray, List.getElem_cons_zero, List.getElem_cons_succ, List.setIfInBounds_toArray, List.set_cons_succ, List.set_cons_zero]
  refine wpAnyH_take (i := 24) (v := (.bool true)) rfl (by kernel_rfl) (by kernel_rfl) (by kernel_rfl) (fun _ _ _ h => h) (Or.inl ⟨by rfl, fun W _ => by go_simp⟩) hHeld ?_
  simp only [Act.put, List.getElem_toArray, List.getElem_cons_zero, List.getElem_cons_succ, List.setIfInBounds_toArray, List.set_cons_succ, List.set_cons_zero]
  refine wpAnyH_take (i := 25) (v := (.bool true)) rfl (by kernel_rfl) (by kernel_rfl) (by kernel_rfl) (fun _ _ _ h => h) (Or.inl ⟨by rfl, fun W _ => by go_simp⟩) hHeld ?_
  simp only [Act.put, List.getElem_toArray, List.getElem_cons_zero, List.getElem_cons_succ, List.setIfInBounds_toArray, List.set_cons_succ, List.set_cons_zero]
  refine wpAnyH_ready (rs := [26]) (by kernel_rfl) (by simp) ?_
  refine AllReadyH.cons rfl (fun K hK => ?_) AllReadyH.nil
  go_simp
  refine (awake_any _ (HT.out.below HQ4.out)).mono ?_
  rintro e v5 ⟨rfl, hb⟩
  have HF5 := hid (four_below HF4.out hb)
  have HQ5 := hid (HQ4.out.trans (hb.mono HQ4.out.size))
  clear hb
  go_wp2_with fail
  refine hK.out _ _ HF5.out (fun hHeld => ?_)
  clear hK K
  refine wpAnyH_take (i := 27) (v := (.bool true)) rfl (by kernel_rfl) (by kernel_rfl) (by kernel_rfl) (fun _ _ _ h => h) (Or.inl ⟨by rfl, fun W _ => by go_simp⟩) hHeld ?_
  simp only [Act.put, List.getElem_toArray, List.getElem_cons_zero, List.getElem_cons_succ, List.setIfInBounds_toArray, List.set_cons_succ, List.set_cons_zero]
  refine wpAnyH_take (i := 28) (v := (.bool true)) rfl (by kernel_rfl) (by kernel_rfl) (by kernel_rfl) (fun _ _ _ h => h) (Or.inl ⟨by rfl, fun W _ => by go_simp⟩) hHeld ?_
  simp only [Act.put, List.getElem_toArray, List.getElem_cons_zero, List.getElem_cons_succ, List.setIfInBounds_toArray, List.set_cons_succ, List.set_cons_zero]
  refine wpAnyH_done (by kernel_rfl) ?_ _
  simp only [noPanic]
  clear hHeld
  go_wp2_with fail
  go_ret
  exact ⟨rfl, HQ5.out⟩

end Go.Proofs.YticmdmnjajjpbaaDoor
