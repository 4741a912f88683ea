/- Contracts and pure facts that the proof needs, joined. -/
import Derived.Test.YtiibhccbbpgehabGreatG8
import Derived.Test.YtiibhccbbpgehabGreatG4
import Derived.Test.YtiibhccbbpgehabGreatG5
import Derived.Deep.CutRange

/- tells answers true where a decoder and the document's state stand alike. -/
namespace Go.Proofs.YtiibhccbbpgehabGreat
open Go.RowKit Go.BigFrame

set_option maxRecDepth 100000 in
set_option maxHeartbeats 8000000 in
theorem tells8_any (w : World) (base b M : Nat) (v vr vs : Value) (s : Sx) (h : Sd w base b v M s) (hr : Src w vr s.r) :
    Calls Tryz.prog 20 #[.pointer (some ⟨b, 0, none⟩), .agg (sxC M vr vs s).toArray] w fun e w' => e = .returned (.bool true) ∧ Below w.heap.size w w' := by
  have hrl := h.few
  have HRL := hid (show s.r.length ≤ 140737488355327 by omega)
  have HGD := hid h.good
  have HMB := hid h.big
  have HW0 := hid (below_walk w (.cells (sxC M vr vs s).toArray 52))
  have HK0 := hid (hp_new w (.cells (sxC M vr vs s).toArray 52))
  have HSD0 := hid (h.below HW0.out)
  have HXR0 := hid (hr.below HW0.out)
  obtain ⟨ar, cr, er0⟩ := src_shape hr
  have HER := hid er0
  clear er0
  have HSZ := hid (show (Tryz.prog.info? 52).map (·.size) = some (sxC M vr vs s).length from strmSize)
  have HRW := hid (fun (W : World) (hW : Src W vr s.r) => rwant8_any M s vr vs W hW HGD.out HMB.out)
  have HRE := hid (fun (W : World) (hW : Src W vr s.r) => rend8_any M s vr vs W hW (fun h9 => (HGD.out.ok h9).1))
  have HC1 := hid (fun (W : World) (B : Nat) (h9 : W.heap[B]? = some (.cells (sxC M vr vs s).toArray 52 (0, 0))) => (show W.cell? ⟨B, 1, none⟩ = some vr from (cell_of_row _ B 1 _ _ _ h9).trans rfl))
  clear h hr hrl
  go_enter Tryz.func20, Tryz.ntmps20
  go_upto_region 1 with (first | (refine bx_row (by rfl) 52 _ (by rfl) _ (by rfl) ?_))
  obtain ⟨B, HBe⟩ : ∃ n, Hid (w.heap.size = n) := ⟨_, rfl⟩
  rw [HBe.out] at HK0 ⊢
  generalize w.alloc (.cells (sxC M vr vs s).toArray 52) = w1 at HW0 HK0 HSD0 HXR0 ⊢
  have HC := hid (kcount_any HSD0.out)
  obtain ⟨ca, HCa⟩ : ∃ n, Hid (s.came = n) := ⟨_, rfl⟩
  obtain ⟨wh, HWh⟩ : ∃ n, Hid (s.whole = n) := ⟨_, rfl⟩
  rw [HCa.out, HWh.out] at HC
  go_wp2_with fail
  refine HC.out.mono ?_
  rintro e wc ⟨rfl, q5, hw5⟩
  have HB5 := hid (show Below w1.heap.size w1 wc by rw [hw5]; exact bel_drw w1 q5)
  have HSD := hid (HSD0.out.below HB5.out)
  have HK := hid (bel_keep HB5.out HK0.out)
  have HXR := hid (HXR0.out.below HB5.out)
  have HQ0 := hid (below_then HW0.out HB5.out)
  clear hw5 HC HSD0 HK0 HXR0
  have HC2 := hid (fun (W : World) (h9 : W.heap[B]? = some (.cells (sxC M vr vs s).toArray 52 (0, 0))) => (show W.cell? ⟨B, 2, none⟩ = some (.int .i64 (ca : Int)) from (cell_of_row _ B 2 _ _ _ h9).trans (by rw [← HCa.out]; rfl)))
  have HC3 := hid (fun (W : World) (h9 : W.heap[B]? = some (.cells (sxC M vr vs s).toArray 52 (0, 0))) => (show W.cell? ⟨B, 3, none⟩ = some (.int .i64 (wh : Int)) from (cell_of_row _ B 3 _ _ _ h9).trans (by rw [← HWh.out]; rfl)))
  obtain ⟨rl, HRl⟩ : ∃ n, Hid (s.r.length = n) := ⟨_, rfl⟩
  have er : vr = .slice ar rl cr := by rw [← HRl.out]; exact HER.out
  have HC1' := hid (fun (W : World) (h9 : W.heap[B]? = some (.cells (sxC M vr vs s).toArray 52 (0, 0))) => (show W.cell? ⟨B, 1, none⟩ = some (.slice ar rl cr) by rw [← er]; exact HC1.out W B h9))
  clear HC1
  have HC1 := hid HC1'.out
  clear HC1'
  have HRW' := hid (fun (W : World) (hW : Below wc.heap.size wc W) => HRW.out W (HXR.out.below hW))
  have HRE' := hid (fun (W : World) (hW : Below wc.heap.size wc W) => HRE.out W (HXR.out.below hW))
  clear HRW HRE
  have HRW := hid HRW'.out
  have HRE := hid HRE'.out
  clear HRW' HRE'
  have HT9 := hid trivial
  have nP : ∀ W, (binOp .eql 30 (.agg #[.int .i64 s.why, .int .i64 s.wat]) (.agg #[.int .i64 s.why, .int .i64 s.wat])).run Tryz.prog W = .ok (.bool true) W := fun W => by rw [fault_eql]; simp
  have nE : ∀ W, (binOp .eql 30 (.agg #[.int .i64 (stopP s).1, .int .i64 (stopP s).2]) (.agg #[.int .i64 (stopP s).1, .int .i64 (stopP s).2])).run Tryz.prog W = .ok (.bool true) W := fun W => by rw [fault_eql]; simp
  obtain ⟨SC, HSC⟩ : ∃ l, Hid (sxC M vr vs s = l) := ⟨_, rfl⟩
  have HKS := hid (show wc.heap[B]? = some (.cells SC.toArray 52 (0, 0)) by rw [← HSC.out]; exact HK.out)
  rw [HSC.out] at HSZ HRW HRE
  rw [er] at HXR
  clear er
  go_upto_region 2 with fail
  refine wp_noPanic (wp_region_held_drew (S := fun W => Below wc.heap.size wc W) (by kernel_rfl) (bel_drw wc 1) ?_)
  intro hHeld
  refine wpAnyH_take (i := 0) (v := .int .i64 (ca : Int)) rfl (by kernel_rfl) (by kernel_rfl) (by kernel_rfl) (fun _ _ _ h => h) (Or.inl ⟨by rfl, fun W _ => by go_simp⟩) hHeld ?_
  simp only [Act.put, List.getElem_toArray, List.getElem_cons_zero, List.setIfInBounds_toArray, List.set_cons_succ, List.set_cons_zero]
  refine wpAnyH_take (i := 1) (v := .pointer (some ⟨B, 2, none⟩)) rfl (by kernel_rfl) (by kernel_rfl) (by kernel_rfl) (fun _ _ _ h => h) (Or.inl ⟨by rfl, fun W _ => by go_simp⟩) hHeld ?_
  simp only [Act.put, List.getElem_toArray, List.getElem_cons_zero, List.getElem_cons_succ, List.setIfInBounds_toArray, List.set_cons_succ, List.set_cons_zero]
  refine wpAnyH_take (i := 2) (v := .int .i64 (ca : Int)) rfl (by kernel_rfl) (by kernel_rfl) (by kernel_rfl) (fun _ _ _ h => h) (Or.inl ⟨by rfl, fun W hW => by have hcell := HC2.out W (bel_keep hW HK.out); clear hW; go_simp⟩) hHeld ?_
  simp only [Act.put, List.getElem_toArray, List.getElem_cons_zero, List.getElem_cons_succ, List.setIfInBounds_toArray, List.set_cons_succ, List.set_cons_zero]
  refine wpAnyH_take (i := 3) (v := .bool true) rfl (by kernel_rfl) (by kernel_rfl) (by kernel_rfl) (fun _ _ _ h => h) (Or.inl ⟨by rfl, fun W _ => by have hfact := HT9.out; go_simp; first | done | simp [hfact]⟩) hHeld ?_
  simp only [Act.put, List.getElem_toArray, List.getElem_cons_zero, List.getElem_cons_succ, List.setIfInBounds_toArray, List.set_cons_succ, List.set_cons_zero]
  refine wpAnyH_take (i := 4) (v := .bool true) rfl (by kernel_rfl) (by kernel_rfl) (by kernel_rfl) (fun _ _ _ h => h) (Or.inl ⟨by rfl, fun W _ => by go_simp⟩) hHeld ?_
  simp only [Act.put, List.getElem_toArray, List.getElem_cons_zero, List.getElem_cons_succ, List.setIfInBounds_toArray, List.set_cons_succ, List.set_cons_zero]
  refine wpAnyH_take (i := 5) (v := .int .i64 (wh : Int)) rfl (by kernel_rfl) (by kernel_rfl) (by kernel_rfl) (fun _ _ _ h => h) (Or.inl ⟨by rfl, fun W _ => by go_simp⟩) hHeld ?_
  simp only [Act.put, List.getElem_toArray, List.getElem_cons_zero, List.getElem_cons_succ, List.setIfInBounds_toArray, List.set_cons_succ, List.set_cons_zero]
  refine wpAnyH_take (i := 6) (v := .pointer (some ⟨B, 3, none⟩)) rfl (by kernel_rfl) (by kernel_rfl) (by kernel_rfl) (fun _ _ _ h => h) (Or.inl ⟨by rfl, fun W _ => by go_simp⟩) hHeld ?_
  simp only [Act.put, List.getElem_toArray, List.getElem_cons_zero, List.getElem_cons_succ, List.setIfInBounds_toArray, List.set_cons_succ, List.set_cons_zero]
  refine wpAnyH_take (i := 7) (v := .int .i64 (wh : Int)) rfl (by kernel_rfl) (by kernel_rfl) (by kernel_rfl) (fun _ _ _ h => h) (Or.inl ⟨by rfl, fun W hW => by have hcell := HC3.out W (bel_keep hW HK.out); clear hW; go_simp⟩) hHeld ?_
  simp only [Act.put, List.getElem_toArray, List.getElem_cons_zero, List.getElem_cons_succ, List.setIfInBounds_toArray, List.set_cons_succ, List.set_cons_zero]
  refine wpAnyH_take (i := 8) (v := .bool true) rfl (by kernel_rfl) (by kernel_rfl) (by kernel_rfl) (fun _ _ _ h => h) (Or.inl ⟨by rfl, fun W _ => by have hfact := HT9.out; go_simp; first | done | simp [hfact]⟩) hHeld ?_
  simp only [Act.put, List.getElem_toArray, List.getElem_cons_zero, List.getElem_cons_succ, List.setIfInBounds_toArray, List.set_cons_succ, List.set_cons_zero]
  refine wpAnyH_take (i := 9) (v := .bool true) rfl (by kernel_rfl) (by kernel_rfl) (by kernel_rfl) (fun _ _ _ h => h) (Or.inl ⟨by rfl, fun W _ => by go_simp⟩) hHeld ?_
  simp only [Act.put, List.getElem_toArray, List.getElem_cons_zero, List.getElem_cons_succ, List.setIfInBounds_toArray, List.set_cons_succ, List.set_cons_zero]
  refine wpAnyH_take (i := 10) (v := .bool true) rfl (by kernel_rfl) (by kernel_rfl) (by kernel_rfl) (fun _ _ _ h => h) (Or.inl ⟨by rfl, fun W _ => by go_simp⟩) hHeld ?_
  simp only [Act.put, List.getElem_toArray, List.getElem_cons_zero, List.getElem_cons_succ, List.setIfInBounds_toArray, List.set_cons_succ, List.set_cons_zero]
  refine wpAnyH_take (i := 11) (v := .pointer (some ⟨b, 0, none⟩)) rfl (by kernel_rfl) (by kernel_rfl) (by kernel_rfl) (fun _ _ _ h => h) (Or.inl ⟨by rfl, fun W _ => by go_simp⟩) hHeld ?_
  simp only [Act.put, List.getElem_toArray, List.getElem_cons_zero, List.getElem_cons_succ, List.setIfInBounds_toArray, List.set_cons_succ, List.set_cons_zero]
  refine wpAnyH_take (i := 14) (v := .pointer (some ⟨B, 1, none⟩)) rfl (by kernel_rfl) (by kernel_rfl) (by kernel_rfl) (fun _ _ _ h => h) (Or.inl ⟨by rfl, fun W _ => by go_simp⟩) hHeld ?_
  simp only [Act.put, List.getElem_toArray, List.getElem_cons_zero, List.getElem_cons_succ, List.setIfInBounds_toArray, List.set_cons_succ, List.set_cons_zero]
  refine wpAnyH_take (i := 15) (v := .slice ar rl cr) rfl (by kernel_rfl) (by kernel_rfl) (by kernel_rfl) (fun _ _ _ h => h) (Or.inl ⟨by rfl, fun W hW => by have hcell := HC1.out W (bel_keep hW HK.out); clear hW; go_simp⟩) hHeld ?_
  simp only [Act.put, List.getElem_toArray, List.getElem_cons_zero, List.getElem_cons_succ, List.setIfInBounds_toArray, List.set_cons_succ, List.set_cons_zero]
  refine wpAnyH_take (i := 16) (v := .string ⟨s.r.toArray⟩) rfl (by kernel_rfl) (by kernel_rfl) (by kernel_rfl) (fun _ _ _ h => h) (Or.inl ⟨by rfl, fun W hW => by have hfact := run_str (HXR.out.below hW); clear hW; go_simp; first | done | simp [hfact]⟩) hHeld ?_
  simp only [Act.put, List.getElem_toArray, List.getElem_cons_zero, List.getElem_cons_succ, List.setIfInBounds_toArray, List.set_cons_succ, List.set_cons_zero]
  refine wpAnyH_ready (rs := [12]) (by kernel_rfl) (by simp) ?_
  refine AllReadyH.cons rfl (fun K hK => ?_) AllReadyH.nil
  go_simp
  refine ((krest_any (HSD.out.below hHeld))).mono ?_
  rintro e w11 ⟨va, rfl, ho, hb⟩
  have HQ11 := hid (below_then hHeld hb)
  have HV1 := hid (ho.src HRL.out)
  clear ho hb
  go_wp2_with fail
  refine hK.out _ _ HQ11.out (fun hHeld => ?_)
  clear hK K
  try simp only [Act.put, List.getElem_toArray, List.getElem_cons_zero, List.getElem_cons_succ, List.setIfInBounds_toArray, List.set_cons_succ, List.set_cons_zero]
  refine wpAnyH_turn (S' := fun W => Below w11.heap.size w11 W) (fun W hW => below_then HQ11.out hW) _ _ _ _ ?_
  clear hHeld
  have hHeld : (fun W => Below w11.heap.size w11 W) _ := Below.refl _ _
  refine wpAnyH_take (i := 13) (v := .string ⟨s.r.toArray⟩) rfl (by kernel_rfl) (by kernel_rfl) (by kernel_rfl) (fun _ _ _ h => h) (Or.inl ⟨by rfl, fun W hW => by have hfact := run_str (HV1.out.below hW); clear hW; go_simp; first | done | simp [hfact]⟩) hHeld ?_
  simp only [Act.put, List.getElem_toArray, List.getElem_cons_zero, List.getElem_cons_succ, List.setIfInBounds_toArray, List.set_cons_succ, List.set_cons_zero]
  refine wpAnyH_take (i := 17) (v := .bool true) rfl (by kernel_rfl) (by kernel_rfl) (by kernel_rfl) (fun _ _ _ h => h) (Or.inl ⟨by rfl, fun W _ => by have hfact := HT9.out; go_simp; first | done | simp [hfact]⟩) hHeld ?_
  simp only [Act.put, List.getElem_toArray, List.getElem_cons_zero, List.getElem_cons_succ, List.setIfInBounds_toArray, List.set_cons_succ, List.set_cons_zero]
  refine wpAnyH_take (i := 18) (v := .bool true) rfl (by kernel_rfl) (by kernel_rfl) (by kernel_rfl) (fun _ _ _ h => h) (Or.inl ⟨by rfl, fun W _ => by go_simp⟩) hHeld ?_
  simp only [Act.put, List.getElem_toArray, List.getElem_cons_zero, List.getElem_cons_succ, List.setIfInBounds_toArray, List.set_cons_succ, List.set_cons_zero]
  refine wpAnyH_take (i := 19) (v := .bool true) rfl (by kernel_rfl) (by kernel_rfl) (by kernel_rfl) (fun _ _ _ h => h) (Or.inl ⟨by rfl, fun W _ => by go_simp⟩) hHeld ?_
  simp only [Act.put, List.getElem_toArray, List.getElem_cons_zero, List.getElem_cons_succ, List.setIfInBounds_toArray, List.set_cons_succ, List.set_cons_zero]
  refine wpAnyH_take (i := 20) (v := .pointer (some ⟨b, 0, none⟩)) rfl (by kernel_rfl) (by kernel_rfl) (by kernel_rfl) (fun _ _ _ h => h) (Or.inl ⟨by rfl, fun W _ => by go_simp⟩) hHeld ?_
  simp only [Act.put, List.getElem_toArray, List.getElem_cons_zero, List.getElem_cons_succ, List.setIfInBounds_toArray, List.set_cons_succ, List.set_cons_zero]
  refine wpAnyH_take (i := 22) (v := .agg SC.toArray) rfl (by kernel_rfl) (by kernel_rfl) (by kernel_rfl) (fun _ _ _ h => h) (yieldsIf_load_mid (by rfl) 52 (.tmp 3) rfl B 0 rfl SC _ (fun W hW => range_row (bel_keep (below_then HQ11.out hW) HKS.out)) Tryz.underlying52 rfl HSZ.out) hHeld ?_
  simp only [Act.put, List.getElem_toArray, List.getElem_cons_zero, List.getElem_cons_succ, List.setIfInBounds_toArray, List.set_cons_succ, List.set_cons_zero]
  refine wpAnyH_ready (rs := [21]) (by kernel_rfl) (by simp) ?_
  refine AllReadyH.cons rfl (fun K hK => ?_) AllReadyH.nil
  go_simp
  refine ((kwant_any (HSD.out.below HQ11.out))).mono ?_
  rintro e w12 ⟨rfl, hb⟩
  have HQ12 := hid (below_then HQ11.out hb)
  have HH12 := hid (below_then (Below.refl w11.heap.size w11) hb)
  clear hb
  go_wp2_with fail
  refine hK.out _ _ HH12.out (fun hHeld => ?_)
  clear hK K
  try simp only [Act.put, List.getElem_toArray, List.getElem_cons_zero, List.getElem_cons_succ, List.setIfInBounds_toArray, List.set_cons_succ, List.set_cons_zero]
  refine wpAnyH_ready (rs := [23]) (by kernel_rfl) (by simp) ?_
  refine AllReadyH.cons rfl (fun K hK => ?_) AllReadyH.nil
  go_simp
  refine ((HRW.out w12 HQ12.out)).mono ?_
  rintro e w13 ⟨rfl, hb⟩
  have HQ13 := hid (below_then HQ12.out hb)
  have HH13 := hid (below_then HH12.out hb)
  clear hb
  go_wp2_with fail
  refine hK.out _ _ HH13.out (fun hHeld => ?_)
  clear hK K
  try simp only [Act.put, List.getElem_toArray, List.getElem_cons_zero, List.getElem_cons_succ, List.setIfInBounds_toArray, List.set_cons_succ, List.set_cons_zero]
  refine wpAnyH_take (i := 24) (v := .bool true) rfl (by kernel_rfl) (by kernel_rfl) (by kernel_rfl) (fun _ _ _ h => h) (Or.inl ⟨by rfl, fun W _ => by have hfact := HT9.out; go_simp; first | done | simp [hfact]⟩) hHeld ?_
  simp only [Act.put, List.getElem_toArray, List.getElem_cons_zero, List.getElem_cons_succ, List.setIfInBounds_toArray, List.set_cons_succ, List.set_cons_zero]
  refine wpAnyH_take (i := 25) (v := .bool true) rfl (by kernel_rfl) (by kernel_rfl) (by kernel_rfl) (fun _ _ _ h => h) (Or.inl ⟨by rfl, fun W _ => by go_simp⟩) hHeld ?_
  simp only [Act.put, List.getElem_toArray, List.getElem_cons_zero, List.getElem_cons_succ, List.setIfInBounds_toArray, List.set_cons_succ, List.set_cons_zero]
  refine wpAnyH_take (i := 26) (v := .bool true) rfl (by kernel_rfl) (by kernel_rfl) (by kernel_rfl) (fun _ _ _ h => h) (Or.inl ⟨by rfl, fun W _ => by go_simp⟩) hHeld ?_
  simp only [Act.put, List.getElem_toArray, List.getElem_cons_zero, List.getElem_cons_succ, List.setIfInBounds_toArray, List.set_cons_succ, List.set_cons_zero]
  refine wpAnyH_take (i := 27) (v := .pointer (some ⟨b, 0, none⟩)) rfl (by kernel_rfl) (by kernel_rfl) (by kernel_rfl) (fun _ _ _ h => h) (Or.inl ⟨by rfl, fun W _ => by go_simp⟩) hHeld ?_
  simp only [Act.put, List.getElem_toArray, List.getElem_cons_zero, List.getElem_cons_succ, List.setIfInBounds_toArray, List.set_cons_succ, List.set_cons_zero]
  refine wpAnyH_take (i := 29) (v := .pointer (some ⟨B, 4, none⟩)) rfl (by kernel_rfl) (by kernel_rfl) (by kernel_rfl) (fun _ _ _ h => h) (Or.inl ⟨by rfl, fun W _ => by go_simp⟩) hHeld ?_
  simp only [Act.put, List.getElem_toArray, List.getElem_cons_zero, List.getElem_cons_succ, List.setIfInBounds_toArray, List.set_cons_succ, List.set_cons_zero]
  refine wpAnyH_take (i := 30) (v := .agg [Value.int .i64 s.why, .int .i64 s.wat].toArray) rfl (by kernel_rfl) (by kernel_rfl) (by kernel_rfl) (fun _ _ _ h => h) (yieldsIf_load_mid (by rfl) 30 (.tmp 41) rfl B 4 rfl [Value.int .i64 s.why, .int .i64 s.wat] _ (fun W hW => range_4 (bel_keep (below_then HQ11.out hW) HK.out)) Tryz.underlying30 rfl faultSize) hHeld ?_
  simp only [Act.put, List.getElem_toArray, List.getElem_cons_zero, List.getElem_cons_succ, List.setIfInBounds_toArray, List.set_cons_succ, List.set_cons_zero]
  refine wpAnyH_ready (rs := [28]) (by kernel_rfl) (by simp) ?_
  refine AllReadyH.cons rfl (fun K hK => ?_) AllReadyH.nil
  go_simp
  refine ((kpoison_any (HSD.out.below HQ13.out))).mono ?_
  rintro e w14 ⟨rfl, hb⟩
  have HQ14 := hid (below_then HQ13.out hb)
  have HH14 := hid (below_then HH13.out hb)
  clear hb
  go_wp2_with fail
  refine hK.out _ _ HH14.out (fun hHeld => ?_)
  clear hK K
  try simp only [Act.put, List.getElem_toArray, List.getElem_cons_zero, List.getElem_cons_succ, List.setIfInBounds_toArray, List.set_cons_succ, List.set_cons_zero]
  refine wpAnyH_take (i := 31) (v := .bool true) rfl (by kernel_rfl) (by kernel_rfl) (by kernel_rfl) (fun _ _ _ h => h) (Or.inl ⟨by rfl, fun W _ => by have hfact := nP; go_simp; first | done | simp [hfact]⟩) hHeld ?_
  simp only [Act.put, List.getElem_toArray, List.getElem_cons_zero, List.getElem_cons_succ, List.setIfInBounds_toArray, List.set_cons_succ, List.set_cons_zero]
  refine wpAnyH_take (i := 32) (v := .bool true) rfl (by kernel_rfl) (by kernel_rfl) (by kernel_rfl) (fun _ _ _ h => h) (Or.inl ⟨by rfl, fun W _ => by go_simp⟩) hHeld ?_
  simp only [Act.put, List.getElem_toArray, List.getElem_cons_zero, List.getElem_cons_succ, List.setIfInBounds_toArray, List.set_cons_succ, List.set_cons_zero]
  refine wpAnyH_take (i := 33) (v := .bool true) rfl (by kernel_rfl) (by kernel_rfl) (by kernel_rfl) (fun _ _ _ h => h) (Or.inl ⟨by rfl, fun W _ => by go_simp⟩) hHeld ?_
  simp only [Act.put, List.getElem_toArray, List.getElem_cons_zero, List.getElem_cons_succ, List.setIfInBounds_toArray, List.set_cons_succ, List.set_cons_zero]
  refine wpAnyH_take (i := 34) (v := .pointer (some ⟨b, 0, none⟩)) rfl (by kernel_rfl) (by kernel_rfl) (by kernel_rfl) (fun _ _ _ h => h) (Or.inl ⟨by rfl, fun W _ => by go_simp⟩) hHeld ?_
  simp only [Act.put, List.getElem_toArray, List.getElem_cons_zero, List.getElem_cons_succ, List.setIfInBounds_toArray, List.set_cons_succ, List.set_cons_zero]
  refine wpAnyH_take (i := 36) (v := .agg SC.toArray) rfl (by kernel_rfl) (by kernel_rfl) (by kernel_rfl) (fun _ _ _ h => h) (yieldsIf_load_mid (by rfl) 52 (.tmp 3) rfl B 0 rfl SC _ (fun W hW => range_row (bel_keep (below_then HQ11.out hW) HKS.out)) Tryz.underlying52 rfl HSZ.out) hHeld ?_
  simp only [Act.put, List.getElem_toArray, List.getElem_cons_zero, List.getElem_cons_succ, List.setIfInBounds_toArray, List.set_cons_succ, List.set_cons_zero]
  refine wpAnyH_ready (rs := [35]) (by kernel_rfl) (by simp) ?_
  refine AllReadyH.cons rfl (fun K hK => ?_) AllReadyH.nil
  go_simp
  refine ((kend_any (HSD.out.below HQ14.out))).mono ?_
  rintro e w15 ⟨rfl, hb⟩
  have HQ15 := hid (below_then HQ14.out hb)
  have HH15 := hid (below_then HH14.out hb)
  clear hb
  go_wp2_with fail
  refine hK.out _ _ HH15.out (fun hHeld => ?_)
  clear hK K
  try simp only [Act.put, List.getElem_toArray, List.getElem_cons_zero, List.getElem_cons_succ, List.setIfInBounds_toArray, List.set_cons_succ, List.set_cons_zero]
  refine wpAnyH_ready (rs := [37]) (by kernel_rfl) (by simp) ?_
  refine AllReadyH.cons rfl (fun K hK => ?_) AllReadyH.nil
  go_simp
  refine ((HRE.out w15 HQ15.out)).mono ?_
  rintro e w16 ⟨rfl, hb⟩
  have HQ16 := hid (below_then HQ15.out hb)
  have HH16 := hid (below_then HH15.out hb)
  clear hb
  go_wp2_with fail
  refine hK.out _ _ HH16.out (fun hHeld => ?_)
  clear hK K
  try simp only [Act.put, List.getElem_toArray, List.getElem_cons_zero, List.getElem_cons_succ, List.setIfInBounds_toArray, List.set_cons_succ, List.set_cons_zero]
  refine wpAnyH_take (i := 38) (v := .bool true) rfl (by kernel_rfl) (by kernel_rfl) (by kernel_rfl) (fun _ _ _ h => h) (Or.inl ⟨by rfl, fun W _ => by have hfact := nE; go_simp; first | done | simp [hfact]⟩) hHeld ?_
  simp only [Act.put, List.getElem_toArray, List.getElem_cons_zero, List.getElem_cons_succ, List.setIfInBounds_toArray, List.set_cons_succ, List.set_cons_zero]
  refine wpAnyH_take (i := 39) (v := .bool true) rfl (by kernel_rfl) (by kernel_rfl) (by kernel_rfl) (fun _ _ _ h => h) (Or.inl ⟨by rfl, fun W _ => by go_simp⟩) hHeld ?_
  simp only [Act.put, List.getElem_toArray, List.getElem_cons_zero, List.getElem_cons_succ, List.setIfInBounds_toArray, List.set_cons_succ, List.set_cons_zero]
  refine wpAnyH_take (i := 40) (v := .bool true) rfl (by kernel_rfl) (by kernel_rfl) (by kernel_rfl) (fun _ _ _ h => h) (Or.inl ⟨by rfl, fun W _ => by go_simp⟩) hHeld ?_
  simp only [Act.put, List.getElem_toArray, List.getElem_cons_zero, List.getElem_cons_succ, List.setIfInBounds_toArray, List.set_cons_succ, List.set_cons_zero]
  refine wpAnyH_done (by kernel_rfl) ?_ _
  simp only [noPanic]
  clear hHeld
  have HB9 := hid (below_then HQ0.out HQ16.out)
  go_wp2
  go_ret
  exact ⟨rfl, HB9.out⟩
end Go.Proofs.YtiibhccbbpgehabGreat

/- Rows that may be written over: what is kept of them. -/
namespace Go.Proofs.YtiibhccbbpgehabGreat
open Go.RowKit Go.BigFrame

/-- v owns n things, whatever they are -/
def Rw (w : World) (base : Nat) (e : TypeId) (sz : Nat) (v : Value) (n : Nat) : Prop := ∃ xs, w.ownsRow base e sz v n xs
section
variable {w w' : World} {base : Nat} {e : TypeId} {sz : Nat} {v : Value} {n : Nat}
theorem Rw.below (h : Rw w base e sz v n) (hb : Below w.heap.size w w') : Rw w' base e sz v n := ⟨_, own_below h.choose_spec hb⟩
theorem Rw.set (h : Rw w base e sz v n) (g k : Nat) (u : Value) : Rw (w.setCell ⟨g, k, none⟩ u) base e sz v n := by
  obtain ⟨xs, h⟩ := h
  by_cases hk : v.ownBlock = some g
  · rcases h.2 with ⟨rfl, h0⟩ | ⟨g', cap, cur, rfl, hb, hh, r1, r2, r3, r4⟩
    · cases hk
    · simp only [Value.ownBlock, Option.some.injEq] at hk
      subst hk
      refine ⟨(cur.setIfInBounds k u).toList.take (n * sz), ?_, Or.inr ⟨g', cap, cur.setIfInBounds k u, rfl, hb, blk_set hh u, r1, r2, by simpa using r3, rfl⟩⟩
      rw [List.length_take]
      have : n * sz ≤ cap * sz := Nat.mul_le_mul_right sz r1
      simp
      omega
  · exact ⟨xs, own_far2 h (gb_set w ⟨g, k, none⟩ u) (fun k9 e1 e2 => hk (by simpa [← e2] using e1))⟩
theorem Rw.at (h : Rw w base e sz v n) (k : Nat) (hk : k < n * sz) : ∃ g cap cur u, v = .slice (some ⟨g, 0, none⟩) n cap ∧ base ≤ g ∧ w.heap[g]? = some (.cells cur e (0, 0)) ∧ w.cell? ⟨g, k, none⟩ = some u ∧ w.frozen? ⟨g, k, none⟩ = false := by
  obtain ⟨xs, h⟩ := h
  rcases h.2 with ⟨rfl, h0⟩ | ⟨g, cap, cur, hv, hb, hh, r1, r2, r3, r4⟩
  · rw [h0, Nat.zero_mul] at hk; omega
  · have hc : k < cur.size := by rw [r3]; exact Nat.lt_of_lt_of_le hk (Nat.mul_le_mul_right sz r1)
    exact ⟨g, cap, cur, cur[k], hv, hb, hh, by rw [cell_of_row w g k cur e (0, 0) hh]; simp [hc], by simp [World.frozen?, hh]⟩
theorem Rw.shape (h : Rw w base e sz v n) : ∃ a c, v = .slice a n c := by
  obtain ⟨xs, h⟩ := h
  rcases h.2 with ⟨rfl, h0⟩ | ⟨g, cap, cur, rfl, _⟩
  · exact ⟨none, 0, by rw [h0]⟩
  · exact ⟨_, _, rfl⟩
end
/-- frames that may be written over: their lists' rows -/
def Lf (w : World) (base : Nat) (vl : Value) (vas : List Value) : Prop :=
  ∃ xs, w.ownsRow base 65 42 vl vas.length xs ∧ (∀ i u, vas[i]? = some u → xs[i * 42 + 40]? = some u) ∧ ∀ u ∈ vas, ∃ n, Rw w base 9 1 u n
theorem OFs.lf {w : World} {base : Nat} {v : Value} {fs : List FV} (h : OFs w base v fs) : Lf w base v (fs.map (·.2)) := by
  refine ⟨frsV fs, by rw [List.length_map]; exact h.own, fun i u hu => ?_, fun u hu => ?_⟩
  · rw [List.getElem?_map] at hu
    cases hf : fs[i]? with
    | none => rw [hf] at hu; cases hu
    | some f =>
      rw [hf] at hu
      simp at hu
      have hi : i < fs.length := (List.getElem?_eq_some_iff.1 hf).1
      rw [frsV_get fs h.tools i 40 hi (by omega)]
      have e : fs.getD i zFV = f := by rw [List.getD_eq_getElem?_getD, hf]; rfl
      rw [e]
      have ht := h.tools f (List.mem_of_getElem? hf)
      have hl : (bytesV f.1.tool).length = 32 := by simp [bytesV, ht]
      unfold fcells
      simp [hl, hu]
  · obtain ⟨f, hf, rfl⟩ := List.mem_map.1 hu
    exact ⟨_, _, (h.each f hf).1⟩
section
variable {w w' : World} {base : Nat} {vl : Value} {vas : List Value}
theorem Lf.shape (h : Lf w base vl vas) : ∃ a c, vl = .slice a vas.length c := Rw.shape ⟨_, h.choose_spec.1⟩
theorem Lf.at (h : Lf w base vl vas) (i : Nat) (hi : i < vas.length) : ∃ g cap cur u, vl = .slice (some ⟨g, 0, none⟩) vas.length cap ∧ base ≤ g ∧ w.heap[g]? = some (.cells cur 65 (0, 0)) ∧ w.cell? ⟨g, i * 42 + 40, none⟩ = some (vas.getD i nS) ∧ w.cell? ⟨g, i * 42 + 1, none⟩ = some u ∧ w.frozen? ⟨g, i * 42 + 1, none⟩ = false ∧ ∃ n, Rw w base 9 1 (vas.getD i nS) n := by
  obtain ⟨xs, h1, h2, h3⟩ := h
  have hv : vas[i]? = some (vas.getD i nS) := by rw [List.getD_eq_getElem?_getD, List.getElem?_eq_getElem hi]; rfl
  obtain ⟨g, cap, cur, u, e1, e2, e3, e4, e5⟩ := Rw.at ⟨xs, h1⟩ (i * 42 + 1) (by omega)
  have h4 := World.ownsRow.cells h1 (g := g) (by rw [e1]; rfl) (i * 42 + 40) _ (h2 i _ hv)
  rw [addr_add] at h4
  exact ⟨g, cap, cur, u, e1, e2, e3, h4, e4, e5, h3 _ (by rw [List.getD_eq_getElem?_getD, List.getElem?_eq_getElem hi]; exact List.getElem_mem hi)⟩
theorem Lf.setS (h : Lf w base vl vas) {g k : Nat} {u : Value} {cs : Array Value} (hb : w.heap[g]? = some (.cells cs 9 (0, 0))) : Lf (w.setCell ⟨g, k, none⟩ u) base vl vas := by
  obtain ⟨xs, h1, h2, h3⟩ := h
  exact ⟨xs, own_set h1 hb (by decide), h2, fun u hu => let ⟨n, hn⟩ := h3 u hu; ⟨n, hn.set g k _⟩⟩
theorem Lf.setId (h : Lf w base vl vas) {g cap : Nat} (i : Nat) (u : Value) (e : vl = .slice (some ⟨g, 0, none⟩) vas.length cap) : Lf (w.setCell ⟨g, i * 42 + 1, none⟩ u) base vl vas := by
  obtain ⟨xs, h1, h2, h3⟩ := h
  rcases h1.2 with ⟨e0, h0⟩ | ⟨g', cap', cur, hv, hb, hh, r1, r2, r3, r4⟩
  · rw [e] at e0; injection e0 with e0; cases e0
  · rw [e] at hv
    injection hv with hv1 hv2 hv3
    injection hv1 with hv1
    injection hv1 with hv1
    subst hv1 hv3
    refine ⟨(cur.setIfInBounds (i * 42 + 1) u).toList.take (vas.length * 42), ⟨?_, Or.inr ⟨g, cap, cur.setIfInBounds (i * 42 + 1) u, e, hb, blk_set hh u, r1, r2, by simpa using r3, rfl⟩⟩, fun j x hx => ?_, fun x hx => let ⟨n, hn⟩ := h3 x hx; ⟨n, hn.set g _ _⟩⟩
    · rw [List.length_take]
      have : vas.length * 42 ≤ cap * 42 := Nat.mul_le_mul_right 42 r1
      simp
      omega
    · have h4 := h2 j x hx
      have hj : j < vas.length := (List.getElem?_eq_some_iff.1 hx).1
      rw [← r4, List.getElem?_take, if_pos (by omega)] at h4
      rw [List.getElem?_take, if_pos (by omega), Array.toList_setIfInBounds, List.getElem?_set]
      rw [if_neg (by omega)]
      exact h4
theorem Lf.below (h : Lf w base vl vas) (hb : Below w.heap.size w w') : Lf w' base vl vas := by
  obtain ⟨xs, h1, h2, h3⟩ := h
  exact ⟨xs, own_below h1 hb, h2, fun u hu => let ⟨n, hn⟩ := h3 u hu; ⟨n, hn.below hb⟩⟩
end
end Go.Proofs.YtiibhccbbpgehabGreat

/- The document's Same of frames that are alike. -/
namespace Go.Proofs.YtiibhccbbpgehabGreat
open Go.RowKit Go.BigFrame

theorem map_at {fs gs : List FV} (h : fs.map (·.1) = gs.map (·.1)) (k : Nat) : (fs.getD k zFV).1 = (gs.getD k zFV).1 := by
  have h1 : (fs.map (·.1))[k]? = (gs.map (·.1))[k]? := by rw [h]
  rw [List.getElem?_map, List.getElem?_map] at h1
  rw [List.getD_eq_getElem?_getD, List.getD_eq_getElem?_getD]
  cases h2 : fs[k]? with
  | none =>
    rw [h2] at h1
    cases h3 : gs[k]? with
    | none => rfl
    | some b => rw [h3] at h1; cases h1
  | some a =>
    rw [h2] at h1
    cases h3 : gs[k]? with
    | none => rw [h3] at h1; cases h1
    | some b => rw [h3] at h1; simpa using h1

set_option maxRecDepth 100000 in
set_option maxHeartbeats 4000000 in
theorem rsl_any (va vb : Value) (fs gs : List FV) (w : World) (ha : Frs w va fs) (hb : Frs w vb gs) (h : fs.map (·.1) = gs.map (·.1)) (hn : fs.length ≤ 140737488355327) :
    Calls Tryz.prog 19 #[va, vb] w fun e w' => e = .returned (.bool true) ∧ Below w.heap.size w w' := by
  have hlen : gs.length = fs.length := by have := congrArg List.length h; simpa using this.symm
  obtain ⟨aa, ca, rfl⟩ := ha.shape
  obtain ⟨ab, cb, eb⟩ := hb.shape
  rw [hlen] at eb
  subst eb
  have HA := hid ha
  have HB := hid hb
  have HM := hid (map_at h)
  have HLN := hid hlen
  clear ha hb h hlen
  go_enter Tryz.func19, Tryz.ntmps19
  go_wp2
  go_loopw [5] (fun vi wr => ∃ k : Nat, k ≤ fs.length ∧ vi = .int .i64 k ∧ Hid (Below w.heap.size w wr)) (fun vi _ => fs.length - (intOf vi).toNat)
  case atStart => exact ⟨0, by omega, rfl, Below.refl _ _⟩
  case round =>
    obtain ⟨k, hk, rfl, HBL⟩ := hrel
    by_cases hlt : k < fs.length
    · as_aux_lemma =>
        have hki : (k : Int) < (fs.length : Int) := by omega
        obtain ⟨g, o, rfl, hgl, hra, hst, hrn⟩ := (HA.out.below HBL.out).at k hlt
        obtain ⟨g2, o2, rfl, hgl2, hra2, hst2, hrn2⟩ := (HB.out.below HBL.out).at k (by rw [HLN.out]; exact hlt)
        have hmk := HM.out k
        rw [← hmk] at hra2 hst2 hrn2
        have HSZ := hid (frame_size (fs.getD k zFV).1 (fs.getD k zFV).2 hrn.tool)
        have HSZ2 := hid (frame_size (fs.getD k zFV).1 (gs.getD k zFV).2 hrn.tool)
        have HRA := hid (Bel.range hra hgl)
        have HRB := hid (Bel.range hra2 hgl2)
        have HSM := hid (fun p : Bel wr => rsame_any (fs.getD k zFV).1 (fs.getD k zFV).1 (fs.getD k zFV).2 (gs.getD k zFV).2 p.out hrn.tool hrn.tool (hst.below p.bel) (hst2.below p.bel) hrn.many)
        rw [sameP_self] at HSM
        obtain ⟨FF, HFF⟩ : ∃ f9, Hid (fcells (fs.getD k zFV).1 (fs.getD k zFV).2 = f9) := ⟨_, rfl⟩
        obtain ⟨GG, HGG⟩ : ∃ f9, Hid (fcells (fs.getD k zFV).1 (gs.getD k zFV).2 = f9) := ⟨_, rfl⟩
        rw [HFF.out] at HSZ HRA HSM
        rw [HGG.out] at HSZ2 HRB HSM
        have ib : Nonempty (Bel wr) := bel_some wr
        have hkw : IntKind.i64.wrap ((k : Int) + 1) = (k : Int) + 1 := by rw [IntKind.wrap_i64]; omega
        clear hra hst hrn hra2 hst2 hrn2 hmk
        go_upto_region 6 with fail
        refine wp_region_quiet_bel (by kernel_rfl) (by kernel_rfl) ?_
        go_big_quiet_step (fail)
        go_big_quiet_step (fail)
        go_big_quiet_step (fail)
        refine wpQuiet_want (by rfl) fun K hK => quiet_ld 65 (.tmp 19) (by rfl) g (o + k * 42) (by rfl) _ _ HRA.out Tryz.underlying65 rfl HSZ.out (hK _ ?_)
        simp only [Act.put, List.setIfInBounds_toArray, List.set_cons_succ, List.set_cons_zero]
        go_big_quiet_step (fail)
        go_big_quiet_step (fail)
        go_big_quiet_step (fail)
        refine wpQuiet_want (by rfl) fun K hK => quiet_ld 65 (.tmp 23) (by rfl) g2 (o2 + k * 42) (by rfl) _ _ HRB.out Tryz.underlying65 rfl HSZ2.out (hK _ ?_)
        simp only [Act.put, List.setIfInBounds_toArray, List.set_cons_succ, List.set_cons_zero]
        go_big_quiet_step (first | (go_at_call 33; exact bel_of (HSM.out _)))
        go_big_quiet_step (fail)
        refine wpQuiet_nil ?_
        rintro w8 ⟨⟨w8', hb8⟩, hw8⟩
        obtain rfl : w8 = w8' := hw8
        have HB8 := hid (below_then HBL.out hb8)
        clear hb8
        go_wp2
        exact ⟨⟨k + 1, hlt, by simp, HB8.out⟩, by simp [intOf]; omega⟩
    · obtain rfl : k = fs.length := by omega
      as_aux_lemma =>
        go_wp2
        go_ret
        exact ⟨rfl, HBL.out⟩
end Go.Proofs.YtiibhccbbpgehabGreat

/- StreamOwn answers true. -/
namespace Go.Proofs.YtiibhccbbpgehabGreat
open Go.RowKit Go.BigFrame

theorem newMax9 (w : World) : Calls Tryz.prog 6 #[.int .i64 2097152] w fun e w' => ∃ b, e = .returned (.tuple #[.pointer (some ⟨b, 0, none⟩), .int .i64 0]) ∧ w.heap.size ≤ b ∧ Sd w' b b (.slice none 0 0) 2097152 zS ∧ Below w.heap.size w w' := new_ok8 w 2097152 (by omega) (by omega)
/-- what stands between the loops: the decoder, the document's state in its block -/
structure Std (w0 w : World) (b S : Nat) (vd vr vs : Value) (s : Sx) : Prop where
  sd : Sd w b b vd 2097152 s
  blk : w.heap[S]? = some (.cells (sxC 2097152 vr vs s).toArray 52 (0, 0))
  own : OwnB w w0.heap.size vr s.r
  szs : OwnI w w0.heap.size vs s.szs
  q : Below w0.heap.size w0 w
theorem Std.below {w0 w w' : World} {b S : Nat} {vd vr vs : Value} {s : Sx} (h : Std w0 w b S vd vr vs s) (hb : Below w.heap.size w w') : Std w0 w' b S vd vr vs s :=
  ⟨h.sd.below hb, bel_keep hb h.blk, h.own.below hb, own_below h.szs hb, below_then h.q hb⟩
/-- a block of another kind, or one that is neither the decoder's bytes nor the document's, is written -/
theorem Std.put {w0 w w' : World} {b S g : Nat} {vd vr vs : Value} {s : Sx} {cs : Array Value} {ty : TypeId} (h : Std w0 w b S vd vr vs s) (hg : w.grownBy w' (some g)) (hb : w.heap[g]? = some (.cells cs ty (0, 0))) (h1 : 47 ≠ ty) (h2 : 52 ≠ ty) (h3 : 3 ≠ ty) (hd : vd.ownBlock ≠ some g) (hr : vr.ownBlock ≠ some g) (hw : w0.heap.size ≤ g) : Std w0 w' b S vd vr vs s :=
  ⟨h.sd.far hg (fun e => own_blk h.sd.kb.blk hb h1 e.symm) (fun k e h9 => hd (h9 ▸ e)), gb_blk h.blk hg (fun e => by injection e with e; exact own_blk h.blk hb h2 e), h.own.kept hg (Or.inr hr), own_far2 h.szs hg (fun _ e h9 => own_block h.szs hb h3 (h9 ▸ e)), Below.of_gb h.q hg hw⟩

theorem Std.row {w0 w w' : World} {b S LR : Nat} {vd vr vs u : Value} {s : Sx} {xs : List UInt8} (h : Std w0 w b S vd vr vs s) (hu : OwnB w LR u xs) (g : w.grownBy w' u.ownBlock) (hd : ∀ k, u.ownBlock = some k → vd.ownBlock ≠ some k) (hr : ∀ k, u.ownBlock = some k → vr.ownBlock ≠ some k) (hw : w0.heap.size ≤ LR) : Std w0 w' b S vd vr vs s :=
  ⟨⟨⟨h.sd.kb.lo, gb_blk h.sd.kb.blk g (own_block hu h.sd.kb.blk (by decide)), own_far2 h.sd.kb.own g (fun k e e2 => hd k e2 e)⟩, h.sd.good, h.sd.one, h.sd.big⟩, gb_blk h.blk g (own_block hu h.blk (by decide)), own_far2 h.own g (fun k e e2 => hr k e2 e), own_grow h.szs g hu (by decide), Below.of_gbo h.q g (fun k e => Nat.le_trans hw (World.ownsRow.lt hu k e).1)⟩
theorem Lf.put {w : World} {base g k : Nat} {u : Value} {vl : Value} {vas : List Value} {cs : Array Value} {ty : TypeId} (h : Lf w base vl vas) (hb : w.heap[g]? = some (.cells cs ty (0, 0))) (h1 : 65 ≠ ty) : Lf (w.setCell ⟨g, k, none⟩ u) base vl vas := by
  obtain ⟨xs, h2, h3, h4⟩ := h
  exact ⟨xs, own_set h2 hb h1, h3, fun u hu => let ⟨n, hn⟩ := h4 u hu; ⟨n, hn.set g k _⟩⟩
theorem ownb_set8 {w : World} {base g n cap : Nat} {bs : List UInt8} (h : OwnB w base (.slice (some ⟨g, 0, none⟩) n cap) bs) (k : Nat) (m : UInt8) : OwnB (w.setCell ⟨g, k, none⟩ (.int .u8 (m.toNat : Int))) base (.slice (some ⟨g, 0, none⟩) n cap) (bs.set k m) := by
  obtain ⟨h1, ⟨h2, _⟩ | ⟨g', cap', cur, hv, hb, hh, r1, r2, r3, r4⟩⟩ := h
  · cases h2
  · injection hv with hv1 hv2 hv3
    injection hv1 with hv1
    injection hv1 with hv1
    subst hv1 hv2 hv3
    refine ⟨by simp [bytesV], Or.inr ⟨g, cap, cur.setIfInBounds k (.int .u8 (m.toNat : Int)), by rw [List.length_set], hb, blk_set hh _, by rw [List.length_set]; exact r1, r2, by simpa using r3, ?_⟩⟩
    rw [List.length_set, Array.toList_setIfInBounds, List.take_set, r4]
    simp [bytesV, List.map_set]

set_option maxRecDepth 100000 in
set_option maxHeartbeats 8000000 in
theorem lawOwn8_any (v : Value) (bs : List UInt8) (ct : Nat) (hct : ct < 256) (w : World) (hs : Src w v bs) (hbl : bs.length ≤ 1048576) :
    Calls Tryz.prog 5 #[v, .int .u8 (ct : Int)] w fun e w' => e = .returned (.bool true) ∧ Below w.heap.size w w' := by
  have HS := hid hs
  obtain ⟨av, cv, rfl⟩ := src_shape hs
  clear hs
  go_enter Tryz.func5, Tryz.ntmps5
  go_wp2_with fail
  refine (newMax9 w).mono ?_
  rintro e w1 ⟨b, rfl, hbw, hsd, hb1⟩
  have HBW := hid hbw
  have HSD1 := hid hsd
  have HB1 := hid hb1
  have HRN := hid (rnew8_max w1)
  have HSZ0 := hid (show (Tryz.prog.info? 52).map (·.size) = some (sxC 2097152 (.slice none 0 0) (.slice none 0 0) zS).length from strmSize)
  have HON0 := hid (sxC_one (M := 2097152) (vr := .slice none 0 0) (vs := .slice none 0 0) (s := zS) rfl rfl)
  have HOL0 := hid (show (sxC 0 (.slice none 0 0) (.slice none 0 0) zS).toArray.size = (sxC 2097152 (.slice none 0 0) (.slice none 0 0) zS).length from rfl)
  obtain ⟨S0, HS0⟩ : ∃ l, Hid (sxC 2097152 (.slice none 0 0) (.slice none 0 0) zS = l) := ⟨_, rfl⟩
  rw [HS0.out] at HSZ0 HON0 HOL0 HRN
  clear hbw hsd hb1
  go_wp2_with fail
  refine HRN.out.mono ?_
  rintro e w2 ⟨rfl, hb2⟩
  have HW3 := hid (below_walk w2 (.cells S0.toArray 52))
  have HN3 := hid (hp_new w2 (.cells S0.toArray 52))
  have HSD3 := hid ((HSD1.out.below hb2).below HW3.out)
  have HQ3 := hid (below_then (below_then HB1.out hb2) HW3.out)
  have HB2 := hid hb2
  clear hb2 HRN HSD1
  go_upto_region 3 with (first
    | (refine al_row (by rfl) 52 (by rfl) _ zeroStrm ?_)
    | (refine st_new (by rfl) 52 _ _ (by rfl) S0 (by rfl) (by rfl) 52 _ HSZ0.out HOL0.out HON0.out ?_))
  have HS7w := hid (show w.heap.size ≤ w2.heap.size from (below_then HB1.out HB2.out).size)
  obtain ⟨S7, HS7e⟩ : ∃ n, Hid (w2.heap.size = n) := ⟨_, rfl⟩
  rw [HS7e.out] at HS7w
  rw [HS7e.out] at HN3 ⊢
  generalize w2.alloc (.cells S0.toArray 52) = w3 at HW3 HN3 HSD3 HQ3 ⊢
  have HST3 := hid (show Std w w3 b S7 (.slice none 0 0) (.slice none 0 0) (.slice none 0 0) zS from ⟨HSD3.out, by rw [HS0.out]; exact HN3.out, World.ownsRow_nil _ _ _ _, OwnI.nil _ _, HQ3.out⟩)
  obtain ⟨at9, HAT⟩ : ∃ n, Hid (min ct bs.length = n) := ⟨_, rfl⟩
  have hcv : IntKind.i64.wrap (ct : Int) = (ct : Int) := by rw [IntKind.wrap_i64]; omega
  have hmin : min (ct : Int) (bs.length : Int) = (at9 : Int) := by have := HAT.out; omega
  have HAL := hid (show at9 ≤ bs.length by have := HAT.out; omega)
  clear HSD3 HN3 HW3 HQ3 HSZ0 HON0 HOL0 HS0
  go_wp2
  clear hcv hmin
  go_loopw [10] (fun vi wr => ∃ (k : Nat) (vd vr vs : Value) (s : Sx), k ≤ 2 ∧ vi = .int .i64 k ∧ Hid (Std w wr b S7 vd vr vs s) ∧ Hid (∀ k, vr.ownBlock = some k → vd.ownBlock ≠ some k) ∧ Hid (s.came ≤ k * 1048576 ∧ s.szs.length ≤ k * 1048576)) (fun vi _ => 2 - (intOf vi).toNat)
  case atStart => exact ⟨0, _, _, _, _, by omega, rfl, HST3.out, hid (fun k e => (by cases e)), hid ⟨Nat.le_refl _, Nat.le_refl _⟩⟩
  case round =>
    obtain ⟨k, vd, vr, vs, s, hk, rfl, HST, HAP, HCM⟩ := hrel
    by_cases hlt : k < 2
    · as_aux_lemma =>
        have hki : (k : Int) < 2 := by omega
        obtain ⟨P, HP⟩ : ∃ P, Hid ((if k = 0 then bs.take at9 else bs.drop at9) = P) := ⟨_, rfl⟩
        have HPL := hid (show P.length ≤ 1048576 by rw [← HP.out]; split <;> simp <;> omega)
        obtain ⟨vA, hA1, _, hA2⟩ := cut_atb HS.out at9 HAL.out
        obtain ⟨vB, hB1, _, hB2⟩ := cut_endb HS.out at9 HAL.out
        have HA1 := hid hA1
        have HB1' := hid hB1
        clear hA1 hB1
        have HW4 := hid (below_walk wr (.cells #[] 5))
        have HE4 := hid (show OwnB (wr.alloc (.cells #[] 5)) wr.heap.size (.slice (some ⟨wr.heap.size, 0, none⟩) 0 0) [] from World.ownsRow_lit wr #[] 0 (Nat.le_refl _) (by decide) rfl)
        have HX4 := hid (HA1.out.below (below_then HST.out.q HW4.out))
        have HZ4 := hid HW4.out.size
        go_wp2_with (first | (at_builtin; refine app_bytes (by rfl) _ _ rfl wr.heap.size _ [] rfl HE4.out _ _ rfl HX4.out (by simp; omega) HZ4.out ?_))
        intro v5 w5 ho5 hg5 hp5
        try rw [List.nil_append] at ho5
        have HO5 := hid (show OwnB w5 wr.heap.size v5 (bs.take at9) from ho5)
        have HB5 := hid (Below.of_gbo HW4.out hg5 (fun k e => (World.ownsRow.lt HE4.out k e).1))
        obtain ⟨a5, n5, c5, e5⟩ : ∃ a n c, v5 = .slice a n c := by obtain ⟨a, c, e⟩ := ho5.shape; exact ⟨_, _, _, e⟩
        subst e5
        clear ho5 hg5 hp5 HE4 HX4 HW4 HZ4
        go_upto_if 51 with fail
        go_cut [11] from 41 to 140 (fun s11 wx => Hid (OwnB wx wr.heap.size s11 P) ∧ Hid (Below wr.heap.size wr wx))
        case first =>
          as_aux_lemma =>
            by_cases hk0 : k = 0
            · subst hk0
              have HOP := hid (show OwnB w5 wr.heap.size (.slice a5 n5 c5) P by rw [← HP.out, if_pos rfl]; exact HO5.out)
              go_wp2
              go_meet
              exact ⟨HOP.out, HB5.out⟩
            · obtain rfl : k = 1 := by omega
              have HPE := hid (show bs.drop at9 = P by rw [← HP.out, if_neg (by omega)])
              rw [HPE.out] at HB1'
              have HW6 := hid (below_walk w5 (.cells #[] 5))
              have HE6 := hid (show OwnB (w5.alloc (.cells #[] 5)) wr.heap.size (.slice (some ⟨w5.heap.size, 0, none⟩) 0 0) [] from World.ownsRow_lit w5 #[] 0 HB5.out.size (by decide) rfl)
              have HX6 := hid (HB1'.out.below (below_then HST.out.q (below_then HB5.out HW6.out)))
              have HZ6 := hid (Nat.le_trans HB5.out.size HW6.out.size)
              have HPL2 := hid HPL.out
              go_wp2_with (first | (at_builtin; refine app_bytes (by rfl) _ _ rfl wr.heap.size _ [] rfl HE6.out _ _ rfl HX6.out (by have := HPL2.out; simp; omega) HZ6.out ?_))
              intro v7 w7 ho7 hg7 hp7
              try rw [List.nil_append] at ho7
              have HO7 := hid (show OwnB w7 wr.heap.size v7 P from ho7)
              have HB7 := hid (Below.of_gbo (below_then HB5.out HW6.out) hg7 (fun k e => (World.ownsRow.lt HE6.out k e).1))
              obtain ⟨a7, n7, c7, e7⟩ : ∃ a n c, v7 = .slice a n c := by obtain ⟨a, c, e⟩ := ho7.shape; exact ⟨_, _, _, e⟩
              subst e7
              clear ho7 hg7 hp7
              go_wp2
              go_meet
              exact ⟨HO7.out, HB7.out⟩
        case rest =>
          as_aux_lemma =>
            obtain ⟨HPO, HPB⟩ := hcut
            obtain ⟨ap, cp, ep⟩ := HPO.out.shape
            obtain ⟨pl, HPl⟩ : ∃ n, Hid (P.length = n) := ⟨_, rfl⟩
            rw [HPl.out] at ep
            subst ep
            clear hA2 hB2 HA1 HB1' HO5 HB5
            have HVd := hid (show ∀ k, vd.ownBlock = some k → k < wr.heap.size from fun k e => (World.ownsRow.lt HST.out.sd.kb.own k e).2)
            have HVr := hid (show ∀ k, vr.ownBlock = some k → k < wr.heap.size from fun k e => (World.ownsRow.lt HST.out.own k e).2)
            have HPk := hid (show ∀ k, (Value.slice ap pl cp).ownBlock = some k → wr.heap.size ≤ k ∧ k < wc.heap.size from fun k e => World.ownsRow.lt HPO.out k e)
            have HBk := hid HST.out.sd.kb.lt
            have HWr := hid HST.out.q.size
            obtain ⟨LB, HLB⟩ : ∃ n, Hid (wr.heap.size = n) := ⟨_, rfl⟩
            have HSTc := hid (HST.out.below HPB.out)
            have HWc := hid HPB.out.size
            rw [HLB.out] at HVd HVr HPk HBk HWr HPO HWc
            clear HPB HST
            obtain ⟨a, y, t, hca, hsz, hfe, hR, hPr⟩ := feed_both wc b w.heap.size vd vr vs s P HSTc.out.sd HSTc.out.own HSTc.out.szs HSTc.out.q.size HPL.out (by have := HCM.out; omega) (by have := HCM.out; omega)
            have HCA := hid hca
            have HSZa := hid hsz
            have HFE := hid hfe
            have HPr := hid hPr
            have HPX := hid (HPO.out.src (by have := HPL.out; omega))
            have HW3 := hid (below_walk wc (.cells #[.slice ap pl cp] 22))
            have HR3 := hid (hR _ _ _ HW3.out (lsts_one wc _ P HPX.out))
            have HSZs := hid (show (Tryz.prog.info? 52).map (·.size) = some (sxC 2097152 vr vs s).length from strmSize)
            have HBKs := hid HSTc.out.blk
            have HONs := hid (show ∀ (vr4 vs4 : Value), vr4.oneCell' = true → vs4.oneCell' = true → ∀ u ∈ sxC 2097152 vr4 vs4 a.1, u.oneCell' = true from fun _ _ h1 h2 => sxC_one h1 h2)
            obtain ⟨SC, HSC⟩ : ∃ l, Hid (sxC 2097152 vr vs s = l) := ⟨_, rfl⟩
            have HOLs := hid (show SC.toArray.size = 7 by rw [← HSC.out]; rfl)
            rw [HSC.out] at HSZs HBKs HR3
            clear hca hsz hfe hR hPr HST3
            go_wp2_with (first | (refine ld_row (by rfl) 52 (.tmp 7) (by rfl) S7 (by rfl) SC 52 HBKs.out _ Tryz.underlying52 rfl HSZs.out ?_))
            refine HR3.out.mono ?_
            rintro e w4 ⟨vr4, vs4, vl4, gs, rfl, ho4, hz4, hor, hof4, hm4, hb4⟩
            have HW4 := hid (show Below w4.heap.size w4 ((w4.alloc (.cells #[.int .i64 0, .slice none 0 0, .int .i64 0, .int .i64 0, .int .i64 0, .int .i64 0, .slice none 0 0] 52)).alloc (.cells #[.int .i64 0, .int .i64 0] 30)) from below_walk2 w4 _ _)
            have HN4 := hid (show ((w4.alloc (.cells #[.int .i64 0, .slice none 0 0, .int .i64 0, .int .i64 0, .int .i64 0, .int .i64 0, .slice none 0 0] 52)).alloc (.cells #[.int .i64 0, .int .i64 0] 30)).heap[w4.heap.size]? = some (.cells (sxC 0 (.slice none 0 0) (.slice none 0 0) zS).toArray 52 (0, 0)) ∧ ((w4.alloc (.cells #[.int .i64 0, .slice none 0 0, .int .i64 0, .int .i64 0, .int .i64 0, .int .i64 0, .slice none 0 0] 52)).alloc (.cells #[.int .i64 0, .int .i64 0] 30)).heap[w4.heap.size + 1]? = some (.cells #[.int .i64 0, .int .i64 0] 30 (0, 0)) from hp_two w4 _ _)
            have HZ4 : Hid ((w4.alloc (.cells #[.int .i64 0, .slice none 0 0, .int .i64 0, .int .i64 0, .int .i64 0, .int .i64 0, .slice none 0 0] 52)).heap.size = w4.heap.size + 1) := hid (by simp)
            have HB34 := hid (below_then HW3.out hb4)
            have HST4 := hid ((HSTc.out.below HB34.out).below HW4.out)
            have HPO4 := hid (show OwnB _ LB (.slice ap pl cp) P from (HPO.out.below HB34.out).below HW4.out)
            have HO4 := hid (show OwnB _ w.heap.size vr4 a.1.r from ho4.below HW4.out)
            have HI4 := hid (show OwnI _ w.heap.size vs4 a.1.szs from own_below hz4 HW4.out)
            have HG4 := hid ((hof4.below HW4.out).le (Nat.le_trans HSTc.out.q.size HW3.out.size))
            have HMg := hid hm4
            have HOR := hid (show (∀ k, vr4.ownBlock = some k → vd.ownBlock ≠ some k) ∧ (∀ k, vr4.ownBlock = some k → (Value.slice ap pl cp).ownBlock ≠ some k) from by
              rcases hor with ⟨rfl, _⟩ | h9
              · exact ⟨HAP.out, fun k e e2 => by have := HVr.out k e; have := (HPk.out k e2).1; omega⟩
              · exact ⟨fun k e e2 => by have := h9 k e; have := HVd.out k e2; have := HW3.out.size; have := HWc.out; omega, fun k e e2 => by have := h9 k e; have := (HPk.out k e2).2; have := HW3.out.size; omega⟩)
            have HV4 := hid (show ∀ k, vr4.ownBlock = some k → k < w4.heap.size from fun k e => (World.ownsRow.lt ho4 k e).2)
            have HSl := hid (show S7 < w4.heap.size from hp_lt (bel_keep HB34.out HSTc.out.blk))
            have HSZ4 := hid (show (Tryz.prog.info? 52).map (·.size) = some (sxC 2097152 vr4 vs4 a.1).length from strmSize)
            have HON4 := hid (HONs.out vr4 vs4 (by obtain ⟨a, c, e⟩ := ho4.shape; rw [e]; rfl) (by obtain ⟨a, c, e⟩ := hz4.shape; rw [e]; rfl))
            have HOL4 := hid (show (sxC 0 (.slice none 0 0) (.slice none 0 0) zS).toArray.size = (sxC 2097152 vr4 vs4 a.1).length from rfl)
            have HOB4 := hid (show SC.toArray.size = (sxC 2097152 vr4 vs4 a.1).length from HOLs.out)
            obtain ⟨am, nm, cm, em⟩ : ∃ a n c, vl4 = .slice a n c := by obtain ⟨a, c, e⟩ := hof4.shape; exact ⟨_, _, _, e⟩
            subst em
            clear ho4 hz4 hof4 hm4 hb4 hor HR3 HSTc HPO HW3 HPX
            obtain ⟨S4, HS4⟩ : ∃ l, Hid (sxC 2097152 vr4 vs4 a.1 = l) := ⟨_, rfl⟩
            rw [HS4.out] at HSZ4 HON4 HOL4 HOB4 ⊢
            go_upto_region 13 with (first
              | (refine al_row (by rfl) 52 (by rfl) _ zeroStrm ?_)
              | (refine al_row (by rfl) 30 (by rfl) _ zeroFault ?_; rw [HZ4.out])
              | (refine st_row (by rfl) 52 _ _ (by rfl) w4.heap.size S4 (by rfl) (by rfl) 52 _ HN4.out.1 HSZ4.out HOL4.out HON4.out ?_; intro w5 hw5; have HD5 := hid (gb_blk HN4.out.2 hw5.grown (by simp)))
              | (refine st_row (by rfl) 30 _ _ (by rfl) (w4.heap.size + 1) [Value.int .i64 y, .int .i64 t] (by rfl) (by rfl) 30 _ HD5.out faultSize rfl (fault_one _ _) ?_; intro w6 hw6))
            obtain ⟨C, HCe⟩ : ∃ n, Hid (w4.heap.size = n) := ⟨_, rfl⟩
            obtain ⟨D, HDe⟩ : ∃ n, Hid (C + 1 = n) := ⟨_, rfl⟩
            rw [HCe.out] at hw5 hw6 HN4 HSl HV4 ⊢
            rw [HCe.out] at HD5
            rw [HDe.out] at hw6 HN4 HD5 ⊢
            have HCD := hid (show D = C + 1 from HDe.out.symm)
            have HWC := hid (show w.heap.size ≤ C by have := HST4.out.q.size; have := HWr.out; have h9 := HWc.out; have := HCe.out; have := HB34.out.size; omega)
            have HLC := hid (show LB ≤ C by have h9 := HWc.out; have := HCe.out; have := HB34.out.size; omega)
            have HC6 := hid (gb_blk hw5.blk hw6.grown (by have := HCD.out; simp; omega))
            have HD6 := hid hw6.blk
            have hdC : ∀ {u : Value}, (∀ k, u.ownBlock = some k → k < C) → u.ownBlock ≠ some C ∧ u.ownBlock ≠ some D := fun {u} hu => ⟨fun e => by have := hu _ e; omega, fun e => by have := hu _ e; have := HCD.out; omega⟩
            have HVdC := hid (hdC (u := vd) (fun k e => by have := HVd.out k e; have := HLC.out; omega))
            have HVrC := hid (hdC (u := vr) (fun k e => by have := HVr.out k e; have := HLC.out; omega))
            have HVr4C := hid (hdC (u := vr4) HV4.out)
            clear hdC
            have HST5 := hid (HST4.out.sd.far hw5.grown (fun e => by have := HBk.out; have := HLC.out; omega) (fun k e h9 => HVdC.out.1 (h9 ▸ e)))
            have HSD6 := hid (HST5.out.far hw6.grown (fun e => by have := HBk.out; have := HLC.out; have := HCD.out; omega) (fun k e h9 => HVdC.out.2 (h9 ▸ e)))
            have HB6 := hid (gb_blk (gb_blk HST4.out.blk hw5.grown (by have := HSl.out; simp; omega)) hw6.grown (by have := HSl.out; have := HCD.out; simp; omega))
            have HQ6 := hid (Below.of_gb (Below.of_gb HST4.out.q hw5.grown HWC.out) hw6.grown (by have := HWC.out; have := HCD.out; omega))
            have HP6 := hid (show OwnB w6 LB (.slice ap pl cp) P from own_far2 (own_far2 HPO4.out hw5.grown (fun _ e h => own_block HPO4.out HN4.out.1 (by decide) (h ▸ e))) hw6.grown (fun _ e h => own_block (own_far2 HPO4.out hw5.grown (fun _ e h => own_block HPO4.out HN4.out.1 (by decide) (h ▸ e))) HD5.out (by decide) (h ▸ e)))
            have HO6 := hid (show OwnB w6 w.heap.size vr4 a.1.r from (HO4.out.kept hw5.grown (Or.inr HVr4C.out.1)).kept hw6.grown (Or.inr HVr4C.out.2))
            have HI5 := hid (own_far2 HI4.out hw5.grown (fun _ e h => own_block HI4.out HN4.out.1 (by decide) (h ▸ e)))
            have HI6 := hid (show OwnI w6 w.heap.size vs4 a.1.szs from own_far2 HI5.out hw6.grown (fun _ e h => own_block HI5.out HD5.out (by decide) (h ▸ e)))
            have HG6 := hid ((HG4.out.gone hw5.grown HN4.out.1 (by decide) (by decide)).gone hw6.grown HD5.out (by decide) (by decide))
            clear hw5 hw6 HN4 HST4 HST5 HPO4 HO4 HI4 HI5 HG4 HD5 HW4 HZ4 HB34
            -- the program's Feed
            have HW7 := hid (below_walk w6 (.cells #[.slice ap pl cp] 22))
            have HPX6 := hid (HP6.out.src (by have := HPL.out; omega))
            have HL7 := hid (lsts_one w6 _ P HPX6.out)
            have HSD7 := hid (HSD6.out.below HW7.out)
            have HLb := hid HSD6.out.kb.lt
            have HLd := hid (fun k e => (World.ownsRow.lt HSD6.out.kb.own k e).2)
            have HPv := hid (show ∀ k, (Value.slice ap pl cp).ownBlock = some k → k ≠ b ∧ vd.ownBlock ≠ some k from fun k e => ⟨by have := (HPk.out k e).1; have := HBk.out; omega, fun e2 => by have := (HPk.out k e).1; have := HVd.out k e2; omega⟩)
            go_wp2_with fail
            obtain ⟨Z, HZe⟩ : ∃ n, Hid (w6.heap.size = n) := ⟨_, rfl⟩
            rw [HZe.out] at HL7 HLb HLd
            try rw [HZe.out]
            generalize w6.alloc (.cells #[.slice ap pl cp] 22) = w7 at HW7 HL7 HSD7 ⊢
            have HFP := hid (HPr.out w7 _ _ HSD7.out (fun W vd9 hg => HL7.out.gd hg (by show some Z ≠ some b; have := HLb.out; simp; omega) (fun k e e2 => by have := HLd.out k e2; simp [Value.ownBlock] at e; omega) (fun j h => by match j, h with | 0, h => exact (fun e => (HPv.out _ e).1 rfl) | j + 1, _ => exact (by show nS.ownBlock ≠ some b; intro e; cases e)) (fun j k h e e2 => by match j, h, e with | 0, h, e => exact (HPv.out k e).2 e2 | j + 1, _, e => cases (show nS.ownBlock = some k from e))))
            have HB7 := hid (bel_keep HW7.out HB6.out)
            have HC7 := hid (bel_keep HW7.out HC6.out)
            have HD7 := hid (bel_keep HW7.out HD6.out)
            have HQ7 := hid (below_then HQ6.out HW7.out)
            have HP7 := hid (show OwnB w7 LB (.slice ap pl cp) P from HP6.out.below HW7.out)
            have HO7 := hid (show OwnB w7 w.heap.size vr4 a.1.r from HO6.out.below HW7.out)
            have HI7 := hid (show OwnI w7 w.heap.size vs4 a.1.szs from own_below HI6.out HW7.out)
            have HG7 := hid (HG6.out.below HW7.out)
            have HZ7 := hid HW7.out.size
            clear HB6 HC6 HD6 HQ6 HP6 HO6 HI6 HG6 HSD6 HPX6 HPr HL7
            refine HFP.out.mono ?_
            rintro e w8 ⟨vl, v8, fs, rfl, hof8, hsd8, hg8, hm8⟩
            have HW9 := hid (below_walk w8 (.cells [Value.int .i64 y, .int .i64 t].toArray 30))
            have HE9 := hid (hp_new w8 (.cells [Value.int .i64 y, .int .i64 t].toArray 30))
            have hkb : ∀ {B9 : Nat} {cs : Array Value} {ty : TypeId}, w7.heap[B9]? = some (.cells cs ty (0, 0)) → 47 ≠ ty → 5 ≠ ty → w8.heap[B9]? = some (.cells cs ty (0, 0)) := fun {B9 cs ty} hB h1 h2 => (hg8.block B9 (hp_lt hB) (own_blk HSD7.out.kb.blk hB h1) (fun e => own_block HSD7.out.kb.own hB h2 e)).trans hB
            have HB9 := hid (bel_keep HW9.out (hkb HB7.out (by decide) (by decide)))
            have HC9 := hid (bel_keep HW9.out (hkb HC7.out (by decide) (by decide)))
            have HD9 := hid (bel_keep HW9.out (hkb HD7.out (by decide) (by decide)))
            clear hkb
            have HSD9 := hid (hsd8.below HW9.out)
            have HQ9 := hid (below_then (Below.trans HQ7.out ((HSD7.out.low hg8).mono HBW.out)) HW9.out)
            have HP9 := hid (show OwnB _ LB (.slice ap pl cp) P from (OwnB.gd HP7.out hg8 (own_block HP7.out HSD7.out.kb.blk (by decide)) (fun k e => (HPv.out k e).2)).below HW9.out)
            have HO9 := hid (show OwnB _ w.heap.size vr4 a.1.r from (OwnB.gd HO7.out hg8 (own_block HO7.out HSD7.out.kb.blk (by decide)) HOR.out.1).below HW9.out)
            have HI9 := hid (show OwnI _ w.heap.size vs4 a.1.szs from own_below (own_kb HI7.out hg8 HSD7.out.kb (by decide) (by decide)) HW9.out)
            have HG9 := hid ((HG7.out.sd hg8 HSD7.out).below HW9.out)
            have HF9 := hid ((hof8.below HW9.out).le (HQ7.out.size))
            have HMf := hid (show fs.map (·.1) = gs.map (·.1) by rw [hm8, HMg.out])
            have HFLn := hid (show fs.length ≤ 1048576 by have h9 := HFE.out; rw [← hm8, List.length_map] at h9; have := HPL.out; omega)
            have HAP8 := hid (show ∀ k, vr4.ownBlock = some k → v8.ownBlock ≠ some k from fun k e e2 => by rcases hg8.lies k e2 with h | h; exact HOR.out.1 k e h; exact absurd (World.ownsRow.lt HO7.out k e).2 (by omega))
            have HPV8 := hid (show ∀ k, (Value.slice ap pl cp).ownBlock = some k → v8.ownBlock ≠ some k ∧ vr4.ownBlock ≠ some k from fun k e => ⟨fun e2 => by rcases hg8.lies k e2 with h | h; exact (HPv.out k e).2 h; exact absurd (World.ownsRow.lt HP7.out k e).2 (by omega), fun e2 => HOR.out.2 k e2 e⟩)
            obtain ⟨al, cl, el⟩ := hof8.shape
            subst el
            clear hof8 hsd8 hg8 hm8 HFP HSD7 HB7 HC7 HD7 HQ7 HP7 HO7 HI7 HG7
            go_upto_region 14 with (refine st_new (by rfl) 30 _ _ (by rfl) [Value.int .i64 y, .int .i64 t] (by rfl) (by rfl) 30 _ faultSize rfl (fault_one _ _) ?_)
            obtain ⟨E, HEe⟩ : ∃ n, Hid (w8.heap.size = n) := ⟨_, rfl⟩
            rw [HEe.out] at HE9 ⊢
            generalize w8.alloc (.cells [Value.int .i64 y, .int .i64 t].toArray 30) = w9 at HW9 HE9 HB9 HC9 HD9 HSD9 HQ9 HP9 HO9 HI9 HG9 HF9 ⊢
            have HWS := hid (show w.heap.size ≤ S7 from HS7w.out)
            go_upto_region 15 with (first
              | (refine ld_row (by rfl) 52 (.tmp 12) (by rfl) C (by rfl) S4 52 HC9.out _ Tryz.underlying52 rfl HSZ4.out ?_)
              | (refine st_row (by rfl) 52 _ _ (by rfl) S7 S4 (by rfl) (by rfl) 52 _ (by rw [← HSC.out]; exact HB9.out) HSZ4.out HOB4.out HON4.out ?_; intro w10 hw10))
            have HO10 := hid (show OwnB w10 w.heap.size vr4 a.1.r from own_far2 HO9.out hw10.grown (fun _ e h => own_block HO9.out HB9.out (by decide) (h ▸ e)))
            have HI10 := hid (show OwnI w10 w.heap.size vs4 a.1.szs from own_far2 HI9.out hw10.grown (fun _ e h => own_block HI9.out HB9.out (by decide) (h ▸ e)))
            have HSTn := hid (show Std w w10 b S7 v8 vr4 vs4 a.1 from ⟨HSD9.out.far hw10.grown (fun e => own_blk HSD9.out.kb.blk HB9.out (by decide) e.symm) (fun k e h9 => own_block HSD9.out.kb.own HB9.out (by decide) (h9 ▸ e)), by rw [HS4.out]; exact hw10.blk, HO10.out, HI10.out, Below.of_gb HQ9.out hw10.grown HWS.out⟩)
            have HP10 := hid (show OwnB w10 LB (.slice ap pl cp) P from own_far2 HP9.out hw10.grown (fun _ e h => own_block HP9.out HB9.out (by decide) (h ▸ e)))
            have HG10 := hid (HG9.out.gone hw10.grown HB9.out (by decide) (by decide))
            have HF10 := hid (HF9.out.gone hw10.grown HB9.out (by decide) (by decide))
            have HD10 := hid (gb_blk HD9.out hw10.grown (fun e => by injection e with e; exact own_blk HD9.out HB9.out (by decide) e))
            have HE10 := hid (gb_blk HE9.out hw10.grown (fun e => by injection e with e; exact own_blk HE9.out HB9.out (by decide) e))
            clear hw10 HB9 HC9 HD9 HE9 HSD9 HQ9 HP9 HO9 HI9 HG9 HF9 HO10 HI10
            have HSA := hid (rsl_any _ _ fs gs w10 HF10.out.frs HG10.out.frs HMf.out (by have := HFLn.out; omega))
            have d0 : w10.cell? ⟨D, 0, none⟩ = some (.int .i64 y) := by simp [World.cell?, HD10.out]
            have d1 : w10.cell? ⟨D, 1, none⟩ = some (.int .i64 t) := by simp [World.cell?, HD10.out]
            have e0 : w10.cell? ⟨E, 0, none⟩ = some (.int .i64 y) := by simp [World.cell?, HE10.out]
            have e1 : w10.cell? ⟨E, 1, none⟩ = some (.int .i64 t) := by simp [World.cell?, HE10.out]
            have n1 : ∀ W, (binOp .neq 30 (.agg #[.int .i64 y, .int .i64 t]) (.agg #[.int .i64 y, .int .i64 t])).run Tryz.prog W = .ok (.bool false) W := fun W => by rw [fault_neq]; simp
            go_wp2_with fail
            refine HSA.out.mono ?_
            rintro e w11 ⟨rfl, hb11⟩
            have HST11 := hid (HSTn.out.below hb11)
            have HRw11 := hid (show Rw w11 LB 5 1 (.slice ap pl cp) pl from ⟨_, by have h9 := own_below HP10.out hb11; rw [HPl.out] at h9; exact h9⟩)
            have HLf11 := hid ((HF10.out.below hb11).lf)
            obtain ⟨vas, HVA⟩ : ∃ l, Hid (fs.map (·.2) = l) := ⟨_, rfl⟩
            have HVL := hid (show fs.length = vas.length by rw [← HVA.out, List.length_map])
            rw [HVA.out] at HLf11
            obtain ⟨fl9, HFL9⟩ : ∃ n, Hid (fs.length = n) := ⟨_, rfl⟩
            rw [HFL9.out] at HVL HLf11 HFLn ⊢
            have hplb : pl ≤ 1048576 := by have := HPL.out; have := HPl.out; omega
            clear hb11 HSA d0 d1 e0 e1 n1 HD10 HE10 HG10 HF10 HP10 HSTn
            go_wp2
            -- the piece is spoilt
            go_loopw [17] (fun vi wx => ∃ j : Nat, j ≤ pl ∧ vi = .int .i64 j ∧ Hid (Std w wx b S7 v8 vr4 vs4 a.1) ∧ Hid (Rw wx LB 5 1 (.slice ap pl cp) pl) ∧ Hid (Lf wx w.heap.size (.slice al fl9 cl) vas)) (fun vi _ => pl - (intOf vi).toNat)
            case atStart => exact ⟨0, by omega, rfl, HST11.out, HRw11.out, HLf11.out⟩
            case round =>
              obtain ⟨j, hj, rfl, HSTx, HRwx, HLfx⟩ := hrel
              by_cases hjl : j < pl
              · as_aux_lemma =>
                  have hji : (j : Int) < (pl : Int) := by omega
                  obtain ⟨g, cap, cur, u, e1, e2, e3, e4, e5⟩ := HRwx.out.at j (by omega)
                  injection e1 with e6 e7 e8
                  subst e6 e8
                  have HSTy := hid (HSTx.out.put (g := g) (gb_set wr ⟨g, j, none⟩ (.int .u8 251)) e3 (by decide) (by decide) (by decide) (HPV8.out g rfl).1 (HPV8.out g rfl).2 (by have := HWr.out; omega))
                  have HRwy := hid (HRwx.out.set g j (.int .u8 251))
                  have HLfy := hid (HLfx.out.put (k := j) (u := .int .u8 251) e3 (by decide))
                  have hjw : IntKind.i64.wrap ((j : Int) + 1) = (j : Int) + 1 := by rw [IntKind.wrap_i64]; omega
                  clear e3 e7
                  go_wp2
                  exact ⟨⟨j + 1, hjl, by simp, HSTy.out, HRwy.out, HLfy.out⟩, by simp [intOf]; omega⟩
              · obtain rfl : j = pl := by omega
                as_aux_lemma =>
                  clear HRwx HRw11 HLf11 HST11
                  go_wp2
                  -- the frames are spoilt
                  go_loopw [18] (fun vi wx => ∃ i : Nat, i ≤ fl9 ∧ vi = .int .i64 i ∧ Hid (Std w wx b S7 v8 vr4 vs4 a.1) ∧ Hid (Lf wx w.heap.size (.slice al fl9 cl) vas)) (fun vi _ => fl9 - (intOf vi).toNat)
                  case atStart => exact ⟨0, by omega, rfl, HSTx.out, HLfx.out⟩
                  case round =>
                    obtain ⟨i, hi, rfl, HSTi, HLfi⟩ := hrel
                    by_cases hil : i < fl9
                    · as_aux_lemma =>
                        have hii : (i : Int) < (fl9 : Int) := by omega
                        obtain ⟨g, cap, cur, u, e1, e2, e3, e4, e5, e6, na, e7⟩ := HLfi.out.at i (by have := HVL.out; omega)
                        injection e1 with e8 e9 e10
                        subst e8 e10
                        obtain ⟨aa, ca, ea⟩ := e7.shape
                        obtain ⟨VA, HVAe⟩ : ∃ v, Hid (vas.getD i nS = v) := ⟨_, rfl⟩
                        have ea2 : VA = .slice aa na ca := by rw [← HVAe.out]; exact ea
                        subst ea2
                        have HFz := hid (show fl9 ≤ 1048576 from HFLn.out)
                        have HNA := hid (show na ≤ 9223372036854775807 by
                          obtain ⟨xs, hx⟩ := e7
                          rcases hx.2 with ⟨_, h9⟩ | ⟨_, cap9, _, _, _, _, r1, r2, _⟩
                          · omega
                          · unfold maxLen at r2; omega)
                        clear e2 e3 e4 e5 e6 e7 e9 ea
                        go_wp2
                        go_loopw [19] (fun vi wx => ∃ m : Nat, m ≤ na ∧ vi = .int .i64 m ∧ Hid (Std w wx b S7 v8 vr4 vs4 a.1) ∧ Hid (Lf wx w.heap.size (.slice (some ⟨g, 0, none⟩) fl9 cl) vas)) (fun vi _ => na - (intOf vi).toNat)
                        case atStart => exact ⟨0, by omega, rfl, HSTi.out, HLfi.out⟩
                        case round =>
                          obtain ⟨m, hm, rfl, HSTm, HLfm⟩ := hrel
                          obtain ⟨g', cap', cur', u', f1, f2, f3, f4, f5, f6, na', f7⟩ := HLfm.out.at i (by have := HVL.out; omega)
                          injection f1 with f8 f9 f10
                          injection f8 with f8
                          injection f8 with f8
                          subst f8
                          rw [HVAe.out] at f4 f7
                          obtain ⟨aa', ca', ea'⟩ := f7.shape
                          injection ea' with ea1 ea2 ea3
                          subst ea2
                          have hqi : 0 + i * 42 = i * 42 := by omega
                          have f4' : wr.cell? ⟨g, i * 42 + 40, none⟩ = some (.slice aa na ca) := f4
                          by_cases hml : m < na
                          · as_aux_lemma =>
                              have hmi : (m : Int) < (na : Int) := by omega
                              obtain ⟨gs9, cap9, cur9, u9, t1, t2, t3, t4, t5⟩ := f7.at m (by omega)
                              injection t1 with t6 t7 t8
                              subst t6 t8
                              have HSTy := hid (HSTm.out.put (g := gs9) (gb_set wr ⟨gs9, m, none⟩ (.string ⟨#[115, 112, 111, 105, 108, 116]⟩)) t3 (by decide) (by decide) (by decide) (own_block HSTm.out.sd.kb.own t3 (by decide)) (own_block HSTm.out.own t3 (by decide)) t2)
                              have HLfy := hid (HLfm.out.setS (k := m) (u := .string ⟨#[115, 112, 111, 105, 108, 116]⟩) t3)
                              have hmw : IntKind.i64.wrap ((m : Int) + 1) = (m : Int) + 1 := by rw [IntKind.wrap_i64]; have := HNA.out; omega
                              clear f3 f5 f6 f7 t3 t7 f9 f10 ea1 ea3
                              go_wp2
                              exact ⟨⟨m + 1, hml, by simp, HSTy.out, HLfy.out⟩, by simp [intOf]; omega⟩
                          · obtain rfl : m = na := by omega
                            as_aux_lemma =>
                              have HSTy := hid (HSTm.out.put (g := g) (gb_set wr ⟨g, i * 42 + 1, none⟩ (.int .u64 777)) f3 (by decide) (by decide) (by decide) (own_block HSTm.out.sd.kb.own f3 (by decide)) (own_block HSTm.out.own f3 (by decide)) f2)
                              have HLfy := hid (HLfm.out.setId i (.int .u64 777) (by rw [HVL.out]))
                              have hiw : IntKind.i64.wrap ((i : Int) + 1) = (i : Int) + 1 := by rw [IntKind.wrap_i64]; have := HFz.out; omega
                              clear f3 f7 f9 f10 ea1 ea3
                              go_wp2
                              exact ⟨⟨i + 1, hil, by simp, HSTy.out, HLfy.out⟩, by simp [intOf]; omega⟩
                    · obtain rfl : i = fl9 := by omega
                      as_aux_lemma =>
                        have HRE := hid (krest_any HSTi.out.sd)
                        go_wp2_with fail
                        refine HRE.out.mono ?_
                        rintro e w20 ⟨v20, rfl, ho20, hb20⟩
                        have HST20 := hid (HSTi.out.below hb20)
                        have HLd2 := hid (show ∀ k, v8.ownBlock = some k → k < wr.heap.size from fun k e => (World.ownsRow.lt HSTi.out.sd.kb.own k e).2)
                        have HLr2 := hid (show ∀ k, vr4.ownBlock = some k → k < wr.heap.size from fun k e => (World.ownsRow.lt HSTi.out.own k e).2)
                        have HWR := hid HSTi.out.q.size
                        have HFw2 := hid HSTi.out.sd.few
                        obtain ⟨LR, HLR⟩ : ∃ n, Hid (wr.heap.size = n) := ⟨_, rfl⟩
                        obtain ⟨rl, HRL⟩ : ∃ n, Hid (a.1.r.length = n) := ⟨_, rfl⟩
                        have HO20 := hid (show ∃ ys : List UInt8, ys.length = rl ∧ OwnB w20 LR v20 ys from ⟨_, HRL.out, by rw [← HLR.out]; exact ho20⟩)
                        have HLRs := hid (show wr.heap.size ≤ w20.heap.size from hb20.size)
                        rw [HLR.out] at HLd2 HLr2 HWR HLRs
                        rw [HRL.out] at HFw2
                        obtain ⟨a20, c20, e20⟩ := ho20.shape
                        rw [HRL.out] at e20
                        subst e20
                        clear ho20 hb20 HRE
                        go_wp2
                        -- the rest is spoilt
                        go_loopw [21] (fun vi wx => ∃ j : Nat, j ≤ rl ∧ vi = .int .i64 j ∧ Hid (Std w wx b S7 v8 vr4 vs4 a.1) ∧ Hid (∃ ys : List UInt8, ys.length = rl ∧ OwnB wx LR (.slice a20 rl c20) ys) ∧ Hid (LR ≤ wx.heap.size)) (fun vi _ => rl - (intOf vi).toNat)
                        case atStart => exact ⟨0, by omega, rfl, HST20.out, HO20.out, HLRs.out⟩
                        case round =>
                          obtain ⟨j, hj, rfl, HSTx, HOx, HLRw⟩ := hrel
                          obtain ⟨ys, hy1, hy2⟩ := HOx.out
                          by_cases hjl : j < rl
                          · as_aux_lemma =>
                              have hji : (j : Int) < (rl : Int) := by omega
                              obtain ⟨g, cap, cur, u, e1, e2, e3, e4, e5⟩ := Rw.at (e := 5) (sz := 1) (n := ys.length) ⟨_, hy2⟩ j (by omega)
                              injection e1 with e6 e7 e8
                              subst e6 e8
                              have HSTy := hid (HSTx.out.put (g := g) (gb_set wr ⟨g, j, none⟩ (.int .u8 250)) e3 (by decide) (by decide) (by decide) (fun e9 => by have := HLd2.out g e9; omega) (fun e9 => by have := HLr2.out g e9; omega) (by have := HWR.out; omega))
                              have HOy := hid (show ∃ ys : List UInt8, ys.length = rl ∧ OwnB (wr.setCell ⟨g, j, none⟩ (.int .u8 250)) LR (.slice (some ⟨g, 0, none⟩) rl c20) ys from ⟨ys.set j 250, by rw [List.length_set]; exact hy1, ownb_set8 hy2 j 250⟩)
                              have hjw : IntKind.i64.wrap ((j : Int) + 1) = (j : Int) + 1 := by rw [IntKind.wrap_i64]; have := HFw2.out; omega
                              have HLRy := hid (show LR ≤ (wr.setCell ⟨g, j, none⟩ (.int .u8 250)).heap.size from Nat.le_trans HLRw.out (gb_set wr ⟨g, j, none⟩ (.int .u8 250)).size)
                              clear e3 e7 hy1 hy2
                              go_wp2
                              exact ⟨⟨j + 1, hjl, by simp, HSTy.out, HOy.out, HLRy.out⟩, by simp [intOf]; omega⟩
                          · obtain rfl : j = rl := by omega
                            as_aux_lemma =>
                              have HY2 := hid hy2
                              have HY1 := hid hy1
                              have HW21 := hid (below_walk wr (.cells #[.int .u8 1, .int .u8 2, .int .u8 3, .int .u8 4] 5))
                              have HX21 := hid (show Src (wr.alloc (.cells #[.int .u8 1, .int .u8 2, .int .u8 3, .int .u8 4] 5)) (.slice (some ⟨wr.heap.size, 0, none⟩) 4 4) [1, 2, 3, 4] from src_lit (hp_new _ _) rfl (by decide) _ rfl)
                              have HO21 := hid (HY2.out.below HW21.out)
                              have HST21 := hid (HSTx.out.below HW21.out)
                              have HZ21 := hid (show LR ≤ (wr.alloc (.cells #[.int .u8 1, .int .u8 2, .int .u8 3, .int .u8 4] 5)).heap.size from Nat.le_trans HLRw.out HW21.out.size)
                              clear hy1 hy2 HOx
                              go_wp2_with (first | (at_builtin; refine app_bytes (by rfl) _ _ rfl LR _ ys rfl HO21.out _ [1, 2, 3, 4] rfl HX21.out (by have := HFw2.out; have := HY1.out; simp; omega) HZ21.out ?_))
                              intro v22 w22 ho22 hg22 hp22
                              have HST22 := hid (HST21.out.row HO21.out hg22 (fun k e e2 => by have := HLd2.out k e2; have := (World.ownsRow.lt HO21.out k e).1; omega) (fun k e e2 => by have := HLr2.out k e2; have := (World.ownsRow.lt HO21.out k e).1; omega) HWR.out)
                              obtain ⟨a22, c22, e22⟩ := ho22.shape
                              obtain ⟨NL, HNL⟩ : ∃ n : Nat, Hid ((ys ++ ([1, 2, 3, 4] : List UInt8)).length = n) := ⟨_, rfl⟩
                              have hnl : ¬ ((NL : Int) < 4) := by have h9 := HNL.out; rw [List.length_append] at h9; simp at h9; omega
                              rw [HNL.out] at e22
                              subst e22
                              clear ho22 hg22 hp22 HST21 HO21 HX21 HW21 HSTx
                              have HTE := hid (tells8_any w22 b b 2097152 v8 vr4 vs4 a.1 HST22.out.sd (HST22.out.own.src (by rw [HRL.out]; have := HFw2.out; omega)))
                              have HBK2 := hid HST22.out.blk
                              rw [HS4.out] at HTE HBK2
                              have hkw : IntKind.i64.wrap ((k : Int) + 1) = (k : Int) + 1 := by rw [IntKind.wrap_i64]; omega
                              have HCK := hid (show a.1.came ≤ (k + 1) * 1048576 ∧ a.1.szs.length ≤ (k + 1) * 1048576 by have := HCM.out; have := HCA.out; have := HSZa.out; have := HPL.out; omega)
                              go_wp2_with (first | (refine unguard8 (by rfl) ?_; refine ld_row (by rfl) 52 (.tmp 7) (by rfl) S7 (by rfl) S4 52 HBK2.out _ Tryz.underlying52 rfl HSZ4.out ?_))
                              refine HTE.out.mono ?_
                              rintro e w23 ⟨rfl, hb23⟩
                              have HST23 := hid (HST22.out.below hb23)
                              clear hb23 HTE
                              go_wp2
                              exact ⟨⟨k + 1, v8, vr4, vs4, a.1, hlt, by simp, HST23.out, HAP8.out, HCK.out⟩, by simp [intOf]; omega⟩
    · obtain rfl : k = 2 := by omega
      as_aux_lemma =>
        go_wp2_with fail
        refine (awake8_any wr).mono ?_
        rintro e wz ⟨rfl, hbz⟩
        have HB9 := hid (below_then HST.out.q hbz)
        clear hbz
        go_wp2
        go_ret
        exact ⟨rfl, HB9.out⟩
end Go.Proofs.YtiibhccbbpgehabGreat
