/- ShaOrder answers true. -/
import Derived.Test.YticmdmnjajjpbacDoorSAwake
import Derived.Test.YticmdmnjajjpbacDoorSCmp
import Derived.Test.YticmdmnjajjpbacDoorSLawBack
namespace Go.Proofs.YticmdmnjajjpbacDoor
open Go.RowKit

theorem less_cons (x y : UInt8) (r s : List UInt8) : Op.bytesLess (x :: r) (y :: s) = (decide (x.toNat < y.toNat) || (decide (x.toNat = y.toNat) && Op.bytesLess r s)) := by
  simp only [Op.bytesLess]
  congr 1
  congr 1
  rw [Bool.eq_iff_iff]
  simp [UInt8.toNat_inj]
theorem hexd_toNat (q : Nat) (hq : q < 16) : (hexd q).toNat = if q < 10 then 48 + q else 87 + q := by
  unfold hexd
  split <;> simp only [Nat.toUInt8_eq, UInt8.toNat_ofNat'] <;> omega
theorem hexd_lt (p q : Nat) (hp : p < 16) (hq : q < 16) : ((hexd p).toNat < (hexd q).toNat ↔ p < q) ∧ ((hexd p).toNat = (hexd q).toNat ↔ p = q) := by
  rw [hexd_toNat p hp, hexd_toNat q hq]
  split <;> split <;> omega
theorem less_hex : ∀ a b : List UInt8, a.length = b.length → Op.bytesLess (hexT a) (hexT b) = decide (cmpP a b < 0)
  | [], [], _ => rfl
  | [], _ :: _, h => by simp at h
  | _ :: _, [], h => by simp at h
  | x :: r, y :: s, h => by
    have ih := less_hex r s (by simpa using h)
    have hx := x.toNat_lt
    have hy := y.toNat_lt
    have h1 := hexd_lt (x.toNat / 16) (y.toNat / 16) (by omega) (by omega)
    have h2 := hexd_lt (x.toNat % 16) (y.toNat % 16) (by omega) (by omega)
    have hc : cmpP (x :: r) (y :: s) = if x.toNat < y.toNat then -1 else if y.toNat < x.toNat then 1 else cmpP r s := by rw [cmpP]
    simp only [hexT, less_cons, ih, h1.1, h1.2, h2.1, h2.2]
    rw [hc]
    by_cases k1 : x.toNat < y.toNat
    · rw [if_pos k1]
      by_cases k2 : x.toNat / 16 < y.toNat / 16
      · simp [k2]
      · have k3 : x.toNat / 16 = y.toNat / 16 := by omega
        have k4 : x.toNat % 16 < y.toNat % 16 := by omega
        simp [k3, k4]
    · by_cases k2 : y.toNat < x.toNat
      · rw [if_neg k1, if_pos k2]
        have e1 : ¬ x.toNat / 16 < y.toNat / 16 := by omega
        by_cases k3 : x.toNat / 16 = y.toNat / 16
        · have e2 : ¬ x.toNat % 16 < y.toNat % 16 := by omega
          have e3 : ¬ x.toNat % 16 = y.toNat % 16 := by omega
          simp [e2, e3, k3]
        · simp [e1, k3]
      · obtain rfl : x = y := UInt8.toNat_inj.1 (by omega)
        rw [if_neg k1, if_neg k2]
        simp
theorem hexT_inj {a b : List UInt8} (h : hexT a = hexT b) : a = b := by
  rw [← (unh_hexT a).1, h, (unh_hexT b).1]

/-- three digests that lie in memory -/
def Three (g a b c : Nat) (A B C : List Value) : World → Prop := fun w => w.rangeAt a 0 A ∧ w.rangeAt b 0 B ∧ w.rangeAt c 0 C ∧ g = g
theorem three_below {w w' : World} {g a b c : Nat} {A B C : List Value} (h : Three g a b c A B C w) (hb : Below w.heap.size w w') : Three g a b c A B C w' := ⟨range_below h.1 hb, range_below h.2.1 hb, range_below h.2.2.1 hb, rfl⟩
theorem row_range {w : World} {b : Nat} {cs : List Value} {T : TypeId} (h : w.heap[b]? = some (.cells cs.toArray T (0, 0))) : w.rangeAt b 0 cs := fun j v hv => by
  rw [Nat.zero_add, cell_of_row w b j _ _ _ h]
  simpa using hv
theorem hp_three' (w : World) (o p q : Obj) : (((w.alloc o).alloc p).alloc q).heap[w.heap.size]? = some o ∧ (((w.alloc o).alloc p).alloc q).heap[w.heap.size + 1]? = some p ∧ (((w.alloc o).alloc p).alloc q).heap[w.heap.size + 1 + 1]? = some q := hp_three w o p q

set_option maxRecDepth 100000 in
set_option maxHeartbeats 2000000 in
theorem order_any (w : World) (a b c : List UInt8) (hT : Tabs w) (ha : a.length = 32) (hb : b.length = 32) (hc : c.length = 32) :
    Calls Tryd.prog 3 #[.agg (bytesV a).toArray, .agg (bytesV b).toArray, .agg (bytesV c).toArray] w fun e w' => e = .returned (.bool true) ∧ Below w.heap.size w w' := by
  have HT := hid hT
  have HA := hid ha
  have HB := hid hb
  have HC := hid hc
  have ue := dig_eql a b ha hb
  have H3 := hid (hp_three w (.cells (bytesV a).toArray 23) (.cells (bytesV b).toArray 23) (.cells (bytesV c).toArray 23))
  have HBW := hid ((below_walk2 w (.cells (bytesV a).toArray 23) (.cells (bytesV b).toArray 23)).alloc (by rw [hp_size, hp_size]; omega) (.cells (bytesV c).toArray 23))
  obtain ⟨p, HP⟩ : ∃ p, Hid (p = cmpP a b) := ⟨_, rfl⟩
  obtain ⟨q, HQ⟩ : ∃ q, Hid (q = cmpP b c) := ⟨_, rfl⟩
  obtain ⟨r, HR⟩ : ∃ r, Hid (r = cmpP a c) := ⟨_, rfl⟩
  have hp := cmp_bound a b
  rw [← HP.out] at hp
  have HNEG := hid (cmp_neg a b)
  rw [← HP.out] at HNEG
  have HZ := hid (cmp_zero a b (by omega))
  rw [← HP.out] at HZ
  have HTR := hid (cmp_trans a b c (by omega) (by omega))
  rw [← HP.out, ← HQ.out, ← HR.out] at HTR
  have HLS := hid (less_hex a b (by omega))
  rw [← HP.out] at HLS
  clear ha hb hc hT
  have hu : Tryd.prog.underlying 23 = some _ := Tryd.underlying23
  have HSA : Hid ((Tryd.prog.info? 23).map (·.size) = some (bytesV a).length) := by rw [bytesV_length, HA.out]; exact hid (by kernel_rfl)
  have HSB : Hid ((Tryd.prog.info? 23).map (·.size) = some (bytesV b).length) := by rw [bytesV_length, HB.out]; exact hid (by kernel_rfl)
  have HSC : Hid ((Tryd.prog.info? 23).map (·.size) = some (bytesV c).length) := by rw [bytesV_length, HC.out]; exact hid (by kernel_rfl)
  have HC1 := hid (fun (W : World) => compare_any W a b HA.out HB.out)
  have HC2 := hid (fun (W : World) => compare_any W b c HB.out HC.out)
  have HC3 := hid (fun (W : World) => compare_any W a c HA.out HC.out)
  have HC4 := hid (fun (W : World) => compare_any W b a HB.out HA.out)
  rw [← HP.out] at HC1
  rw [← HQ.out] at HC2
  rw [← HR.out] at HC3
  rw [HNEG.out] at HC4
  go_enter Tryd.func3, Tryd.ntmps3
  go_upto_region 1 with fail
  generalize ((w.alloc (.cells (bytesV a).toArray 23)).alloc (.cells (bytesV b).toArray 23)).alloc (.cells (bytesV c).toArray 23) = w3 at H3 HBW ⊢
  obtain ⟨VA, HVA⟩ : ∃ V, Hid (V = bytesV a) := ⟨_, rfl⟩
  obtain ⟨VB, HVB⟩ : ∃ V, Hid (V = bytesV b) := ⟨_, rfl⟩
  obtain ⟨VC, HVC⟩ : ∃ V, Hid (V = bytesV c) := ⟨_, rfl⟩
  rw [← HVA.out] at HSA HC1 HC3 HC4 ue H3
  rw [← HVB.out] at HSB HC1 HC2 HC4 ue H3
  rw [← HVC.out] at HSC HC2 HC3 H3
  rw [← HVA.out, ← HVB.out, ← HVC.out]
  have HR3 := hid (show Three 0 w.heap.size (w.heap.size + 1) (w.heap.size + 1 + 1) VA VB VC w3.drew from ⟨row_range H3.out.1, row_range H3.out.2.1, row_range H3.out.2.2, rfl⟩)
  have HBd := hid (show Below w.heap.size w w3.drew from ⟨HBW.out.os, HBW.out.tape, HBW.out.output, HBW.out.size, HBW.out.block⟩)
  refine wp_noPanic (wp_region_held_drew (S := Three 0 w.heap.size (w.heap.size + 1) (w.heap.size + 1 + 1) VA VB VC) (by kernel_rfl) HR3.out ?_)
  intro hHeld
  refine wpAnyH_take (i := 0) (v := .agg VA.toArray) rfl (by kernel_rfl) (by kernel_rfl) (by kernel_rfl) (fun _ _ _ h => h) (yieldsIf_load_mid (by rfl) 23 (.tmp 3) rfl (w.heap.size) 0 rfl VA _ (fun W hW => hW.1) hu rfl HSA.out) hHeld ?_
  simp only [Act.put, List.getElem_toArray, List.getElem_cons_zero, List.setIfInBounds_toArray, List.set_cons_succ, List.set_cons_zero]
  refine wpAnyH_take (i := 1) (v := .agg VB.toArray) rfl (by kernel_rfl) (by kernel_rfl) (by kernel_rfl) (fun _ _ _ h => h) (yieldsIf_load_mid (by rfl) 23 (.tmp 4) rfl (w.heap.size + 1) 0 rfl VB _ (fun W hW => hW.2.1) hu rfl HSB.out) hHeld ?_
  simp only [Act.put, List.getElem_toArray, List.getElem_cons_zero, List.getElem_cons_succ, List.setIfInBounds_toArray, List.set_cons_succ, List.set_cons_zero]
  refine wpAnyH_take (i := 3) (v := .agg VB.toArray) rfl (by kernel_rfl) (by kernel_rfl) (by kernel_rfl) (fun _ _ _ h => h) (yieldsIf_load_mid (by rfl) 23 (.tmp 4) rfl (w.heap.size + 1) 0 rfl VB _ (fun W hW => hW.2.1) hu rfl HSB.out) hHeld ?_
  simp only [Act.put, List.getElem_toArray, List.getElem_cons_zero, List.getElem_cons_succ, List.setIfInBounds_toArray, List.set_cons_succ, List.set_cons_zero]
  refine wpAnyH_take (i := 4) (v := .agg VC.toArray) rfl (by kernel_rfl) (by kernel_rfl) (by kernel_rfl) (fun _ _ _ h => h) (yieldsIf_load_mid (by rfl) 23 (.tmp 5) rfl (w.heap.size + 1 + 1) 0 rfl VC _ (fun W hW => hW.2.2.1) hu rfl HSC.out) hHeld ?_
  simp only [Act.put, List.getElem_toArray, List.getElem_cons_zero, List.getElem_cons_succ, List.setIfInBounds_toArray, List.set_cons_succ, List.set_cons_zero]
  refine wpAnyH_take (i := 6) (v := .agg VA.toArray) rfl (by kernel_rfl) (by kernel_rfl) (by kernel_rfl) (fun _ _ _ h => h) (yieldsIf_load_mid (by rfl) 23 (.tmp 3) rfl (w.heap.size) 0 rfl VA _ (fun W hW => hW.1) hu rfl HSA.out) hHeld ?_
  simp only [Act.put, List.getElem_toArray, List.getElem_cons_zero, List.getElem_cons_succ, List.setIfInBounds_toArray, List.set_cons_succ, List.set_cons_zero]
  refine wpAnyH_take (i := 7) (v := .agg VC.toArray) rfl (by kernel_rfl) (by kernel_rfl) (by kernel_rfl) (fun _ _ _ h => h) (yieldsIf_load_mid (by rfl) 23 (.tmp 5) rfl (w.heap.size + 1 + 1) 0 rfl VC _ (fun W hW => hW.2.2.1) hu rfl HSC.out) hHeld ?_
  simp only [Act.put, List.getElem_toArray, List.getElem_cons_zero, List.getElem_cons_succ, List.setIfInBounds_toArray, List.set_cons_succ, List.set_cons_zero]
  refine wpAnyH_ready (rs := [2]) (by kernel_rfl) (by simp) ?_
  refine AllReadyH.cons rfl (fun K hK => ?_) AllReadyH.nil
  go_simp
  refine (HC1.out _).mono ?_
  rintro e w4 ⟨rfl, hb⟩
  have HRw4 := hid (three_below HR3.out hb)
  have HBw4 := hid (HBd.out.trans (hb.mono HBd.out.size))
  clear hb
  go_wp2_with fail
  refine hK.out _ _ HRw4.out (fun hHeld => ?_)
  clear hK K
  refine wpAnyH_ready (rs := [5]) (by kernel_rfl) (by simp) ?_
  refine AllReadyH.cons rfl (fun K hK => ?_) AllReadyH.nil
  go_simp
  refine (HC2.out _).mono ?_
  rintro e w5 ⟨rfl, hb⟩
  have HRw5 := hid (three_below HRw4.out hb)
  have HBw5 := hid (HBw4.out.trans (hb.mono HBw4.out.size))
  clear hb
  go_wp2_with fail
  refine hK.out _ _ HRw5.out (fun hHeld => ?_)
  clear hK K
  refine wpAnyH_ready (rs := [8]) (by kernel_rfl) (by simp) ?_
  refine AllReadyH.cons rfl (fun K hK => ?_) AllReadyH.nil
  go_simp
  refine (HC3.out _).mono ?_
  rintro e w6 ⟨rfl, hb⟩
  have HRw6 := hid (three_below HRw5.out hb)
  have HBw6 := hid (HBw5.out.trans (hb.mono HBw5.out.size))
  clear hb
  go_wp2_with fail
  refine hK.out _ _ HRw6.out (fun hHeld => ?_)
  clear hK K
  refine wpAnyH_take (i := 9) (v := (.int .i64 p)) rfl (by kernel_rfl) (by kernel_rfl) (by kernel_rfl) (fun _ _ _ h => h) (Or.inl ⟨by rfl, fun W _ => by go_simp⟩) hHeld ?_
  simp only [Act.put, List.getElem_toArray, List.getElem_cons_zero, List.getElem_cons_succ, List.setIfInBounds_toArray, List.set_cons_succ, List.set_cons_zero]
  refine wpAnyH_take (i := 10) (v := (.int .i64 q)) rfl (by kernel_rfl) (by kernel_rfl) (by kernel_rfl) (fun _ _ _ h => h) (Or.inl ⟨by rfl, fun W _ => by go_simp⟩) hHeld ?_
  simp only [Act.put, List.getElem_toArray, List.getElem_cons_zero, List.getElem_cons_succ, List.setIfInBounds_toArray, List.set_cons_succ, List.set_cons_zero]
  refine wpAnyH_take (i := 11) (v := (.int .i64 r)) rfl (by kernel_rfl) (by kernel_rfl) (by kernel_rfl) (fun _ _ _ h => h) (Or.inl ⟨by rfl, fun W _ => by go_simp⟩) hHeld ?_
  simp only [Act.put, List.getElem_toArray, List.getElem_cons_zero, List.getElem_cons_succ, List.setIfInBounds_toArray, List.set_cons_succ, List.set_cons_zero]
  refine wpAnyH_done (by kernel_rfl) ?_ _
  simp only [noPanic]
  clear hHeld
  have hcs : (p = 0 ∧ a = b) ∨ (p = -1 ∧ a ≠ b) ∨ (p = 1 ∧ a ≠ b) := by
    have h1 := HZ.out
    by_cases e : a = b
    · exact Or.inl ⟨h1.2 e, e⟩
    · have : p ≠ 0 := fun h => e (h1.1 h)
      rcases (show p = -1 ∨ p = 1 by omega) with h | h
      · exact Or.inr (Or.inl ⟨h, e⟩)
      · exact Or.inr (Or.inr ⟨h, e⟩)
  obtain ⟨la, HLA⟩ : ∃ l, Hid (l = hexT a) := ⟨_, rfl⟩
  obtain ⟨lb, HLB⟩ : ∃ l, Hid (l = hexT b) := ⟨_, rfl⟩
  have hlit : ∃ (P : Int) (E L : Bool), Hid (p = P) ∧ ((P = 0 ∧ E = true ∧ L = false) ∨ (P = -1 ∧ E = false ∧ L = true) ∨ (P = 1 ∧ E = false ∧ L = false)) ∧ decide (a = b) = E ∧ Op.bytesLess la lb = L ∧ (la == lb) = E := by
    have h2 := HLS.out
    rw [← HLA.out, ← HLB.out] at h2
    rcases hcs with ⟨h, e⟩ | ⟨h, e⟩ | ⟨h, e⟩
    · refine ⟨0, true, false, hid h, Or.inl ⟨rfl, rfl, rfl⟩, decide_eq_true e, ?_, ?_⟩
      · rw [h2, h]; rfl
      · rw [HLA.out, HLB.out, e]; simp
    · refine ⟨-1, false, true, hid h, Or.inr (Or.inl ⟨rfl, rfl, rfl⟩), decide_eq_false e, ?_, ?_⟩
      · rw [h2, h]; rfl
      · rw [HLA.out, HLB.out]; exact beq_eq_false_iff_ne.2 (fun h => e (hexT_inj h))
    · refine ⟨1, false, false, hid h, Or.inr (Or.inr ⟨rfl, rfl, rfl⟩), decide_eq_false e, ?_, ?_⟩
      · rw [h2, h]; rfl
      · rw [HLA.out, HLB.out]; exact beq_eq_false_iff_ne.2 (fun h => e (hexT_inj h))
  obtain ⟨P, E, L, HPP, hcase, hE, hL, hEq⟩ := hlit
  rw [hE] at ue
  clear hE hcs
  have hqr : (P ≤ 0 → q ≤ 0 → r ≤ 0) := by have := HTR.out; rw [HPP.out] at this; exact this
  rw [HPP.out] at HC4 ⊢
  clear hp HZ HTR HLS HNEG HPP
  rcases hcase with ⟨rfl, rfl, rfl⟩ | ⟨rfl, rfl, rfl⟩ | ⟨rfl, rfl, rfl⟩
  all_goals
    by_cases hq : q ≤ 0
  all_goals
    first | (have hr : r ≤ 0 := hqr (by omega) hq) | skip
    clear hqr
    go_wp2_with (first
      | (refine unguard (by rfl) ?_; refine wpList_load_mid (by rfl) 23 (.tmp 4) (by rfl) (w.heap.size + 1) 0 (by rfl) VB _ HRw6.out.2.1 hu rfl HSB.out ?_)
      | (refine unguard (by rfl) ?_; refine wpList_load_mid (by rfl) 23 (.tmp 3) (by rfl) w.heap.size 0 (by rfl) VA _ HRw6.out.1 hu rfl HSA.out ?_)
      | (go_at_call 7; refine (HC4.out _).mono ?_; rintro e w7 ⟨rfl, hb⟩; have HRw7 := hid (three_below HRw6.out hb); have HBw7 := hid (HBw6.out.trans (hb.mono HBw6.out.size)); clear hb)
      | (refine unguard (by rfl) ?_; refine wpList_load_mid (by rfl) 23 (.tmp 4) (by rfl) (w.heap.size + 1) 0 (by rfl) VB _ HRw7.out.2.1 hu rfl HSB.out ?_)
      | (refine unguard (by rfl) ?_; refine wpList_load_mid (by rfl) 23 (.tmp 3) (by rfl) w.heap.size 0 (by rfl) VA _ HRw7.out.1 hu rfl HSA.out ?_))
    have HRd := hid (show Three 0 w.heap.size (w.heap.size + 1) (w.heap.size + 1 + 1) VA VB VC w7.drew from ⟨HRw7.out.1, HRw7.out.2.1, HRw7.out.2.2.1, rfl⟩)
    have HBd7 := hid (show Below w.heap.size w w7.drew from ⟨HBw7.out.os, HBw7.out.tape, HBw7.out.output, HBw7.out.size, HBw7.out.block⟩)
    have HX1 := hid (fun (W : World) => hex_any W a HA.out)
    have HX2 := hid (fun (W : World) => hex_any W b HB.out)
    rw [← HLA.out, ← HVA.out] at HX1
    rw [← HLB.out, ← HVB.out] at HX2
    refine wp_noPanic (wp_region_held_drew (S := Three 0 w.heap.size (w.heap.size + 1) (w.heap.size + 1 + 1) VA VB VC) (by kernel_rfl) HRd.out ?_)
    intro hHeld
    refine wpAnyH_take (i := 0) (v := .agg VA.toArray) rfl (by kernel_rfl) (by kernel_rfl) (by kernel_rfl) (fun _ _ _ h => h) (yieldsIf_load_mid (by rfl) 23 (.tmp 3) rfl (w.heap.size) 0 rfl VA _ (fun W hW => hW.1) hu rfl HSA.out) hHeld ?_
    simp only [Act.put, List.getElem_toArray, List.getElem_cons_zero, List.setIfInBounds_toArray, List.set_cons_succ, List.set_cons_zero]
    refine wpAnyH_take (i := 2) (v := .agg VB.toArray) rfl (by kernel_rfl) (by kernel_rfl) (by kernel_rfl) (fun _ _ _ h => h) (yieldsIf_load_mid (by rfl) 23 (.tmp 4) rfl (w.heap.size + 1) 0 rfl VB _ (fun W hW => hW.2.1) hu rfl HSB.out) hHeld ?_
    simp only [Act.put, List.getElem_toArray, List.getElem_cons_zero, List.getElem_cons_succ, List.setIfInBounds_toArray, List.set_cons_succ, List.set_cons_zero]
    refine wpAnyH_ready (rs := [1]) (by kernel_rfl) (by simp) ?_
    refine AllReadyH.cons rfl (fun K hK => ?_) AllReadyH.nil
    go_simp
    refine (HX1.out _).mono ?_
    rintro e w8 ⟨rfl, hb⟩
    have HRw8 := hid (three_below HRd.out hb)
    have HBw8 := hid (HBd7.out.trans (hb.mono HBd7.out.size))
    clear hb
    go_wp2_with fail
    refine hK.out _ _ HRw8.out (fun hHeld => ?_)
    clear hK K
    refine wpAnyH_ready (rs := [3]) (by kernel_rfl) (by simp) ?_
    refine AllReadyH.cons rfl (fun K hK => ?_) AllReadyH.nil
    go_simp
    refine (HX2.out _).mono ?_
    rintro e w9 ⟨rfl, hb⟩
    have HRw9 := hid (three_below HRw8.out hb)
    have HBw9 := hid (HBw8.out.trans (hb.mono HBw8.out.size))
    clear hb
    go_wp2_with fail
    refine hK.out _ _ HRw9.out (fun hHeld => ?_)
    clear hK K
    refine wpAnyH_take (i := 4) (v := (.string ⟨la.toArray⟩)) rfl (by kernel_rfl) (by kernel_rfl) (by kernel_rfl) (fun _ _ _ h => h) (Or.inl ⟨by rfl, fun W _ => by go_simp⟩) hHeld ?_
    simp only [Act.put, List.getElem_toArray, List.getElem_cons_zero, List.getElem_cons_succ, List.setIfInBounds_toArray, List.set_cons_succ, List.set_cons_zero]
    refine wpAnyH_take (i := 5) (v := (.string ⟨lb.toArray⟩)) rfl (by kernel_rfl) (by kernel_rfl) (by kernel_rfl) (fun _ _ _ h => h) (Or.inl ⟨by rfl, fun W _ => by go_simp⟩) hHeld ?_
    simp only [Act.put, List.getElem_toArray, List.getElem_cons_zero, List.getElem_cons_succ, List.setIfInBounds_toArray, List.set_cons_succ, List.set_cons_zero]
    refine wpAnyH_done (by kernel_rfl) ?_ _
    simp only [noPanic]
    clear hHeld
    go_wp2_with fail
    refine (awake_any _ (HT.out.below HBw9.out)).mono ?_
    rintro e w10 ⟨rfl, hb⟩
    have HB10 := hid (HBw9.out.trans (hb.mono HBw9.out.size))
    clear hb
    go_wp2
    go_ret
    exact ⟨rfl, HB10.out⟩

end Go.Proofs.YticmdmnjajjpbacDoor
