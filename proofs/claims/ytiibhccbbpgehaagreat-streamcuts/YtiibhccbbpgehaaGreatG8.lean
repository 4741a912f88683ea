/- Contracts and pure facts that the proof needs, joined. -/
import Derived.Test.YtiibhccbbpgehaaGreatG7
import Derived.Deep.CutRange

/- StreamCuts answers true. -/
namespace Go.Proofs.YtiibhccbbpgehaaGreat
open Go.RowKit Go.BigFrame

theorem newMax (w : World) : Calls Tryz.prog 13 #[.int .i64 2097152] w fun e w' => ∃ b, e = .returned (.tuple #[.pointer (some ⟨b, 0, none⟩), .int .i64 0]) ∧ w.heap.size ≤ b ∧ Sd w' b b (.slice none 0 0) 2097152 zS ∧ Below w.heap.size w w' := new_ok8 w 2097152 (by omega) (by omega)
theorem fl_one (bs : List UInt8) : fl [bs] = bs := by simp [fl]
/-- another decoder's call -/
theorem Sd.other {w w' : World} {base b base2 b2 : Nat} {v v2 v2' : Value} {M M2 : Nat} {s s2 : Sx} (h : Sd w base b v M s) (g : Gd w w' b2 v2 v2') (k : Sd w base2 b2 v2 M2 s2) (hb : b ≠ b2) (hv : ∀ k, v.ownBlock = some k → v2.ownBlock ≠ some k) : Sd w' base b v M s :=
  ⟨⟨h.kb.lo, (g.block b h.kb.lt hb (fun e => own_block k.kb.own h.kb.blk (by decide) e)).trans h.kb.blk, own_gd h.kb.own g (fun e => own_block h.kb.own k.kb.blk (by decide) e) hv⟩, h.good, h.one, h.big⟩

set_option maxRecDepth 100000 in
set_option maxHeartbeats 8000000 in
theorem lawCuts_any (v v2 : Value) (bs cu : List UInt8) (w : World) (hs : Src w v bs) (hbl : bs.length ≤ 1048576) (hc : Src w v2 cu) (hcl : cu.length ≤ 1048576) :
    Calls Tryz.prog 6 #[v, v2] w fun e w' => e = .returned (.bool true) ∧ Below w.heap.size w w' := by
  have HS := hid hs
  have HCU := hid hc
  obtain ⟨av, cv, rfl⟩ := src_shape hs
  obtain ⟨ac, cc, rfl⟩ := src_shape hc
  clear hs hc
  go_enter Tryz.func6, Tryz.ntmps6
  go_wp2_with fail
  refine (newMax w).mono ?_
  rintro e w1 ⟨b1, rfl, hbw, hsd, hb1⟩
  have HBW1 := hid hbw
  have HB1 := hid hb1
  have HS1 := hid hsd
  clear hbw hsd hb1
  go_wp2_with fail
  refine (newMax w1).mono ?_
  rintro e w2 ⟨b2, rfl, hbw, hsd, hb2⟩
  have HBW2 := hid (show w.heap.size ≤ b2 by have := HB1.out.size; omega)
  have HBB := hid (show b1 ≠ b2 by have := HS1.out.kb.lt; omega)
  have HW3 := hid (below_walk w2 (.cells #[.slice av bs.length cv] 22))
  have HS3 := hid ((HS1.out.below hb2).below HW3.out)
  have HT3 := hid (hsd.below HW3.out)
  have HB3 := hid (below_then (below_then HB1.out hb2) HW3.out)
  have HL3 := hid (lsts_one w2 _ bs (HS.out.below (below_then HB1.out hb2)))
  have HVn := hid (show bs ≠ [] → (Value.slice av bs.length cv).ownBlock ≠ some b1 from fun h e => by have := src_lt HS.out h e; have := HBW1.out; omega)
  have HLb := hid (show b1 < w2.heap.size from (HS1.out.below hb2).kb.lt)
  clear hbw hsd hb2 HS1 HB1
  go_wp2_with fail
  obtain ⟨Z, HZe⟩ : ∃ n, Hid (w2.heap.size = n) := ⟨_, rfl⟩
  rw [HZe.out] at HL3 HLb
  try rw [HZe.out]
  generalize w2.alloc (.cells #[.slice av bs.length cv] 22) = w3 at HW3 HS3 HT3 HB3 HL3 ⊢
  have HFE := hid (kfeed_any HS3.out rfl _ _ _ (fun W vd hg => HL3.out.gd hg (by show some Z ≠ some b1; have := HLb.out; simp; omega) (fun k e e2 => by cases e2) (fun j h => by match j, h with | 0, h => exact HVn.out h | j + 1, _ => exact (by show nS.ownBlock ≠ some b1; intro e; cases e)) (fun j k _ e e2 => by cases e2)) (by simp) (by rw [fl_one]; show 0 + bs.length ≤ _; omega) (by rw [fl_one]; omega))
  rw [fl_one] at HFE
  obtain ⟨a1, HA1⟩ : ∃ a, Hid (runP 2097152 nev (zS, [], 0) bs = a) := ⟨_, rfl⟩
  rw [HA1.out] at HFE
  refine HFE.out.mono ?_
  rintro e w4 ⟨vl, v1, fsA, rfl, hof, hsd4, hg4, hm4⟩
  obtain ⟨y1, HY1⟩ : ∃ y, Hid (a1.1.why = y) := ⟨_, rfl⟩
  obtain ⟨t1, HT1⟩ : ∃ y, Hid (a1.1.wat = y) := ⟨_, rfl⟩
  rw [HY1.out, HT1.out]
  have HT4 := hid (HT3.out.other hg4 HS3.out (fun e => HBB.out e.symm) (fun k e => by cases e))
  have HB4 := hid (Below.trans HB3.out ((HS3.out.low hg4).mono HBW1.out))
  have HMA := hid hm4
  have HW5 := hid (below_walk w4 (.cells [Value.int .i64 y1, .int .i64 t1].toArray 33))
  have HF5 := hid (hp_new w4 (.cells [Value.int .i64 y1, .int .i64 t1].toArray 33))
  have HSO5 := hid (hsd4.below HW5.out)
  have HT5 := hid (HT4.out.below HW5.out)
  have HOA5 := hid (hof.below HW5.out)
  have HB5 := hid (below_then HB4.out HW5.out)
  obtain ⟨aL, cL, eL⟩ := hof.shape
  subst eL
  have HF1s := hid HB4.out.size
  clear hof hsd4 hg4 hm4 HFE HT4 HB4 HS3 HT3 HL3
  go_upto_region 6 with (refine st_new (by rfl) 33 _ _ (by rfl) [Value.int .i64 y1, .int .i64 t1] (by rfl) (by rfl) 33 _ faultSize rfl (fault_one _ _) ?_)
  obtain ⟨F1, HF1e⟩ : ∃ n, Hid (w4.heap.size = n) := ⟨_, rfl⟩
  rw [HF1e.out] at HF5
  try rw [HF1e.out]
  generalize w4.alloc (.cells [Value.int .i64 y1, .int .i64 t1].toArray 33) = w5 at HW5 HF5 HSO5 HT5 HOA5 HB5 ⊢
  have HW6 := hid (below_walk w5 (.cells [Value.int .i64 0, .int .i64 0].toArray 33))
  have HF6 := hid (hp_new w5 (.cells [Value.int .i64 0, .int .i64 0].toArray 33))
  have HF16 := hid (bel_keep HW6.out HF5.out)
  have HSO6 := hid (HSO5.out.below HW6.out)
  have HT6 := hid (HT5.out.below HW6.out)
  have HOA6 := hid (HOA5.out.below HW6.out)
  have HB6 := hid (below_then HB5.out HW6.out)
  have HF12 := hid (hp_lt HF5.out)
  have HF2s := hid HB5.out.size
  clear HSO5 HT5 HOA5 HB5 HF5
  go_upto_region 8 with (first
    | (refine bd_row (by rfl) 33 #[] (by rfl) _ (by simp) _ built_fz ?_)
    | (refine st_new (by rfl) 33 _ _ (by rfl) [Value.int .i64 0, .int .i64 0] (by rfl) (by rfl) 33 _ faultSize rfl (fault_one _ _) ?_))
  obtain ⟨F2, HF2e⟩ : ∃ n, Hid (w5.heap.size = n) := ⟨_, rfl⟩
  rw [HF2e.out] at HF6 HF12
  try rw [HF2e.out]
  generalize w5.alloc (.cells [Value.int .i64 0, .int .i64 0].toArray 33) = w6 at HW6 HF6 HF16 HSO6 HT6 HOA6 HB6 ⊢
  have HFn := hid (show w.heap.size ≤ F1 ∧ w.heap.size ≤ F2 from ⟨by have := HF1s.out; have := HF1e.out; omega, by have := HF2s.out; have := HF2e.out; omega⟩)
  have HFF := hid (show F1 ≠ F2 by have := HF12.out; omega)
  have HAL := hid (show Low w6.heap.size (.slice aL fsA.length cL) fsA from HOA6.out.low)
  have HW6 := hid HB6.out.size
  have HFL := hid (show fsA.length ≤ 140737488355327 by have h1 := run_few (M := 2097152) (q := nev) bs (zS, [], 0); rw [HA1.out, ← HMA.out, List.length_map] at h1; simp at h1; omega)
  obtain ⟨L6, HL6⟩ : ∃ n, Hid (w6.heap.size = n) := ⟨_, rfl⟩
  obtain ⟨L3, HL3⟩ : ∃ n, Hid (w3.heap.size = n) := ⟨_, rfl⟩
  rw [HL6.out] at HAL HW6
  rw [HL3.out] at HOA6
  have HZ6 := hid (Nat.le_of_eq HL6.out.symm)
  go_wp2
  go_loopw [11, 13, 14] (fun vg va vi wr => ∃ (k T : Nat) (vd : Value) (fs : List FV) (a : Ra), k ≤ cu.length + 1 ∧ T ≤ bs.length ∧ vi = .int .i64 k ∧ va = .int .i64 T ∧ Hid (runP 2097152 nev (zS, [], 0) (bs.take T) = a) ∧ Hid (k = cu.length + 1 → T = bs.length) ∧ Hid (fs.map (·.1) = a.2.1) ∧ Hid (OFs wr L6 vg fs) ∧ Hid (Sd wr b2 b2 vd 2097152 a.1) ∧ Hid (Sd wr b1 b1 v1 2097152 a1.1) ∧ Hid (∀ k, v1.ownBlock = some k → vd.ownBlock ≠ some k) ∧ Hid (OFs wr L3 (.slice aL fsA.length cL) fsA) ∧ Hid (wr.heap[F1]? = some (.cells [Value.int .i64 y1, .int .i64 t1].toArray 33 (0, 0))) ∧ Hid (wr.heap[F2]? = some (.cells [Value.int .i64 a.1.why, .int .i64 a.1.wat].toArray 33 (0, 0))) ∧ Hid (Below w.heap.size w wr) ∧ Hid (L6 ≤ wr.heap.size)) (fun _ _ vi _ => cu.length + 1 - (intOf vi).toNat)
  case atStart => exact ⟨0, 0, .slice none 0 0, [], (zS, [], 0), by omega, by omega, rfl, rfl, by rw [List.take_zero]; exact runP_nil _ _ _, fun h => by omega, rfl, OFs.nil _ _, HT6.out, HSO6.out, fun k _ e => (by cases e), HOA6.out, HF16.out, HF6.out, HB6.out, HZ6.out⟩
  case round =>
    obtain ⟨k, T, vd, fs, a, hk, hT, rfl, rfl, HR, HEND, HFS, HOGr, HSDr, HSOr, HAP, HOAr, HF1r, HF2r, HQr, HZr⟩ := hrel
    obtain ⟨ag, cg, eg⟩ := HOGr.out.shape
    subst eg
    have HFS2 := hid (show fs.length ≤ bs.length by have h1 := run_few (M := 2097152) (q := nev) (bs.take T) (zS, [], 0); rw [HR.out, ← HFS.out, List.length_map, List.length_take] at h1; simp at h1; omega)
    obtain ⟨y, HY⟩ : ∃ y, Hid (a.1.why = y) := ⟨_, rfl⟩
    obtain ⟨t, HTt⟩ : ∃ y, Hid (a.1.wat = y) := ⟨_, rfl⟩
    rw [HY.out, HTt.out] at HF2r
    have f0 : wr.cell? ⟨F2, 0, none⟩ = some (.int .i64 y) := by simp [World.cell?, HF2r.out]
    have f1 : wr.cell? ⟨F2, 1, none⟩ = some (.int .i64 t) := by simp [World.cell?, HF2r.out]
    by_cases hgo : k ≤ cu.length ∧ y = 0
    · as_aux_lemma =>
      obtain ⟨hk2, hy⟩ := hgo
      have HY0 := hid (HY.out.trans hy)
      have ht : t = 0 := by rw [← HTt.out]; exact (HSDr.out.good.ok HY0.out).1
      subst hy ht
      have hkk : (k : Int) ≤ (cu.length : Int) := by omega
      have n1 : ∀ W, (binOp .eql 33 (.agg #[.int .i64 0, .int .i64 0]) (.agg #[.int .i64 0, .int .i64 0])).run Tryz.prog W = .ok (.bool true) W := fun W => fault_eql 0 0 0 0 W
      -- how many bytes
      obtain ⟨N, HN, HN2⟩ : ∃ N : Nat, Hid (N = if k < cu.length then min (bs.length - T) (cu.getD k 0).toNat else bs.length - T) ∧ Hid (T + N ≤ bs.length) := ⟨if k < cu.length then min (bs.length - T) (cu.getD k 0).toNat else bs.length - T, hid rfl, hid (by split <;> omega)⟩
      obtain ⟨RM, HRM⟩ : ∃ n : Nat, Hid (bs.length - T = n) := ⟨_, rfl⟩
      have hw1 : IntKind.i64.wrap ((bs.length : Int) - (T : Int)) = (RM : Int) := by rw [IntKind.wrap_i64]; have := HRM.out; omega
      have HEN := hid (show k + 1 = cu.length + 1 → T + N = bs.length by intro h; have := HN.out; rw [if_neg (by omega)] at this; omega)
      go_upto_if 70 with (first | (refine unguard8 (by rfl) ?_; refine bd_row (by rfl) 33 #[] (by rfl) _ (by simp) _ built_fz ?_))
      go_cut [15] from 52 to 106 (fun s15 wx => s15 = .int .i64 (N : Int) ∧ wx = wr)
      case first =>
        as_aux_lemma =>
          by_cases hkl : k < cu.length
          · have hkl2 : (k : Int) < (cu.length : Int) := by omega
            obtain ⟨adc, ec, hcc⟩ := src_at (HCU.out.below HQr.out) k hkl
            subst ec
            have hm : min (RM : Int) ((cu.getD k 0).toNat : Int) = (N : Int) := by have := HN.out; rw [if_pos hkl] at this; have := HRM.out; omega
            have h8 : (cu.getD k 0).toNat < 256 := (cu.getD k 0).toNat_lt
            obtain ⟨C, HC⟩ : ∃ n, Hid ((cu.getD k 0).toNat = n) := ⟨_, rfl⟩
            rw [HC.out] at hcc hm h8
            clear f0 f1 n1 hkl
            go_wp2
            go_meet
            exact ⟨rfl, rfl⟩
          · have hkl2 : ¬ (k : Int) < (cu.length : Int) := by omega
            have hN : RM = N := by have := HN.out; rw [if_neg hkl] at this; have := HRM.out; omega
            clear f0 f1 n1 hkl
            go_wp2
            go_meet
            exact ⟨rfl, rfl⟩
      case rest =>
        as_aux_lemma =>
          obtain ⟨rfl, hwx⟩ := hcut
          have hwx9 := hwx.symm
          subst hwx9
          clear f0 f1 n1 hw1 HRM HN
          obtain ⟨H, HH⟩ : ∃ h : Nat, Hid (N / 2 = h) := ⟨_, rfl⟩
          have hqH : (N : Int).tdiv 2 = (H : Int) := by have := HH.out; rw [Int.tdiv_eq_ediv_of_nonneg (by omega)]; omega
          have HHN := hid (show H ≤ N by have := HH.out; omega)
          have hwH : IntKind.i64.wrap (H : Int) = (H : Int) := by rw [IntKind.wrap_i64]; have := HHN.out; have := HN2.out; omega
          have HHN' := hid (show H ≤ N by have := HH.out; omega)
          obtain ⟨M1, HM1⟩ : ∃ m : Nat, Hid (T + H = m) := ⟨_, rfl⟩
          obtain ⟨M2, HM2⟩ : ∃ m : Nat, Hid (T + N = m) := ⟨_, rfl⟩
          have hwM1 : IntKind.i64.wrap ((T : Int) + (H : Int)) = (M1 : Int) := by rw [IntKind.wrap_i64]; have := HN2.out; have := HHN.out; have := HM1.out; omega
          have hwM2 : IntKind.i64.wrap ((T : Int) + (N : Int)) = (M2 : Int) := by rw [IntKind.wrap_i64]; have := HN2.out; have := HM2.out; omega
          obtain ⟨vA, hA1, hA3, hA2⟩ := cut_range HS.out T (T + H) (by omega) (by have := HN2.out; have := HHN.out; omega)
          obtain ⟨vB, hB1, hB3, hB2⟩ := cut_range HS.out (T + H) (T + N) (by have := HHN.out; omega) HN2.out
          rw [HM1.out] at hA2 hB2
          rw [HM2.out] at hB2
          have HSP := hid (cuts_split bs T H N HHN.out)
          have HBO := hid (show ∀ k, (Value.slice av bs.length cv).ownBlock = some k → bs ≠ [] → k < w.heap.size from fun k e h => src_lt HS.out h e)
          obtain ⟨A, HAe⟩ : ∃ l, Hid ((bs.drop T).take (T + H - T) = l) := ⟨_, rfl⟩
          obtain ⟨B, HBe⟩ : ∃ l, Hid ((bs.drop (T + H)).take (T + N - (T + H)) = l) := ⟨_, rfl⟩
          rw [HAe.out] at hA1 HSP
          rw [HBe.out] at hB1 HSP
          obtain ⟨aA, nA, cA, eA⟩ := src_named hA1
          obtain ⟨aB, nB, cB, eB⟩ := src_named hB1
          subst eA eB
          have HXA := hid hA1
          have HXB := hid hB1
          have HAn := hid (show A ≠ [] → (Value.slice aA nA cA).ownBlock ≠ some b2 from fun h e => by have := src_lt HXA.out h e; have := HBW2.out; omega)
          have HBn := hid (show B ≠ [] → (Value.slice aB nB cB).ownBlock ≠ some b2 from fun h e => by have := src_lt HXB.out h e; have := HBW2.out; omega)
          have HAv := hid (show A ≠ [] → ∀ k, (Value.slice aA nA cA).ownBlock = some k → vd.ownBlock ≠ some k from fun h k e e2 => by have := src_lt HXA.out h e; have := (World.ownsRow.lt HSDr.out.kb.own k e2).1; have := HBW2.out; omega)
          have HBv := hid (show B ≠ [] → ∀ k, (Value.slice aB nB cB).ownBlock = some k → vd.ownBlock ≠ some k from fun h k e e2 => by have := src_lt HXB.out h e; have := (World.ownsRow.lt HSDr.out.kb.own k e2).1; have := HBW2.out; omega)
          have HFl := hid (show fl [A, B] = (bs.drop T).take N by rw [← HSP.out]; simp [fl])
          have HFn9 := hid (show (fl [A, B]).length = N by rw [HFl.out, List.length_take, List.length_drop]; have := HN2.out; omega)
          have HCM := hid (show a.1.came + (fl [A, B]).length ≤ 4611686018427387904 by
            have h1 := run_came (M := 2097152) (q := nev) (bs.take T) (zS, [], 0)
            have h2 := run_took (M := 2097152) (q := nev) (bs.take T) (zS, [], 0)
            rw [HR.out] at h1 h2
            rw [List.length_take] at h2
            rw [HFn9.out]
            have := HN2.out
            have h3 : (zS, ([] : List Fr), 0).2.2 = 0 := rfl
            have h4 : (zS, ([] : List Fr), 0).1.came = 0 := rfl
            omega)
          have HCB := hid (show (fl [A, B]).length ≤ 900000000000 by rw [HFn9.out]; have := HN2.out; omega)
          obtain ⟨a2, HRR⟩ : ∃ a2, Hid (runP 2097152 nev (a.1, [], 0) (fl [A, B]) = a2) := ⟨_, rfl⟩
          obtain ⟨y2, HY2⟩ : ∃ y, Hid (a2.1.why = y) := ⟨_, rfl⟩
          obtain ⟨t2, HT2⟩ : ∃ y, Hid (a2.1.wat = y) := ⟨_, rfl⟩
          have HRN := hid (show runP 2097152 nev (zS, [], 0) (bs.take (T + N)) = (a2.1, a.2.1 ++ a2.2.1, a.2.2 + a2.2.2) by
            rw [List.take_add, runP_app, HR.out, ← HFl.out, ← HRR.out]
            exact run_shift (fl [A, B]) a.1 a.2.1 a.2.2)
          have HFT := hid (show ∀ fs3 : List FV, fs3.map (·.1) = a2.2.1 → fs.length + fs3.length ≤ 1000000000000 by
            intro fs3 h3
            have h1 := run_few (M := 2097152) (q := nev) (fl [A, B]) (a.1, [], 0)
            rw [HRR.out, ← h3, List.length_map, HFn9.out] at h1
            have := HN2.out
            have := HFS2.out
            simp at h1
            omega)
          clear hA1 hB1 hA3 hB3 HSP HBO HAe HBe HH
          go_upto_region 15 with fail
          refine wp_noPanic (wp_region_held_drew (S := fun _ => True) (by kernel_rfl) trivial ?_)
          intro hHeld
          refine wpAnyH_take (i := 0) (v := .pointer (some ⟨b2, 0, none⟩)) rfl (by kernel_rfl) (by kernel_rfl) (by kernel_rfl) (fun _ _ _ h => h) (Or.inl ⟨by rfl, fun W _ => by go_simp⟩) hHeld ?_
          simp only [Act.put, List.getElem_toArray, List.getElem_cons_zero, List.setIfInBounds_toArray, List.set_cons_succ, List.set_cons_zero]
          refine wpAnyH_take (i := 1) (v := .slice av bs.length cv) rfl (by kernel_rfl) (by kernel_rfl) (by kernel_rfl) (fun _ _ _ h => h) (Or.inl ⟨by rfl, fun W _ => by go_simp⟩) hHeld ?_
          simp only [Act.put, List.getElem_toArray, List.getElem_cons_zero, List.getElem_cons_succ, List.setIfInBounds_toArray, List.set_cons_succ, List.set_cons_zero]
          refine wpAnyH_take (i := 2) (v := .int .i64 (T : Int)) rfl (by kernel_rfl) (by kernel_rfl) (by kernel_rfl) (fun _ _ _ h => h) (Or.inl ⟨by rfl, fun W _ => by go_simp⟩) hHeld ?_
          simp only [Act.put, List.getElem_toArray, List.getElem_cons_zero, List.getElem_cons_succ, List.setIfInBounds_toArray, List.set_cons_succ, List.set_cons_zero]
          refine wpAnyH_take (i := 3) (v := .int .i64 (T : Int)) rfl (by kernel_rfl) (by kernel_rfl) (by kernel_rfl) (fun _ _ _ h => h) (Or.inl ⟨by rfl, fun W _ => by go_simp⟩) hHeld ?_
          simp only [Act.put, List.getElem_toArray, List.getElem_cons_zero, List.getElem_cons_succ, List.setIfInBounds_toArray, List.set_cons_succ, List.set_cons_zero]
          refine wpAnyH_take (i := 4) (v := .int .i64 (N : Int)) rfl (by kernel_rfl) (by kernel_rfl) (by kernel_rfl) (fun _ _ _ h => h) (Or.inl ⟨by rfl, fun W _ => by go_simp⟩) hHeld ?_
          simp only [Act.put, List.getElem_toArray, List.getElem_cons_zero, List.getElem_cons_succ, List.setIfInBounds_toArray, List.set_cons_succ, List.set_cons_zero]
          refine wpAnyH_take (i := 5) (v := .int .i64 (H : Int)) rfl (by kernel_rfl) (by kernel_rfl) (by kernel_rfl) (fun _ _ _ h => h) (Or.inl ⟨by rfl, fun W _ => by have hfact := hwH; go_simp; first | done | simp [hfact]⟩) hHeld ?_
          simp only [Act.put, List.getElem_toArray, List.getElem_cons_zero, List.getElem_cons_succ, List.setIfInBounds_toArray, List.set_cons_succ, List.set_cons_zero]
          refine wpAnyH_take (i := 6) (v := .int .i64 (M1 : Int)) rfl (by kernel_rfl) (by kernel_rfl) (by kernel_rfl) (fun _ _ _ h => h) (Or.inl ⟨by rfl, fun W _ => by have hfact := hwM1; go_simp; first | done | simp [hfact]⟩) hHeld ?_
          simp only [Act.put, List.getElem_toArray, List.getElem_cons_zero, List.getElem_cons_succ, List.setIfInBounds_toArray, List.set_cons_succ, List.set_cons_zero]
          refine wpAnyH_take (i := 7) (v := .slice aA nA cA) rfl (by kernel_rfl) (by kernel_rfl) (by kernel_rfl) (fun _ _ _ h => h) (yields_slice (by rfl) 22 (.tmp 80) (some (.tmp 81)) (some (.tmp 85)) none (by rfl) _ (fun W => hA2 W)) hHeld ?_
          simp only [Act.put, List.getElem_toArray, List.getElem_cons_zero, List.getElem_cons_succ, List.setIfInBounds_toArray, List.set_cons_succ, List.set_cons_zero]
          refine wpAnyH_take (i := 8) (v := .slice av bs.length cv) rfl (by kernel_rfl) (by kernel_rfl) (by kernel_rfl) (fun _ _ _ h => h) (Or.inl ⟨by rfl, fun W _ => by go_simp⟩) hHeld ?_
          simp only [Act.put, List.getElem_toArray, List.getElem_cons_zero, List.getElem_cons_succ, List.setIfInBounds_toArray, List.set_cons_succ, List.set_cons_zero]
          refine wpAnyH_take (i := 9) (v := .int .i64 (T : Int)) rfl (by kernel_rfl) (by kernel_rfl) (by kernel_rfl) (fun _ _ _ h => h) (Or.inl ⟨by rfl, fun W _ => by go_simp⟩) hHeld ?_
          simp only [Act.put, List.getElem_toArray, List.getElem_cons_zero, List.getElem_cons_succ, List.setIfInBounds_toArray, List.set_cons_succ, List.set_cons_zero]
          refine wpAnyH_take (i := 10) (v := .int .i64 (N : Int)) rfl (by kernel_rfl) (by kernel_rfl) (by kernel_rfl) (fun _ _ _ h => h) (Or.inl ⟨by rfl, fun W _ => by go_simp⟩) hHeld ?_
          simp only [Act.put, List.getElem_toArray, List.getElem_cons_zero, List.getElem_cons_succ, List.setIfInBounds_toArray, List.set_cons_succ, List.set_cons_zero]
          refine wpAnyH_take (i := 11) (v := .int .i64 (H : Int)) rfl (by kernel_rfl) (by kernel_rfl) (by kernel_rfl) (fun _ _ _ h => h) (Or.inl ⟨by rfl, fun W _ => by have hfact := hwH; go_simp; first | done | simp [hfact]⟩) hHeld ?_
          simp only [Act.put, List.getElem_toArray, List.getElem_cons_zero, List.getElem_cons_succ, List.setIfInBounds_toArray, List.set_cons_succ, List.set_cons_zero]
          refine wpAnyH_take (i := 12) (v := .int .i64 (M1 : Int)) rfl (by kernel_rfl) (by kernel_rfl) (by kernel_rfl) (fun _ _ _ h => h) (Or.inl ⟨by rfl, fun W _ => by have hfact := hwM1; go_simp; first | done | simp [hfact]⟩) hHeld ?_
          simp only [Act.put, List.getElem_toArray, List.getElem_cons_zero, List.getElem_cons_succ, List.setIfInBounds_toArray, List.set_cons_succ, List.set_cons_zero]
          refine wpAnyH_take (i := 13) (v := .int .i64 (T : Int)) rfl (by kernel_rfl) (by kernel_rfl) (by kernel_rfl) (fun _ _ _ h => h) (Or.inl ⟨by rfl, fun W _ => by go_simp⟩) hHeld ?_
          simp only [Act.put, List.getElem_toArray, List.getElem_cons_zero, List.getElem_cons_succ, List.setIfInBounds_toArray, List.set_cons_succ, List.set_cons_zero]
          refine wpAnyH_take (i := 14) (v := .int .i64 (N : Int)) rfl (by kernel_rfl) (by kernel_rfl) (by kernel_rfl) (fun _ _ _ h => h) (Or.inl ⟨by rfl, fun W _ => by go_simp⟩) hHeld ?_
          simp only [Act.put, List.getElem_toArray, List.getElem_cons_zero, List.getElem_cons_succ, List.setIfInBounds_toArray, List.set_cons_succ, List.set_cons_zero]
          refine wpAnyH_take (i := 15) (v := .int .i64 (M2 : Int)) rfl (by kernel_rfl) (by kernel_rfl) (by kernel_rfl) (fun _ _ _ h => h) (Or.inl ⟨by rfl, fun W _ => by have hfact := hwM2; go_simp; first | done | simp [hfact]⟩) hHeld ?_
          simp only [Act.put, List.getElem_toArray, List.getElem_cons_zero, List.getElem_cons_succ, List.setIfInBounds_toArray, List.set_cons_succ, List.set_cons_zero]
          refine wpAnyH_take (i := 16) (v := .slice aB nB cB) rfl (by kernel_rfl) (by kernel_rfl) (by kernel_rfl) (fun _ _ _ h => h) (yields_slice (by rfl) 22 (.tmp 87) (some (.tmp 91)) (some (.tmp 94)) none (by rfl) _ (fun W => hB2 W)) hHeld ?_
          simp only [Act.put, List.getElem_toArray, List.getElem_cons_zero, List.getElem_cons_succ, List.setIfInBounds_toArray, List.set_cons_succ, List.set_cons_zero]
          have HWD := hid (bel_drw wr 1)
          have HSOwx := hid (HSOr.out.below HWD.out)
          have HSDwx := hid (HSDr.out.below HWD.out)
          have HQwx := hid (below_then HQr.out HWD.out)
          have HZwx := hid (Nat.le_trans HZr.out HWD.out.size)
          have HOAwx := hid (HOAr.out.below HWD.out)
          have HOGwx := hid (HOGr.out.below HWD.out)
          have HF1wx := hid (bel_keep HWD.out HF1r.out)
          have HF2wx := hid (bel_keep HWD.out HF2r.out)
          obtain ⟨wx, HWX⟩ : ∃ x, Hid (wr.drewN 1 = x) := ⟨_, rfl⟩
          have HWY := hid (show wr.drew = wx from HWX.out)
          rw [HWX.out] at HSOwx HSDwx HQwx HZwx HOAwx HOGwx HF1wx HF2wx
          rw [HWY.out]
          clear HWD
          refine wpAnyH_ready (rs := [17, 22]) (by kernel_rfl) (by simp) ?_
          refine AllReadyH.cons rfl (fun K hK => ?_) (AllReadyH.cons rfl (fun K hK => ?_) AllReadyH.nil)
          · skip
            have HWA := hid (below_walk wx (.cells #[.slice aA nA cA, .slice aB nB cB] 22))
            have HSOw2 := hid (HSOwx.out.below HWA.out)
            have HSDw2 := hid (HSDwx.out.below HWA.out)
            have HQw2 := hid (below_then HQwx.out HWA.out)
            have HZw2 := hid (Nat.le_trans HZwx.out HWA.out.size)
            have HOAw2 := hid (HOAwx.out.below HWA.out)
            have HOGw2 := hid (HOGwx.out.below HWA.out)
            have HF1w2 := hid (bel_keep HWA.out HF1wx.out)
            have HF2w2 := hid (bel_keep HWA.out HF2wx.out)
            have HLLw2 := hid (lsts_two wx _ _ _ _ (HXA.out.below HQwx.out) (HXB.out.below HQwx.out))
            have HLb := hid HSDwx.out.kb.lt
            have HVl := hid (fun k e => (World.ownsRow.lt HSDwx.out.kb.own k e).2)
            go_simp
            refine hK.out _ _ trivial (fun hHeld => ?_)
            clear hK K
            try simp only [Act.put, List.getElem_toArray, List.getElem_cons_zero, List.getElem_cons_succ, List.setIfInBounds_toArray, List.set_cons_succ, List.set_cons_zero]
            obtain ⟨Z, HZe⟩ : ∃ n, Hid (wx.heap.size = n) := ⟨_, rfl⟩
            rw [HZe.out] at HLLw2 HLb HVl
            try rw [HZe.out]
            generalize wx.alloc (.cells #[.slice aA nA cA, .slice aB nB cB] 22) = w2 at *
            refine wpAnyH_ready (rs := [18, 22]) (by kernel_rfl) (by simp) ?_
            refine AllReadyH.cons rfl (fun K hK => ?_) (AllReadyH.cons rfl (fun K hK => ?_) AllReadyH.nil)
            · skip
              have HFE := hid (kfeed_any HSDw2.out HY0.out _ _ _ (fun W vd hg => HLLw2.out.gd hg (by show some Z ≠ some b2; have := HLb.out; simp; omega) (fun k e e2 => by have := HVl.out k e2; simp [Value.ownBlock] at e; omega) (fun j h => by match j, h with | 0, h => exact HAn.out h | 1, h => exact HBn.out h | j + 2, _ => exact (by show nS.ownBlock ≠ some b2; intro e; cases e)) (fun j k h e e2 => by match j, h, e with | 0, h, e => exact HAv.out h k e e2 | 1, h, e => exact HBv.out h k e e2 | j + 2, _, e => cases (show nS.ownBlock = some k from e))) (by simp) HCM.out HCB.out)
              rw [HRR.out] at HFE
              go_simp
              refine HFE.out.mono ?_
              rintro e w3 ⟨vl, v3, fs3, rfl, hof, hsd3, hg3, hm3⟩
              rw [HY2.out, HT2.out]
              have HSOw3 := hid (HSOw2.out.other hg3 HSDw2.out HBB.out HAP.out)
              have HAP3 := hid (show ∀ k, v1.ownBlock = some k → v3.ownBlock ≠ some k from fun k e e2 => by rcases hg3.lies k e2 with h | h; exact HAP.out k e h; exact absurd (World.ownsRow.lt HSOw2.out.kb.own k e).2 (by omega))
              have HSDw3 := hid hsd3
              have HQw3 := hid (show Below w.heap.size w w3 from Below.trans HQw2.out ((HSDw2.out.low hg3).mono HBW2.out))
              have HZw3 := hid (Nat.le_trans HZw2.out hg3.size)
              have HOAw3 := hid (HOAw2.out.sd hg3 HSDw2.out)
              have HOGw3 := hid (HOGw2.out.sd hg3 HSDw2.out)
              have HO3w3 := hid (hof.le HZw2.out)
              have HF1w3 := hid ((hg3.block F1 (hp_lt HF1w2.out) (own_blk HSDw2.out.kb.blk HF1w2.out (by decide)) (fun e => own_block HSDw2.out.kb.own HF1w2.out (by decide) e)).trans HF1w2.out)
              have HF2w3 := hid ((hg3.block F2 (hp_lt HF2w2.out) (own_blk HSDw2.out.kb.blk HF2w2.out (by decide)) (fun e => own_block HSDw2.out.kb.own HF2w2.out (by decide) e)).trans HF2w2.out)
              have HM3 := hid hm3
              obtain ⟨a3, c3, e3⟩ := hof.shape
              subst e3
              clear hof hsd3 hg3 hm3 HFE HLLw2
              go_wp2_with fail
              refine hK.out _ _ trivial (fun hHeld => ?_)
              clear hK K
              try simp only [Act.put, List.getElem_toArray, List.getElem_cons_zero, List.getElem_cons_succ, List.setIfInBounds_toArray, List.set_cons_succ, List.set_cons_zero]
              refine wpAnyH_take (i := 19) (v := .tuple #[.slice a3 fs3.length c3, .agg #[.int .i64 y2, .int .i64 t2]]) rfl (by kernel_rfl) (by kernel_rfl) (by kernel_rfl) (fun _ _ _ h => h) (Or.inl ⟨by rfl, fun W _ => by go_simp⟩) hHeld ?_
              simp only [Act.put, List.getElem_toArray, List.getElem_cons_zero, List.getElem_cons_succ, List.setIfInBounds_toArray, List.set_cons_succ, List.set_cons_zero]
              refine wpAnyH_take (i := 20) (v := .slice a3 fs3.length c3) rfl (by kernel_rfl) (by kernel_rfl) (by kernel_rfl) (fun _ _ _ h => h) (Or.inl ⟨by rfl, fun W _ => by go_simp⟩) hHeld ?_
              simp only [Act.put, List.getElem_toArray, List.getElem_cons_zero, List.getElem_cons_succ, List.setIfInBounds_toArray, List.set_cons_succ, List.set_cons_zero]
              refine wpAnyH_take (i := 21) (v := .agg #[.int .i64 y2, .int .i64 t2]) rfl (by kernel_rfl) (by kernel_rfl) (by kernel_rfl) (fun _ _ _ h => h) (Or.inl ⟨by rfl, fun W _ => by go_simp⟩) hHeld ?_
              simp only [Act.put, List.getElem_toArray, List.getElem_cons_zero, List.getElem_cons_succ, List.setIfInBounds_toArray, List.set_cons_succ, List.set_cons_zero]
              refine wpAnyH_ready (rs := [22]) (by kernel_rfl) (by simp) ?_
              refine AllReadyH.cons rfl (fun K hK => ?_) AllReadyH.nil
              have HWF := hid (below_walk w3 (.cells #[.int .i64 0, .int .i64 0] 33))
              have HEw4 := hid (hp_new w3 (.cells #[.int .i64 0, .int .i64 0] 33))
              have HSOw4 := hid (HSOw3.out.below HWF.out)
              have HSDw4 := hid (HSDw3.out.below HWF.out)
              have HQw4 := hid (below_then HQw3.out HWF.out)
              have HZw4 := hid (Nat.le_trans HZw3.out HWF.out.size)
              have HOAw4 := hid (HOAw3.out.below HWF.out)
              have HOGw4 := hid (HOGw3.out.below HWF.out)
              have HF1w4 := hid (bel_keep HWF.out HF1w3.out)
              have HF2w4 := hid (bel_keep HWF.out HF2w3.out)
              have HO3w4 := hid (HO3w3.out.below HWF.out)
              have HEl := hid (show w.heap.size ≤ w3.heap.size ∧ F1 < w3.heap.size ∧ F2 < w3.heap.size from ⟨HQw3.out.size, hp_lt HF1w3.out, hp_lt HF2w3.out⟩)
              refine step_alloc_row8 (by rfl) 33 (by rfl) _ zeroFault ?_
              refine hK.out _ _ trivial (fun hHeld => ?_)
              clear hK K
              try simp only [Act.put, List.getElem_toArray, List.getElem_cons_zero, List.getElem_cons_succ, List.setIfInBounds_toArray, List.set_cons_succ, List.set_cons_zero]
              obtain ⟨E, HEe⟩ : ∃ n, Hid (w3.heap.size = n) := ⟨_, rfl⟩
              rw [HEe.out] at HEw4 HEl
              try rw [HEe.out]
              generalize w3.alloc (.cells #[.int .i64 0, .int .i64 0] 33) = w4 at *
              refine wpAnyH_take (i := 23) (v := .slice a3 fs3.length c3) rfl (by kernel_rfl) (by kernel_rfl) (by kernel_rfl) (fun _ _ _ h => h) (Or.inl ⟨by rfl, fun W _ => by go_simp⟩) hHeld ?_
              simp only [Act.put, List.getElem_toArray, List.getElem_cons_zero, List.getElem_cons_succ, List.setIfInBounds_toArray, List.set_cons_succ, List.set_cons_zero]
              refine wpAnyH_ready (rs := [24]) (by kernel_rfl) (by simp) ?_
              refine AllReadyH.cons rfl (fun K hK => ?_) AllReadyH.nil
              refine step_store_row (by rfl) 33 _ _ (by rfl) E [Value.int .i64 y2, .int .i64 t2] (by rfl) (by rfl) 33 _ HEw4.out faultSize rfl (fault_one _ _) ?_
              intro wz hwz
              refine hK.out _ _ trivial (fun hHeld => ?_)
              clear hK K
              try simp only [Act.put, List.getElem_toArray, List.getElem_cons_zero, List.getElem_cons_succ]
              refine wpAnyH_done (by kernel_rfl) ?_ _
              simp only [noPanic]
              clear hHeld
              have HEz := hid hwz.blk
              have HQz := hid (Below.of_gb HQw4.out hwz.grown HEl.out.1)
              have HZz := hid (Nat.le_trans HZw4.out hwz.grown.size)
              have HSOz := hid (HSOw4.out.far hwz.grown (fun e => own_blk HSOw4.out.kb.blk HEw4.out (by decide) e.symm) (fun k e h9 => own_block HSOw4.out.kb.own HEw4.out (by decide) (h9 ▸ e)))
              have HSDz := hid (HSDw4.out.far hwz.grown (fun e => own_blk HSDw4.out.kb.blk HEw4.out (by decide) e.symm) (fun k e h9 => own_block HSDw4.out.kb.own HEw4.out (by decide) (h9 ▸ e)))
              have HOAz := hid (HOAw4.out.gone hwz.grown HEw4.out (by decide) (by decide))
              have HOGz := hid (HOGw4.out.gone hwz.grown HEw4.out (by decide) (by decide))
              have HO3z := hid (HO3w4.out.gone hwz.grown HEw4.out (by decide) (by decide))
              have HF1z := hid (gb_blk HF1w4.out hwz.grown (fun e => by injection e with e; have := HEl.out; omega))
              have HF2z := hid (gb_blk HF2w4.out hwz.grown (fun e => by injection e with e; have := HEl.out; omega))
              have HF1E := hid (show E ≠ F1 ∧ E ≠ F2 by have := HEl.out; omega)
              clear hwz
              go_wp2_with (first | (at_builtin; refine app_frs (by rfl) _ _ rfl L6 _ fs rfl HOGz.out fs3 _ rfl HO3z.out.frs HO3z.out.nilc (fun f hf => HO3z.out.each f hf) (HFT.out fs3 HM3.out) HZz.out ?_))
              intro v7 w7 ho7 hg7 hp7
              have HSO7 := hid (HSOz.out.apart hg7 HOGz.out)
              have HSD7 := hid (HSDz.out.apart hg7 HOGz.out)
              have HQ7 := hid (Below.of_gbo HQz.out hg7 (fun k e => Nat.le_trans HW6.out (World.ownsRow.lt HOGz.out.own k e).1))
              have HZ7 := hid (Nat.le_trans HZz.out hg7.size)
              have HOA7 := hid (HOAz.out.off HAL.out hg7 (fun k e => (World.ownsRow.lt HOGz.out.own k e).1))
              have HF17 := hid (gb_blk HF1z.out hg7 (fun e => own_block HOGz.out.own HF1z.out (by decide) e))
              have HF27 := hid (gb_blk HF2z.out hg7 (fun e => own_block HOGz.out.own HF2z.out (by decide) e))
              have HE7 := hid (gb_blk HEz.out hg7 (fun e => own_block HOGz.out.own HEz.out (by decide) e))
              have HO7 := hid ho7
              obtain ⟨a7, c7, e7⟩ := ho7.shape
              rw [List.length_append] at e7
              subst e7
              clear ho7 hg7 hp7
              go_upto_region 18 with (first
                | (refine ld_row (by rfl) 33 (.tmp 17) (by rfl) E (by rfl) [Value.int .i64 y2, .int .i64 t2] 33 HE7.out _ Tryz.underlying33 rfl faultSize ?_)
                | (refine st_row (by rfl) 33 _ _ (by rfl) F2 [Value.int .i64 y2, .int .i64 t2] (by rfl) (by rfl) 33 _ HF27.out faultSize rfl (fault_one _ _) ?_; intro w8 hw8))
              have HF28 := hid hw8.blk
              have HQ8 := hid (Below.of_gb HQ7.out hw8.grown HFn.out.2)
              have HZ8 := hid (Nat.le_trans HZ7.out hw8.grown.size)
              have HF18 := hid (gb_blk HF17.out hw8.grown (fun e => by injection e with e; exact HFF.out e.symm))
              have HSO8 := hid (HSO7.out.far hw8.grown (fun e => own_blk HSO7.out.kb.blk HF27.out (by decide) e.symm) (fun k e h9 => own_block HSO7.out.kb.own HF27.out (by decide) (h9 ▸ e)))
              have HSD8 := hid (HSD7.out.far hw8.grown (fun e => own_blk HSD7.out.kb.blk HF27.out (by decide) e.symm) (fun k e h9 => own_block HSD7.out.kb.own HF27.out (by decide) (h9 ▸ e)))
              have HOA8 := hid (HOA7.out.gone hw8.grown HF27.out (by decide) (by decide))
              have HO8 := hid (HO7.out.gone hw8.grown HF27.out (by decide) (by decide))
              clear hw8
              have hwT : IntKind.i64.wrap ((T : Int) + (N : Int)) = ((T + N : Nat) : Int) := by rw [IntKind.wrap_i64]; have := HN2.out; omega
              have hwk : IntKind.i64.wrap ((k : Int) + 1) = (k : Int) + 1 := by rw [IntKind.wrap_i64]; omega
              go_wp2
              refine ⟨⟨k + 1, T + N, v3, fs ++ fs3, _, by omega, HN2.out, by simp, by rw [HM2.out], HRN.out, HEN.out, ?_, HO8.out, HSD8.out, HSO8.out, HAP3.out, HOA8.out, HF18.out, by rw [HY2.out, HT2.out]; exact HF28.out, HQ8.out, HZ8.out⟩, by simp [intOf]; omega⟩
              rw [List.map_append, HFS.out, HM3.out]
              exact hid rfl
            · as_aux_lemma =>
                have HWF := hid (below_walk w2 (.cells #[.int .i64 0, .int .i64 0] 33))
                have HEw3 := hid (hp_new w2 (.cells #[.int .i64 0, .int .i64 0] 33))
                have HSOw3 := hid (HSOw2.out.below HWF.out)
                have HSDw3 := hid (HSDw2.out.below HWF.out)
                have HQw3 := hid (below_then HQw2.out HWF.out)
                have HZw3 := hid (Nat.le_trans HZw2.out HWF.out.size)
                have HOAw3 := hid (HOAw2.out.below HWF.out)
                have HOGw3 := hid (HOGw2.out.below HWF.out)
                have HF1w3 := hid (bel_keep HWF.out HF1w2.out)
                have HF2w3 := hid (bel_keep HWF.out HF2w2.out)
                have HLLw3 := hid (HLLw2.out.below HWF.out)
                have HEl := hid (show w.heap.size ≤ w2.heap.size ∧ F1 < w2.heap.size ∧ F2 < w2.heap.size from ⟨HQw2.out.size, hp_lt HF1w2.out, hp_lt HF2w2.out⟩)
                refine step_alloc_row8 (by rfl) 33 (by rfl) _ zeroFault ?_
                refine hK.out _ _ trivial (fun hHeld => ?_)
                clear hK K
                try simp only [Act.put, List.getElem_toArray, List.getElem_cons_zero, List.getElem_cons_succ, List.setIfInBounds_toArray, List.set_cons_succ, List.set_cons_zero]
                obtain ⟨E, HEe⟩ : ∃ n, Hid (w2.heap.size = n) := ⟨_, rfl⟩
                rw [HEe.out] at HEw3 HEl
                try rw [HEe.out]
                generalize w2.alloc (.cells #[.int .i64 0, .int .i64 0] 33) = w3 at *
                refine wpAnyH_ready (rs := [18]) (by kernel_rfl) (by simp) ?_
                refine AllReadyH.cons rfl (fun K hK => ?_) AllReadyH.nil
                have HFE := hid (kfeed_any HSDw3.out HY0.out _ _ _ (fun W vd hg => HLLw3.out.gd hg (by show some Z ≠ some b2; have := HLb.out; simp; omega) (fun k e e2 => by have := HVl.out k e2; simp [Value.ownBlock] at e; omega) (fun j h => by match j, h with | 0, h => exact HAn.out h | 1, h => exact HBn.out h | j + 2, _ => exact (by show nS.ownBlock ≠ some b2; intro e; cases e)) (fun j k h e e2 => by match j, h, e with | 0, h, e => exact HAv.out h k e e2 | 1, h, e => exact HBv.out h k e e2 | j + 2, _, e => cases (show nS.ownBlock = some k from e))) (by simp) HCM.out HCB.out)
                rw [HRR.out] at HFE
                go_simp
                refine HFE.out.mono ?_
                rintro e w4 ⟨vl, v3, fs3, rfl, hof, hsd3, hg3, hm3⟩
                rw [HY2.out, HT2.out]
                have HSOw4 := hid (HSOw3.out.other hg3 HSDw3.out HBB.out HAP.out)
                have HAP3 := hid (show ∀ k, v1.ownBlock = some k → v3.ownBlock ≠ some k from fun k e e2 => by rcases hg3.lies k e2 with h | h; exact HAP.out k e h; exact absurd (World.ownsRow.lt HSOw3.out.kb.own k e).2 (by omega))
                have HSDw4 := hid hsd3
                have HQw4 := hid (show Below w.heap.size w w4 from Below.trans HQw3.out ((HSDw3.out.low hg3).mono HBW2.out))
                have HZw4 := hid (Nat.le_trans HZw3.out hg3.size)
                have HOAw4 := hid (HOAw3.out.sd hg3 HSDw3.out)
                have HOGw4 := hid (HOGw3.out.sd hg3 HSDw3.out)
                have HO3w4 := hid (hof.le HZw3.out)
                have HF1w4 := hid ((hg3.block F1 (hp_lt HF1w3.out) (own_blk HSDw3.out.kb.blk HF1w3.out (by decide)) (fun e => own_block HSDw3.out.kb.own HF1w3.out (by decide) e)).trans HF1w3.out)
                have HF2w4 := hid ((hg3.block F2 (hp_lt HF2w3.out) (own_blk HSDw3.out.kb.blk HF2w3.out (by decide)) (fun e => own_block HSDw3.out.kb.own HF2w3.out (by decide) e)).trans HF2w3.out)
                have HEw4 := hid ((hg3.block E (hp_lt HEw3.out) (own_blk HSDw3.out.kb.blk HEw3.out (by decide)) (fun e => own_block HSDw3.out.kb.own HEw3.out (by decide) e)).trans HEw3.out)
                have HM3 := hid hm3
                obtain ⟨a3, c3, e3⟩ := hof.shape
                subst e3
                clear hof hsd3 hg3 hm3 HFE HLLw3
                go_wp2_with fail
                refine hK.out _ _ trivial (fun hHeld => ?_)
                clear hK K
                try simp only [Act.put, List.getElem_toArray, List.getElem_cons_zero, List.getElem_cons_succ, List.setIfInBounds_toArray, List.set_cons_succ, List.set_cons_zero]
                refine wpAnyH_take (i := 19) (v := .tuple #[.slice a3 fs3.length c3, .agg #[.int .i64 y2, .int .i64 t2]]) rfl (by kernel_rfl) (by kernel_rfl) (by kernel_rfl) (fun _ _ _ h => h) (Or.inl ⟨by rfl, fun W _ => by go_simp⟩) hHeld ?_
                simp only [Act.put, List.getElem_toArray, List.getElem_cons_zero, List.getElem_cons_succ, List.setIfInBounds_toArray, List.set_cons_succ, List.set_cons_zero]
                refine wpAnyH_take (i := 20) (v := .slice a3 fs3.length c3) rfl (by kernel_rfl) (by kernel_rfl) (by kernel_rfl) (fun _ _ _ h => h) (Or.inl ⟨by rfl, fun W _ => by go_simp⟩) hHeld ?_
                simp only [Act.put, List.getElem_toArray, List.getElem_cons_zero, List.getElem_cons_succ, List.setIfInBounds_toArray, List.set_cons_succ, List.set_cons_zero]
                refine wpAnyH_take (i := 21) (v := .agg #[.int .i64 y2, .int .i64 t2]) rfl (by kernel_rfl) (by kernel_rfl) (by kernel_rfl) (fun _ _ _ h => h) (Or.inl ⟨by rfl, fun W _ => by go_simp⟩) hHeld ?_
                simp only [Act.put, List.getElem_toArray, List.getElem_cons_zero, List.getElem_cons_succ, List.setIfInBounds_toArray, List.set_cons_succ, List.set_cons_zero]
                refine wpAnyH_take (i := 23) (v := .slice a3 fs3.length c3) rfl (by kernel_rfl) (by kernel_rfl) (by kernel_rfl) (fun _ _ _ h => h) (Or.inl ⟨by rfl, fun W _ => by go_simp⟩) hHeld ?_
                simp only [Act.put, List.getElem_toArray, List.getElem_cons_zero, List.getElem_cons_succ, List.setIfInBounds_toArray, List.set_cons_succ, List.set_cons_zero]
                refine wpAnyH_ready (rs := [24]) (by kernel_rfl) (by simp) ?_
                refine AllReadyH.cons rfl (fun K hK => ?_) AllReadyH.nil
                refine step_store_row (by rfl) 33 _ _ (by rfl) E [Value.int .i64 y2, .int .i64 t2] (by rfl) (by rfl) 33 _ HEw4.out faultSize rfl (fault_one _ _) ?_
                intro wz hwz
                refine hK.out _ _ trivial (fun hHeld => ?_)
                clear hK K
                try simp only [Act.put, List.getElem_toArray, List.getElem_cons_zero, List.getElem_cons_succ]
                refine wpAnyH_done (by kernel_rfl) ?_ _
                simp only [noPanic]
                clear hHeld
                have HEz := hid hwz.blk
                have HQz := hid (Below.of_gb HQw4.out hwz.grown HEl.out.1)
                have HZz := hid (Nat.le_trans HZw4.out hwz.grown.size)
                have HSOz := hid (HSOw4.out.far hwz.grown (fun e => own_blk HSOw4.out.kb.blk HEw4.out (by decide) e.symm) (fun k e h9 => own_block HSOw4.out.kb.own HEw4.out (by decide) (h9 ▸ e)))
                have HSDz := hid (HSDw4.out.far hwz.grown (fun e => own_blk HSDw4.out.kb.blk HEw4.out (by decide) e.symm) (fun k e h9 => own_block HSDw4.out.kb.own HEw4.out (by decide) (h9 ▸ e)))
                have HOAz := hid (HOAw4.out.gone hwz.grown HEw4.out (by decide) (by decide))
                have HOGz := hid (HOGw4.out.gone hwz.grown HEw4.out (by decide) (by decide))
                have HO3z := hid (HO3w4.out.gone hwz.grown HEw4.out (by decide) (by decide))
                have HF1z := hid (gb_blk HF1w4.out hwz.grown (fun e => by injection e with e; have := HEl.out; omega))
                have HF2z := hid (gb_blk HF2w4.out hwz.grown (fun e => by injection e with e; have := HEl.out; omega))
                have HF1E := hid (show E ≠ F1 ∧ E ≠ F2 by have := HEl.out; omega)
                clear hwz
                go_wp2_with (first | (at_builtin; refine app_frs (by rfl) _ _ rfl L6 _ fs rfl HOGz.out fs3 _ rfl HO3z.out.frs HO3z.out.nilc (fun f hf => HO3z.out.each f hf) (HFT.out fs3 HM3.out) HZz.out ?_))
                intro v7 w7 ho7 hg7 hp7
                have HSO7 := hid (HSOz.out.apart hg7 HOGz.out)
                have HSD7 := hid (HSDz.out.apart hg7 HOGz.out)
                have HQ7 := hid (Below.of_gbo HQz.out hg7 (fun k e => Nat.le_trans HW6.out (World.ownsRow.lt HOGz.out.own k e).1))
                have HZ7 := hid (Nat.le_trans HZz.out hg7.size)
                have HOA7 := hid (HOAz.out.off HAL.out hg7 (fun k e => (World.ownsRow.lt HOGz.out.own k e).1))
                have HF17 := hid (gb_blk HF1z.out hg7 (fun e => own_block HOGz.out.own HF1z.out (by decide) e))
                have HF27 := hid (gb_blk HF2z.out hg7 (fun e => own_block HOGz.out.own HF2z.out (by decide) e))
                have HE7 := hid (gb_blk HEz.out hg7 (fun e => own_block HOGz.out.own HEz.out (by decide) e))
                have HO7 := hid ho7
                obtain ⟨a7, c7, e7⟩ := ho7.shape
                rw [List.length_append] at e7
                subst e7
                clear ho7 hg7 hp7
                go_upto_region 18 with (first
                  | (refine ld_row (by rfl) 33 (.tmp 17) (by rfl) E (by rfl) [Value.int .i64 y2, .int .i64 t2] 33 HE7.out _ Tryz.underlying33 rfl faultSize ?_)
                  | (refine st_row (by rfl) 33 _ _ (by rfl) F2 [Value.int .i64 y2, .int .i64 t2] (by rfl) (by rfl) 33 _ HF27.out faultSize rfl (fault_one _ _) ?_; intro w8 hw8))
                have HF28 := hid hw8.blk
                have HQ8 := hid (Below.of_gb HQ7.out hw8.grown HFn.out.2)
                have HZ8 := hid (Nat.le_trans HZ7.out hw8.grown.size)
                have HF18 := hid (gb_blk HF17.out hw8.grown (fun e => by injection e with e; exact HFF.out e.symm))
                have HSO8 := hid (HSO7.out.far hw8.grown (fun e => own_blk HSO7.out.kb.blk HF27.out (by decide) e.symm) (fun k e h9 => own_block HSO7.out.kb.own HF27.out (by decide) (h9 ▸ e)))
                have HSD8 := hid (HSD7.out.far hw8.grown (fun e => own_blk HSD7.out.kb.blk HF27.out (by decide) e.symm) (fun k e h9 => own_block HSD7.out.kb.own HF27.out (by decide) (h9 ▸ e)))
                have HOA8 := hid (HOA7.out.gone hw8.grown HF27.out (by decide) (by decide))
                have HO8 := hid (HO7.out.gone hw8.grown HF27.out (by decide) (by decide))
                clear hw8
                have hwT : IntKind.i64.wrap ((T : Int) + (N : Int)) = ((T + N : Nat) : Int) := by rw [IntKind.wrap_i64]; have := HN2.out; omega
                have hwk : IntKind.i64.wrap ((k : Int) + 1) = (k : Int) + 1 := by rw [IntKind.wrap_i64]; omega
                go_wp2
                refine ⟨⟨k + 1, T + N, v3, fs ++ fs3, _, by omega, HN2.out, by simp, by rw [HM2.out], HRN.out, HEN.out, ?_, HO8.out, HSD8.out, HSO8.out, HAP3.out, HOA8.out, HF18.out, by rw [HY2.out, HT2.out]; exact HF28.out, HQ8.out, HZ8.out⟩, by simp [intOf]; omega⟩
                rw [List.map_append, HFS.out, HM3.out]
                exact hid rfl
          · as_aux_lemma =>
              have HWF := hid (below_walk wx (.cells #[.int .i64 0, .int .i64 0] 33))
              have HEw2 := hid (hp_new wx (.cells #[.int .i64 0, .int .i64 0] 33))
              have HSOw2 := hid (HSOwx.out.below HWF.out)
              have HSDw2 := hid (HSDwx.out.below HWF.out)
              have HQw2 := hid (below_then HQwx.out HWF.out)
              have HZw2 := hid (Nat.le_trans HZwx.out HWF.out.size)
              have HOAw2 := hid (HOAwx.out.below HWF.out)
              have HOGw2 := hid (HOGwx.out.below HWF.out)
              have HF1w2 := hid (bel_keep HWF.out HF1wx.out)
              have HF2w2 := hid (bel_keep HWF.out HF2wx.out)
              have HEl := hid (show w.heap.size ≤ wx.heap.size ∧ F1 < wx.heap.size ∧ F2 < wx.heap.size from ⟨HQwx.out.size, hp_lt HF1wx.out, hp_lt HF2wx.out⟩)
              refine step_alloc_row8 (by rfl) 33 (by rfl) _ zeroFault ?_
              refine hK.out _ _ trivial (fun hHeld => ?_)
              clear hK K
              try simp only [Act.put, List.getElem_toArray, List.getElem_cons_zero, List.getElem_cons_succ, List.setIfInBounds_toArray, List.set_cons_succ, List.set_cons_zero]
              obtain ⟨E, HEe⟩ : ∃ n, Hid (wx.heap.size = n) := ⟨_, rfl⟩
              rw [HEe.out] at HEw2 HEl
              try rw [HEe.out]
              generalize wx.alloc (.cells #[.int .i64 0, .int .i64 0] 33) = w2 at *
              refine wpAnyH_ready (rs := [17]) (by kernel_rfl) (by simp) ?_
              refine AllReadyH.cons rfl (fun K hK => ?_) AllReadyH.nil
              have HWA := hid (below_walk w2 (.cells #[.slice aA nA cA, .slice aB nB cB] 22))
              have HSOw3 := hid (HSOw2.out.below HWA.out)
              have HSDw3 := hid (HSDw2.out.below HWA.out)
              have HQw3 := hid (below_then HQw2.out HWA.out)
              have HZw3 := hid (Nat.le_trans HZw2.out HWA.out.size)
              have HOAw3 := hid (HOAw2.out.below HWA.out)
              have HOGw3 := hid (HOGw2.out.below HWA.out)
              have HF1w3 := hid (bel_keep HWA.out HF1w2.out)
              have HF2w3 := hid (bel_keep HWA.out HF2w2.out)
              have HLLw3 := hid (lsts_two w2 _ _ _ _ (HXA.out.below HQw2.out) (HXB.out.below HQw2.out))
              have HLb := hid HSDw2.out.kb.lt
              have HVl := hid (fun k e => (World.ownsRow.lt HSDw2.out.kb.own k e).2)
              have HEw3 := hid (bel_keep HWA.out HEw2.out)
              go_simp
              refine hK.out _ _ trivial (fun hHeld => ?_)
              clear hK K
              try simp only [Act.put, List.getElem_toArray, List.getElem_cons_zero, List.getElem_cons_succ, List.setIfInBounds_toArray, List.set_cons_succ, List.set_cons_zero]
              obtain ⟨Z, HZe⟩ : ∃ n, Hid (w2.heap.size = n) := ⟨_, rfl⟩
              rw [HZe.out] at HLLw3 HLb HVl
              try rw [HZe.out]
              generalize w2.alloc (.cells #[.slice aA nA cA, .slice aB nB cB] 22) = w3 at *
              refine wpAnyH_ready (rs := [18]) (by kernel_rfl) (by simp) ?_
              refine AllReadyH.cons rfl (fun K hK => ?_) AllReadyH.nil
              have HFE := hid (kfeed_any HSDw3.out HY0.out _ _ _ (fun W vd hg => HLLw3.out.gd hg (by show some Z ≠ some b2; have := HLb.out; simp; omega) (fun k e e2 => by have := HVl.out k e2; simp [Value.ownBlock] at e; omega) (fun j h => by match j, h with | 0, h => exact HAn.out h | 1, h => exact HBn.out h | j + 2, _ => exact (by show nS.ownBlock ≠ some b2; intro e; cases e)) (fun j k h e e2 => by match j, h, e with | 0, h, e => exact HAv.out h k e e2 | 1, h, e => exact HBv.out h k e e2 | j + 2, _, e => cases (show nS.ownBlock = some k from e))) (by simp) HCM.out HCB.out)
              rw [HRR.out] at HFE
              go_simp
              refine HFE.out.mono ?_
              rintro e w4 ⟨vl, v3, fs3, rfl, hof, hsd3, hg3, hm3⟩
              rw [HY2.out, HT2.out]
              have HSOw4 := hid (HSOw3.out.other hg3 HSDw3.out HBB.out HAP.out)
              have HAP3 := hid (show ∀ k, v1.ownBlock = some k → v3.ownBlock ≠ some k from fun k e e2 => by rcases hg3.lies k e2 with h | h; exact HAP.out k e h; exact absurd (World.ownsRow.lt HSOw3.out.kb.own k e).2 (by omega))
              have HSDw4 := hid hsd3
              have HQw4 := hid (show Below w.heap.size w w4 from Below.trans HQw3.out ((HSDw3.out.low hg3).mono HBW2.out))
              have HZw4 := hid (Nat.le_trans HZw3.out hg3.size)
              have HOAw4 := hid (HOAw3.out.sd hg3 HSDw3.out)
              have HOGw4 := hid (HOGw3.out.sd hg3 HSDw3.out)
              have HO3w4 := hid (hof.le HZw3.out)
              have HF1w4 := hid ((hg3.block F1 (hp_lt HF1w3.out) (own_blk HSDw3.out.kb.blk HF1w3.out (by decide)) (fun e => own_block HSDw3.out.kb.own HF1w3.out (by decide) e)).trans HF1w3.out)
              have HF2w4 := hid ((hg3.block F2 (hp_lt HF2w3.out) (own_blk HSDw3.out.kb.blk HF2w3.out (by decide)) (fun e => own_block HSDw3.out.kb.own HF2w3.out (by decide) e)).trans HF2w3.out)
              have HEw4 := hid ((hg3.block E (hp_lt HEw3.out) (own_blk HSDw3.out.kb.blk HEw3.out (by decide)) (fun e => own_block HSDw3.out.kb.own HEw3.out (by decide) e)).trans HEw3.out)
              have HM3 := hid hm3
              obtain ⟨a3, c3, e3⟩ := hof.shape
              subst e3
              clear hof hsd3 hg3 hm3 HFE HLLw3
              go_wp2_with fail
              refine hK.out _ _ trivial (fun hHeld => ?_)
              clear hK K
              try simp only [Act.put, List.getElem_toArray, List.getElem_cons_zero, List.getElem_cons_succ, List.setIfInBounds_toArray, List.set_cons_succ, List.set_cons_zero]
              refine wpAnyH_take (i := 19) (v := .tuple #[.slice a3 fs3.length c3, .agg #[.int .i64 y2, .int .i64 t2]]) rfl (by kernel_rfl) (by kernel_rfl) (by kernel_rfl) (fun _ _ _ h => h) (Or.inl ⟨by rfl, fun W _ => by go_simp⟩) hHeld ?_
              simp only [Act.put, List.getElem_toArray, List.getElem_cons_zero, List.getElem_cons_succ, List.setIfInBounds_toArray, List.set_cons_succ, List.set_cons_zero]
              refine wpAnyH_take (i := 20) (v := .slice a3 fs3.length c3) rfl (by kernel_rfl) (by kernel_rfl) (by kernel_rfl) (fun _ _ _ h => h) (Or.inl ⟨by rfl, fun W _ => by go_simp⟩) hHeld ?_
              simp only [Act.put, List.getElem_toArray, List.getElem_cons_zero, List.getElem_cons_succ, List.setIfInBounds_toArray, List.set_cons_succ, List.set_cons_zero]
              refine wpAnyH_take (i := 21) (v := .agg #[.int .i64 y2, .int .i64 t2]) rfl (by kernel_rfl) (by kernel_rfl) (by kernel_rfl) (fun _ _ _ h => h) (Or.inl ⟨by rfl, fun W _ => by go_simp⟩) hHeld ?_
              simp only [Act.put, List.getElem_toArray, List.getElem_cons_zero, List.getElem_cons_succ, List.setIfInBounds_toArray, List.set_cons_succ, List.set_cons_zero]
              refine wpAnyH_take (i := 23) (v := .slice a3 fs3.length c3) rfl (by kernel_rfl) (by kernel_rfl) (by kernel_rfl) (fun _ _ _ h => h) (Or.inl ⟨by rfl, fun W _ => by go_simp⟩) hHeld ?_
              simp only [Act.put, List.getElem_toArray, List.getElem_cons_zero, List.getElem_cons_succ, List.setIfInBounds_toArray, List.set_cons_succ, List.set_cons_zero]
              refine wpAnyH_ready (rs := [24]) (by kernel_rfl) (by simp) ?_
              refine AllReadyH.cons rfl (fun K hK => ?_) AllReadyH.nil
              refine step_store_row (by rfl) 33 _ _ (by rfl) E [Value.int .i64 y2, .int .i64 t2] (by rfl) (by rfl) 33 _ HEw4.out faultSize rfl (fault_one _ _) ?_
              intro wz hwz
              refine hK.out _ _ trivial (fun hHeld => ?_)
              clear hK K
              try simp only [Act.put, List.getElem_toArray, List.getElem_cons_zero, List.getElem_cons_succ]
              refine wpAnyH_done (by kernel_rfl) ?_ _
              simp only [noPanic]
              clear hHeld
              have HEz := hid hwz.blk
              have HQz := hid (Below.of_gb HQw4.out hwz.grown HEl.out.1)
              have HZz := hid (Nat.le_trans HZw4.out hwz.grown.size)
              have HSOz := hid (HSOw4.out.far hwz.grown (fun e => own_blk HSOw4.out.kb.blk HEw4.out (by decide) e.symm) (fun k e h9 => own_block HSOw4.out.kb.own HEw4.out (by decide) (h9 ▸ e)))
              have HSDz := hid (HSDw4.out.far hwz.grown (fun e => own_blk HSDw4.out.kb.blk HEw4.out (by decide) e.symm) (fun k e h9 => own_block HSDw4.out.kb.own HEw4.out (by decide) (h9 ▸ e)))
              have HOAz := hid (HOAw4.out.gone hwz.grown HEw4.out (by decide) (by decide))
              have HOGz := hid (HOGw4.out.gone hwz.grown HEw4.out (by decide) (by decide))
              have HO3z := hid (HO3w4.out.gone hwz.grown HEw4.out (by decide) (by decide))
              have HF1z := hid (gb_blk HF1w4.out hwz.grown (fun e => by injection e with e; have := HEl.out; omega))
              have HF2z := hid (gb_blk HF2w4.out hwz.grown (fun e => by injection e with e; have := HEl.out; omega))
              have HF1E := hid (show E ≠ F1 ∧ E ≠ F2 by have := HEl.out; omega)
              clear hwz
              go_wp2_with (first | (at_builtin; refine app_frs (by rfl) _ _ rfl L6 _ fs rfl HOGz.out fs3 _ rfl HO3z.out.frs HO3z.out.nilc (fun f hf => HO3z.out.each f hf) (HFT.out fs3 HM3.out) HZz.out ?_))
              intro v7 w7 ho7 hg7 hp7
              have HSO7 := hid (HSOz.out.apart hg7 HOGz.out)
              have HSD7 := hid (HSDz.out.apart hg7 HOGz.out)
              have HQ7 := hid (Below.of_gbo HQz.out hg7 (fun k e => Nat.le_trans HW6.out (World.ownsRow.lt HOGz.out.own k e).1))
              have HZ7 := hid (Nat.le_trans HZz.out hg7.size)
              have HOA7 := hid (HOAz.out.off HAL.out hg7 (fun k e => (World.ownsRow.lt HOGz.out.own k e).1))
              have HF17 := hid (gb_blk HF1z.out hg7 (fun e => own_block HOGz.out.own HF1z.out (by decide) e))
              have HF27 := hid (gb_blk HF2z.out hg7 (fun e => own_block HOGz.out.own HF2z.out (by decide) e))
              have HE7 := hid (gb_blk HEz.out hg7 (fun e => own_block HOGz.out.own HEz.out (by decide) e))
              have HO7 := hid ho7
              obtain ⟨a7, c7, e7⟩ := ho7.shape
              rw [List.length_append] at e7
              subst e7
              clear ho7 hg7 hp7
              go_upto_region 18 with (first
                | (refine ld_row (by rfl) 33 (.tmp 17) (by rfl) E (by rfl) [Value.int .i64 y2, .int .i64 t2] 33 HE7.out _ Tryz.underlying33 rfl faultSize ?_)
                | (refine st_row (by rfl) 33 _ _ (by rfl) F2 [Value.int .i64 y2, .int .i64 t2] (by rfl) (by rfl) 33 _ HF27.out faultSize rfl (fault_one _ _) ?_; intro w8 hw8))
              have HF28 := hid hw8.blk
              have HQ8 := hid (Below.of_gb HQ7.out hw8.grown HFn.out.2)
              have HZ8 := hid (Nat.le_trans HZ7.out hw8.grown.size)
              have HF18 := hid (gb_blk HF17.out hw8.grown (fun e => by injection e with e; exact HFF.out e.symm))
              have HSO8 := hid (HSO7.out.far hw8.grown (fun e => own_blk HSO7.out.kb.blk HF27.out (by decide) e.symm) (fun k e h9 => own_block HSO7.out.kb.own HF27.out (by decide) (h9 ▸ e)))
              have HSD8 := hid (HSD7.out.far hw8.grown (fun e => own_blk HSD7.out.kb.blk HF27.out (by decide) e.symm) (fun k e h9 => own_block HSD7.out.kb.own HF27.out (by decide) (h9 ▸ e)))
              have HOA8 := hid (HOA7.out.gone hw8.grown HF27.out (by decide) (by decide))
              have HO8 := hid (HO7.out.gone hw8.grown HF27.out (by decide) (by decide))
              clear hw8
              have hwT : IntKind.i64.wrap ((T : Int) + (N : Int)) = ((T + N : Nat) : Int) := by rw [IntKind.wrap_i64]; have := HN2.out; omega
              have hwk : IntKind.i64.wrap ((k : Int) + 1) = (k : Int) + 1 := by rw [IntKind.wrap_i64]; omega
              go_wp2
              refine ⟨⟨k + 1, T + N, v3, fs ++ fs3, _, by omega, HN2.out, by simp, by rw [HM2.out], HRN.out, HEN.out, ?_, HO8.out, HSD8.out, HSO8.out, HAP3.out, HOA8.out, HF18.out, by rw [HY2.out, HT2.out]; exact HF28.out, HQ8.out, HZ8.out⟩, by simp [intOf]; omega⟩
              rw [List.map_append, HFS.out, HM3.out]
              exact hid rfl
    · as_aux_lemma =>
      have HAA := hid (show a = a1 by
        have e : runP 2097152 nev a (bs.drop T) = a := by
          by_cases hy : y = 0
          · have hT2 := HEND.out (by have : ¬ k ≤ cu.length := fun h => hgo ⟨h, hy⟩; omega)
            rw [hT2, List.drop_length]
            rfl
          · exact runP_stop _ _ _ (Or.inr (by rw [HY.out]; exact hy)) _
        have h2 := HA1.out
        rw [← List.take_append_drop T bs, runP_app, HR.out, e] at h2
        exact h2)
      have h9 := HAA.out
      subst h9
      have hyy : y = y1 := HY.out.symm.trans HY1.out
      have htt : t = t1 := HTt.out.symm.trans HT1.out
      subst hyy htt
      have HMM := hid (show fsA.map (·.1) = fs.map (·.1) by rw [HMA.out, HFS.out])
      have HRL := hid (show a.1.r.length ≤ 140737488355327 by have := HSOr.out.few; omega)
      have HT9 := hid trivial
      have HC1 := hid (kcount_any HSOr.out)
      obtain ⟨ca, HCa⟩ : ∃ n, Hid (a.1.came = n) := ⟨_, rfl⟩
      obtain ⟨wh, HWh⟩ : ∃ n, Hid (a.1.whole = n) := ⟨_, rfl⟩
      rw [HCa.out, HWh.out] at HC1
      have nF : ∀ W, (binOp .eql 33 (.agg #[.int .i64 y, .int .i64 t]) (.agg #[.int .i64 y, .int .i64 t])).run Tryz.prog W = .ok (.bool true) W := fun W => by rw [fault_eql]; simp
      have nP : ∀ W, (binOp .eql 33 (.agg #[.int .i64 a.1.why, .int .i64 a.1.wat]) (.agg #[.int .i64 a.1.why, .int .i64 a.1.wat])).run Tryz.prog W = .ok (.bool true) W := fun W => by rw [fault_eql]; simp
      go_upto_region 10 with fail
      go_cut [60] from 52 to 106 (fun s60 wx => s60 = .bool false ∧ wx = wr)
      case first =>
        by_cases hk9 : k ≤ cu.length
        · have hkk : (k : Int) ≤ (cu.length : Int) := by omega
          have hy9 : y ≠ 0 := fun h => hgo ⟨hk9, h⟩
          have n1 : ∀ W, (binOp .eql 33 (.agg #[.int .i64 y, .int .i64 t]) (.agg #[.int .i64 0, .int .i64 0])).run Tryz.prog W = .ok (.bool false) W := fun W => by rw [fault_eql]; simp [hy9]
          go_wp2_with (first | (refine unguard8 (by rfl) ?_; refine bd_row (by rfl) 33 #[] (by rfl) _ (by simp) _ built_fz ?_))
          go_meet
          exact ⟨rfl, rfl⟩
        · have hkk : ¬ (k : Int) ≤ (cu.length : Int) := by omega
          go_wp2
          go_meet
          exact ⟨rfl, rfl⟩
      case rest =>
      obtain ⟨rfl, hwx⟩ := hcut
      have hwx9 := hwx.symm
      subst hwx9
      clear f0 f1
      go_wp2_with fail
      refine HC1.out.mono ?_
      rintro e w5' ⟨rfl, q6, hw6⟩
      have HQ6 := hid (show Below wr.heap.size wr w5' by rw [hw6]; exact bel_drw wr q6)
      clear hw6 HC1
      have HC2 := hid (kcount_any (HSDr.out.below HQ6.out))
      rw [HCa.out, HWh.out] at HC2
      go_wp2_with fail
      refine HC2.out.mono ?_
      rintro e wf ⟨rfl, q7, hw7⟩
      have HQ7 := hid (below_then HQ6.out (show Below w5'.heap.size w5' wf by rw [hw7]; exact bel_drw w5' q7))
      have HSOf := hid (HSOr.out.below HQ7.out)
      have HSDf := hid (HSDr.out.below HQ7.out)
      have HOAf := hid (HOAr.out.below HQ7.out)
      have HOGf := hid (HOGr.out.below HQ7.out)
      have HF1f := hid (bel_keep HQ7.out HF1r.out)
      have HF2f := hid (bel_keep HQ7.out HF2r.out)
      have HQf := hid (below_then HQr.out HQ7.out)
      clear hw7 HC2
      go_upto_region 21 with fail
      refine wp_noPanic (wp_region_held_drew (S := fun W => Below wf.heap.size wf W) (by kernel_rfl) (bel_drw wf 1) ?_)
      intro hHeld
      refine wpAnyH_take (i := 0) (v := .slice aL fsA.length cL) rfl (by kernel_rfl) (by kernel_rfl) (by kernel_rfl) (fun _ _ _ h => h) (Or.inl ⟨by rfl, fun W _ => by go_simp⟩) hHeld ?_
      simp only [Act.put, List.getElem_toArray, List.getElem_cons_zero, List.setIfInBounds_toArray, List.set_cons_succ, List.set_cons_zero]
      refine wpAnyH_take (i := 1) (v := .slice ag fs.length cg) rfl (by kernel_rfl) (by kernel_rfl) (by kernel_rfl) (fun _ _ _ h => h) (Or.inl ⟨by rfl, fun W _ => by go_simp⟩) hHeld ?_
      simp only [Act.put, List.getElem_toArray, List.getElem_cons_zero, List.getElem_cons_succ, List.setIfInBounds_toArray, List.set_cons_succ, List.set_cons_zero]
      refine wpAnyH_ready (rs := [2]) (by kernel_rfl) (by simp) ?_
      refine AllReadyH.cons rfl (fun K hK => ?_) AllReadyH.nil
      have HSA := hid (fun W (h : Below wf.heap.size wf W) => rsl_any _ _ fsA fs W (HOAf.out.frs.below h) (HOGf.out.frs.below h) HMM.out HFL.out)
      go_simp
      refine ((HSA.out _ hHeld)).mono ?_
      rintro e w10 ⟨rfl, hb⟩
      have HQ10 := hid (below_then hHeld hb)
      clear hb HSA
      go_wp2_with fail
      refine hK.out _ _ HQ10.out (fun hHeld => ?_)
      clear hK K
      try simp only [Act.put, List.getElem_toArray, List.getElem_cons_zero, List.getElem_cons_succ, List.setIfInBounds_toArray, List.set_cons_succ, List.set_cons_zero]
      refine wpAnyH_take (i := 3) (v := .bool true) rfl (by kernel_rfl) (by kernel_rfl) (by kernel_rfl) (fun _ _ _ h => h) (Or.inl ⟨by rfl, fun W _ => by go_simp⟩) hHeld ?_
      simp only [Act.put, List.getElem_toArray, List.getElem_cons_zero, List.getElem_cons_succ, List.setIfInBounds_toArray, List.set_cons_succ, List.set_cons_zero]
      refine wpAnyH_take (i := 4) (v := .agg [Value.int .i64 y, .int .i64 t].toArray) rfl (by kernel_rfl) (by kernel_rfl) (by kernel_rfl) (fun _ _ _ h => h) (yieldsIf_load_mid (by rfl) 33 (.tmp 10) rfl F1 0 rfl [Value.int .i64 y, .int .i64 t] _ (fun W hW => Bel.range (range_row HF1f.out) (hp_lt HF1f.out) W ⟨⟨W, hW⟩, rfl⟩) Tryz.underlying33 rfl faultSize) hHeld ?_
      simp only [Act.put, List.getElem_toArray, List.getElem_cons_zero, List.getElem_cons_succ, List.setIfInBounds_toArray, List.set_cons_succ, List.set_cons_zero]
      refine wpAnyH_take (i := 5) (v := .agg [Value.int .i64 y, .int .i64 t].toArray) rfl (by kernel_rfl) (by kernel_rfl) (by kernel_rfl) (fun _ _ _ h => h) (yieldsIf_load_mid (by rfl) 33 (.tmp 12) rfl F2 0 rfl [Value.int .i64 y, .int .i64 t] _ (fun W hW => Bel.range (range_row HF2f.out) (hp_lt HF2f.out) W ⟨⟨W, hW⟩, rfl⟩) Tryz.underlying33 rfl faultSize) hHeld ?_
      simp only [Act.put, List.getElem_toArray, List.getElem_cons_zero, List.getElem_cons_succ, List.setIfInBounds_toArray, List.set_cons_succ, List.set_cons_zero]
      refine wpAnyH_take (i := 6) (v := .bool true) rfl (by kernel_rfl) (by kernel_rfl) (by kernel_rfl) (fun _ _ _ h => h) (Or.inl ⟨by rfl, fun W _ => by have hfact := nF; go_simp; first | done | simp [hfact]⟩) hHeld ?_
      simp only [Act.put, List.getElem_toArray, List.getElem_cons_zero, List.getElem_cons_succ, List.setIfInBounds_toArray, List.set_cons_succ, List.set_cons_zero]
      refine wpAnyH_take (i := 7) (v := .bool true) rfl (by kernel_rfl) (by kernel_rfl) (by kernel_rfl) (fun _ _ _ h => h) (Or.inl ⟨by rfl, fun W _ => by go_simp⟩) hHeld ?_
      simp only [Act.put, List.getElem_toArray, List.getElem_cons_zero, List.getElem_cons_succ, List.setIfInBounds_toArray, List.set_cons_succ, List.set_cons_zero]
      refine wpAnyH_take (i := 8) (v := .bool true) rfl (by kernel_rfl) (by kernel_rfl) (by kernel_rfl) (fun _ _ _ h => h) (Or.inl ⟨by rfl, fun W _ => by go_simp⟩) hHeld ?_
      simp only [Act.put, List.getElem_toArray, List.getElem_cons_zero, List.getElem_cons_succ, List.setIfInBounds_toArray, List.set_cons_succ, List.set_cons_zero]
      refine wpAnyH_take (i := 9) (v := .int .i64 (ca : Int)) rfl (by kernel_rfl) (by kernel_rfl) (by kernel_rfl) (fun _ _ _ h => h) (Or.inl ⟨by rfl, fun W _ => by go_simp⟩) hHeld ?_
      simp only [Act.put, List.getElem_toArray, List.getElem_cons_zero, List.getElem_cons_succ, List.setIfInBounds_toArray, List.set_cons_succ, List.set_cons_zero]
      refine wpAnyH_take (i := 10) (v := .int .i64 (ca : Int)) rfl (by kernel_rfl) (by kernel_rfl) (by kernel_rfl) (fun _ _ _ h => h) (Or.inl ⟨by rfl, fun W _ => by go_simp⟩) hHeld ?_
      simp only [Act.put, List.getElem_toArray, List.getElem_cons_zero, List.getElem_cons_succ, List.setIfInBounds_toArray, List.set_cons_succ, List.set_cons_zero]
      refine wpAnyH_take (i := 11) (v := .bool true) rfl (by kernel_rfl) (by kernel_rfl) (by kernel_rfl) (fun _ _ _ h => h) (Or.inl ⟨by rfl, fun W _ => by have hfact := HT9.out; go_simp; first | done | simp [hfact]⟩) hHeld ?_
      simp only [Act.put, List.getElem_toArray, List.getElem_cons_zero, List.getElem_cons_succ, List.setIfInBounds_toArray, List.set_cons_succ, List.set_cons_zero]
      refine wpAnyH_take (i := 12) (v := .bool true) rfl (by kernel_rfl) (by kernel_rfl) (by kernel_rfl) (fun _ _ _ h => h) (Or.inl ⟨by rfl, fun W _ => by go_simp⟩) hHeld ?_
      simp only [Act.put, List.getElem_toArray, List.getElem_cons_zero, List.getElem_cons_succ, List.setIfInBounds_toArray, List.set_cons_succ, List.set_cons_zero]
      refine wpAnyH_take (i := 13) (v := .bool true) rfl (by kernel_rfl) (by kernel_rfl) (by kernel_rfl) (fun _ _ _ h => h) (Or.inl ⟨by rfl, fun W _ => by go_simp⟩) hHeld ?_
      simp only [Act.put, List.getElem_toArray, List.getElem_cons_zero, List.getElem_cons_succ, List.setIfInBounds_toArray, List.set_cons_succ, List.set_cons_zero]
      refine wpAnyH_take (i := 14) (v := .int .i64 (wh : Int)) rfl (by kernel_rfl) (by kernel_rfl) (by kernel_rfl) (fun _ _ _ h => h) (Or.inl ⟨by rfl, fun W _ => by go_simp⟩) hHeld ?_
      simp only [Act.put, List.getElem_toArray, List.getElem_cons_zero, List.getElem_cons_succ, List.setIfInBounds_toArray, List.set_cons_succ, List.set_cons_zero]
      refine wpAnyH_take (i := 15) (v := .int .i64 (wh : Int)) rfl (by kernel_rfl) (by kernel_rfl) (by kernel_rfl) (fun _ _ _ h => h) (Or.inl ⟨by rfl, fun W _ => by go_simp⟩) hHeld ?_
      simp only [Act.put, List.getElem_toArray, List.getElem_cons_zero, List.getElem_cons_succ, List.setIfInBounds_toArray, List.set_cons_succ, List.set_cons_zero]
      refine wpAnyH_take (i := 16) (v := .bool true) rfl (by kernel_rfl) (by kernel_rfl) (by kernel_rfl) (fun _ _ _ h => h) (Or.inl ⟨by rfl, fun W _ => by have hfact := HT9.out; go_simp; first | done | simp [hfact]⟩) hHeld ?_
      simp only [Act.put, List.getElem_toArray, List.getElem_cons_zero, List.getElem_cons_succ, List.setIfInBounds_toArray, List.set_cons_succ, List.set_cons_zero]
      refine wpAnyH_take (i := 17) (v := .bool true) rfl (by kernel_rfl) (by kernel_rfl) (by kernel_rfl) (fun _ _ _ h => h) (Or.inl ⟨by rfl, fun W _ => by go_simp⟩) hHeld ?_
      simp only [Act.put, List.getElem_toArray, List.getElem_cons_zero, List.getElem_cons_succ, List.setIfInBounds_toArray, List.set_cons_succ, List.set_cons_zero]
      refine wpAnyH_take (i := 18) (v := .bool true) rfl (by kernel_rfl) (by kernel_rfl) (by kernel_rfl) (fun _ _ _ h => h) (Or.inl ⟨by rfl, fun W _ => by go_simp⟩) hHeld ?_
      simp only [Act.put, List.getElem_toArray, List.getElem_cons_zero, List.getElem_cons_succ, List.setIfInBounds_toArray, List.set_cons_succ, List.set_cons_zero]
      refine wpAnyH_take (i := 19) (v := .pointer (some ⟨b1, 0, none⟩)) rfl (by kernel_rfl) (by kernel_rfl) (by kernel_rfl) (fun _ _ _ h => h) (Or.inl ⟨by rfl, fun W _ => by go_simp⟩) hHeld ?_
      simp only [Act.put, List.getElem_toArray, List.getElem_cons_zero, List.getElem_cons_succ, List.setIfInBounds_toArray, List.set_cons_succ, List.set_cons_zero]
      refine wpAnyH_take (i := 22) (v := .pointer (some ⟨b2, 0, none⟩)) rfl (by kernel_rfl) (by kernel_rfl) (by kernel_rfl) (fun _ _ _ h => h) (Or.inl ⟨by rfl, fun W _ => by go_simp⟩) hHeld ?_
      simp only [Act.put, List.getElem_toArray, List.getElem_cons_zero, List.getElem_cons_succ, List.setIfInBounds_toArray, List.set_cons_succ, List.set_cons_zero]
      refine wpAnyH_ready (rs := [20]) (by kernel_rfl) (by simp) ?_
      refine AllReadyH.cons rfl (fun K hK => ?_) AllReadyH.nil
      go_simp
      refine ((krest_any (HSOf.out.below HQ10.out))).mono ?_
      rintro e w11 ⟨va, rfl, ho, hb⟩
      have HQ11 := hid (below_then HQ10.out hb)
      have HV1 := hid (ho.src HRL.out)
      clear ho hb
      go_wp2_with fail
      refine hK.out _ _ HQ11.out (fun hHeld => ?_)
      clear hK K
      try simp only [Act.put, List.getElem_toArray, List.getElem_cons_zero, List.getElem_cons_succ, List.setIfInBounds_toArray, List.set_cons_succ, List.set_cons_zero]
      refine wpAnyH_turn (S' := fun W => Below w11.heap.size w11 W) (fun W hW => below_then HQ11.out hW) _ _ _ _ ?_
      clear hHeld
      have hHeld : (fun W => Below w11.heap.size w11 W) _ := Below.refl _ _
      refine wpAnyH_take (i := 21) (v := .string ⟨a.1.r.toArray⟩) rfl (by kernel_rfl) (by kernel_rfl) (by kernel_rfl) (fun _ _ _ h => h) (Or.inl ⟨by rfl, fun W hW => by have hfact := run_str (HV1.out.below hW); clear hW; go_simp; first | done | simp [hfact]⟩) hHeld ?_
      simp only [Act.put, List.getElem_toArray, List.getElem_cons_zero, List.getElem_cons_succ, List.setIfInBounds_toArray, List.set_cons_succ, List.set_cons_zero]
      refine wpAnyH_ready (rs := [23]) (by kernel_rfl) (by simp) ?_
      refine AllReadyH.cons rfl (fun K hK => ?_) AllReadyH.nil
      go_simp
      refine ((krest_any (HSDf.out.below HQ11.out))).mono ?_
      rintro e w12 ⟨vb, rfl, ho, hb⟩
      have HQ12 := hid (below_then HQ11.out hb)
      have HV2 := hid (ho.src HRL.out)
      have HB12 := hid hb
      clear ho hb
      go_wp2_with fail
      refine hK.out _ _ HB12.out (fun hHeld => ?_)
      clear hK K
      try simp only [Act.put, List.getElem_toArray, List.getElem_cons_zero, List.getElem_cons_succ, List.setIfInBounds_toArray, List.set_cons_succ, List.set_cons_zero]
      refine wpAnyH_turn (S' := fun W => Below w12.heap.size w12 W) (fun W hW => below_then HB12.out hW) _ _ _ _ ?_
      clear hHeld
      have hHeld : (fun W => Below w12.heap.size w12 W) _ := Below.refl _ _
      refine wpAnyH_take (i := 24) (v := .string ⟨a.1.r.toArray⟩) rfl (by kernel_rfl) (by kernel_rfl) (by kernel_rfl) (fun _ _ _ h => h) (Or.inl ⟨by rfl, fun W hW => by have hfact := run_str (HV2.out.below hW); clear hW; go_simp; first | done | simp [hfact]⟩) hHeld ?_
      simp only [Act.put, List.getElem_toArray, List.getElem_cons_zero, List.getElem_cons_succ, List.setIfInBounds_toArray, List.set_cons_succ, List.set_cons_zero]
      refine wpAnyH_take (i := 25) (v := .bool true) rfl (by kernel_rfl) (by kernel_rfl) (by kernel_rfl) (fun _ _ _ h => h) (Or.inl ⟨by rfl, fun W _ => by have hfact := HT9.out; go_simp; first | done | simp [hfact]⟩) hHeld ?_
      simp only [Act.put, List.getElem_toArray, List.getElem_cons_zero, List.getElem_cons_succ, List.setIfInBounds_toArray, List.set_cons_succ, List.set_cons_zero]
      refine wpAnyH_take (i := 26) (v := .bool true) rfl (by kernel_rfl) (by kernel_rfl) (by kernel_rfl) (fun _ _ _ h => h) (Or.inl ⟨by rfl, fun W _ => by go_simp⟩) hHeld ?_
      simp only [Act.put, List.getElem_toArray, List.getElem_cons_zero, List.getElem_cons_succ, List.setIfInBounds_toArray, List.set_cons_succ, List.set_cons_zero]
      refine wpAnyH_take (i := 27) (v := .bool true) rfl (by kernel_rfl) (by kernel_rfl) (by kernel_rfl) (fun _ _ _ h => h) (Or.inl ⟨by rfl, fun W _ => by go_simp⟩) hHeld ?_
      simp only [Act.put, List.getElem_toArray, List.getElem_cons_zero, List.getElem_cons_succ, List.setIfInBounds_toArray, List.set_cons_succ, List.set_cons_zero]
      refine wpAnyH_take (i := 28) (v := .pointer (some ⟨b1, 0, none⟩)) rfl (by kernel_rfl) (by kernel_rfl) (by kernel_rfl) (fun _ _ _ h => h) (Or.inl ⟨by rfl, fun W _ => by go_simp⟩) hHeld ?_
      simp only [Act.put, List.getElem_toArray, List.getElem_cons_zero, List.getElem_cons_succ, List.setIfInBounds_toArray, List.set_cons_succ, List.set_cons_zero]
      refine wpAnyH_take (i := 30) (v := .pointer (some ⟨b2, 0, none⟩)) rfl (by kernel_rfl) (by kernel_rfl) (by kernel_rfl) (fun _ _ _ h => h) (Or.inl ⟨by rfl, fun W _ => by go_simp⟩) hHeld ?_
      simp only [Act.put, List.getElem_toArray, List.getElem_cons_zero, List.getElem_cons_succ, List.setIfInBounds_toArray, List.set_cons_succ, List.set_cons_zero]
      refine wpAnyH_ready (rs := [29]) (by kernel_rfl) (by simp) ?_
      refine AllReadyH.cons rfl (fun K hK => ?_) AllReadyH.nil
      go_simp
      refine ((kwant_any (HSOf.out.below HQ12.out))).mono ?_
      rintro e w13 ⟨rfl, hb⟩
      have HQ13 := hid (below_then HQ12.out hb)
      have HH13 := hid (below_then (Below.refl w12.heap.size w12) hb)
      clear hb
      go_wp2_with fail
      refine hK.out _ _ HH13.out (fun hHeld => ?_)
      clear hK K
      try simp only [Act.put, List.getElem_toArray, List.getElem_cons_zero, List.getElem_cons_succ, List.setIfInBounds_toArray, List.set_cons_succ, List.set_cons_zero]
      refine wpAnyH_ready (rs := [31]) (by kernel_rfl) (by simp) ?_
      refine AllReadyH.cons rfl (fun K hK => ?_) AllReadyH.nil
      go_simp
      refine ((kwant_any (HSDf.out.below HQ13.out))).mono ?_
      rintro e w14 ⟨rfl, hb⟩
      have HQ14 := hid (below_then HQ13.out hb)
      have HH14 := hid (below_then HH13.out hb)
      clear hb
      go_wp2_with fail
      refine hK.out _ _ HH14.out (fun hHeld => ?_)
      clear hK K
      try simp only [Act.put, List.getElem_toArray, List.getElem_cons_zero, List.getElem_cons_succ, List.setIfInBounds_toArray, List.set_cons_succ, List.set_cons_zero]
      refine wpAnyH_take (i := 32) (v := .bool true) rfl (by kernel_rfl) (by kernel_rfl) (by kernel_rfl) (fun _ _ _ h => h) (Or.inl ⟨by rfl, fun W _ => by have hfact := HT9.out; go_simp; first | done | simp [hfact]⟩) hHeld ?_
      simp only [Act.put, List.getElem_toArray, List.getElem_cons_zero, List.getElem_cons_succ, List.setIfInBounds_toArray, List.set_cons_succ, List.set_cons_zero]
      refine wpAnyH_take (i := 33) (v := .bool true) rfl (by kernel_rfl) (by kernel_rfl) (by kernel_rfl) (fun _ _ _ h => h) (Or.inl ⟨by rfl, fun W _ => by go_simp⟩) hHeld ?_
      simp only [Act.put, List.getElem_toArray, List.getElem_cons_zero, List.getElem_cons_succ, List.setIfInBounds_toArray, List.set_cons_succ, List.set_cons_zero]
      refine wpAnyH_take (i := 34) (v := .bool true) rfl (by kernel_rfl) (by kernel_rfl) (by kernel_rfl) (fun _ _ _ h => h) (Or.inl ⟨by rfl, fun W _ => by go_simp⟩) hHeld ?_
      simp only [Act.put, List.getElem_toArray, List.getElem_cons_zero, List.getElem_cons_succ, List.setIfInBounds_toArray, List.set_cons_succ, List.set_cons_zero]
      refine wpAnyH_take (i := 35) (v := .pointer (some ⟨b1, 0, none⟩)) rfl (by kernel_rfl) (by kernel_rfl) (by kernel_rfl) (fun _ _ _ h => h) (Or.inl ⟨by rfl, fun W _ => by go_simp⟩) hHeld ?_
      simp only [Act.put, List.getElem_toArray, List.getElem_cons_zero, List.getElem_cons_succ, List.setIfInBounds_toArray, List.set_cons_succ, List.set_cons_zero]
      refine wpAnyH_take (i := 37) (v := .pointer (some ⟨b2, 0, none⟩)) rfl (by kernel_rfl) (by kernel_rfl) (by kernel_rfl) (fun _ _ _ h => h) (Or.inl ⟨by rfl, fun W _ => by go_simp⟩) hHeld ?_
      simp only [Act.put, List.getElem_toArray, List.getElem_cons_zero, List.getElem_cons_succ, List.setIfInBounds_toArray, List.set_cons_succ, List.set_cons_zero]
      refine wpAnyH_ready (rs := [36]) (by kernel_rfl) (by simp) ?_
      refine AllReadyH.cons rfl (fun K hK => ?_) AllReadyH.nil
      go_simp
      refine ((kpoison_any (HSOf.out.below HQ14.out))).mono ?_
      rintro e w15 ⟨rfl, hb⟩
      have HQ15 := hid (below_then HQ14.out hb)
      have HH15 := hid (below_then HH14.out hb)
      clear hb
      go_wp2_with fail
      refine hK.out _ _ HH15.out (fun hHeld => ?_)
      clear hK K
      try simp only [Act.put, List.getElem_toArray, List.getElem_cons_zero, List.getElem_cons_succ, List.setIfInBounds_toArray, List.set_cons_succ, List.set_cons_zero]
      refine wpAnyH_ready (rs := [38]) (by kernel_rfl) (by simp) ?_
      refine AllReadyH.cons rfl (fun K hK => ?_) AllReadyH.nil
      go_simp
      refine ((kpoison_any (HSDf.out.below HQ15.out))).mono ?_
      rintro e w16 ⟨rfl, hb⟩
      have HQ16 := hid (below_then HQ15.out hb)
      have HH16 := hid (below_then HH15.out hb)
      clear hb
      go_wp2_with fail
      refine hK.out _ _ HH16.out (fun hHeld => ?_)
      clear hK K
      try simp only [Act.put, List.getElem_toArray, List.getElem_cons_zero, List.getElem_cons_succ, List.setIfInBounds_toArray, List.set_cons_succ, List.set_cons_zero]
      refine wpAnyH_take (i := 39) (v := .bool true) rfl (by kernel_rfl) (by kernel_rfl) (by kernel_rfl) (fun _ _ _ h => h) (Or.inl ⟨by rfl, fun W _ => by have hfact := nP; go_simp; first | done | simp [hfact]⟩) hHeld ?_
      simp only [Act.put, List.getElem_toArray, List.getElem_cons_zero, List.getElem_cons_succ, List.setIfInBounds_toArray, List.set_cons_succ, List.set_cons_zero]
      refine wpAnyH_take (i := 40) (v := .bool true) rfl (by kernel_rfl) (by kernel_rfl) (by kernel_rfl) (fun _ _ _ h => h) (Or.inl ⟨by rfl, fun W _ => by go_simp⟩) hHeld ?_
      simp only [Act.put, List.getElem_toArray, List.getElem_cons_zero, List.getElem_cons_succ, List.setIfInBounds_toArray, List.set_cons_succ, List.set_cons_zero]
      refine wpAnyH_take (i := 41) (v := .bool true) rfl (by kernel_rfl) (by kernel_rfl) (by kernel_rfl) (fun _ _ _ h => h) (Or.inl ⟨by rfl, fun W _ => by go_simp⟩) hHeld ?_
      simp only [Act.put, List.getElem_toArray, List.getElem_cons_zero, List.getElem_cons_succ, List.setIfInBounds_toArray, List.set_cons_succ, List.set_cons_zero]
      refine wpAnyH_ready (rs := [42]) (by kernel_rfl) (by simp) ?_
      refine AllReadyH.cons rfl (fun K hK => ?_) AllReadyH.nil
      go_simp
      refine ((awake8_any w16)).mono ?_
      rintro e w17 ⟨rfl, hb⟩
      have HQ17 := hid (below_then HQ16.out hb)
      have HH17 := hid (below_then HH16.out hb)
      clear hb
      go_wp2_with fail
      refine hK.out _ _ HH17.out (fun hHeld => ?_)
      clear hK K
      try simp only [Act.put, List.getElem_toArray, List.getElem_cons_zero, List.getElem_cons_succ, List.setIfInBounds_toArray, List.set_cons_succ, List.set_cons_zero]
      refine wpAnyH_take (i := 43) (v := .bool true) rfl (by kernel_rfl) (by kernel_rfl) (by kernel_rfl) (fun _ _ _ h => h) (Or.inl ⟨by rfl, fun W _ => by go_simp⟩) hHeld ?_
      simp only [Act.put, List.getElem_toArray, List.getElem_cons_zero, List.getElem_cons_succ, List.setIfInBounds_toArray, List.set_cons_succ, List.set_cons_zero]
      refine wpAnyH_take (i := 44) (v := .bool true) rfl (by kernel_rfl) (by kernel_rfl) (by kernel_rfl) (fun _ _ _ h => h) (Or.inl ⟨by rfl, fun W _ => by go_simp⟩) hHeld ?_
      simp only [Act.put, List.getElem_toArray, List.getElem_cons_zero, List.getElem_cons_succ, List.setIfInBounds_toArray, List.set_cons_succ, List.set_cons_zero]
      refine wpAnyH_done (by kernel_rfl) ?_ _
      simp only [noPanic]
      clear hHeld
      have HB9 := hid (below_then HQf.out HQ17.out)
      go_wp2
      go_ret
      exact ⟨rfl, HB9.out⟩
end Go.Proofs.YtiibhccbbpgehaaGreat
