/- Contracts and pure facts that the proof needs, joined. -/
import Derived.Test.YtjjajfipfeigiabDoorG2

/- Operands with operators between (written by zline.py). -/
namespace Go.Proofs.YtjjajfipfeigiabDoor
open Go.RowKit

section
variable {w w' : World} {b : Nat} {l : List UInt8} {fuel : Int} {i lv : Nat} {t : Tok}
set_option maxRecDepth 20000 in
set_option maxHeartbeats 2000000 in
theorem line0_any {n : Nat} {x : Nat → Except Ft (Ex × Nat)} (hx : Reads l fuel b lv 38 x) (v : Value) (w : World) (hv : ∀ W, w.grownBy W (some b) → Strs W v (sgnL 0)) (h : Sz w b l fuel i lv t) (hout : lineP (srcP l fuel) x 0 n i ≠ .error outF) :
    Calls Tryd.prog 37 #[.pointer (some ⟨b, 0, none⟩), .func (.func 38) #[] #[], .int .i64 65536, v] w (Out l fuel b lv (tE w.heap.size) w (aft l fuel (lineP (srcP l fuel) x 0 n i))) := by
  obtain ⟨R, HR⟩ : ∃ R, Hid (lineP (srcP l fuel) x 0 n i = R) := ⟨_, rfl⟩
  rw [HR.out] at hout ⊢
  obtain ⟨B, HB⟩ : ∃ B, Hid (w.heap.size = B) := ⟨_, rfl⟩
  rw [HB.out]
  have HOUT := hid hout
  have HLK := hid h.lk
  have H0 := hid h
  have HX := hid hx
  have HV := hid hv
  have hb1 := below_walk w (.cells zX 49)
  have HN1 := hid (hp_new w (.cells zX 49))
  have HZ1 := hid (h.below hb1)
  have HG1 := hid (below_gb hb1 (some b))
  have HLT := hid h.pz.lt
  have hz1 := hp_size w (.cells zX 49)
  rw [HB.out] at HLT HN1 hz1
  obtain ⟨av, cv, rfl⟩ := (hv w (gb_refl w _)).shape
  have hxo : x i ≠ .error outF := fun e => hout (by rw [← HR.out]; simp only [lineP, e])
  clear h hout hx hb1 hv
  go_enter Tryd.func37, Tryd.ntmps37
  go_upto_region 1 with (refine al_row rfl 49 rfl zX Tryd.zeroExpr ?_)
  rw [HB.out]
  generalize w.alloc (.cells zX 49) = w1 at *
  have HC := hid (HX.out.1 w1 i t HZ1.out hxo)
  clear hxo
  go_wp2_with fail
  refine HC.out.mono ?_
  intro e w3 hO
  obtain ⟨hg, ⟨f, h1, h2, rfl, h4⟩ | ⟨e0, j0, v0, u0, h1, rfl, h3, h4⟩⟩ := out_mono (lv' := lv) (T' := tE B) (r' := aft l fuel R) HG1.out hO (fun f hf => by rw [← HR.out]; exact Or.elim (aft_er hf) (fun q => by simp only [lineP, q, aft]) (fun ⟨a, j, q, ql⟩ => by have hm := HOUT.out; rw [← HR.out] at hm; simp only [lineP, q] at hm ⊢; exact bin_look ql hm))
  · have H4 := hid h4
    clear h1 h2 h4 hg hO
    go_wp2_with fail
    exact ⟨rfl, H4.out⟩
  · have ho := hO.1
    clear hO
    obtain ⟨kv0, d0, rfl, hex⟩ := h3
    have HA := hid (aft_in h1)
    have HZ3 := hid h4
    have HG3 := hid hg
    have HN3 := hid ((ho.block B (hp_lt HN1.out) (by have := HLT.out; simp; omega)).trans HN1.out)
    have hs3 := ho.size
    rw [hz1] at hs3
    have hb4 := below_walk w3 (.cells (exC e0 kv0).toArray 49)
    have HX4 : Hid (Xb (w3.alloc (.cells (exC e0 kv0).toArray 49)) w3.heap.size e0 kv0) := hid (hp_new _ _)
    have HE4 : Hid (ExS (fun g => B < g ∧ g ≠ w3.heap.size) (w3.alloc (.cells (exC e0 kv0).toArray 49)) d0 kv0 e0.kids) := hid (hex.keep (fun g hq hl => ⟨hb4.block g hl, by rw [hz1] at hq; omega, by omega⟩) hb4.size)
    have HZ4 := hid (HZ3.out.below hb4)
    have HG4 := hid (gb_trans HG3.out (below_gb hb4 (some b)))
    have HN4 := hid ((hb4.block B (hp_lt HN3.out)).trans HN3.out)
    have HC1 := hid (hex.cell)
    clear h1 h4 hg ho hex hb4 HC HN1 HZ1 HG1 HN3 HG3 hz1
    go_wp2_with (first
      | (refine al_row rfl 49 rfl zX Tryd.zeroExpr ?_; refine st_new rfl 49 (.tmp 9) (.tmp 15) rfl (exC e0 kv0) rfl rfl _ _ Tryd.rowExpr rfl (exC_one _ _ HC1.out) ?_))
    generalize w3.alloc (.cells (exC e0 kv0).toArray 49) = w4 at *
    obtain ⟨g9, HG9⟩ : ∃ g9, Hid (w3.heap.size = g9) := ⟨_, rfl⟩
    rw [HG9.out] at HX4 HE4 hs3 ⊢
    clear HC1
    go_loopw [10] (fun v10 wr => ∃ (c m j d : Nat) (u : Tok) (e : Ex) (kv : Value), v10 = .int .i64 c ∧ c ≤ 65536 ∧ c ≤ j ∧ Hid (Xb wr g9 e kv) ∧ Hid (ExS (fun g => B < g ∧ g ≠ g9) wr d kv e.kids) ∧ Hid (Sz wr b l fuel j lv u) ∧ Hid (w.grownBy wr (some b)) ∧ Hid (wr.heap[B]? = some (.cells zX 49 (0, 0))) ∧ Hid (R = binL (srcP l fuel) x 0 m e j)) (fun v10 _ => 65536 - (intOf v10).toNat)
    case atStart => exact ⟨0, n, j0, d0, u0, e0, kv0, rfl, by omega, by omega, HX4, HE4, HZ4, HG4, HN4, hid (by rw [← HR.out]; simp only [lineP, HA.out])⟩
    case round =>
      clear HX4 HE4 HZ4 HG4 HN4 HA
      obtain ⟨c, m, j, d, u, e, kv, rfl, hc, hcj, HXB, HES, HZ, HG, HNB, HEQ⟩ := hrel
      have hj6 := (lk_lt HZ.out.lk).1
      have hwr := HG.out.size
      rw [HB.out] at hwr
      by_cases hlt : c < 65536
      · have q0 : (c : Int) < 65536 := by omega
        have HEQ1 := HEQ
        clear HEQ
        obtain ⟨m, rfl⟩ : ∃ q, m = q + 1 := by
          cases m with
          | zero => exact absurd HEQ1.out HOUT.out
          | succ m => exact ⟨m, rfl⟩
        have HI := hid (is_any (sgnL 0) _ HZ.out.ok wr HZ.out.pz (HV.out wr HG.out) (by decide))
        change Hid (Calls Tryd.prog 25 _ _ fun r w' => r = .returned (.bool (decide (txA l u ∈ sgnL 0))) ∧ _) at HI
        by_cases hm : txA l u ∈ sgnL 0
        · rw [decide_eq_true hm] at HI
          have HM := hid hm
          have hsn : txA l u ≠ [] := fun e => by rw [e] at hm; revert hm; decide
          have HOP := hid (sgn_op 0 (by decide) hm)
          have HK := hid (fun W (hz : Sz W b l fuel j lv u) => take_any (txA l u) hsn W hz)
          clear hm hsn
          have HBO : Hid (∀ q, Calls Tryd.prog 55 #[.string (mk (ttP l u.2.1 u.2.2))] (wr.drewN q) fun e w' => e = .returned (.int .i64 (opN (txA l u) : Int)) ∧ w' = wr.drewN q) := hid (fun q => binop_any (txA l u) HOP.out _ (HZ.out.drewN q).pz.bin)
          have HTX : Hid (∀ q, Calls Tryd.prog 43 #[.pointer (some ⟨b, 0, none⟩)] (wr.drewN q) fun e w' => e = .returned (.string (mk (ttP l u.2.1 u.2.2))) ∧ ∃ p, w' = wr.drewN p) := hid (fun q => (ptext_any HZ.out.ok _ (HZ.out.drewN q).pz).mono (fun e w' hh => ⟨hh.1, by obtain ⟨p, hp⟩ := hh.2; exact ⟨q + p, by rw [hp]; exact drewN_add2 wr q p⟩⟩))
          obtain ⟨op, HOPN⟩ : ∃ op, Hid (opN (txA l u) = op) := ⟨_, rfl⟩
          rw [HOPN.out] at HBO
          go_wp2_with (first
            | (go_at_call 25; refine HI.out.mono ?_; rintro e w' ⟨rfl, n1, rfl⟩)
            | (go_at_call 43; refine (HTX.out _).mono ?_; rintro e w' ⟨rfl, n2, rfl⟩)
            | (go_at_call 55; refine (HBO.out _).mono ?_; rintro e w' ⟨rfl, rfl⟩))
          refine (HK.out _ (HZ.out.drewN _)).mono ?_
          intro e w5 hO
          obtain ⟨hgc, ⟨f, h1, h2, rfl, h4⟩ | ⟨ac, j5, vc, u5, h1c, rfl, h3c, h4c⟩⟩ := out_mono (lv' := lv) (T' := tE B) (r' := aft l fuel R) (gbz_drewN HG.out _) hO (fun f hf => by rw [HEQ1.out]; have hm := HOUT.out; rw [HEQ1.out] at hm; refine Or.elim (tak_er hf) (fun ⟨q1, q2⟩ => absurd rfl q1) (fun ⟨q1, q2⟩ => ?_); simp only [binL, srcP, HZ.out.lk, HM.out, if_true] at hm ⊢; rcases HX.out.2.2 _ _ q2 with q3 | q3; (simp only [q3, aft]); (simp only [q3] at hm; exact absurd rfl hm))
          · have H4 := hid h4
            clear h1 h2 h4 hgc hO
            go_wp2_with fail
            exact ⟨rfl, H4.out⟩
          · have hoc := hO.1
            clear hO
            subst h3c
            obtain ⟨_, rfl, rfl⟩ := tak_in h1c
            have HZ5 := hid h4c
            have HG5 := hid hgc
            have HNB5 := hid ((hoc.block B (hp_lt HNB.out) (by have := HLT.out; simp; omega)).trans HNB.out)
            have HXB5 : Hid (Xb w5 g9 e kv) := hid ((hoc.block g9 (hp_lt HXB.out) (by have := HLT.out; simp; omega)).trans HXB.out)
            have HES5 : Hid (ExS (fun g => B < g ∧ g ≠ g9) w5 d kv e.kids) := hid (HES.out.keep (w := wr) (fun g hq hl => ⟨show w5.heap[g]? = wr.heap[g]? from hoc.block g hl (by have := HLT.out; simp; omega), hq⟩) (show wr.heap.size ≤ w5.heap.size from hoc.size))
            have hw5 : wr.heap.size ≤ w5.heap.size := hoc.size
            clear h1c h4c hgc hoc HK HTX HBO HI HNB HXB HES
            have hxo : x (j + 1) ≠ .error outF := fun e => HOUT.out (by rw [HEQ1.out]; simp only [binL, srcP, HZ.out.lk, HM.out, if_true, e])
            have HC := hid (fun W hz => HX.out.1 W (j + 1) u5 hz hxo)
            clear hxo
            go_upto_region 7 with fail
            have HD5 := hid (show Below w5.heap.size w5 w5.drew from (Below.refl _ _).drew)
            refine wp_region_any (by kernel_rfl) ?_
            refine any_yieldQ 0 _ (.int .i64 (u.2.1 : Int)) rfl rfl (by kernel_rfl) (by kernel_rfl) (by kernel_rfl) (fun _ _ _ h => h) (fun W => by go_simp) ?_
            simp only [Act.put, List.getElem_toArray, List.getElem_cons_zero, List.setIfInBounds_toArray, List.set_cons_succ, List.set_cons_zero]
            refine any_yieldQ 1 _ (.int .i64 (op : Int)) rfl rfl (by kernel_rfl) (by kernel_rfl) (by kernel_rfl) (fun _ _ _ h => h) (fun W => by go_simp) ?_
            simp only [Act.put, List.getElem_toArray, List.getElem_cons_zero, List.getElem_cons_succ, List.setIfInBounds_toArray, List.set_cons_succ, List.set_cons_zero]
            refine any_yieldQ 3 _ (.func (.func 38) #[] #[]) rfl rfl (by kernel_rfl) (by kernel_rfl) (by kernel_rfl) (fun _ _ _ h => h) (fun W => by go_simp) ?_
            simp only [Act.put, List.getElem_toArray, List.getElem_cons_zero, List.getElem_cons_succ, List.setIfInBounds_toArray, List.set_cons_succ, List.set_cons_zero]
            refine any_yieldQ 4 _ (.pointer (some ⟨b, 0, none⟩)) rfl rfl (by kernel_rfl) (by kernel_rfl) (by kernel_rfl) (fun _ _ _ h => h) (fun W => by go_simp) ?_
            simp only [Act.put, List.getElem_toArray, List.getElem_cons_zero, List.getElem_cons_succ, List.setIfInBounds_toArray, List.set_cons_succ, List.set_cons_zero]
            refine any_two 2 5 (by kernel_rfl) ?ld ?cl
            case ld =>
              refine op_ld rfl rfl 49 (.tmp 9) rfl g9 0 rfl (exC e kv) _ (show Xb w5.drew g9 e kv from HXB5.out).rng Tryd.underlying49 rfl Tryd.rowExpr ?_
              simp only [Act.put, List.getElem_toArray, List.getElem_cons_zero, List.getElem_cons_succ, List.setIfInBounds_toArray, List.set_cons_succ, List.set_cons_zero]
              refine any_oneQ 5 (by kernel_rfl) ?_
              refine op_go rfl (fun K hK => ?_)
              go_simp
              refine (HC.out _ (HZ5.out.below HD5.out)).mono ?_
              intro e w6 hO
              obtain ⟨hgd, ⟨f, h1, h2, rfl, h4⟩ | ⟨a3, j3, v3, u3, h1d, rfl, h3d, h4d⟩⟩ := out_mono (lv' := lv) (T' := tE B) (r' := aft l fuel R) (gb_trans HG5.out (below_gb HD5.out (some b))) hO (fun f hf => by rw [HEQ1.out]; have hm := HOUT.out; rw [HEQ1.out] at hm; simp only [binL, srcP, HZ.out.lk, HM.out, if_true] at hm ⊢; rcases aft_er hf with q | ⟨aa, jj, q, ql⟩; (simp only [q, aft]); (simp only [q] at hm ⊢; exact bin_look ql hm))
              · have H4 := hid h4
                clear h1 h2 h4 hgd hO
                go_wp2_with fail
                exact ⟨rfl, H4.out⟩
              · have hod := hO.1
                clear hO
                obtain ⟨kv3, d3, rfl, hex⟩ := h3d
                have HA := hid (aft_in h1d)
                have hjj := HX.out.2.1 _ _ _ HA.out
                have HZ6 := hid h4d
                have HG6 := hid hgd
                have hod : w5.grownBy w6 (some b) := gb_trans (below_gb HD5.out (some b)) hod
                have HXB6 : Hid (Xb w6 g9 e kv) := hid ((hod.block g9 (hp_lt HXB5.out) (by have := HLT.out; simp; omega)).trans HXB5.out)
                have HNB6 := hid ((hod.block B (hp_lt HNB5.out) (by have := HLT.out; simp; omega)).trans HNB5.out)
                have HES6 : Hid (ExS (fun g => B < g ∧ g ≠ g9) w6 d kv e.kids) := hid (HES5.out.keep (w := w5) (fun g hq hl => ⟨hod.block g hl (by have := HLT.out; simp; omega), hq⟩) hod.size)
                have hg9 : g9 < w5.heap.size := hp_lt HXB5.out
                have HES3 : Hid (ExS (fun g => B < g ∧ g ≠ g9) w6 d3 kv3 a3.kids) := hid (hex.keep (fun g hq _ => ⟨rfl, by have : w5.heap.size ≤ g := hq; omega, by have : w5.heap.size ≤ g := hq; omega⟩) (Nat.le_refl _))
                clear h1d h4d hgd hod hex
                go_wp2_with fail
                refine hK.out _ _ ?_
                clear hK K
                try simp only [Act.put, List.getElem_toArray, List.getElem_cons_zero, List.getElem_cons_succ, List.setIfInBounds_toArray, List.set_cons_succ, List.set_cons_zero]
                refine any_tailQ 6 rfl (by kernel_rfl) ?_
                have hb7 := below_walk w6 (.cells ([(e, kv), (a3, kv3)].flatMap kE.cells).toArray 49)
                have HXB7 : Hid (Xb (w6.alloc (.cells ([(e, kv), (a3, kv3)].flatMap kE.cells).toArray 49)) g9 e kv) := hid ((hb7.block g9 (hp_lt HXB6.out)).trans HXB6.out)
                have HNB7 := hid ((hb7.block B (hp_lt HNB6.out)).trans HNB6.out)
                have HZ7 := hid (HZ6.out.below hb7)
                have HG7 := hid (gb_trans HG6.out (below_gb hb7 (some b)))
                have HES7 : Hid (ExS (fun g => B < g ∧ g ≠ g9) (w6.alloc (.cells ([(e, kv), (a3, kv3)].flatMap kE.cells).toArray 49)) (max d d3 + 1) (.slice (some ⟨w6.heap.size, 0, none⟩) 2 2) [e, a3]) := hid (exs_two w6 e a3 kv kv3 HES6.out HES3.out (by have := hp_lt HXB6.out; omega) (by have := hp_lt HXB6.out; omega))
                clear hb7
                simp only [List.drop]
                go_wp2_with (first
                  | (refine bs_two kE_ok rfl (.tmp 35) (.tmp 38) rfl (e, kv) (a3, kv3) rfl rfl ?_)
                  | (refine bd_row rfl 49 _ rfl [(0, .int .i64 5), (1, .int .i64 (u.2.1 : Int)), (5, .int .i64 (op : Int)), (6, .slice (some ⟨w6.heap.size, 0, none⟩) 2 2)] rfl (exC ⟨5, u.2.1, [], [], zVl, op, [e, a3]⟩ (.slice (some ⟨w6.heap.size, 0, none⟩) 2 2)).toArray (by kernel_rfl) ?_)
                  | (refine st_row rfl 49 (.tmp 9) (.tmp 40) rfl g9 (exC ⟨5, u.2.1, [], [], zVl, op, [e, a3]⟩ (.slice (some ⟨w6.heap.size, 0, none⟩) 2 2)) rfl rfl 49 _ HXB7.out Tryd.rowExpr rfl (exC_one _ _ rfl) ?_; intro w8 hs8; have HS8 := hid hs8; clear hs8))
                have HXB8 : Hid (Xb w8 g9 ⟨5, u.2.1, [], [], zVl, op, [e, a3]⟩ (.slice (some ⟨w6.heap.size, 0, none⟩) 2 2)) := hid HS8.out.blk
                have hBg : B < g9 := by omega
                have HNB8 := hid ((HS8.out.grown.block B (hp_lt HNB7.out) (by simp; omega)).trans HNB7.out)
                have HZ8 := hid (H0.out.new HZ7.out HS8.out.grown (by rw [HB.out]; omega))
                have HG8 := hid (gb_new HG7.out HS8.out.grown (by rw [HB.out]; omega))
                have HES8 : Hid (ExS (fun g => B < g ∧ g ≠ g9) w8 (max d d3 + 1) (.slice (some ⟨w6.heap.size, 0, none⟩) 2 2) [e, a3]) := hid (HES7.out.keep (fun g hq hl => ⟨HS8.out.grown.block g hl (by simp; exact hq.2), hq⟩) HS8.out.grown.size)
                exact ⟨⟨c + 1, m, j3, _, u3, _, _, by simp, by omega, by omega, HXB8, HES8, HZ8, HG8, HNB8, hid (by rw [HEQ1.out]; simp only [binL, srcP, HZ.out.lk, HM.out, if_true, HA.out, HOPN.out]; rfl)⟩, by simp [intOf]; omega⟩
            case cl =>
              refine op_go rfl (fun K hK => ?_)
              go_simp
              refine (HC.out _ (HZ5.out.below HD5.out)).mono ?_
              intro e w6 hO
              obtain ⟨hgd, ⟨f, h1, h2, rfl, h4⟩ | ⟨a3, j3, v3, u3, h1d, rfl, h3d, h4d⟩⟩ := out_mono (lv' := lv) (T' := tE B) (r' := aft l fuel R) (gb_trans HG5.out (below_gb HD5.out (some b))) hO (fun f hf => by rw [HEQ1.out]; have hm := HOUT.out; rw [HEQ1.out] at hm; simp only [binL, srcP, HZ.out.lk, HM.out, if_true] at hm ⊢; rcases aft_er hf with q | ⟨aa, jj, q, ql⟩; (simp only [q, aft]); (simp only [q] at hm ⊢; exact bin_look ql hm))
              · have H4 := hid h4
                clear h1 h2 h4 hgd hO
                go_wp2_with fail
                exact ⟨rfl, H4.out⟩
              · have hod := hO.1
                clear hO
                obtain ⟨kv3, d3, rfl, hex⟩ := h3d
                have HA := hid (aft_in h1d)
                have hjj := HX.out.2.1 _ _ _ HA.out
                have HZ6 := hid h4d
                have HG6 := hid hgd
                have hod : w5.grownBy w6 (some b) := gb_trans (below_gb HD5.out (some b)) hod
                have HXB6 : Hid (Xb w6 g9 e kv) := hid ((hod.block g9 (hp_lt HXB5.out) (by have := HLT.out; simp; omega)).trans HXB5.out)
                have HNB6 := hid ((hod.block B (hp_lt HNB5.out) (by have := HLT.out; simp; omega)).trans HNB5.out)
                have HES6 : Hid (ExS (fun g => B < g ∧ g ≠ g9) w6 d kv e.kids) := hid (HES5.out.keep (w := w5) (fun g hq hl => ⟨hod.block g hl (by have := HLT.out; simp; omega), hq⟩) hod.size)
                have hg9 : g9 < w5.heap.size := hp_lt HXB5.out
                have HES3 : Hid (ExS (fun g => B < g ∧ g ≠ g9) w6 d3 kv3 a3.kids) := hid (hex.keep (fun g hq _ => ⟨rfl, by have : w5.heap.size ≤ g := hq; omega, by have : w5.heap.size ≤ g := hq; omega⟩) (Nat.le_refl _))
                clear h1d h4d hgd hod hex
                go_wp2_with fail
                refine hK.out _ _ ?_
                clear hK K
                try simp only [Act.put, List.getElem_toArray, List.getElem_cons_zero, List.getElem_cons_succ, List.setIfInBounds_toArray, List.set_cons_succ, List.set_cons_zero]
                refine any_oneQ 2 (by kernel_rfl) ?_
                refine op_ld rfl rfl 49 (.tmp 9) rfl g9 0 rfl (exC e kv) _ HXB6.out.rng Tryd.underlying49 rfl Tryd.rowExpr ?_
                simp only [Act.put, List.getElem_toArray, List.getElem_cons_zero, List.getElem_cons_succ, List.setIfInBounds_toArray, List.set_cons_succ, List.set_cons_zero]
                refine any_tailQ 6 rfl (by kernel_rfl) ?_
                have hb7 := below_walk w6 (.cells ([(e, kv), (a3, kv3)].flatMap kE.cells).toArray 49)
                have HXB7 : Hid (Xb (w6.alloc (.cells ([(e, kv), (a3, kv3)].flatMap kE.cells).toArray 49)) g9 e kv) := hid ((hb7.block g9 (hp_lt HXB6.out)).trans HXB6.out)
                have HNB7 := hid ((hb7.block B (hp_lt HNB6.out)).trans HNB6.out)
                have HZ7 := hid (HZ6.out.below hb7)
                have HG7 := hid (gb_trans HG6.out (below_gb hb7 (some b)))
                have HES7 : Hid (ExS (fun g => B < g ∧ g ≠ g9) (w6.alloc (.cells ([(e, kv), (a3, kv3)].flatMap kE.cells).toArray 49)) (max d d3 + 1) (.slice (some ⟨w6.heap.size, 0, none⟩) 2 2) [e, a3]) := hid (exs_two w6 e a3 kv kv3 HES6.out HES3.out (by have := hp_lt HXB6.out; omega) (by have := hp_lt HXB6.out; omega))
                clear hb7
                simp only [List.drop]
                go_wp2_with (first
                  | (refine bs_two kE_ok rfl (.tmp 35) (.tmp 38) rfl (e, kv) (a3, kv3) rfl rfl ?_)
                  | (refine bd_row rfl 49 _ rfl [(0, .int .i64 5), (1, .int .i64 (u.2.1 : Int)), (5, .int .i64 (op : Int)), (6, .slice (some ⟨w6.heap.size, 0, none⟩) 2 2)] rfl (exC ⟨5, u.2.1, [], [], zVl, op, [e, a3]⟩ (.slice (some ⟨w6.heap.size, 0, none⟩) 2 2)).toArray (by kernel_rfl) ?_)
                  | (refine st_row rfl 49 (.tmp 9) (.tmp 40) rfl g9 (exC ⟨5, u.2.1, [], [], zVl, op, [e, a3]⟩ (.slice (some ⟨w6.heap.size, 0, none⟩) 2 2)) rfl rfl 49 _ HXB7.out Tryd.rowExpr rfl (exC_one _ _ rfl) ?_; intro w8 hs8; have HS8 := hid hs8; clear hs8))
                have HXB8 : Hid (Xb w8 g9 ⟨5, u.2.1, [], [], zVl, op, [e, a3]⟩ (.slice (some ⟨w6.heap.size, 0, none⟩) 2 2)) := hid HS8.out.blk
                have hBg : B < g9 := by omega
                have HNB8 := hid ((HS8.out.grown.block B (hp_lt HNB7.out) (by simp; omega)).trans HNB7.out)
                have HZ8 := hid (H0.out.new HZ7.out HS8.out.grown (by rw [HB.out]; omega))
                have HG8 := hid (gb_new HG7.out HS8.out.grown (by rw [HB.out]; omega))
                have HES8 : Hid (ExS (fun g => B < g ∧ g ≠ g9) w8 (max d d3 + 1) (.slice (some ⟨w6.heap.size, 0, none⟩) 2 2) [e, a3]) := hid (HES7.out.keep (fun g hq hl => ⟨HS8.out.grown.block g hl (by simp; exact hq.2), hq⟩) HS8.out.grown.size)
                exact ⟨⟨c + 1, m, j3, _, u3, _, _, by simp, by omega, by omega, HXB8, HES8, HZ8, HG8, HNB8, hid (by rw [HEQ1.out]; simp only [binL, srcP, HZ.out.lk, HM.out, if_true, HA.out, HOPN.out]; rfl)⟩, by simp [intOf]; omega⟩
        · rw [decide_eq_false hm] at HI
          have HM := hid hm
          clear hm
          go_upto_region 8 with (first
            | (go_at_call 25; refine HI.out.mono ?_; rintro e w' ⟨rfl, n1, rfl⟩))
          have HXW : Hid (Xb (wr.drewN n1) g9 e kv) := HXB
          have HNW : Hid ((wr.drewN n1).heap[B]? = some (.cells zX 49 (0, 0))) := HNB
          have HZW := hid (HZ.out.drewN n1)
          have HGW := hid (gbz_drewN HG.out n1)
          have HESW : Hid (ExS (fun g => B < g ∧ g ≠ g9) (wr.drewN n1) d kv e.kids) := hid (HES.out.keep (w := wr) (w' := wr.drewN n1) (fun g hq hl => ⟨rfl, hq⟩) (Nat.le_refl wr.heap.size))
          go_wp2_with (first
            | (refine ld_row rfl 49 (.tmp 9) rfl g9 rfl (exC e kv) 49 HXW.out _ Tryd.underlying49 rfl Tryd.rowExpr ?_)
            | (refine st_row rfl 49 (.tmp 8) (.tmp 41) rfl B (exC e kv) rfl rfl 49 _ HNW.out Tryd.rowExpr rfl (exC_one _ _ HES.out.cell) ?_; intro w9 hs9; have HS9 := hid hs9; clear hs9))
          refine ret_row 8 49 rfl B rfl _ 49 HS9.out.blk _ Tryd.underlying49 rfl Tryd.rowExpr rfl ?_
          exact out_row H0.out HGW.out HZW.out HS9.out (by rw [HB.out]; exact Nat.le_refl _) (by rw [HEQ1.out]; simp only [binL, srcP, HZ.out.lk, eq_false HM.out, if_false]) ⟨kv, d, rfl, HESW.out.keep (fun g hq hl => ⟨HS9.out.grown.block g hl (by simp; omega), by omega⟩) HS9.out.grown.size⟩
      · have q0 : ¬ (c : Int) < 65536 := by omega
        have HXW := HXB
        have HNW := HNB
        have HZW := HZ
        have HGW := HG
        have HESW := HES
        have HREQ : Hid (R = .ok (e, j)) := hid (by rw [HEQ.out]; cases m with | zero => exact absurd HEQ.out HOUT.out | succ m => (have hk0 : u.1 = 0 := by rcases Nat.eq_zero_or_pos u.1 with h | h; exact h; (have h1 := HZ.out.ok.tok (by omega); have h2 := (tok_from l j u (lk_ok HZ.out.lk).1); have h3 := HZ.out.ok.ml; omega)); (have hn : ¬ txA l u ∈ sgnL 0 := fun hmm => by (have h4 : txA l u = [] := by unfold txA ttP; rw [HZ.out.ok.fin hk0]; simp); rw [h4] at hmm; revert hmm; decide); simp only [binL, srcP, HZ.out.lk, eq_false hn, if_false])
        go_wp2_with (first
          | (refine ld_row rfl 49 (.tmp 9) rfl g9 rfl (exC e kv) 49 HXW.out _ Tryd.underlying49 rfl Tryd.rowExpr ?_)
          | (refine st_row rfl 49 (.tmp 8) (.tmp 41) rfl B (exC e kv) rfl rfl 49 _ HNW.out Tryd.rowExpr rfl (exC_one _ _ HES.out.cell) ?_; intro w9 hs9; have HS9 := hid hs9; clear hs9))
        refine ret_row 8 49 rfl B rfl _ 49 HS9.out.blk _ Tryd.underlying49 rfl Tryd.rowExpr rfl ?_
        exact out_row H0.out HGW.out HZW.out HS9.out (by rw [HB.out]; exact Nat.le_refl _) HREQ.out ⟨kv, d, rfl, HESW.out.keep (fun g hq hl => ⟨HS9.out.grown.block g hl (by simp; omega), by omega⟩) HS9.out.grown.size⟩

end

end Go.Proofs.YtjjajfipfeigiabDoor

/- Operands with operators between (written by zline.py). -/
namespace Go.Proofs.YtjjajfipfeigiabDoor
open Go.RowKit

section
variable {w w' : World} {b : Nat} {l : List UInt8} {fuel : Int} {i lv : Nat} {t : Tok}
set_option maxRecDepth 20000 in
set_option maxHeartbeats 2000000 in
theorem line1_any {n : Nat} {x : Nat → Except Ft (Ex × Nat)} (hx : Reads l fuel b lv 56 x) (v : Value) (w : World) (hv : ∀ W, w.grownBy W (some b) → Strs W v (sgnL 1)) (h : Sz w b l fuel i lv t) (hout : lineP (srcP l fuel) x 1 n i ≠ .error outF) :
    Calls Tryd.prog 37 #[.pointer (some ⟨b, 0, none⟩), .func (.func 56) #[] #[], .int .i64 65536, v] w (Out l fuel b lv (tE w.heap.size) w (aft l fuel (lineP (srcP l fuel) x 1 n i))) := by
  obtain ⟨R, HR⟩ : ∃ R, Hid (lineP (srcP l fuel) x 1 n i = R) := ⟨_, rfl⟩
  rw [HR.out] at hout ⊢
  obtain ⟨B, HB⟩ : ∃ B, Hid (w.heap.size = B) := ⟨_, rfl⟩
  rw [HB.out]
  have HOUT := hid hout
  have HLK := hid h.lk
  have H0 := hid h
  have HX := hid hx
  have HV := hid hv
  have hb1 := below_walk w (.cells zX 49)
  have HN1 := hid (hp_new w (.cells zX 49))
  have HZ1 := hid (h.below hb1)
  have HG1 := hid (below_gb hb1 (some b))
  have HLT := hid h.pz.lt
  have hz1 := hp_size w (.cells zX 49)
  rw [HB.out] at HLT HN1 hz1
  obtain ⟨av, cv, rfl⟩ := (hv w (gb_refl w _)).shape
  have hxo : x i ≠ .error outF := fun e => hout (by rw [← HR.out]; simp only [lineP, e])
  clear h hout hx hb1 hv
  go_enter Tryd.func37, Tryd.ntmps37
  go_upto_region 1 with (refine al_row rfl 49 rfl zX Tryd.zeroExpr ?_)
  rw [HB.out]
  generalize w.alloc (.cells zX 49) = w1 at *
  have HC := hid (HX.out.1 w1 i t HZ1.out hxo)
  clear hxo
  go_wp2_with fail
  refine HC.out.mono ?_
  intro e w3 hO
  obtain ⟨hg, ⟨f, h1, h2, rfl, h4⟩ | ⟨e0, j0, v0, u0, h1, rfl, h3, h4⟩⟩ := out_mono (lv' := lv) (T' := tE B) (r' := aft l fuel R) HG1.out hO (fun f hf => by rw [← HR.out]; exact Or.elim (aft_er hf) (fun q => by simp only [lineP, q, aft]) (fun ⟨a, j, q, ql⟩ => by have hm := HOUT.out; rw [← HR.out] at hm; simp only [lineP, q] at hm ⊢; exact bin_look ql hm))
  · have H4 := hid h4
    clear h1 h2 h4 hg hO
    go_wp2_with fail
    exact ⟨rfl, H4.out⟩
  · have ho := hO.1
    clear hO
    obtain ⟨kv0, d0, rfl, hex⟩ := h3
    have HA := hid (aft_in h1)
    have HZ3 := hid h4
    have HG3 := hid hg
    have HN3 := hid ((ho.block B (hp_lt HN1.out) (by have := HLT.out; simp; omega)).trans HN1.out)
    have hs3 := ho.size
    rw [hz1] at hs3
    have hb4 := below_walk w3 (.cells (exC e0 kv0).toArray 49)
    have HX4 : Hid (Xb (w3.alloc (.cells (exC e0 kv0).toArray 49)) w3.heap.size e0 kv0) := hid (hp_new _ _)
    have HE4 : Hid (ExS (fun g => B < g ∧ g ≠ w3.heap.size) (w3.alloc (.cells (exC e0 kv0).toArray 49)) d0 kv0 e0.kids) := hid (hex.keep (fun g hq hl => ⟨hb4.block g hl, by rw [hz1] at hq; omega, by omega⟩) hb4.size)
    have HZ4 := hid (HZ3.out.below hb4)
    have HG4 := hid (gb_trans HG3.out (below_gb hb4 (some b)))
    have HN4 := hid ((hb4.block B (hp_lt HN3.out)).trans HN3.out)
    have HC1 := hid (hex.cell)
    clear h1 h4 hg ho hex hb4 HC HN1 HZ1 HG1 HN3 HG3 hz1
    go_wp2_with (first
      | (refine al_row rfl 49 rfl zX Tryd.zeroExpr ?_; refine st_new rfl 49 (.tmp 9) (.tmp 15) rfl (exC e0 kv0) rfl rfl _ _ Tryd.rowExpr rfl (exC_one _ _ HC1.out) ?_))
    generalize w3.alloc (.cells (exC e0 kv0).toArray 49) = w4 at *
    obtain ⟨g9, HG9⟩ : ∃ g9, Hid (w3.heap.size = g9) := ⟨_, rfl⟩
    rw [HG9.out] at HX4 HE4 hs3 ⊢
    clear HC1
    go_loopw [10] (fun v10 wr => ∃ (c m j d : Nat) (u : Tok) (e : Ex) (kv : Value), v10 = .int .i64 c ∧ c ≤ 65536 ∧ c ≤ j ∧ Hid (Xb wr g9 e kv) ∧ Hid (ExS (fun g => B < g ∧ g ≠ g9) wr d kv e.kids) ∧ Hid (Sz wr b l fuel j lv u) ∧ Hid (w.grownBy wr (some b)) ∧ Hid (wr.heap[B]? = some (.cells zX 49 (0, 0))) ∧ Hid (R = binL (srcP l fuel) x 1 m e j)) (fun v10 _ => 65536 - (intOf v10).toNat)
    case atStart => exact ⟨0, n, j0, d0, u0, e0, kv0, rfl, by omega, by omega, HX4, HE4, HZ4, HG4, HN4, hid (by rw [← HR.out]; simp only [lineP, HA.out])⟩
    case round =>
      clear HX4 HE4 HZ4 HG4 HN4 HA
      obtain ⟨c, m, j, d, u, e, kv, rfl, hc, hcj, HXB, HES, HZ, HG, HNB, HEQ⟩ := hrel
      have hj6 := (lk_lt HZ.out.lk).1
      have hwr := HG.out.size
      rw [HB.out] at hwr
      by_cases hlt : c < 65536
      · have q0 : (c : Int) < 65536 := by omega
        have HEQ1 := HEQ
        clear HEQ
        obtain ⟨m, rfl⟩ : ∃ q, m = q + 1 := by
          cases m with
          | zero => exact absurd HEQ1.out HOUT.out
          | succ m => exact ⟨m, rfl⟩
        have HI := hid (is_any (sgnL 1) _ HZ.out.ok wr HZ.out.pz (HV.out wr HG.out) (by decide))
        change Hid (Calls Tryd.prog 25 _ _ fun r w' => r = .returned (.bool (decide (txA l u ∈ sgnL 1))) ∧ _) at HI
        by_cases hm : txA l u ∈ sgnL 1
        · rw [decide_eq_true hm] at HI
          have HM := hid hm
          have hsn : txA l u ≠ [] := fun e => by rw [e] at hm; revert hm; decide
          have HOP := hid (sgn_op 1 (by decide) hm)
          have HK := hid (fun W (hz : Sz W b l fuel j lv u) => take_any (txA l u) hsn W hz)
          clear hm hsn
          have HBO : Hid (∀ q, Calls Tryd.prog 55 #[.string (mk (ttP l u.2.1 u.2.2))] (wr.drewN q) fun e w' => e = .returned (.int .i64 (opN (txA l u) : Int)) ∧ w' = wr.drewN q) := hid (fun q => binop_any (txA l u) HOP.out _ (HZ.out.drewN q).pz.bin)
          have HTX : Hid (∀ q, Calls Tryd.prog 43 #[.pointer (some ⟨b, 0, none⟩)] (wr.drewN q) fun e w' => e = .returned (.string (mk (ttP l u.2.1 u.2.2))) ∧ ∃ p, w' = wr.drewN p) := hid (fun q => (ptext_any HZ.out.ok _ (HZ.out.drewN q).pz).mono (fun e w' hh => ⟨hh.1, by obtain ⟨p, hp⟩ := hh.2; exact ⟨q + p, by rw [hp]; exact drewN_add2 wr q p⟩⟩))
          obtain ⟨op, HOPN⟩ : ∃ op, Hid (opN (txA l u) = op) := ⟨_, rfl⟩
          rw [HOPN.out] at HBO
          go_wp2_with (first
            | (go_at_call 25; refine HI.out.mono ?_; rintro e w' ⟨rfl, n1, rfl⟩)
            | (go_at_call 43; refine (HTX.out _).mono ?_; rintro e w' ⟨rfl, n2, rfl⟩)
            | (go_at_call 55; refine (HBO.out _).mono ?_; rintro e w' ⟨rfl, rfl⟩))
          refine (HK.out _ (HZ.out.drewN _)).mono ?_
          intro e w5 hO
          obtain ⟨hgc, ⟨f, h1, h2, rfl, h4⟩ | ⟨ac, j5, vc, u5, h1c, rfl, h3c, h4c⟩⟩ := out_mono (lv' := lv) (T' := tE B) (r' := aft l fuel R) (gbz_drewN HG.out _) hO (fun f hf => by rw [HEQ1.out]; have hm := HOUT.out; rw [HEQ1.out] at hm; refine Or.elim (tak_er hf) (fun ⟨q1, q2⟩ => absurd rfl q1) (fun ⟨q1, q2⟩ => ?_); simp only [binL, srcP, HZ.out.lk, HM.out, if_true] at hm ⊢; rcases HX.out.2.2 _ _ q2 with q3 | q3; (simp only [q3, aft]); (simp only [q3] at hm; exact absurd rfl hm))
          · have H4 := hid h4
            clear h1 h2 h4 hgc hO
            go_wp2_with fail
            exact ⟨rfl, H4.out⟩
          · have hoc := hO.1
            clear hO
            subst h3c
            obtain ⟨_, rfl, rfl⟩ := tak_in h1c
            have HZ5 := hid h4c
            have HG5 := hid hgc
            have HNB5 := hid ((hoc.block B (hp_lt HNB.out) (by have := HLT.out; simp; omega)).trans HNB.out)
            have HXB5 : Hid (Xb w5 g9 e kv) := hid ((hoc.block g9 (hp_lt HXB.out) (by have := HLT.out; simp; omega)).trans HXB.out)
            have HES5 : Hid (ExS (fun g => B < g ∧ g ≠ g9) w5 d kv e.kids) := hid (HES.out.keep (w := wr) (fun g hq hl => ⟨show w5.heap[g]? = wr.heap[g]? from hoc.block g hl (by have := HLT.out; simp; omega), hq⟩) (show wr.heap.size ≤ w5.heap.size from hoc.size))
            have hw5 : wr.heap.size ≤ w5.heap.size := hoc.size
            clear h1c h4c hgc hoc HK HTX HBO HI HNB HXB HES
            have hxo : x (j + 1) ≠ .error outF := fun e => HOUT.out (by rw [HEQ1.out]; simp only [binL, srcP, HZ.out.lk, HM.out, if_true, e])
            have HC := hid (fun W hz => HX.out.1 W (j + 1) u5 hz hxo)
            clear hxo
            go_upto_region 7 with fail
            have HD5 := hid (show Below w5.heap.size w5 w5.drew from (Below.refl _ _).drew)
            refine wp_region_any (by kernel_rfl) ?_
            refine any_yieldQ 0 _ (.int .i64 (u.2.1 : Int)) rfl rfl (by kernel_rfl) (by kernel_rfl) (by kernel_rfl) (fun _ _ _ h => h) (fun W => by go_simp) ?_
            simp only [Act.put, List.getElem_toArray, List.getElem_cons_zero, List.setIfInBounds_toArray, List.set_cons_succ, List.set_cons_zero]
            refine any_yieldQ 1 _ (.int .i64 (op : Int)) rfl rfl (by kernel_rfl) (by kernel_rfl) (by kernel_rfl) (fun _ _ _ h => h) (fun W => by go_simp) ?_
            simp only [Act.put, List.getElem_toArray, List.getElem_cons_zero, List.getElem_cons_succ, List.setIfInBounds_toArray, List.set_cons_succ, List.set_cons_zero]
            refine any_yieldQ 3 _ (.func (.func 56) #[] #[]) rfl rfl (by kernel_rfl) (by kernel_rfl) (by kernel_rfl) (fun _ _ _ h => h) (fun W => by go_simp) ?_
            simp only [Act.put, List.getElem_toArray, List.getElem_cons_zero, List.getElem_cons_succ, List.setIfInBounds_toArray, List.set_cons_succ, List.set_cons_zero]
            refine any_yieldQ 4 _ (.pointer (some ⟨b, 0, none⟩)) rfl rfl (by kernel_rfl) (by kernel_rfl) (by kernel_rfl) (fun _ _ _ h => h) (fun W => by go_simp) ?_
            simp only [Act.put, List.getElem_toArray, List.getElem_cons_zero, List.getElem_cons_succ, List.setIfInBounds_toArray, List.set_cons_succ, List.set_cons_zero]
            refine any_two 2 5 (by kernel_rfl) ?ld ?cl
            case ld =>
              refine op_ld rfl rfl 49 (.tmp 9) rfl g9 0 rfl (exC e kv) _ (show Xb w5.drew g9 e kv from HXB5.out).rng Tryd.underlying49 rfl Tryd.rowExpr ?_
              simp only [Act.put, List.getElem_toArray, List.getElem_cons_zero, List.getElem_cons_succ, List.setIfInBounds_toArray, List.set_cons_succ, List.set_cons_zero]
              refine any_oneQ 5 (by kernel_rfl) ?_
              refine op_go rfl (fun K hK => ?_)
              go_simp
              refine (HC.out _ (HZ5.out.below HD5.out)).mono ?_
              intro e w6 hO
              obtain ⟨hgd, ⟨f, h1, h2, rfl, h4⟩ | ⟨a3, j3, v3, u3, h1d, rfl, h3d, h4d⟩⟩ := out_mono (lv' := lv) (T' := tE B) (r' := aft l fuel R) (gb_trans HG5.out (below_gb HD5.out (some b))) hO (fun f hf => by rw [HEQ1.out]; have hm := HOUT.out; rw [HEQ1.out] at hm; simp only [binL, srcP, HZ.out.lk, HM.out, if_true] at hm ⊢; rcases aft_er hf with q | ⟨aa, jj, q, ql⟩; (simp only [q, aft]); (simp only [q] at hm ⊢; exact bin_look ql hm))
              · have H4 := hid h4
                clear h1 h2 h4 hgd hO
                go_wp2_with fail
                exact ⟨rfl, H4.out⟩
              · have hod := hO.1
                clear hO
                obtain ⟨kv3, d3, rfl, hex⟩ := h3d
                have HA := hid (aft_in h1d)
                have hjj := HX.out.2.1 _ _ _ HA.out
                have HZ6 := hid h4d
                have HG6 := hid hgd
                have hod : w5.grownBy w6 (some b) := gb_trans (below_gb HD5.out (some b)) hod
                have HXB6 : Hid (Xb w6 g9 e kv) := hid ((hod.block g9 (hp_lt HXB5.out) (by have := HLT.out; simp; omega)).trans HXB5.out)
                have HNB6 := hid ((hod.block B (hp_lt HNB5.out) (by have := HLT.out; simp; omega)).trans HNB5.out)
                have HES6 : Hid (ExS (fun g => B < g ∧ g ≠ g9) w6 d kv e.kids) := hid (HES5.out.keep (w := w5) (fun g hq hl => ⟨hod.block g hl (by have := HLT.out; simp; omega), hq⟩) hod.size)
                have hg9 : g9 < w5.heap.size := hp_lt HXB5.out
                have HES3 : Hid (ExS (fun g => B < g ∧ g ≠ g9) w6 d3 kv3 a3.kids) := hid (hex.keep (fun g hq _ => ⟨rfl, by have : w5.heap.size ≤ g := hq; omega, by have : w5.heap.size ≤ g := hq; omega⟩) (Nat.le_refl _))
                clear h1d h4d hgd hod hex
                go_wp2_with fail
                refine hK.out _ _ ?_
                clear hK K
                try simp only [Act.put, List.getElem_toArray, List.getElem_cons_zero, List.getElem_cons_succ, List.setIfInBounds_toArray, List.set_cons_succ, List.set_cons_zero]
                refine any_tailQ 6 rfl (by kernel_rfl) ?_
                have hb7 := below_walk w6 (.cells ([(e, kv), (a3, kv3)].flatMap kE.cells).toArray 49)
                have HXB7 : Hid (Xb (w6.alloc (.cells ([(e, kv), (a3, kv3)].flatMap kE.cells).toArray 49)) g9 e kv) := hid ((hb7.block g9 (hp_lt HXB6.out)).trans HXB6.out)
                have HNB7 := hid ((hb7.block B (hp_lt HNB6.out)).trans HNB6.out)
                have HZ7 := hid (HZ6.out.below hb7)
                have HG7 := hid (gb_trans HG6.out (below_gb hb7 (some b)))
                have HES7 : Hid (ExS (fun g => B < g ∧ g ≠ g9) (w6.alloc (.cells ([(e, kv), (a3, kv3)].flatMap kE.cells).toArray 49)) (max d d3 + 1) (.slice (some ⟨w6.heap.size, 0, none⟩) 2 2) [e, a3]) := hid (exs_two w6 e a3 kv kv3 HES6.out HES3.out (by have := hp_lt HXB6.out; omega) (by have := hp_lt HXB6.out; omega))
                clear hb7
                simp only [List.drop]
                go_wp2_with (first
                  | (refine bs_two kE_ok rfl (.tmp 35) (.tmp 38) rfl (e, kv) (a3, kv3) rfl rfl ?_)
                  | (refine bd_row rfl 49 _ rfl [(0, .int .i64 5), (1, .int .i64 (u.2.1 : Int)), (5, .int .i64 (op : Int)), (6, .slice (some ⟨w6.heap.size, 0, none⟩) 2 2)] rfl (exC ⟨5, u.2.1, [], [], zVl, op, [e, a3]⟩ (.slice (some ⟨w6.heap.size, 0, none⟩) 2 2)).toArray (by kernel_rfl) ?_)
                  | (refine st_row rfl 49 (.tmp 9) (.tmp 40) rfl g9 (exC ⟨5, u.2.1, [], [], zVl, op, [e, a3]⟩ (.slice (some ⟨w6.heap.size, 0, none⟩) 2 2)) rfl rfl 49 _ HXB7.out Tryd.rowExpr rfl (exC_one _ _ rfl) ?_; intro w8 hs8; have HS8 := hid hs8; clear hs8))
                have HXB8 : Hid (Xb w8 g9 ⟨5, u.2.1, [], [], zVl, op, [e, a3]⟩ (.slice (some ⟨w6.heap.size, 0, none⟩) 2 2)) := hid HS8.out.blk
                have hBg : B < g9 := by omega
                have HNB8 := hid ((HS8.out.grown.block B (hp_lt HNB7.out) (by simp; omega)).trans HNB7.out)
                have HZ8 := hid (H0.out.new HZ7.out HS8.out.grown (by rw [HB.out]; omega))
                have HG8 := hid (gb_new HG7.out HS8.out.grown (by rw [HB.out]; omega))
                have HES8 : Hid (ExS (fun g => B < g ∧ g ≠ g9) w8 (max d d3 + 1) (.slice (some ⟨w6.heap.size, 0, none⟩) 2 2) [e, a3]) := hid (HES7.out.keep (fun g hq hl => ⟨HS8.out.grown.block g hl (by simp; exact hq.2), hq⟩) HS8.out.grown.size)
                exact ⟨⟨c + 1, m, j3, _, u3, _, _, by simp, by omega, by omega, HXB8, HES8, HZ8, HG8, HNB8, hid (by rw [HEQ1.out]; simp only [binL, srcP, HZ.out.lk, HM.out, if_true, HA.out, HOPN.out]; rfl)⟩, by simp [intOf]; omega⟩
            case cl =>
              refine op_go rfl (fun K hK => ?_)
              go_simp
              refine (HC.out _ (HZ5.out.below HD5.out)).mono ?_
              intro e w6 hO
              obtain ⟨hgd, ⟨f, h1, h2, rfl, h4⟩ | ⟨a3, j3, v3, u3, h1d, rfl, h3d, h4d⟩⟩ := out_mono (lv' := lv) (T' := tE B) (r' := aft l fuel R) (gb_trans HG5.out (below_gb HD5.out (some b))) hO (fun f hf => by rw [HEQ1.out]; have hm := HOUT.out; rw [HEQ1.out] at hm; simp only [binL, srcP, HZ.out.lk, HM.out, if_true] at hm ⊢; rcases aft_er hf with q | ⟨aa, jj, q, ql⟩; (simp only [q, aft]); (simp only [q] at hm ⊢; exact bin_look ql hm))
              · have H4 := hid h4
                clear h1 h2 h4 hgd hO
                go_wp2_with fail
                exact ⟨rfl, H4.out⟩
              · have hod := hO.1
                clear hO
                obtain ⟨kv3, d3, rfl, hex⟩ := h3d
                have HA := hid (aft_in h1d)
                have hjj := HX.out.2.1 _ _ _ HA.out
                have HZ6 := hid h4d
                have HG6 := hid hgd
                have hod : w5.grownBy w6 (some b) := gb_trans (below_gb HD5.out (some b)) hod
                have HXB6 : Hid (Xb w6 g9 e kv) := hid ((hod.block g9 (hp_lt HXB5.out) (by have := HLT.out; simp; omega)).trans HXB5.out)
                have HNB6 := hid ((hod.block B (hp_lt HNB5.out) (by have := HLT.out; simp; omega)).trans HNB5.out)
                have HES6 : Hid (ExS (fun g => B < g ∧ g ≠ g9) w6 d kv e.kids) := hid (HES5.out.keep (w := w5) (fun g hq hl => ⟨hod.block g hl (by have := HLT.out; simp; omega), hq⟩) hod.size)
                have hg9 : g9 < w5.heap.size := hp_lt HXB5.out
                have HES3 : Hid (ExS (fun g => B < g ∧ g ≠ g9) w6 d3 kv3 a3.kids) := hid (hex.keep (fun g hq _ => ⟨rfl, by have : w5.heap.size ≤ g := hq; omega, by have : w5.heap.size ≤ g := hq; omega⟩) (Nat.le_refl _))
                clear h1d h4d hgd hod hex
                go_wp2_with fail
                refine hK.out _ _ ?_
                clear hK K
                try simp only [Act.put, List.getElem_toArray, List.getElem_cons_zero, List.getElem_cons_succ, List.setIfInBounds_toArray, List.set_cons_succ, List.set_cons_zero]
                refine any_oneQ 2 (by kernel_rfl) ?_
                refine op_ld rfl rfl 49 (.tmp 9) rfl g9 0 rfl (exC e kv) _ HXB6.out.rng Tryd.underlying49 rfl Tryd.rowExpr ?_
                simp only [Act.put, List.getElem_toArray, List.getElem_cons_zero, List.getElem_cons_succ, List.setIfInBounds_toArray, List.set_cons_succ, List.set_cons_zero]
                refine any_tailQ 6 rfl (by kernel_rfl) ?_
                have hb7 := below_walk w6 (.cells ([(e, kv), (a3, kv3)].flatMap kE.cells).toArray 49)
                have HXB7 : Hid (Xb (w6.alloc (.cells ([(e, kv), (a3, kv3)].flatMap kE.cells).toArray 49)) g9 e kv) := hid ((hb7.block g9 (hp_lt HXB6.out)).trans HXB6.out)
                have HNB7 := hid ((hb7.block B (hp_lt HNB6.out)).trans HNB6.out)
                have HZ7 := hid (HZ6.out.below hb7)
                have HG7 := hid (gb_trans HG6.out (below_gb hb7 (some b)))
                have HES7 : Hid (ExS (fun g => B < g ∧ g ≠ g9) (w6.alloc (.cells ([(e, kv), (a3, kv3)].flatMap kE.cells).toArray 49)) (max d d3 + 1) (.slice (some ⟨w6.heap.size, 0, none⟩) 2 2) [e, a3]) := hid (exs_two w6 e a3 kv kv3 HES6.out HES3.out (by have := hp_lt HXB6.out; omega) (by have := hp_lt HXB6.out; omega))
                clear hb7
                simp only [List.drop]
                go_wp2_with (first
                  | (refine bs_two kE_ok rfl (.tmp 35) (.tmp 38) rfl (e, kv) (a3, kv3) rfl rfl ?_)
                  | (refine bd_row rfl 49 _ rfl [(0, .int .i64 5), (1, .int .i64 (u.2.1 : Int)), (5, .int .i64 (op : Int)), (6, .slice (some ⟨w6.heap.size, 0, none⟩) 2 2)] rfl (exC ⟨5, u.2.1, [], [], zVl, op, [e, a3]⟩ (.slice (some ⟨w6.heap.size, 0, none⟩) 2 2)).toArray (by kernel_rfl) ?_)
                  | (refine st_row rfl 49 (.tmp 9) (.tmp 40) rfl g9 (exC ⟨5, u.2.1, [], [], zVl, op, [e, a3]⟩ (.slice (some ⟨w6.heap.size, 0, none⟩) 2 2)) rfl rfl 49 _ HXB7.out Tryd.rowExpr rfl (exC_one _ _ rfl) ?_; intro w8 hs8; have HS8 := hid hs8; clear hs8))
                have HXB8 : Hid (Xb w8 g9 ⟨5, u.2.1, [], [], zVl, op, [e, a3]⟩ (.slice (some ⟨w6.heap.size, 0, none⟩) 2 2)) := hid HS8.out.blk
                have hBg : B < g9 := by omega
                have HNB8 := hid ((HS8.out.grown.block B (hp_lt HNB7.out) (by simp; omega)).trans HNB7.out)
                have HZ8 := hid (H0.out.new HZ7.out HS8.out.grown (by rw [HB.out]; omega))
                have HG8 := hid (gb_new HG7.out HS8.out.grown (by rw [HB.out]; omega))
                have HES8 : Hid (ExS (fun g => B < g ∧ g ≠ g9) w8 (max d d3 + 1) (.slice (some ⟨w6.heap.size, 0, none⟩) 2 2) [e, a3]) := hid (HES7.out.keep (fun g hq hl => ⟨HS8.out.grown.block g hl (by simp; exact hq.2), hq⟩) HS8.out.grown.size)
                exact ⟨⟨c + 1, m, j3, _, u3, _, _, by simp, by omega, by omega, HXB8, HES8, HZ8, HG8, HNB8, hid (by rw [HEQ1.out]; simp only [binL, srcP, HZ.out.lk, HM.out, if_true, HA.out, HOPN.out]; rfl)⟩, by simp [intOf]; omega⟩
        · rw [decide_eq_false hm] at HI
          have HM := hid hm
          clear hm
          go_upto_region 8 with (first
            | (go_at_call 25; refine HI.out.mono ?_; rintro e w' ⟨rfl, n1, rfl⟩))
          have HXW : Hid (Xb (wr.drewN n1) g9 e kv) := HXB
          have HNW : Hid ((wr.drewN n1).heap[B]? = some (.cells zX 49 (0, 0))) := HNB
          have HZW := hid (HZ.out.drewN n1)
          have HGW := hid (gbz_drewN HG.out n1)
          have HESW : Hid (ExS (fun g => B < g ∧ g ≠ g9) (wr.drewN n1) d kv e.kids) := hid (HES.out.keep (w := wr) (w' := wr.drewN n1) (fun g hq hl => ⟨rfl, hq⟩) (Nat.le_refl wr.heap.size))
          go_wp2_with (first
            | (refine ld_row rfl 49 (.tmp 9) rfl g9 rfl (exC e kv) 49 HXW.out _ Tryd.underlying49 rfl Tryd.rowExpr ?_)
            | (refine st_row rfl 49 (.tmp 8) (.tmp 41) rfl B (exC e kv) rfl rfl 49 _ HNW.out Tryd.rowExpr rfl (exC_one _ _ HES.out.cell) ?_; intro w9 hs9; have HS9 := hid hs9; clear hs9))
          refine ret_row 8 49 rfl B rfl _ 49 HS9.out.blk _ Tryd.underlying49 rfl Tryd.rowExpr rfl ?_
          exact out_row H0.out HGW.out HZW.out HS9.out (by rw [HB.out]; exact Nat.le_refl _) (by rw [HEQ1.out]; simp only [binL, srcP, HZ.out.lk, eq_false HM.out, if_false]) ⟨kv, d, rfl, HESW.out.keep (fun g hq hl => ⟨HS9.out.grown.block g hl (by simp; omega), by omega⟩) HS9.out.grown.size⟩
      · have q0 : ¬ (c : Int) < 65536 := by omega
        have HXW := HXB
        have HNW := HNB
        have HZW := HZ
        have HGW := HG
        have HESW := HES
        have HREQ : Hid (R = .ok (e, j)) := hid (by rw [HEQ.out]; cases m with | zero => exact absurd HEQ.out HOUT.out | succ m => (have hk0 : u.1 = 0 := by rcases Nat.eq_zero_or_pos u.1 with h | h; exact h; (have h1 := HZ.out.ok.tok (by omega); have h2 := (tok_from l j u (lk_ok HZ.out.lk).1); have h3 := HZ.out.ok.ml; omega)); (have hn : ¬ txA l u ∈ sgnL 1 := fun hmm => by (have h4 : txA l u = [] := by unfold txA ttP; rw [HZ.out.ok.fin hk0]; simp); rw [h4] at hmm; revert hmm; decide); simp only [binL, srcP, HZ.out.lk, eq_false hn, if_false])
        go_wp2_with (first
          | (refine ld_row rfl 49 (.tmp 9) rfl g9 rfl (exC e kv) 49 HXW.out _ Tryd.underlying49 rfl Tryd.rowExpr ?_)
          | (refine st_row rfl 49 (.tmp 8) (.tmp 41) rfl B (exC e kv) rfl rfl 49 _ HNW.out Tryd.rowExpr rfl (exC_one _ _ HES.out.cell) ?_; intro w9 hs9; have HS9 := hid hs9; clear hs9))
        refine ret_row 8 49 rfl B rfl _ 49 HS9.out.blk _ Tryd.underlying49 rfl Tryd.rowExpr rfl ?_
        exact out_row H0.out HGW.out HZW.out HS9.out (by rw [HB.out]; exact Nat.le_refl _) HREQ.out ⟨kv, d, rfl, HESW.out.keep (fun g hq hl => ⟨HS9.out.grown.block g hl (by simp; omega), by omega⟩) HS9.out.grown.size⟩

end

end Go.Proofs.YtjjajfipfeigiabDoor

/- Operands with operators between (written by zline.py). -/
namespace Go.Proofs.YtjjajfipfeigiabDoor
open Go.RowKit

section
variable {w w' : World} {b : Nat} {l : List UInt8} {fuel : Int} {i lv : Nat} {t : Tok}
set_option maxRecDepth 20000 in
set_option maxHeartbeats 2000000 in
theorem line2_any {n : Nat} {x : Nat → Except Ft (Ex × Nat)} (hx : Reads l fuel b lv 70 x) (v : Value) (w : World) (hv : ∀ W, w.grownBy W (some b) → Strs W v (sgnL 2)) (h : Sz w b l fuel i lv t) (hout : lineP (srcP l fuel) x 2 n i ≠ .error outF) :
    Calls Tryd.prog 37 #[.pointer (some ⟨b, 0, none⟩), .func (.func 70) #[] #[], .int .i64 1, v] w (Out l fuel b lv (tE w.heap.size) w (aft l fuel (lineP (srcP l fuel) x 2 n i))) := by
  obtain ⟨R, HR⟩ : ∃ R, Hid (lineP (srcP l fuel) x 2 n i = R) := ⟨_, rfl⟩
  rw [HR.out] at hout ⊢
  obtain ⟨B, HB⟩ : ∃ B, Hid (w.heap.size = B) := ⟨_, rfl⟩
  rw [HB.out]
  have HOUT := hid hout
  have HLK := hid h.lk
  have H0 := hid h
  have HX := hid hx
  have HV := hid hv
  have hb1 := below_walk w (.cells zX 49)
  have HN1 := hid (hp_new w (.cells zX 49))
  have HZ1 := hid (h.below hb1)
  have HG1 := hid (below_gb hb1 (some b))
  have HLT := hid h.pz.lt
  have hz1 := hp_size w (.cells zX 49)
  rw [HB.out] at HLT HN1 hz1
  obtain ⟨av, cv, rfl⟩ := (hv w (gb_refl w _)).shape
  have hxo : x i ≠ .error outF := fun e => hout (by rw [← HR.out]; simp only [lineP, e])
  clear h hout hx hb1 hv
  go_enter Tryd.func37, Tryd.ntmps37
  go_upto_region 1 with (refine al_row rfl 49 rfl zX Tryd.zeroExpr ?_)
  rw [HB.out]
  generalize w.alloc (.cells zX 49) = w1 at *
  have HC := hid (HX.out.1 w1 i t HZ1.out hxo)
  clear hxo
  go_wp2_with fail
  refine HC.out.mono ?_
  intro e w3 hO
  obtain ⟨hg, ⟨f, h1, h2, rfl, h4⟩ | ⟨e0, j0, v0, u0, h1, rfl, h3, h4⟩⟩ := out_mono (lv' := lv) (T' := tE B) (r' := aft l fuel R) HG1.out hO (fun f hf => by rw [← HR.out]; exact Or.elim (aft_er hf) (fun q => by simp only [lineP, q, aft]) (fun ⟨a, j, q, ql⟩ => by have hm := HOUT.out; rw [← HR.out] at hm; simp only [lineP, q] at hm ⊢; exact bin_look ql hm))
  · have H4 := hid h4
    clear h1 h2 h4 hg hO
    go_wp2_with fail
    exact ⟨rfl, H4.out⟩
  · have ho := hO.1
    clear hO
    obtain ⟨kv0, d0, rfl, hex⟩ := h3
    have HA := hid (aft_in h1)
    have HZ3 := hid h4
    have HG3 := hid hg
    have HN3 := hid ((ho.block B (hp_lt HN1.out) (by have := HLT.out; simp; omega)).trans HN1.out)
    have hs3 := ho.size
    rw [hz1] at hs3
    have hb4 := below_walk w3 (.cells (exC e0 kv0).toArray 49)
    have HX4 : Hid (Xb (w3.alloc (.cells (exC e0 kv0).toArray 49)) w3.heap.size e0 kv0) := hid (hp_new _ _)
    have HE4 : Hid (ExS (fun g => B < g ∧ g ≠ w3.heap.size) (w3.alloc (.cells (exC e0 kv0).toArray 49)) d0 kv0 e0.kids) := hid (hex.keep (fun g hq hl => ⟨hb4.block g hl, by rw [hz1] at hq; omega, by omega⟩) hb4.size)
    have HZ4 := hid (HZ3.out.below hb4)
    have HG4 := hid (gb_trans HG3.out (below_gb hb4 (some b)))
    have HN4 := hid ((hb4.block B (hp_lt HN3.out)).trans HN3.out)
    have HC1 := hid (hex.cell)
    clear h1 h4 hg ho hex hb4 HC HN1 HZ1 HG1 HN3 HG3 hz1
    go_wp2_with (first
      | (refine al_row rfl 49 rfl zX Tryd.zeroExpr ?_; refine st_new rfl 49 (.tmp 9) (.tmp 15) rfl (exC e0 kv0) rfl rfl _ _ Tryd.rowExpr rfl (exC_one _ _ HC1.out) ?_))
    generalize w3.alloc (.cells (exC e0 kv0).toArray 49) = w4 at *
    obtain ⟨g9, HG9⟩ : ∃ g9, Hid (w3.heap.size = g9) := ⟨_, rfl⟩
    rw [HG9.out] at HX4 HE4 hs3 ⊢
    clear HC1
    go_loopw [10] (fun v10 wr => ∃ (c m j d : Nat) (u : Tok) (e : Ex) (kv : Value), v10 = .int .i64 c ∧ c ≤ 1 ∧ c ≤ j ∧ Hid (Xb wr g9 e kv) ∧ Hid (ExS (fun g => B < g ∧ g ≠ g9) wr d kv e.kids) ∧ Hid (Sz wr b l fuel j lv u) ∧ Hid (w.grownBy wr (some b)) ∧ Hid (wr.heap[B]? = some (.cells zX 49 (0, 0))) ∧ Hid (R = (if c = 0 then binL (srcP l fuel) x 2 m e j else .ok (e, j)))) (fun v10 _ => 1 - (intOf v10).toNat)
    case atStart => exact ⟨0, n, j0, d0, u0, e0, kv0, rfl, by omega, by omega, HX4, HE4, HZ4, HG4, HN4, hid (by rw [← HR.out]; simp only [lineP, HA.out, if_true])⟩
    case round =>
      clear HX4 HE4 HZ4 HG4 HN4 HA
      obtain ⟨c, m, j, d, u, e, kv, rfl, hc, hcj, HXB, HES, HZ, HG, HNB, HEQ⟩ := hrel
      have hj6 := (lk_lt HZ.out.lk).1
      have hwr := HG.out.size
      rw [HB.out] at hwr
      by_cases hlt : c < 1
      · have q0 : (c : Int) < 1 := by omega
        obtain rfl : c = 0 := by omega
        have HEQ1 : Hid (R = binL (srcP l fuel) x 2 m e j) := hid (by have := HEQ.out; simpa using this)
        clear HEQ
        obtain ⟨m, rfl⟩ : ∃ q, m = q + 1 := by
          cases m with
          | zero => exact absurd HEQ1.out HOUT.out
          | succ m => exact ⟨m, rfl⟩
        have HI := hid (is_any (sgnL 2) _ HZ.out.ok wr HZ.out.pz (HV.out wr HG.out) (by decide))
        change Hid (Calls Tryd.prog 25 _ _ fun r w' => r = .returned (.bool (decide (txA l u ∈ sgnL 2))) ∧ _) at HI
        by_cases hm : txA l u ∈ sgnL 2
        · rw [decide_eq_true hm] at HI
          have HM := hid hm
          have hsn : txA l u ≠ [] := fun e => by rw [e] at hm; revert hm; decide
          have HOP := hid (sgn_op 2 (by decide) hm)
          have HK := hid (fun W (hz : Sz W b l fuel j lv u) => take_any (txA l u) hsn W hz)
          clear hm hsn
          have HBO : Hid (∀ q, Calls Tryd.prog 55 #[.string (mk (ttP l u.2.1 u.2.2))] (wr.drewN q) fun e w' => e = .returned (.int .i64 (opN (txA l u) : Int)) ∧ w' = wr.drewN q) := hid (fun q => binop_any (txA l u) HOP.out _ (HZ.out.drewN q).pz.bin)
          have HTX : Hid (∀ q, Calls Tryd.prog 43 #[.pointer (some ⟨b, 0, none⟩)] (wr.drewN q) fun e w' => e = .returned (.string (mk (ttP l u.2.1 u.2.2))) ∧ ∃ p, w' = wr.drewN p) := hid (fun q => (ptext_any HZ.out.ok _ (HZ.out.drewN q).pz).mono (fun e w' hh => ⟨hh.1, by obtain ⟨p, hp⟩ := hh.2; exact ⟨q + p, by rw [hp]; exact drewN_add2 wr q p⟩⟩))
          obtain ⟨op, HOPN⟩ : ∃ op, Hid (opN (txA l u) = op) := ⟨_, rfl⟩
          rw [HOPN.out] at HBO
          go_wp2_with (first
            | (go_at_call 25; refine HI.out.mono ?_; rintro e w' ⟨rfl, n1, rfl⟩)
            | (go_at_call 43; refine (HTX.out _).mono ?_; rintro e w' ⟨rfl, n2, rfl⟩)
            | (go_at_call 55; refine (HBO.out _).mono ?_; rintro e w' ⟨rfl, rfl⟩))
          refine (HK.out _ (HZ.out.drewN _)).mono ?_
          intro e w5 hO
          obtain ⟨hgc, ⟨f, h1, h2, rfl, h4⟩ | ⟨ac, j5, vc, u5, h1c, rfl, h3c, h4c⟩⟩ := out_mono (lv' := lv) (T' := tE B) (r' := aft l fuel R) (gbz_drewN HG.out _) hO (fun f hf => by rw [HEQ1.out]; have hm := HOUT.out; rw [HEQ1.out] at hm; refine Or.elim (tak_er hf) (fun ⟨q1, q2⟩ => absurd rfl q1) (fun ⟨q1, q2⟩ => ?_); simp only [binL, srcP, HZ.out.lk, HM.out, if_true] at hm ⊢; rcases HX.out.2.2 _ _ q2 with q3 | q3; (simp only [q3, aft]); (simp only [q3] at hm; exact absurd rfl hm))
          · have H4 := hid h4
            clear h1 h2 h4 hgc hO
            go_wp2_with fail
            exact ⟨rfl, H4.out⟩
          · have hoc := hO.1
            clear hO
            subst h3c
            obtain ⟨_, rfl, rfl⟩ := tak_in h1c
            have HZ5 := hid h4c
            have HG5 := hid hgc
            have HNB5 := hid ((hoc.block B (hp_lt HNB.out) (by have := HLT.out; simp; omega)).trans HNB.out)
            have HXB5 : Hid (Xb w5 g9 e kv) := hid ((hoc.block g9 (hp_lt HXB.out) (by have := HLT.out; simp; omega)).trans HXB.out)
            have HES5 : Hid (ExS (fun g => B < g ∧ g ≠ g9) w5 d kv e.kids) := hid (HES.out.keep (w := wr) (fun g hq hl => ⟨show w5.heap[g]? = wr.heap[g]? from hoc.block g hl (by have := HLT.out; simp; omega), hq⟩) (show wr.heap.size ≤ w5.heap.size from hoc.size))
            have hw5 : wr.heap.size ≤ w5.heap.size := hoc.size
            clear h1c h4c hgc hoc HK HTX HBO HI HNB HXB HES
            have hxo : x (j + 1) ≠ .error outF := fun e => HOUT.out (by rw [HEQ1.out]; simp only [binL, srcP, HZ.out.lk, HM.out, if_true, e])
            have HC := hid (fun W hz => HX.out.1 W (j + 1) u5 hz hxo)
            clear hxo
            go_upto_region 7 with fail
            have HD5 := hid (show Below w5.heap.size w5 w5.drew from (Below.refl _ _).drew)
            refine wp_region_any (by kernel_rfl) ?_
            refine any_yieldQ 0 _ (.int .i64 (u.2.1 : Int)) rfl rfl (by kernel_rfl) (by kernel_rfl) (by kernel_rfl) (fun _ _ _ h => h) (fun W => by go_simp) ?_
            simp only [Act.put, List.getElem_toArray, List.getElem_cons_zero, List.setIfInBounds_toArray, List.set_cons_succ, List.set_cons_zero]
            refine any_yieldQ 1 _ (.int .i64 (op : Int)) rfl rfl (by kernel_rfl) (by kernel_rfl) (by kernel_rfl) (fun _ _ _ h => h) (fun W => by go_simp) ?_
            simp only [Act.put, List.getElem_toArray, List.getElem_cons_zero, List.getElem_cons_succ, List.setIfInBounds_toArray, List.set_cons_succ, List.set_cons_zero]
            refine any_yieldQ 3 _ (.func (.func 70) #[] #[]) rfl rfl (by kernel_rfl) (by kernel_rfl) (by kernel_rfl) (fun _ _ _ h => h) (fun W => by go_simp) ?_
            simp only [Act.put, List.getElem_toArray, List.getElem_cons_zero, List.getElem_cons_succ, List.setIfInBounds_toArray, List.set_cons_succ, List.set_cons_zero]
            refine any_yieldQ 4 _ (.pointer (some ⟨b, 0, none⟩)) rfl rfl (by kernel_rfl) (by kernel_rfl) (by kernel_rfl) (fun _ _ _ h => h) (fun W => by go_simp) ?_
            simp only [Act.put, List.getElem_toArray, List.getElem_cons_zero, List.getElem_cons_succ, List.setIfInBounds_toArray, List.set_cons_succ, List.set_cons_zero]
            refine any_two 2 5 (by kernel_rfl) ?ld ?cl
            case ld =>
              refine op_ld rfl rfl 49 (.tmp 9) rfl g9 0 rfl (exC e kv) _ (show Xb w5.drew g9 e kv from HXB5.out).rng Tryd.underlying49 rfl Tryd.rowExpr ?_
              simp only [Act.put, List.getElem_toArray, List.getElem_cons_zero, List.getElem_cons_succ, List.setIfInBounds_toArray, List.set_cons_succ, List.set_cons_zero]
              refine any_oneQ 5 (by kernel_rfl) ?_
              refine op_go rfl (fun K hK => ?_)
              go_simp
              refine (HC.out _ (HZ5.out.below HD5.out)).mono ?_
              intro e w6 hO
              obtain ⟨hgd, ⟨f, h1, h2, rfl, h4⟩ | ⟨a3, j3, v3, u3, h1d, rfl, h3d, h4d⟩⟩ := out_mono (lv' := lv) (T' := tE B) (r' := aft l fuel R) (gb_trans HG5.out (below_gb HD5.out (some b))) hO (fun f hf => by rw [HEQ1.out]; have hm := HOUT.out; rw [HEQ1.out] at hm; simp only [binL, srcP, HZ.out.lk, HM.out, if_true] at hm ⊢; rcases aft_er hf with q | ⟨aa, jj, q, ql⟩; (simp only [q, aft]); (simp only [q] at hm ⊢; simp only [aft, ql]))
              · have H4 := hid h4
                clear h1 h2 h4 hgd hO
                go_wp2_with fail
                exact ⟨rfl, H4.out⟩
              · have hod := hO.1
                clear hO
                obtain ⟨kv3, d3, rfl, hex⟩ := h3d
                have HA := hid (aft_in h1d)
                have hjj := HX.out.2.1 _ _ _ HA.out
                have HZ6 := hid h4d
                have HG6 := hid hgd
                have hod : w5.grownBy w6 (some b) := gb_trans (below_gb HD5.out (some b)) hod
                have HXB6 : Hid (Xb w6 g9 e kv) := hid ((hod.block g9 (hp_lt HXB5.out) (by have := HLT.out; simp; omega)).trans HXB5.out)
                have HNB6 := hid ((hod.block B (hp_lt HNB5.out) (by have := HLT.out; simp; omega)).trans HNB5.out)
                have HES6 : Hid (ExS (fun g => B < g ∧ g ≠ g9) w6 d kv e.kids) := hid (HES5.out.keep (w := w5) (fun g hq hl => ⟨hod.block g hl (by have := HLT.out; simp; omega), hq⟩) hod.size)
                have hg9 : g9 < w5.heap.size := hp_lt HXB5.out
                have HES3 : Hid (ExS (fun g => B < g ∧ g ≠ g9) w6 d3 kv3 a3.kids) := hid (hex.keep (fun g hq _ => ⟨rfl, by have : w5.heap.size ≤ g := hq; omega, by have : w5.heap.size ≤ g := hq; omega⟩) (Nat.le_refl _))
                clear h1d h4d hgd hod hex
                go_wp2_with fail
                refine hK.out _ _ ?_
                clear hK K
                try simp only [Act.put, List.getElem_toArray, List.getElem_cons_zero, List.getElem_cons_succ, List.setIfInBounds_toArray, List.set_cons_succ, List.set_cons_zero]
                refine any_tailQ 6 rfl (by kernel_rfl) ?_
                have hb7 := below_walk w6 (.cells ([(e, kv), (a3, kv3)].flatMap kE.cells).toArray 49)
                have HXB7 : Hid (Xb (w6.alloc (.cells ([(e, kv), (a3, kv3)].flatMap kE.cells).toArray 49)) g9 e kv) := hid ((hb7.block g9 (hp_lt HXB6.out)).trans HXB6.out)
                have HNB7 := hid ((hb7.block B (hp_lt HNB6.out)).trans HNB6.out)
                have HZ7 := hid (HZ6.out.below hb7)
                have HG7 := hid (gb_trans HG6.out (below_gb hb7 (some b)))
                have HES7 : Hid (ExS (fun g => B < g ∧ g ≠ g9) (w6.alloc (.cells ([(e, kv), (a3, kv3)].flatMap kE.cells).toArray 49)) (max d d3 + 1) (.slice (some ⟨w6.heap.size, 0, none⟩) 2 2) [e, a3]) := hid (exs_two w6 e a3 kv kv3 HES6.out HES3.out (by have := hp_lt HXB6.out; omega) (by have := hp_lt HXB6.out; omega))
                clear hb7
                simp only [List.drop]
                go_wp2_with (first
                  | (refine bs_two kE_ok rfl (.tmp 35) (.tmp 38) rfl (e, kv) (a3, kv3) rfl rfl ?_)
                  | (refine bd_row rfl 49 _ rfl [(0, .int .i64 5), (1, .int .i64 (u.2.1 : Int)), (5, .int .i64 (op : Int)), (6, .slice (some ⟨w6.heap.size, 0, none⟩) 2 2)] rfl (exC ⟨5, u.2.1, [], [], zVl, op, [e, a3]⟩ (.slice (some ⟨w6.heap.size, 0, none⟩) 2 2)).toArray (by kernel_rfl) ?_)
                  | (refine st_row rfl 49 (.tmp 9) (.tmp 40) rfl g9 (exC ⟨5, u.2.1, [], [], zVl, op, [e, a3]⟩ (.slice (some ⟨w6.heap.size, 0, none⟩) 2 2)) rfl rfl 49 _ HXB7.out Tryd.rowExpr rfl (exC_one _ _ rfl) ?_; intro w8 hs8; have HS8 := hid hs8; clear hs8))
                have HXB8 : Hid (Xb w8 g9 ⟨5, u.2.1, [], [], zVl, op, [e, a3]⟩ (.slice (some ⟨w6.heap.size, 0, none⟩) 2 2)) := hid HS8.out.blk
                have hBg : B < g9 := by omega
                have HNB8 := hid ((HS8.out.grown.block B (hp_lt HNB7.out) (by simp; omega)).trans HNB7.out)
                have HZ8 := hid (H0.out.new HZ7.out HS8.out.grown (by rw [HB.out]; omega))
                have HG8 := hid (gb_new HG7.out HS8.out.grown (by rw [HB.out]; omega))
                have HES8 : Hid (ExS (fun g => B < g ∧ g ≠ g9) w8 (max d d3 + 1) (.slice (some ⟨w6.heap.size, 0, none⟩) 2 2) [e, a3]) := hid (HES7.out.keep (fun g hq hl => ⟨HS8.out.grown.block g hl (by simp; exact hq.2), hq⟩) HS8.out.grown.size)
                exact ⟨⟨1, m, j3, _, u3, _, _, rfl, by omega, by omega, HXB8, HES8, HZ8, HG8, HNB8, hid (by rw [HEQ1.out]; simp only [binL, srcP, HZ.out.lk, HM.out, if_true, HA.out, HOPN.out]; rfl)⟩, by simp [intOf]⟩
            case cl =>
              refine op_go rfl (fun K hK => ?_)
              go_simp
              refine (HC.out _ (HZ5.out.below HD5.out)).mono ?_
              intro e w6 hO
              obtain ⟨hgd, ⟨f, h1, h2, rfl, h4⟩ | ⟨a3, j3, v3, u3, h1d, rfl, h3d, h4d⟩⟩ := out_mono (lv' := lv) (T' := tE B) (r' := aft l fuel R) (gb_trans HG5.out (below_gb HD5.out (some b))) hO (fun f hf => by rw [HEQ1.out]; have hm := HOUT.out; rw [HEQ1.out] at hm; simp only [binL, srcP, HZ.out.lk, HM.out, if_true] at hm ⊢; rcases aft_er hf with q | ⟨aa, jj, q, ql⟩; (simp only [q, aft]); (simp only [q] at hm ⊢; simp only [aft, ql]))
              · have H4 := hid h4
                clear h1 h2 h4 hgd hO
                go_wp2_with fail
                exact ⟨rfl, H4.out⟩
              · have hod := hO.1
                clear hO
                obtain ⟨kv3, d3, rfl, hex⟩ := h3d
                have HA := hid (aft_in h1d)
                have hjj := HX.out.2.1 _ _ _ HA.out
                have HZ6 := hid h4d
                have HG6 := hid hgd
                have hod : w5.grownBy w6 (some b) := gb_trans (below_gb HD5.out (some b)) hod
                have HXB6 : Hid (Xb w6 g9 e kv) := hid ((hod.block g9 (hp_lt HXB5.out) (by have := HLT.out; simp; omega)).trans HXB5.out)
                have HNB6 := hid ((hod.block B (hp_lt HNB5.out) (by have := HLT.out; simp; omega)).trans HNB5.out)
                have HES6 : Hid (ExS (fun g => B < g ∧ g ≠ g9) w6 d kv e.kids) := hid (HES5.out.keep (w := w5) (fun g hq hl => ⟨hod.block g hl (by have := HLT.out; simp; omega), hq⟩) hod.size)
                have hg9 : g9 < w5.heap.size := hp_lt HXB5.out
                have HES3 : Hid (ExS (fun g => B < g ∧ g ≠ g9) w6 d3 kv3 a3.kids) := hid (hex.keep (fun g hq _ => ⟨rfl, by have : w5.heap.size ≤ g := hq; omega, by have : w5.heap.size ≤ g := hq; omega⟩) (Nat.le_refl _))
                clear h1d h4d hgd hod hex
                go_wp2_with fail
                refine hK.out _ _ ?_
                clear hK K
                try simp only [Act.put, List.getElem_toArray, List.getElem_cons_zero, List.getElem_cons_succ, List.setIfInBounds_toArray, List.set_cons_succ, List.set_cons_zero]
                refine any_oneQ 2 (by kernel_rfl) ?_
                refine op_ld rfl rfl 49 (.tmp 9) rfl g9 0 rfl (exC e kv) _ HXB6.out.rng Tryd.underlying49 rfl Tryd.rowExpr ?_
                simp only [Act.put, List.getElem_toArray, List.getElem_cons_zero, List.getElem_cons_succ, List.setIfInBounds_toArray, List.set_cons_succ, List.set_cons_zero]
                refine any_tailQ 6 rfl (by kernel_rfl) ?_
                have hb7 := below_walk w6 (.cells ([(e, kv), (a3, kv3)].flatMap kE.cells).toArray 49)
                have HXB7 : Hid (Xb (w6.alloc (.cells ([(e, kv), (a3, kv3)].flatMap kE.cells).toArray 49)) g9 e kv) := hid ((hb7.block g9 (hp_lt HXB6.out)).trans HXB6.out)
                have HNB7 := hid ((hb7.block B (hp_lt HNB6.out)).trans HNB6.out)
                have HZ7 := hid (HZ6.out.below hb7)
                have HG7 := hid (gb_trans HG6.out (below_gb hb7 (some b)))
                have HES7 : Hid (ExS (fun g => B < g ∧ g ≠ g9) (w6.alloc (.cells ([(e, kv), (a3, kv3)].flatMap kE.cells).toArray 49)) (max d d3 + 1) (.slice (some ⟨w6.heap.size, 0, none⟩) 2 2) [e, a3]) := hid (exs_two w6 e a3 kv kv3 HES6.out HES3.out (by have := hp_lt HXB6.out; omega) (by have := hp_lt HXB6.out; omega))
                clear hb7
                simp only [List.drop]
                go_wp2_with (first
                  | (refine bs_two kE_ok rfl (.tmp 35) (.tmp 38) rfl (e, kv) (a3, kv3) rfl rfl ?_)
                  | (refine bd_row rfl 49 _ rfl [(0, .int .i64 5), (1, .int .i64 (u.2.1 : Int)), (5, .int .i64 (op : Int)), (6, .slice (some ⟨w6.heap.size, 0, none⟩) 2 2)] rfl (exC ⟨5, u.2.1, [], [], zVl, op, [e, a3]⟩ (.slice (some ⟨w6.heap.size, 0, none⟩) 2 2)).toArray (by kernel_rfl) ?_)
                  | (refine st_row rfl 49 (.tmp 9) (.tmp 40) rfl g9 (exC ⟨5, u.2.1, [], [], zVl, op, [e, a3]⟩ (.slice (some ⟨w6.heap.size, 0, none⟩) 2 2)) rfl rfl 49 _ HXB7.out Tryd.rowExpr rfl (exC_one _ _ rfl) ?_; intro w8 hs8; have HS8 := hid hs8; clear hs8))
                have HXB8 : Hid (Xb w8 g9 ⟨5, u.2.1, [], [], zVl, op, [e, a3]⟩ (.slice (some ⟨w6.heap.size, 0, none⟩) 2 2)) := hid HS8.out.blk
                have hBg : B < g9 := by omega
                have HNB8 := hid ((HS8.out.grown.block B (hp_lt HNB7.out) (by simp; omega)).trans HNB7.out)
                have HZ8 := hid (H0.out.new HZ7.out HS8.out.grown (by rw [HB.out]; omega))
                have HG8 := hid (gb_new HG7.out HS8.out.grown (by rw [HB.out]; omega))
                have HES8 : Hid (ExS (fun g => B < g ∧ g ≠ g9) w8 (max d d3 + 1) (.slice (some ⟨w6.heap.size, 0, none⟩) 2 2) [e, a3]) := hid (HES7.out.keep (fun g hq hl => ⟨HS8.out.grown.block g hl (by simp; exact hq.2), hq⟩) HS8.out.grown.size)
                exact ⟨⟨1, m, j3, _, u3, _, _, rfl, by omega, by omega, HXB8, HES8, HZ8, HG8, HNB8, hid (by rw [HEQ1.out]; simp only [binL, srcP, HZ.out.lk, HM.out, if_true, HA.out, HOPN.out]; rfl)⟩, by simp [intOf]⟩
        · rw [decide_eq_false hm] at HI
          have HM := hid hm
          clear hm
          go_upto_region 8 with (first
            | (go_at_call 25; refine HI.out.mono ?_; rintro e w' ⟨rfl, n1, rfl⟩))
          have HXW : Hid (Xb (wr.drewN n1) g9 e kv) := HXB
          have HNW : Hid ((wr.drewN n1).heap[B]? = some (.cells zX 49 (0, 0))) := HNB
          have HZW := hid (HZ.out.drewN n1)
          have HGW := hid (gbz_drewN HG.out n1)
          have HESW : Hid (ExS (fun g => B < g ∧ g ≠ g9) (wr.drewN n1) d kv e.kids) := hid (HES.out.keep (w := wr) (w' := wr.drewN n1) (fun g hq hl => ⟨rfl, hq⟩) (Nat.le_refl wr.heap.size))
          go_wp2_with (first
            | (refine ld_row rfl 49 (.tmp 9) rfl g9 rfl (exC e kv) 49 HXW.out _ Tryd.underlying49 rfl Tryd.rowExpr ?_)
            | (refine st_row rfl 49 (.tmp 8) (.tmp 41) rfl B (exC e kv) rfl rfl 49 _ HNW.out Tryd.rowExpr rfl (exC_one _ _ HES.out.cell) ?_; intro w9 hs9; have HS9 := hid hs9; clear hs9))
          refine ret_row 8 49 rfl B rfl _ 49 HS9.out.blk _ Tryd.underlying49 rfl Tryd.rowExpr rfl ?_
          exact out_row H0.out HGW.out HZW.out HS9.out (by rw [HB.out]; exact Nat.le_refl _) (by rw [HEQ1.out]; simp only [binL, srcP, HZ.out.lk, eq_false HM.out, if_false]) ⟨kv, d, rfl, HESW.out.keep (fun g hq hl => ⟨HS9.out.grown.block g hl (by simp; omega), by omega⟩) HS9.out.grown.size⟩
      · have q0 : ¬ (c : Int) < 1 := by omega
        have HXW := HXB
        have HNW := HNB
        have HZW := HZ
        have HGW := HG
        have HESW := HES
        have HREQ : Hid (R = .ok (e, j)) := hid (by rw [HEQ.out, if_neg (by omega)])
        go_wp2_with (first
          | (refine ld_row rfl 49 (.tmp 9) rfl g9 rfl (exC e kv) 49 HXW.out _ Tryd.underlying49 rfl Tryd.rowExpr ?_)
          | (refine st_row rfl 49 (.tmp 8) (.tmp 41) rfl B (exC e kv) rfl rfl 49 _ HNW.out Tryd.rowExpr rfl (exC_one _ _ HES.out.cell) ?_; intro w9 hs9; have HS9 := hid hs9; clear hs9))
        refine ret_row 8 49 rfl B rfl _ 49 HS9.out.blk _ Tryd.underlying49 rfl Tryd.rowExpr rfl ?_
        exact out_row H0.out HGW.out HZW.out HS9.out (by rw [HB.out]; exact Nat.le_refl _) HREQ.out ⟨kv, d, rfl, HESW.out.keep (fun g hq hl => ⟨HS9.out.grown.block g hl (by simp; omega), by omega⟩) HS9.out.grown.size⟩

end

end Go.Proofs.YtjjajfipfeigiabDoor

/- Operands with operators between (written by zline.py). -/
namespace Go.Proofs.YtjjajfipfeigiabDoor
open Go.RowKit

section
variable {w w' : World} {b : Nat} {l : List UInt8} {fuel : Int} {i lv : Nat} {t : Tok}
set_option maxRecDepth 20000 in
set_option maxHeartbeats 2000000 in
theorem line3_any {n : Nat} {x : Nat → Except Ft (Ex × Nat)} (hx : Reads l fuel b lv 90 x) (v : Value) (w : World) (hv : ∀ W, w.grownBy W (some b) → Strs W v (sgnL 3)) (h : Sz w b l fuel i lv t) (hout : lineP (srcP l fuel) x 3 n i ≠ .error outF) :
    Calls Tryd.prog 37 #[.pointer (some ⟨b, 0, none⟩), .func (.func 90) #[] #[], .int .i64 65536, v] w (Out l fuel b lv (tE w.heap.size) w (aft l fuel (lineP (srcP l fuel) x 3 n i))) := by
  obtain ⟨R, HR⟩ : ∃ R, Hid (lineP (srcP l fuel) x 3 n i = R) := ⟨_, rfl⟩
  rw [HR.out] at hout ⊢
  obtain ⟨B, HB⟩ : ∃ B, Hid (w.heap.size = B) := ⟨_, rfl⟩
  rw [HB.out]
  have HOUT := hid hout
  have HLK := hid h.lk
  have H0 := hid h
  have HX := hid hx
  have HV := hid hv
  have hb1 := below_walk w (.cells zX 49)
  have HN1 := hid (hp_new w (.cells zX 49))
  have HZ1 := hid (h.below hb1)
  have HG1 := hid (below_gb hb1 (some b))
  have HLT := hid h.pz.lt
  have hz1 := hp_size w (.cells zX 49)
  rw [HB.out] at HLT HN1 hz1
  obtain ⟨av, cv, rfl⟩ := (hv w (gb_refl w _)).shape
  have hxo : x i ≠ .error outF := fun e => hout (by rw [← HR.out]; simp only [lineP, e])
  clear h hout hx hb1 hv
  go_enter Tryd.func37, Tryd.ntmps37
  go_upto_region 1 with (refine al_row rfl 49 rfl zX Tryd.zeroExpr ?_)
  rw [HB.out]
  generalize w.alloc (.cells zX 49) = w1 at *
  have HC := hid (HX.out.1 w1 i t HZ1.out hxo)
  clear hxo
  go_wp2_with fail
  refine HC.out.mono ?_
  intro e w3 hO
  obtain ⟨hg, ⟨f, h1, h2, rfl, h4⟩ | ⟨e0, j0, v0, u0, h1, rfl, h3, h4⟩⟩ := out_mono (lv' := lv) (T' := tE B) (r' := aft l fuel R) HG1.out hO (fun f hf => by rw [← HR.out]; exact Or.elim (aft_er hf) (fun q => by simp only [lineP, q, aft]) (fun ⟨a, j, q, ql⟩ => by have hm := HOUT.out; rw [← HR.out] at hm; simp only [lineP, q] at hm ⊢; exact bin_look ql hm))
  · have H4 := hid h4
    clear h1 h2 h4 hg hO
    go_wp2_with fail
    exact ⟨rfl, H4.out⟩
  · have ho := hO.1
    clear hO
    obtain ⟨kv0, d0, rfl, hex⟩ := h3
    have HA := hid (aft_in h1)
    have HZ3 := hid h4
    have HG3 := hid hg
    have HN3 := hid ((ho.block B (hp_lt HN1.out) (by have := HLT.out; simp; omega)).trans HN1.out)
    have hs3 := ho.size
    rw [hz1] at hs3
    have hb4 := below_walk w3 (.cells (exC e0 kv0).toArray 49)
    have HX4 : Hid (Xb (w3.alloc (.cells (exC e0 kv0).toArray 49)) w3.heap.size e0 kv0) := hid (hp_new _ _)
    have HE4 : Hid (ExS (fun g => B < g ∧ g ≠ w3.heap.size) (w3.alloc (.cells (exC e0 kv0).toArray 49)) d0 kv0 e0.kids) := hid (hex.keep (fun g hq hl => ⟨hb4.block g hl, by rw [hz1] at hq; omega, by omega⟩) hb4.size)
    have HZ4 := hid (HZ3.out.below hb4)
    have HG4 := hid (gb_trans HG3.out (below_gb hb4 (some b)))
    have HN4 := hid ((hb4.block B (hp_lt HN3.out)).trans HN3.out)
    have HC1 := hid (hex.cell)
    clear h1 h4 hg ho hex hb4 HC HN1 HZ1 HG1 HN3 HG3 hz1
    go_wp2_with (first
      | (refine al_row rfl 49 rfl zX Tryd.zeroExpr ?_; refine st_new rfl 49 (.tmp 9) (.tmp 15) rfl (exC e0 kv0) rfl rfl _ _ Tryd.rowExpr rfl (exC_one _ _ HC1.out) ?_))
    generalize w3.alloc (.cells (exC e0 kv0).toArray 49) = w4 at *
    obtain ⟨g9, HG9⟩ : ∃ g9, Hid (w3.heap.size = g9) := ⟨_, rfl⟩
    rw [HG9.out] at HX4 HE4 hs3 ⊢
    clear HC1
    go_loopw [10] (fun v10 wr => ∃ (c m j d : Nat) (u : Tok) (e : Ex) (kv : Value), v10 = .int .i64 c ∧ c ≤ 65536 ∧ c ≤ j ∧ Hid (Xb wr g9 e kv) ∧ Hid (ExS (fun g => B < g ∧ g ≠ g9) wr d kv e.kids) ∧ Hid (Sz wr b l fuel j lv u) ∧ Hid (w.grownBy wr (some b)) ∧ Hid (wr.heap[B]? = some (.cells zX 49 (0, 0))) ∧ Hid (R = binL (srcP l fuel) x 3 m e j)) (fun v10 _ => 65536 - (intOf v10).toNat)
    case atStart => exact ⟨0, n, j0, d0, u0, e0, kv0, rfl, by omega, by omega, HX4, HE4, HZ4, HG4, HN4, hid (by rw [← HR.out]; simp only [lineP, HA.out])⟩
    case round =>
      clear HX4 HE4 HZ4 HG4 HN4 HA
      obtain ⟨c, m, j, d, u, e, kv, rfl, hc, hcj, HXB, HES, HZ, HG, HNB, HEQ⟩ := hrel
      have hj6 := (lk_lt HZ.out.lk).1
      have hwr := HG.out.size
      rw [HB.out] at hwr
      by_cases hlt : c < 65536
      · have q0 : (c : Int) < 65536 := by omega
        have HEQ1 := HEQ
        clear HEQ
        obtain ⟨m, rfl⟩ : ∃ q, m = q + 1 := by
          cases m with
          | zero => exact absurd HEQ1.out HOUT.out
          | succ m => exact ⟨m, rfl⟩
        have HI := hid (is_any (sgnL 3) _ HZ.out.ok wr HZ.out.pz (HV.out wr HG.out) (by decide))
        change Hid (Calls Tryd.prog 25 _ _ fun r w' => r = .returned (.bool (decide (txA l u ∈ sgnL 3))) ∧ _) at HI
        by_cases hm : txA l u ∈ sgnL 3
        · rw [decide_eq_true hm] at HI
          have HM := hid hm
          have hsn : txA l u ≠ [] := fun e => by rw [e] at hm; revert hm; decide
          have HOP := hid (sgn_op 3 (by decide) hm)
          have HK := hid (fun W (hz : Sz W b l fuel j lv u) => take_any (txA l u) hsn W hz)
          clear hm hsn
          have HBO : Hid (∀ q, Calls Tryd.prog 55 #[.string (mk (ttP l u.2.1 u.2.2))] (wr.drewN q) fun e w' => e = .returned (.int .i64 (opN (txA l u) : Int)) ∧ w' = wr.drewN q) := hid (fun q => binop_any (txA l u) HOP.out _ (HZ.out.drewN q).pz.bin)
          have HTX : Hid (∀ q, Calls Tryd.prog 43 #[.pointer (some ⟨b, 0, none⟩)] (wr.drewN q) fun e w' => e = .returned (.string (mk (ttP l u.2.1 u.2.2))) ∧ ∃ p, w' = wr.drewN p) := hid (fun q => (ptext_any HZ.out.ok _ (HZ.out.drewN q).pz).mono (fun e w' hh => ⟨hh.1, by obtain ⟨p, hp⟩ := hh.2; exact ⟨q + p, by rw [hp]; exact drewN_add2 wr q p⟩⟩))
          obtain ⟨op, HOPN⟩ : ∃ op, Hid (opN (txA l u) = op) := ⟨_, rfl⟩
          rw [HOPN.out] at HBO
          go_wp2_with (first
            | (go_at_call 25; refine HI.out.mono ?_; rintro e w' ⟨rfl, n1, rfl⟩)
            | (go_at_call 43; refine (HTX.out _).mono ?_; rintro e w' ⟨rfl, n2, rfl⟩)
            | (go_at_call 55; refine (HBO.out _).mono ?_; rintro e w' ⟨rfl, rfl⟩))
          refine (HK.out _ (HZ.out.drewN _)).mono ?_
          intro e w5 hO
          obtain ⟨hgc, ⟨f, h1, h2, rfl, h4⟩ | ⟨ac, j5, vc, u5, h1c, rfl, h3c, h4c⟩⟩ := out_mono (lv' := lv) (T' := tE B) (r' := aft l fuel R) (gbz_drewN HG.out _) hO (fun f hf => by rw [HEQ1.out]; have hm := HOUT.out; rw [HEQ1.out] at hm; refine Or.elim (tak_er hf) (fun ⟨q1, q2⟩ => absurd rfl q1) (fun ⟨q1, q2⟩ => ?_); simp only [binL, srcP, HZ.out.lk, HM.out, if_true] at hm ⊢; rcases HX.out.2.2 _ _ q2 with q3 | q3; (simp only [q3, aft]); (simp only [q3] at hm; exact absurd rfl hm))
          · have H4 := hid h4
            clear h1 h2 h4 hgc hO
            go_wp2_with fail
            exact ⟨rfl, H4.out⟩
          · have hoc := hO.1
            clear hO
            subst h3c
            obtain ⟨_, rfl, rfl⟩ := tak_in h1c
            have HZ5 := hid h4c
            have HG5 := hid hgc
            have HNB5 := hid ((hoc.block B (hp_lt HNB.out) (by have := HLT.out; simp; omega)).trans HNB.out)
            have HXB5 : Hid (Xb w5 g9 e kv) := hid ((hoc.block g9 (hp_lt HXB.out) (by have := HLT.out; simp; omega)).trans HXB.out)
            have HES5 : Hid (ExS (fun g => B < g ∧ g ≠ g9) w5 d kv e.kids) := hid (HES.out.keep (w := wr) (fun g hq hl => ⟨show w5.heap[g]? = wr.heap[g]? from hoc.block g hl (by have := HLT.out; simp; omega), hq⟩) (show wr.heap.size ≤ w5.heap.size from hoc.size))
            have hw5 : wr.heap.size ≤ w5.heap.size := hoc.size
            clear h1c h4c hgc hoc HK HTX HBO HI HNB HXB HES
            have hxo : x (j + 1) ≠ .error outF := fun e => HOUT.out (by rw [HEQ1.out]; simp only [binL, srcP, HZ.out.lk, HM.out, if_true, e])
            have HC := hid (fun W hz => HX.out.1 W (j + 1) u5 hz hxo)
            clear hxo
            go_upto_region 7 with fail
            have HD5 := hid (show Below w5.heap.size w5 w5.drew from (Below.refl _ _).drew)
            refine wp_region_any (by kernel_rfl) ?_
            refine any_yieldQ 0 _ (.int .i64 (u.2.1 : Int)) rfl rfl (by kernel_rfl) (by kernel_rfl) (by kernel_rfl) (fun _ _ _ h => h) (fun W => by go_simp) ?_
            simp only [Act.put, List.getElem_toArray, List.getElem_cons_zero, List.setIfInBounds_toArray, List.set_cons_succ, List.set_cons_zero]
            refine any_yieldQ 1 _ (.int .i64 (op : Int)) rfl rfl (by kernel_rfl) (by kernel_rfl) (by kernel_rfl) (fun _ _ _ h => h) (fun W => by go_simp) ?_
            simp only [Act.put, List.getElem_toArray, List.getElem_cons_zero, List.getElem_cons_succ, List.setIfInBounds_toArray, List.set_cons_succ, List.set_cons_zero]
            refine any_yieldQ 3 _ (.func (.func 90) #[] #[]) rfl rfl (by kernel_rfl) (by kernel_rfl) (by kernel_rfl) (fun _ _ _ h => h) (fun W => by go_simp) ?_
            simp only [Act.put, List.getElem_toArray, List.getElem_cons_zero, List.getElem_cons_succ, List.setIfInBounds_toArray, List.set_cons_succ, List.set_cons_zero]
            refine any_yieldQ 4 _ (.pointer (some ⟨b, 0, none⟩)) rfl rfl (by kernel_rfl) (by kernel_rfl) (by kernel_rfl) (fun _ _ _ h => h) (fun W => by go_simp) ?_
            simp only [Act.put, List.getElem_toArray, List.getElem_cons_zero, List.getElem_cons_succ, List.setIfInBounds_toArray, List.set_cons_succ, List.set_cons_zero]
            refine any_two 2 5 (by kernel_rfl) ?ld ?cl
            case ld =>
              refine op_ld rfl rfl 49 (.tmp 9) rfl g9 0 rfl (exC e kv) _ (show Xb w5.drew g9 e kv from HXB5.out).rng Tryd.underlying49 rfl Tryd.rowExpr ?_
              simp only [Act.put, List.getElem_toArray, List.getElem_cons_zero, List.getElem_cons_succ, List.setIfInBounds_toArray, List.set_cons_succ, List.set_cons_zero]
              refine any_oneQ 5 (by kernel_rfl) ?_
              refine op_go rfl (fun K hK => ?_)
              go_simp
              refine (HC.out _ (HZ5.out.below HD5.out)).mono ?_
              intro e w6 hO
              obtain ⟨hgd, ⟨f, h1, h2, rfl, h4⟩ | ⟨a3, j3, v3, u3, h1d, rfl, h3d, h4d⟩⟩ := out_mono (lv' := lv) (T' := tE B) (r' := aft l fuel R) (gb_trans HG5.out (below_gb HD5.out (some b))) hO (fun f hf => by rw [HEQ1.out]; have hm := HOUT.out; rw [HEQ1.out] at hm; simp only [binL, srcP, HZ.out.lk, HM.out, if_true] at hm ⊢; rcases aft_er hf with q | ⟨aa, jj, q, ql⟩; (simp only [q, aft]); (simp only [q] at hm ⊢; exact bin_look ql hm))
              · have H4 := hid h4
                clear h1 h2 h4 hgd hO
                go_wp2_with fail
                exact ⟨rfl, H4.out⟩
              · have hod := hO.1
                clear hO
                obtain ⟨kv3, d3, rfl, hex⟩ := h3d
                have HA := hid (aft_in h1d)
                have hjj := HX.out.2.1 _ _ _ HA.out
                have HZ6 := hid h4d
                have HG6 := hid hgd
                have hod : w5.grownBy w6 (some b) := gb_trans (below_gb HD5.out (some b)) hod
                have HXB6 : Hid (Xb w6 g9 e kv) := hid ((hod.block g9 (hp_lt HXB5.out) (by have := HLT.out; simp; omega)).trans HXB5.out)
                have HNB6 := hid ((hod.block B (hp_lt HNB5.out) (by have := HLT.out; simp; omega)).trans HNB5.out)
                have HES6 : Hid (ExS (fun g => B < g ∧ g ≠ g9) w6 d kv e.kids) := hid (HES5.out.keep (w := w5) (fun g hq hl => ⟨hod.block g hl (by have := HLT.out; simp; omega), hq⟩) hod.size)
                have hg9 : g9 < w5.heap.size := hp_lt HXB5.out
                have HES3 : Hid (ExS (fun g => B < g ∧ g ≠ g9) w6 d3 kv3 a3.kids) := hid (hex.keep (fun g hq _ => ⟨rfl, by have : w5.heap.size ≤ g := hq; omega, by have : w5.heap.size ≤ g := hq; omega⟩) (Nat.le_refl _))
                clear h1d h4d hgd hod hex
                go_wp2_with fail
                refine hK.out _ _ ?_
                clear hK K
                try simp only [Act.put, List.getElem_toArray, List.getElem_cons_zero, List.getElem_cons_succ, List.setIfInBounds_toArray, List.set_cons_succ, List.set_cons_zero]
                refine any_tailQ 6 rfl (by kernel_rfl) ?_
                have hb7 := below_walk w6 (.cells ([(e, kv), (a3, kv3)].flatMap kE.cells).toArray 49)
                have HXB7 : Hid (Xb (w6.alloc (.cells ([(e, kv), (a3, kv3)].flatMap kE.cells).toArray 49)) g9 e kv) := hid ((hb7.block g9 (hp_lt HXB6.out)).trans HXB6.out)
                have HNB7 := hid ((hb7.block B (hp_lt HNB6.out)).trans HNB6.out)
                have HZ7 := hid (HZ6.out.below hb7)
                have HG7 := hid (gb_trans HG6.out (below_gb hb7 (some b)))
                have HES7 : Hid (ExS (fun g => B < g ∧ g ≠ g9) (w6.alloc (.cells ([(e, kv), (a3, kv3)].flatMap kE.cells).toArray 49)) (max d d3 + 1) (.slice (some ⟨w6.heap.size, 0, none⟩) 2 2) [e, a3]) := hid (exs_two w6 e a3 kv kv3 HES6.out HES3.out (by have := hp_lt HXB6.out; omega) (by have := hp_lt HXB6.out; omega))
                clear hb7
                simp only [List.drop]
                go_wp2_with (first
                  | (refine bs_two kE_ok rfl (.tmp 35) (.tmp 38) rfl (e, kv) (a3, kv3) rfl rfl ?_)
                  | (refine bd_row rfl 49 _ rfl [(0, .int .i64 5), (1, .int .i64 (u.2.1 : Int)), (5, .int .i64 (op : Int)), (6, .slice (some ⟨w6.heap.size, 0, none⟩) 2 2)] rfl (exC ⟨5, u.2.1, [], [], zVl, op, [e, a3]⟩ (.slice (some ⟨w6.heap.size, 0, none⟩) 2 2)).toArray (by kernel_rfl) ?_)
                  | (refine st_row rfl 49 (.tmp 9) (.tmp 40) rfl g9 (exC ⟨5, u.2.1, [], [], zVl, op, [e, a3]⟩ (.slice (some ⟨w6.heap.size, 0, none⟩) 2 2)) rfl rfl 49 _ HXB7.out Tryd.rowExpr rfl (exC_one _ _ rfl) ?_; intro w8 hs8; have HS8 := hid hs8; clear hs8))
                have HXB8 : Hid (Xb w8 g9 ⟨5, u.2.1, [], [], zVl, op, [e, a3]⟩ (.slice (some ⟨w6.heap.size, 0, none⟩) 2 2)) := hid HS8.out.blk
                have hBg : B < g9 := by omega
                have HNB8 := hid ((HS8.out.grown.block B (hp_lt HNB7.out) (by simp; omega)).trans HNB7.out)
                have HZ8 := hid (H0.out.new HZ7.out HS8.out.grown (by rw [HB.out]; omega))
                have HG8 := hid (gb_new HG7.out HS8.out.grown (by rw [HB.out]; omega))
                have HES8 : Hid (ExS (fun g => B < g ∧ g ≠ g9) w8 (max d d3 + 1) (.slice (some ⟨w6.heap.size, 0, none⟩) 2 2) [e, a3]) := hid (HES7.out.keep (fun g hq hl => ⟨HS8.out.grown.block g hl (by simp; exact hq.2), hq⟩) HS8.out.grown.size)
                exact ⟨⟨c + 1, m, j3, _, u3, _, _, by simp, by omega, by omega, HXB8, HES8, HZ8, HG8, HNB8, hid (by rw [HEQ1.out]; simp only [binL, srcP, HZ.out.lk, HM.out, if_true, HA.out, HOPN.out]; rfl)⟩, by simp [intOf]; omega⟩
            case cl =>
              refine op_go rfl (fun K hK => ?_)
              go_simp
              refine (HC.out _ (HZ5.out.below HD5.out)).mono ?_
              intro e w6 hO
              obtain ⟨hgd, ⟨f, h1, h2, rfl, h4⟩ | ⟨a3, j3, v3, u3, h1d, rfl, h3d, h4d⟩⟩ := out_mono (lv' := lv) (T' := tE B) (r' := aft l fuel R) (gb_trans HG5.out (below_gb HD5.out (some b))) hO (fun f hf => by rw [HEQ1.out]; have hm := HOUT.out; rw [HEQ1.out] at hm; simp only [binL, srcP, HZ.out.lk, HM.out, if_true] at hm ⊢; rcases aft_er hf with q | ⟨aa, jj, q, ql⟩; (simp only [q, aft]); (simp only [q] at hm ⊢; exact bin_look ql hm))
              · have H4 := hid h4
                clear h1 h2 h4 hgd hO
                go_wp2_with fail
                exact ⟨rfl, H4.out⟩
              · have hod := hO.1
                clear hO
                obtain ⟨kv3, d3, rfl, hex⟩ := h3d
                have HA := hid (aft_in h1d)
                have hjj := HX.out.2.1 _ _ _ HA.out
                have HZ6 := hid h4d
                have HG6 := hid hgd
                have hod : w5.grownBy w6 (some b) := gb_trans (below_gb HD5.out (some b)) hod
                have HXB6 : Hid (Xb w6 g9 e kv) := hid ((hod.block g9 (hp_lt HXB5.out) (by have := HLT.out; simp; omega)).trans HXB5.out)
                have HNB6 := hid ((hod.block B (hp_lt HNB5.out) (by have := HLT.out; simp; omega)).trans HNB5.out)
                have HES6 : Hid (ExS (fun g => B < g ∧ g ≠ g9) w6 d kv e.kids) := hid (HES5.out.keep (w := w5) (fun g hq hl => ⟨hod.block g hl (by have := HLT.out; simp; omega), hq⟩) hod.size)
                have hg9 : g9 < w5.heap.size := hp_lt HXB5.out
                have HES3 : Hid (ExS (fun g => B < g ∧ g ≠ g9) w6 d3 kv3 a3.kids) := hid (hex.keep (fun g hq _ => ⟨rfl, by have : w5.heap.size ≤ g := hq; omega, by have : w5.heap.size ≤ g := hq; omega⟩) (Nat.le_refl _))
                clear h1d h4d hgd hod hex
                go_wp2_with fail
                refine hK.out _ _ ?_
                clear hK K
                try simp only [Act.put, List.getElem_toArray, List.getElem_cons_zero, List.getElem_cons_succ, List.setIfInBounds_toArray, List.set_cons_succ, List.set_cons_zero]
                refine any_oneQ 2 (by kernel_rfl) ?_
                refine op_ld rfl rfl 49 (.tmp 9) rfl g9 0 rfl (exC e kv) _ HXB6.out.rng Tryd.underlying49 rfl Tryd.rowExpr ?_
                simp only [Act.put, List.getElem_toArray, List.getElem_cons_zero, List.getElem_cons_succ, List.setIfInBounds_toArray, List.set_cons_succ, List.set_cons_zero]
                refine any_tailQ 6 rfl (by kernel_rfl) ?_
                have hb7 := below_walk w6 (.cells ([(e, kv), (a3, kv3)].flatMap kE.cells).toArray 49)
                have HXB7 : Hid (Xb (w6.alloc (.cells ([(e, kv), (a3, kv3)].flatMap kE.cells).toArray 49)) g9 e kv) := hid ((hb7.block g9 (hp_lt HXB6.out)).trans HXB6.out)
                have HNB7 := hid ((hb7.block B (hp_lt HNB6.out)).trans HNB6.out)
                have HZ7 := hid (HZ6.out.below hb7)
                have HG7 := hid (gb_trans HG6.out (below_gb hb7 (some b)))
                have HES7 : Hid (ExS (fun g => B < g ∧ g ≠ g9) (w6.alloc (.cells ([(e, kv), (a3, kv3)].flatMap kE.cells).toArray 49)) (max d d3 + 1) (.slice (some ⟨w6.heap.size, 0, none⟩) 2 2) [e, a3]) := hid (exs_two w6 e a3 kv kv3 HES6.out HES3.out (by have := hp_lt HXB6.out; omega) (by have := hp_lt HXB6.out; omega))
                clear hb7
                simp only [List.drop]
                go_wp2_with (first
                  | (refine bs_two kE_ok rfl (.tmp 35) (.tmp 38) rfl (e, kv) (a3, kv3) rfl rfl ?_)
                  | (refine bd_row rfl 49 _ rfl [(0, .int .i64 5), (1, .int .i64 (u.2.1 : Int)), (5, .int .i64 (op : Int)), (6, .slice (some ⟨w6.heap.size, 0, none⟩) 2 2)] rfl (exC ⟨5, u.2.1, [], [], zVl, op, [e, a3]⟩ (.slice (some ⟨w6.heap.size, 0, none⟩) 2 2)).toArray (by kernel_rfl) ?_)
                  | (refine st_row rfl 49 (.tmp 9) (.tmp 40) rfl g9 (exC ⟨5, u.2.1, [], [], zVl, op, [e, a3]⟩ (.slice (some ⟨w6.heap.size, 0, none⟩) 2 2)) rfl rfl 49 _ HXB7.out Tryd.rowExpr rfl (exC_one _ _ rfl) ?_; intro w8 hs8; have HS8 := hid hs8; clear hs8))
                have HXB8 : Hid (Xb w8 g9 ⟨5, u.2.1, [], [], zVl, op, [e, a3]⟩ (.slice (some ⟨w6.heap.size, 0, none⟩) 2 2)) := hid HS8.out.blk
                have hBg : B < g9 := by omega
                have HNB8 := hid ((HS8.out.grown.block B (hp_lt HNB7.out) (by simp; omega)).trans HNB7.out)
                have HZ8 := hid (H0.out.new HZ7.out HS8.out.grown (by rw [HB.out]; omega))
                have HG8 := hid (gb_new HG7.out HS8.out.grown (by rw [HB.out]; omega))
                have HES8 : Hid (ExS (fun g => B < g ∧ g ≠ g9) w8 (max d d3 + 1) (.slice (some ⟨w6.heap.size, 0, none⟩) 2 2) [e, a3]) := hid (HES7.out.keep (fun g hq hl => ⟨HS8.out.grown.block g hl (by simp; exact hq.2), hq⟩) HS8.out.grown.size)
                exact ⟨⟨c + 1, m, j3, _, u3, _, _, by simp, by omega, by omega, HXB8, HES8, HZ8, HG8, HNB8, hid (by rw [HEQ1.out]; simp only [binL, srcP, HZ.out.lk, HM.out, if_true, HA.out, HOPN.out]; rfl)⟩, by simp [intOf]; omega⟩
        · rw [decide_eq_false hm] at HI
          have HM := hid hm
          clear hm
          go_upto_region 8 with (first
            | (go_at_call 25; refine HI.out.mono ?_; rintro e w' ⟨rfl, n1, rfl⟩))
          have HXW : Hid (Xb (wr.drewN n1) g9 e kv) := HXB
          have HNW : Hid ((wr.drewN n1).heap[B]? = some (.cells zX 49 (0, 0))) := HNB
          have HZW := hid (HZ.out.drewN n1)
          have HGW := hid (gbz_drewN HG.out n1)
          have HESW : Hid (ExS (fun g => B < g ∧ g ≠ g9) (wr.drewN n1) d kv e.kids) := hid (HES.out.keep (w := wr) (w' := wr.drewN n1) (fun g hq hl => ⟨rfl, hq⟩) (Nat.le_refl wr.heap.size))
          go_wp2_with (first
            | (refine ld_row rfl 49 (.tmp 9) rfl g9 rfl (exC e kv) 49 HXW.out _ Tryd.underlying49 rfl Tryd.rowExpr ?_)
            | (refine st_row rfl 49 (.tmp 8) (.tmp 41) rfl B (exC e kv) rfl rfl 49 _ HNW.out Tryd.rowExpr rfl (exC_one _ _ HES.out.cell) ?_; intro w9 hs9; have HS9 := hid hs9; clear hs9))
          refine ret_row 8 49 rfl B rfl _ 49 HS9.out.blk _ Tryd.underlying49 rfl Tryd.rowExpr rfl ?_
          exact out_row H0.out HGW.out HZW.out HS9.out (by rw [HB.out]; exact Nat.le_refl _) (by rw [HEQ1.out]; simp only [binL, srcP, HZ.out.lk, eq_false HM.out, if_false]) ⟨kv, d, rfl, HESW.out.keep (fun g hq hl => ⟨HS9.out.grown.block g hl (by simp; omega), by omega⟩) HS9.out.grown.size⟩
      · have q0 : ¬ (c : Int) < 65536 := by omega
        have HXW := HXB
        have HNW := HNB
        have HZW := HZ
        have HGW := HG
        have HESW := HES
        have HREQ : Hid (R = .ok (e, j)) := hid (by rw [HEQ.out]; cases m with | zero => exact absurd HEQ.out HOUT.out | succ m => (have hk0 : u.1 = 0 := by rcases Nat.eq_zero_or_pos u.1 with h | h; exact h; (have h1 := HZ.out.ok.tok (by omega); have h2 := (tok_from l j u (lk_ok HZ.out.lk).1); have h3 := HZ.out.ok.ml; omega)); (have hn : ¬ txA l u ∈ sgnL 3 := fun hmm => by (have h4 : txA l u = [] := by unfold txA ttP; rw [HZ.out.ok.fin hk0]; simp); rw [h4] at hmm; revert hmm; decide); simp only [binL, srcP, HZ.out.lk, eq_false hn, if_false])
        go_wp2_with (first
          | (refine ld_row rfl 49 (.tmp 9) rfl g9 rfl (exC e kv) 49 HXW.out _ Tryd.underlying49 rfl Tryd.rowExpr ?_)
          | (refine st_row rfl 49 (.tmp 8) (.tmp 41) rfl B (exC e kv) rfl rfl 49 _ HNW.out Tryd.rowExpr rfl (exC_one _ _ HES.out.cell) ?_; intro w9 hs9; have HS9 := hid hs9; clear hs9))
        refine ret_row 8 49 rfl B rfl _ 49 HS9.out.blk _ Tryd.underlying49 rfl Tryd.rowExpr rfl ?_
        exact out_row H0.out HGW.out HZW.out HS9.out (by rw [HB.out]; exact Nat.le_refl _) HREQ.out ⟨kv, d, rfl, HESW.out.keep (fun g hq hl => ⟨HS9.out.grown.block g hl (by simp; omega), by omega⟩) HS9.out.grown.size⟩

end

end Go.Proofs.YtjjajfipfeigiabDoor

/- Operands with operators between (written by zline.py). -/
namespace Go.Proofs.YtjjajfipfeigiabDoor
open Go.RowKit

section
variable {w w' : World} {b : Nat} {l : List UInt8} {fuel : Int} {i lv : Nat} {t : Tok}
set_option maxRecDepth 20000 in
set_option maxHeartbeats 2000000 in
theorem line4_any {n : Nat} {x : Nat → Except Ft (Ex × Nat)} (hx : Reads l fuel b lv 100 x) (v : Value) (w : World) (hv : ∀ W, w.grownBy W (some b) → Strs W v (sgnL 4)) (h : Sz w b l fuel i lv t) (hout : lineP (srcP l fuel) x 4 n i ≠ .error outF) :
    Calls Tryd.prog 37 #[.pointer (some ⟨b, 0, none⟩), .func (.func 100) #[] #[], .int .i64 65536, v] w (Out l fuel b lv (tE w.heap.size) w (aft l fuel (lineP (srcP l fuel) x 4 n i))) := by
  obtain ⟨R, HR⟩ : ∃ R, Hid (lineP (srcP l fuel) x 4 n i = R) := ⟨_, rfl⟩
  rw [HR.out] at hout ⊢
  obtain ⟨B, HB⟩ : ∃ B, Hid (w.heap.size = B) := ⟨_, rfl⟩
  rw [HB.out]
  have HOUT := hid hout
  have HLK := hid h.lk
  have H0 := hid h
  have HX := hid hx
  have HV := hid hv
  have hb1 := below_walk w (.cells zX 49)
  have HN1 := hid (hp_new w (.cells zX 49))
  have HZ1 := hid (h.below hb1)
  have HG1 := hid (below_gb hb1 (some b))
  have HLT := hid h.pz.lt
  have hz1 := hp_size w (.cells zX 49)
  rw [HB.out] at HLT HN1 hz1
  obtain ⟨av, cv, rfl⟩ := (hv w (gb_refl w _)).shape
  have hxo : x i ≠ .error outF := fun e => hout (by rw [← HR.out]; simp only [lineP, e])
  clear h hout hx hb1 hv
  go_enter Tryd.func37, Tryd.ntmps37
  go_upto_region 1 with (refine al_row rfl 49 rfl zX Tryd.zeroExpr ?_)
  rw [HB.out]
  generalize w.alloc (.cells zX 49) = w1 at *
  have HC := hid (HX.out.1 w1 i t HZ1.out hxo)
  clear hxo
  go_wp2_with fail
  refine HC.out.mono ?_
  intro e w3 hO
  obtain ⟨hg, ⟨f, h1, h2, rfl, h4⟩ | ⟨e0, j0, v0, u0, h1, rfl, h3, h4⟩⟩ := out_mono (lv' := lv) (T' := tE B) (r' := aft l fuel R) HG1.out hO (fun f hf => by rw [← HR.out]; exact Or.elim (aft_er hf) (fun q => by simp only [lineP, q, aft]) (fun ⟨a, j, q, ql⟩ => by have hm := HOUT.out; rw [← HR.out] at hm; simp only [lineP, q] at hm ⊢; exact bin_look ql hm))
  · have H4 := hid h4
    clear h1 h2 h4 hg hO
    go_wp2_with fail
    exact ⟨rfl, H4.out⟩
  · have ho := hO.1
    clear hO
    obtain ⟨kv0, d0, rfl, hex⟩ := h3
    have HA := hid (aft_in h1)
    have HZ3 := hid h4
    have HG3 := hid hg
    have HN3 := hid ((ho.block B (hp_lt HN1.out) (by have := HLT.out; simp; omega)).trans HN1.out)
    have hs3 := ho.size
    rw [hz1] at hs3
    have hb4 := below_walk w3 (.cells (exC e0 kv0).toArray 49)
    have HX4 : Hid (Xb (w3.alloc (.cells (exC e0 kv0).toArray 49)) w3.heap.size e0 kv0) := hid (hp_new _ _)
    have HE4 : Hid (ExS (fun g => B < g ∧ g ≠ w3.heap.size) (w3.alloc (.cells (exC e0 kv0).toArray 49)) d0 kv0 e0.kids) := hid (hex.keep (fun g hq hl => ⟨hb4.block g hl, by rw [hz1] at hq; omega, by omega⟩) hb4.size)
    have HZ4 := hid (HZ3.out.below hb4)
    have HG4 := hid (gb_trans HG3.out (below_gb hb4 (some b)))
    have HN4 := hid ((hb4.block B (hp_lt HN3.out)).trans HN3.out)
    have HC1 := hid (hex.cell)
    clear h1 h4 hg ho hex hb4 HC HN1 HZ1 HG1 HN3 HG3 hz1
    go_wp2_with (first
      | (refine al_row rfl 49 rfl zX Tryd.zeroExpr ?_; refine st_new rfl 49 (.tmp 9) (.tmp 15) rfl (exC e0 kv0) rfl rfl _ _ Tryd.rowExpr rfl (exC_one _ _ HC1.out) ?_))
    generalize w3.alloc (.cells (exC e0 kv0).toArray 49) = w4 at *
    obtain ⟨g9, HG9⟩ : ∃ g9, Hid (w3.heap.size = g9) := ⟨_, rfl⟩
    rw [HG9.out] at HX4 HE4 hs3 ⊢
    clear HC1
    go_loopw [10] (fun v10 wr => ∃ (c m j d : Nat) (u : Tok) (e : Ex) (kv : Value), v10 = .int .i64 c ∧ c ≤ 65536 ∧ c ≤ j ∧ Hid (Xb wr g9 e kv) ∧ Hid (ExS (fun g => B < g ∧ g ≠ g9) wr d kv e.kids) ∧ Hid (Sz wr b l fuel j lv u) ∧ Hid (w.grownBy wr (some b)) ∧ Hid (wr.heap[B]? = some (.cells zX 49 (0, 0))) ∧ Hid (R = binL (srcP l fuel) x 4 m e j)) (fun v10 _ => 65536 - (intOf v10).toNat)
    case atStart => exact ⟨0, n, j0, d0, u0, e0, kv0, rfl, by omega, by omega, HX4, HE4, HZ4, HG4, HN4, hid (by rw [← HR.out]; simp only [lineP, HA.out])⟩
    case round =>
      clear HX4 HE4 HZ4 HG4 HN4 HA
      obtain ⟨c, m, j, d, u, e, kv, rfl, hc, hcj, HXB, HES, HZ, HG, HNB, HEQ⟩ := hrel
      have hj6 := (lk_lt HZ.out.lk).1
      have hwr := HG.out.size
      rw [HB.out] at hwr
      by_cases hlt : c < 65536
      · have q0 : (c : Int) < 65536 := by omega
        have HEQ1 := HEQ
        clear HEQ
        obtain ⟨m, rfl⟩ : ∃ q, m = q + 1 := by
          cases m with
          | zero => exact absurd HEQ1.out HOUT.out
          | succ m => exact ⟨m, rfl⟩
        have HI := hid (is_any (sgnL 4) _ HZ.out.ok wr HZ.out.pz (HV.out wr HG.out) (by decide))
        change Hid (Calls Tryd.prog 25 _ _ fun r w' => r = .returned (.bool (decide (txA l u ∈ sgnL 4))) ∧ _) at HI
        by_cases hm : txA l u ∈ sgnL 4
        · rw [decide_eq_true hm] at HI
          have HM := hid hm
          have hsn : txA l u ≠ [] := fun e => by rw [e] at hm; revert hm; decide
          have HOP := hid (sgn_op 4 (by decide) hm)
          have HK := hid (fun W (hz : Sz W b l fuel j lv u) => take_any (txA l u) hsn W hz)
          clear hm hsn
          have HBO : Hid (∀ q, Calls Tryd.prog 55 #[.string (mk (ttP l u.2.1 u.2.2))] (wr.drewN q) fun e w' => e = .returned (.int .i64 (opN (txA l u) : Int)) ∧ w' = wr.drewN q) := hid (fun q => binop_any (txA l u) HOP.out _ (HZ.out.drewN q).pz.bin)
          have HTX : Hid (∀ q, Calls Tryd.prog 43 #[.pointer (some ⟨b, 0, none⟩)] (wr.drewN q) fun e w' => e = .returned (.string (mk (ttP l u.2.1 u.2.2))) ∧ ∃ p, w' = wr.drewN p) := hid (fun q => (ptext_any HZ.out.ok _ (HZ.out.drewN q).pz).mono (fun e w' hh => ⟨hh.1, by obtain ⟨p, hp⟩ := hh.2; exact ⟨q + p, by rw [hp]; exact drewN_add2 wr q p⟩⟩))
          obtain ⟨op, HOPN⟩ : ∃ op, Hid (opN (txA l u) = op) := ⟨_, rfl⟩
          rw [HOPN.out] at HBO
          go_wp2_with (first
            | (go_at_call 25; refine HI.out.mono ?_; rintro e w' ⟨rfl, n1, rfl⟩)
            | (go_at_call 43; refine (HTX.out _).mono ?_; rintro e w' ⟨rfl, n2, rfl⟩)
            | (go_at_call 55; refine (HBO.out _).mono ?_; rintro e w' ⟨rfl, rfl⟩))
          refine (HK.out _ (HZ.out.drewN _)).mono ?_
          intro e w5 hO
          obtain ⟨hgc, ⟨f, h1, h2, rfl, h4⟩ | ⟨ac, j5, vc, u5, h1c, rfl, h3c, h4c⟩⟩ := out_mono (lv' := lv) (T' := tE B) (r' := aft l fuel R) (gbz_drewN HG.out _) hO (fun f hf => by rw [HEQ1.out]; have hm := HOUT.out; rw [HEQ1.out] at hm; refine Or.elim (tak_er hf) (fun ⟨q1, q2⟩ => absurd rfl q1) (fun ⟨q1, q2⟩ => ?_); simp only [binL, srcP, HZ.out.lk, HM.out, if_true] at hm ⊢; rcases HX.out.2.2 _ _ q2 with q3 | q3; (simp only [q3, aft]); (simp only [q3] at hm; exact absurd rfl hm))
          · have H4 := hid h4
            clear h1 h2 h4 hgc hO
            go_wp2_with fail
            exact ⟨rfl, H4.out⟩
          · have hoc := hO.1
            clear hO
            subst h3c
            obtain ⟨_, rfl, rfl⟩ := tak_in h1c
            have HZ5 := hid h4c
            have HG5 := hid hgc
            have HNB5 := hid ((hoc.block B (hp_lt HNB.out) (by have := HLT.out; simp; omega)).trans HNB.out)
            have HXB5 : Hid (Xb w5 g9 e kv) := hid ((hoc.block g9 (hp_lt HXB.out) (by have := HLT.out; simp; omega)).trans HXB.out)
            have HES5 : Hid (ExS (fun g => B < g ∧ g ≠ g9) w5 d kv e.kids) := hid (HES.out.keep (w := wr) (fun g hq hl => ⟨show w5.heap[g]? = wr.heap[g]? from hoc.block g hl (by have := HLT.out; simp; omega), hq⟩) (show wr.heap.size ≤ w5.heap.size from hoc.size))
            have hw5 : wr.heap.size ≤ w5.heap.size := hoc.size
            clear h1c h4c hgc hoc HK HTX HBO HI HNB HXB HES
            have hxo : x (j + 1) ≠ .error outF := fun e => HOUT.out (by rw [HEQ1.out]; simp only [binL, srcP, HZ.out.lk, HM.out, if_true, e])
            have HC := hid (fun W hz => HX.out.1 W (j + 1) u5 hz hxo)
            clear hxo
            go_upto_region 7 with fail
            have HD5 := hid (show Below w5.heap.size w5 w5.drew from (Below.refl _ _).drew)
            refine wp_region_any (by kernel_rfl) ?_
            refine any_yieldQ 0 _ (.int .i64 (u.2.1 : Int)) rfl rfl (by kernel_rfl) (by kernel_rfl) (by kernel_rfl) (fun _ _ _ h => h) (fun W => by go_simp) ?_
            simp only [Act.put, List.getElem_toArray, List.getElem_cons_zero, List.setIfInBounds_toArray, List.set_cons_succ, List.set_cons_zero]
            refine any_yieldQ 1 _ (.int .i64 (op : Int)) rfl rfl (by kernel_rfl) (by kernel_rfl) (by kernel_rfl) (fun _ _ _ h => h) (fun W => by go_simp) ?_
            simp only [Act.put, List.getElem_toArray, List.getElem_cons_zero, List.getElem_cons_succ, List.setIfInBounds_toArray, List.set_cons_succ, List.set_cons_zero]
            refine any_yieldQ 3 _ (.func (.func 100) #[] #[]) rfl rfl (by kernel_rfl) (by kernel_rfl) (by kernel_rfl) (fun _ _ _ h => h) (fun W => by go_simp) ?_
            simp only [Act.put, List.getElem_toArray, List.getElem_cons_zero, List.getElem_cons_succ, List.setIfInBounds_toArray, List.set_cons_succ, List.set_cons_zero]
            refine any_yieldQ 4 _ (.pointer (some ⟨b, 0, none⟩)) rfl rfl (by kernel_rfl) (by kernel_rfl) (by kernel_rfl) (fun _ _ _ h => h) (fun W => by go_simp) ?_
            simp only [Act.put, List.getElem_toArray, List.getElem_cons_zero, List.getElem_cons_succ, List.setIfInBounds_toArray, List.set_cons_succ, List.set_cons_zero]
            refine any_two 2 5 (by kernel_rfl) ?ld ?cl
            case ld =>
              refine op_ld rfl rfl 49 (.tmp 9) rfl g9 0 rfl (exC e kv) _ (show Xb w5.drew g9 e kv from HXB5.out).rng Tryd.underlying49 rfl Tryd.rowExpr ?_
              simp only [Act.put, List.getElem_toArray, List.getElem_cons_zero, List.getElem_cons_succ, List.setIfInBounds_toArray, List.set_cons_succ, List.set_cons_zero]
              refine any_oneQ 5 (by kernel_rfl) ?_
              refine op_go rfl (fun K hK => ?_)
              go_simp
              refine (HC.out _ (HZ5.out.below HD5.out)).mono ?_
              intro e w6 hO
              obtain ⟨hgd, ⟨f, h1, h2, rfl, h4⟩ | ⟨a3, j3, v3, u3, h1d, rfl, h3d, h4d⟩⟩ := out_mono (lv' := lv) (T' := tE B) (r' := aft l fuel R) (gb_trans HG5.out (below_gb HD5.out (some b))) hO (fun f hf => by rw [HEQ1.out]; have hm := HOUT.out; rw [HEQ1.out] at hm; simp only [binL, srcP, HZ.out.lk, HM.out, if_true] at hm ⊢; rcases aft_er hf with q | ⟨aa, jj, q, ql⟩; (simp only [q, aft]); (simp only [q] at hm ⊢; exact bin_look ql hm))
              · have H4 := hid h4
                clear h1 h2 h4 hgd hO
                go_wp2_with fail
                exact ⟨rfl, H4.out⟩
              · have hod := hO.1
                clear hO
                obtain ⟨kv3, d3, rfl, hex⟩ := h3d
                have HA := hid (aft_in h1d)
                have hjj := HX.out.2.1 _ _ _ HA.out
                have HZ6 := hid h4d
                have HG6 := hid hgd
                have hod : w5.grownBy w6 (some b) := gb_trans (below_gb HD5.out (some b)) hod
                have HXB6 : Hid (Xb w6 g9 e kv) := hid ((hod.block g9 (hp_lt HXB5.out) (by have := HLT.out; simp; omega)).trans HXB5.out)
                have HNB6 := hid ((hod.block B (hp_lt HNB5.out) (by have := HLT.out; simp; omega)).trans HNB5.out)
                have HES6 : Hid (ExS (fun g => B < g ∧ g ≠ g9) w6 d kv e.kids) := hid (HES5.out.keep (w := w5) (fun g hq hl => ⟨hod.block g hl (by have := HLT.out; simp; omega), hq⟩) hod.size)
                have hg9 : g9 < w5.heap.size := hp_lt HXB5.out
                have HES3 : Hid (ExS (fun g => B < g ∧ g ≠ g9) w6 d3 kv3 a3.kids) := hid (hex.keep (fun g hq _ => ⟨rfl, by have : w5.heap.size ≤ g := hq; omega, by have : w5.heap.size ≤ g := hq; omega⟩) (Nat.le_refl _))
                clear h1d h4d hgd hod hex
                go_wp2_with fail
                refine hK.out _ _ ?_
                clear hK K
                try simp only [Act.put, List.getElem_toArray, List.getElem_cons_zero, List.getElem_cons_succ, List.setIfInBounds_toArray, List.set_cons_succ, List.set_cons_zero]
                refine any_tailQ 6 rfl (by kernel_rfl) ?_
                have hb7 := below_walk w6 (.cells ([(e, kv), (a3, kv3)].flatMap kE.cells).toArray 49)
                have HXB7 : Hid (Xb (w6.alloc (.cells ([(e, kv), (a3, kv3)].flatMap kE.cells).toArray 49)) g9 e kv) := hid ((hb7.block g9 (hp_lt HXB6.out)).trans HXB6.out)
                have HNB7 := hid ((hb7.block B (hp_lt HNB6.out)).trans HNB6.out)
                have HZ7 := hid (HZ6.out.below hb7)
                have HG7 := hid (gb_trans HG6.out (below_gb hb7 (some b)))
                have HES7 : Hid (ExS (fun g => B < g ∧ g ≠ g9) (w6.alloc (.cells ([(e, kv), (a3, kv3)].flatMap kE.cells).toArray 49)) (max d d3 + 1) (.slice (some ⟨w6.heap.size, 0, none⟩) 2 2) [e, a3]) := hid (exs_two w6 e a3 kv kv3 HES6.out HES3.out (by have := hp_lt HXB6.out; omega) (by have := hp_lt HXB6.out; omega))
                clear hb7
                simp only [List.drop]
                go_wp2_with (first
                  | (refine bs_two kE_ok rfl (.tmp 35) (.tmp 38) rfl (e, kv) (a3, kv3) rfl rfl ?_)
                  | (refine bd_row rfl 49 _ rfl [(0, .int .i64 5), (1, .int .i64 (u.2.1 : Int)), (5, .int .i64 (op : Int)), (6, .slice (some ⟨w6.heap.size, 0, none⟩) 2 2)] rfl (exC ⟨5, u.2.1, [], [], zVl, op, [e, a3]⟩ (.slice (some ⟨w6.heap.size, 0, none⟩) 2 2)).toArray (by kernel_rfl) ?_)
                  | (refine st_row rfl 49 (.tmp 9) (.tmp 40) rfl g9 (exC ⟨5, u.2.1, [], [], zVl, op, [e, a3]⟩ (.slice (some ⟨w6.heap.size, 0, none⟩) 2 2)) rfl rfl 49 _ HXB7.out Tryd.rowExpr rfl (exC_one _ _ rfl) ?_; intro w8 hs8; have HS8 := hid hs8; clear hs8))
                have HXB8 : Hid (Xb w8 g9 ⟨5, u.2.1, [], [], zVl, op, [e, a3]⟩ (.slice (some ⟨w6.heap.size, 0, none⟩) 2 2)) := hid HS8.out.blk
                have hBg : B < g9 := by omega
                have HNB8 := hid ((HS8.out.grown.block B (hp_lt HNB7.out) (by simp; omega)).trans HNB7.out)
                have HZ8 := hid (H0.out.new HZ7.out HS8.out.grown (by rw [HB.out]; omega))
                have HG8 := hid (gb_new HG7.out HS8.out.grown (by rw [HB.out]; omega))
                have HES8 : Hid (ExS (fun g => B < g ∧ g ≠ g9) w8 (max d d3 + 1) (.slice (some ⟨w6.heap.size, 0, none⟩) 2 2) [e, a3]) := hid (HES7.out.keep (fun g hq hl => ⟨HS8.out.grown.block g hl (by simp; exact hq.2), hq⟩) HS8.out.grown.size)
                exact ⟨⟨c + 1, m, j3, _, u3, _, _, by simp, by omega, by omega, HXB8, HES8, HZ8, HG8, HNB8, hid (by rw [HEQ1.out]; simp only [binL, srcP, HZ.out.lk, HM.out, if_true, HA.out, HOPN.out]; rfl)⟩, by simp [intOf]; omega⟩
            case cl =>
              refine op_go rfl (fun K hK => ?_)
              go_simp
              refine (HC.out _ (HZ5.out.below HD5.out)).mono ?_
              intro e w6 hO
              obtain ⟨hgd, ⟨f, h1, h2, rfl, h4⟩ | ⟨a3, j3, v3, u3, h1d, rfl, h3d, h4d⟩⟩ := out_mono (lv' := lv) (T' := tE B) (r' := aft l fuel R) (gb_trans HG5.out (below_gb HD5.out (some b))) hO (fun f hf => by rw [HEQ1.out]; have hm := HOUT.out; rw [HEQ1.out] at hm; simp only [binL, srcP, HZ.out.lk, HM.out, if_true] at hm ⊢; rcases aft_er hf with q | ⟨aa, jj, q, ql⟩; (simp only [q, aft]); (simp only [q] at hm ⊢; exact bin_look ql hm))
              · have H4 := hid h4
                clear h1 h2 h4 hgd hO
                go_wp2_with fail
                exact ⟨rfl, H4.out⟩
              · have hod := hO.1
                clear hO
                obtain ⟨kv3, d3, rfl, hex⟩ := h3d
                have HA := hid (aft_in h1d)
                have hjj := HX.out.2.1 _ _ _ HA.out
                have HZ6 := hid h4d
                have HG6 := hid hgd
                have hod : w5.grownBy w6 (some b) := gb_trans (below_gb HD5.out (some b)) hod
                have HXB6 : Hid (Xb w6 g9 e kv) := hid ((hod.block g9 (hp_lt HXB5.out) (by have := HLT.out; simp; omega)).trans HXB5.out)
                have HNB6 := hid ((hod.block B (hp_lt HNB5.out) (by have := HLT.out; simp; omega)).trans HNB5.out)
                have HES6 : Hid (ExS (fun g => B < g ∧ g ≠ g9) w6 d kv e.kids) := hid (HES5.out.keep (w := w5) (fun g hq hl => ⟨hod.block g hl (by have := HLT.out; simp; omega), hq⟩) hod.size)
                have hg9 : g9 < w5.heap.size := hp_lt HXB5.out
                have HES3 : Hid (ExS (fun g => B < g ∧ g ≠ g9) w6 d3 kv3 a3.kids) := hid (hex.keep (fun g hq _ => ⟨rfl, by have : w5.heap.size ≤ g := hq; omega, by have : w5.heap.size ≤ g := hq; omega⟩) (Nat.le_refl _))
                clear h1d h4d hgd hod hex
                go_wp2_with fail
                refine hK.out _ _ ?_
                clear hK K
                try simp only [Act.put, List.getElem_toArray, List.getElem_cons_zero, List.getElem_cons_succ, List.setIfInBounds_toArray, List.set_cons_succ, List.set_cons_zero]
                refine any_oneQ 2 (by kernel_rfl) ?_
                refine op_ld rfl rfl 49 (.tmp 9) rfl g9 0 rfl (exC e kv) _ HXB6.out.rng Tryd.underlying49 rfl Tryd.rowExpr ?_
                simp only [Act.put, List.getElem_toArray, List.getElem_cons_zero, List.getElem_cons_succ, List.setIfInBounds_toArray, List.set_cons_succ, List.set_cons_zero]
                refine any_tailQ 6 rfl (by kernel_rfl) ?_
                have hb7 := below_walk w6 (.cells ([(e, kv), (a3, kv3)].flatMap kE.cells).toArray 49)
                have HXB7 : Hid (Xb (w6.alloc (.cells ([(e, kv), (a3, kv3)].flatMap kE.cells).toArray 49)) g9 e kv) := hid ((hb7.block g9 (hp_lt HXB6.out)).trans HXB6.out)
                have HNB7 := hid ((hb7.block B (hp_lt HNB6.out)).trans HNB6.out)
                have HZ7 := hid (HZ6.out.below hb7)
                have HG7 := hid (gb_trans HG6.out (below_gb hb7 (some b)))
                have HES7 : Hid (ExS (fun g => B < g ∧ g ≠ g9) (w6.alloc (.cells ([(e, kv), (a3, kv3)].flatMap kE.cells).toArray 49)) (max d d3 + 1) (.slice (some ⟨w6.heap.size, 0, none⟩) 2 2) [e, a3]) := hid (exs_two w6 e a3 kv kv3 HES6.out HES3.out (by have := hp_lt HXB6.out; omega) (by have := hp_lt HXB6.out; omega))
                clear hb7
                simp only [List.drop]
                go_wp2_with (first
                  | (refine bs_two kE_ok rfl (.tmp 35) (.tmp 38) rfl (e, kv) (a3, kv3) rfl rfl ?_)
                  | (refine bd_row rfl 49 _ rfl [(0, .int .i64 5), (1, .int .i64 (u.2.1 : Int)), (5, .int .i64 (op : Int)), (6, .slice (some ⟨w6.heap.size, 0, none⟩) 2 2)] rfl (exC ⟨5, u.2.1, [], [], zVl, op, [e, a3]⟩ (.slice (some ⟨w6.heap.size, 0, none⟩) 2 2)).toArray (by kernel_rfl) ?_)
                  | (refine st_row rfl 49 (.tmp 9) (.tmp 40) rfl g9 (exC ⟨5, u.2.1, [], [], zVl, op, [e, a3]⟩ (.slice (some ⟨w6.heap.size, 0, none⟩) 2 2)) rfl rfl 49 _ HXB7.out Tryd.rowExpr rfl (exC_one _ _ rfl) ?_; intro w8 hs8; have HS8 := hid hs8; clear hs8))
                have HXB8 : Hid (Xb w8 g9 ⟨5, u.2.1, [], [], zVl, op, [e, a3]⟩ (.slice (some ⟨w6.heap.size, 0, none⟩) 2 2)) := hid HS8.out.blk
                have hBg : B < g9 := by omega
                have HNB8 := hid ((HS8.out.grown.block B (hp_lt HNB7.out) (by simp; omega)).trans HNB7.out)
                have HZ8 := hid (H0.out.new HZ7.out HS8.out.grown (by rw [HB.out]; omega))
                have HG8 := hid (gb_new HG7.out HS8.out.grown (by rw [HB.out]; omega))
                have HES8 : Hid (ExS (fun g => B < g ∧ g ≠ g9) w8 (max d d3 + 1) (.slice (some ⟨w6.heap.size, 0, none⟩) 2 2) [e, a3]) := hid (HES7.out.keep (fun g hq hl => ⟨HS8.out.grown.block g hl (by simp; exact hq.2), hq⟩) HS8.out.grown.size)
                exact ⟨⟨c + 1, m, j3, _, u3, _, _, by simp, by omega, by omega, HXB8, HES8, HZ8, HG8, HNB8, hid (by rw [HEQ1.out]; simp only [binL, srcP, HZ.out.lk, HM.out, if_true, HA.out, HOPN.out]; rfl)⟩, by simp [intOf]; omega⟩
        · rw [decide_eq_false hm] at HI
          have HM := hid hm
          clear hm
          go_upto_region 8 with (first
            | (go_at_call 25; refine HI.out.mono ?_; rintro e w' ⟨rfl, n1, rfl⟩))
          have HXW : Hid (Xb (wr.drewN n1) g9 e kv) := HXB
          have HNW : Hid ((wr.drewN n1).heap[B]? = some (.cells zX 49 (0, 0))) := HNB
          have HZW := hid (HZ.out.drewN n1)
          have HGW := hid (gbz_drewN HG.out n1)
          have HESW : Hid (ExS (fun g => B < g ∧ g ≠ g9) (wr.drewN n1) d kv e.kids) := hid (HES.out.keep (w := wr) (w' := wr.drewN n1) (fun g hq hl => ⟨rfl, hq⟩) (Nat.le_refl wr.heap.size))
          go_wp2_with (first
            | (refine ld_row rfl 49 (.tmp 9) rfl g9 rfl (exC e kv) 49 HXW.out _ Tryd.underlying49 rfl Tryd.rowExpr ?_)
            | (refine st_row rfl 49 (.tmp 8) (.tmp 41) rfl B (exC e kv) rfl rfl 49 _ HNW.out Tryd.rowExpr rfl (exC_one _ _ HES.out.cell) ?_; intro w9 hs9; have HS9 := hid hs9; clear hs9))
          refine ret_row 8 49 rfl B rfl _ 49 HS9.out.blk _ Tryd.underlying49 rfl Tryd.rowExpr rfl ?_
          exact out_row H0.out HGW.out HZW.out HS9.out (by rw [HB.out]; exact Nat.le_refl _) (by rw [HEQ1.out]; simp only [binL, srcP, HZ.out.lk, eq_false HM.out, if_false]) ⟨kv, d, rfl, HESW.out.keep (fun g hq hl => ⟨HS9.out.grown.block g hl (by simp; omega), by omega⟩) HS9.out.grown.size⟩
      · have q0 : ¬ (c : Int) < 65536 := by omega
        have HXW := HXB
        have HNW := HNB
        have HZW := HZ
        have HGW := HG
        have HESW := HES
        have HREQ : Hid (R = .ok (e, j)) := hid (by rw [HEQ.out]; cases m with | zero => exact absurd HEQ.out HOUT.out | succ m => (have hk0 : u.1 = 0 := by rcases Nat.eq_zero_or_pos u.1 with h | h; exact h; (have h1 := HZ.out.ok.tok (by omega); have h2 := (tok_from l j u (lk_ok HZ.out.lk).1); have h3 := HZ.out.ok.ml; omega)); (have hn : ¬ txA l u ∈ sgnL 4 := fun hmm => by (have h4 : txA l u = [] := by unfold txA ttP; rw [HZ.out.ok.fin hk0]; simp); rw [h4] at hmm; revert hmm; decide); simp only [binL, srcP, HZ.out.lk, eq_false hn, if_false])
        go_wp2_with (first
          | (refine ld_row rfl 49 (.tmp 9) rfl g9 rfl (exC e kv) 49 HXW.out _ Tryd.underlying49 rfl Tryd.rowExpr ?_)
          | (refine st_row rfl 49 (.tmp 8) (.tmp 41) rfl B (exC e kv) rfl rfl 49 _ HNW.out Tryd.rowExpr rfl (exC_one _ _ HES.out.cell) ?_; intro w9 hs9; have HS9 := hid hs9; clear hs9))
        refine ret_row 8 49 rfl B rfl _ 49 HS9.out.blk _ Tryd.underlying49 rfl Tryd.rowExpr rfl ?_
        exact out_row H0.out HGW.out HZW.out HS9.out (by rw [HB.out]; exact Nat.le_refl _) HREQ.out ⟨kv, d, rfl, HESW.out.keep (fun g hq hl => ⟨HS9.out.grown.block g hl (by simp; omega), by omega⟩) HS9.out.grown.size⟩

end

end Go.Proofs.YtjjajfipfeigiabDoor

/- LexReads: numbers, texts, words and keys are told apart rightly. -/
namespace Go.Proofs.YtjjajfipfeigiabDoor
open Go.RowKit

set_option maxHeartbeats 2000000 in
theorem number_is (l : List UInt8) (hl : l.length ≤ 140737488355328) (w : World) (hT : Tabs w) :
    Calls Tryd.prog 108 #[.string (mk l)] w fun e w' => e = .returned (rnV l) ∧ ∃ n, w' = w.drewN n := by
  have H1 := hid (just_any 2 l hl w hT)
  clear hT
  cases hj : jsP 2 l with
  | false =>
    rw [hj] at H1
    have HR := hid (rn_bad (l := l) (fun h => by rw [(js_num l).2 h] at hj; cases hj))
    clear hj
    go_enter Tryd.func108, Tryd.ntmps108
    go_wp2_with (go_at_call 57; refine H1.out.mono ?_; rintro e w' ⟨rfl, m, rfl⟩)
    go_ret2
    exact ⟨by rw [HR.out]; rfl, _, rfl⟩
  | true =>
    rw [hj] at H1
    have hn := (js_num l).1 hj
    have HR := hid (rn_ok hn)
    have H2 := amount_any l hl hn.2.2.1
    have e1 : amN l = valP l := by unfold amN; rw [if_pos hn.2.2.2]
    have e2 : amB l = true := decide_eq_true hn.2.2.2
    rw [e1, e2] at H2
    have H2 := hid H2
    obtain ⟨x, HX⟩ : ∃ x, Hid (valP l = x) := ⟨_, rfl⟩
    rw [HX.out] at H2 HR
    clear hj hn e1 e2
    go_enter Tryd.func108, Tryd.ntmps108
    go_wp2_with first
      | (go_at_call 57; refine H1.out.mono ?_; rintro e w' ⟨rfl, m, rfl⟩)
      | (go_at_call 95; refine (H2.out _).mono ?_; rintro e w' ⟨rfl, rfl⟩)
    go_ret2
    exact ⟨by rw [HR.out]; rfl, _, rfl⟩

theorem js_of_tx {l : List UInt8} {r : List UInt8 × Nat} (h0 : 0 < l.length) (h : l.getD 0 0 = 34) (ht : txP (l.drop 1) = some r) (h4 : r.1.length ≤ 4096) (hl : r.2 + 1 = l.length) : jsP 3 l = true := by
  unfold jsP
  rw [decide_eq_true_eq]
  unfold tokP
  rw [if_neg (by omega), h, if_neg (by decide), if_neg (by decide), if_pos rfl]
  unfold tqP
  rw [ht]
  simp only
  rw [if_pos h4, hl]

end Go.Proofs.YtjjajfipfeigiabDoor

/- What a literal stands for (written by zvalue.py). -/
namespace Go.Proofs.YtjjajfipfeigiabDoor
open Go.RowKit

/-- a value's cells -/
def vlC (v : Vl) : List Value := [.int .i64 (v.ty : Int), .int .i64 v.nu, .bool v.tr, .string (mk v.te)]
def tV : World → Value → Vl → Prop := fun _ v a => v = .agg (vlC a).toArray
theorem Tryd.zeroVal : ∀ w, (zeroValue 45).run Tryd.prog w = .ok (.agg (vlC zVl).toArray) w :=
  (Go.zero_of_info (P := Tryd.prog) (t := 45) (v := .agg (vlC zVl).toArray) (n := 4) (by kernel_rfl)).1
theorem Tryd.rowVal : (Tryd.prog.info? 45).map (·.size) = some 4 := by kernel_rfl
theorem vlC_one (v : Vl) : ∀ x ∈ vlC v, x.oneCell' = true := by
  intro x hx
  simp only [vlC, List.mem_cons, List.not_mem_nil, or_false] at hx
  rcases hx with rfl | rfl | rfl | rfl <;> rfl
/-- a value in a block of its own -/
def Vb (w : World) (g : Nat) (v : Vl) : Prop := w.heap[g]? = some (.cells (vlC v).toArray 45 (0, 0))
theorem Vb.c {w : World} {g : Nat} {v : Vl} (h : Vb w g v) (i : Nat) : w.cell? ⟨g, i, none⟩ = (vlC v)[i]? := by
  have h : w.heap[g]? = some (.cells (vlC v).toArray 45 (0, 0)) := h
  simp [World.cell?, h]
theorem Vb.z {w : World} {g : Nat} {v : Vl} (h : Vb w g v) (i : Nat) : w.frozen? ⟨g, i, none⟩ = false := by
  have h : w.heap[g]? = some (.cells (vlC v).toArray 45 (0, 0)) := h
  simp [World.frozen?, h]

section
variable {w w' : World} {b : Nat} {l : List UInt8} {fuel : Int} {i lv : Nat} {t : Tok}
theorem drewN_add (w : World) (n m : Nat) : (w.drewN n).drewN m = w.drewN (n + m) := by
  simp [World.drewN, Nat.add_assoc]
def valR (l : List UInt8) (fuel : Int) (i : Nat) (t : Tok) : Except Ft (Vl × Nat) := match valV (srcP l fuel) t with
  | some v => .ok (v, i)
  | none => .error (badF 140 i t)
theorem val_tf {l : List UInt8} {fuel : Int} {i : Nat} {t : Tok} {bo : Bool} (h2 : ¬ t.1 = 2) (h3 : ¬ t.1 = 3) (hm : txA l t ∈ [[116, 114, 117, 101], [102, 97, 108, 115, 101]]) (hb : decide (txA l t = [116, 114, 117, 101]) = bo) : valR l fuel i t = .ok (⟨2, 0, bo, []⟩, i) := by
  simp only [List.mem_cons, List.not_mem_nil, or_false] at hm
  subst hb
  rcases hm with hm | hm
  · simp only [valR, valV, srcP, eq_false h2, if_false, eq_false h3, hm, if_true]; rfl
  · simp only [valR, valV, srcP, eq_false h2, if_false, eq_false h3, hm, if_true]; rfl
theorem val_no {l : List UInt8} {fuel : Int} {i : Nat} {t : Tok} (h2 : ¬ t.1 = 2) (h3 : ¬ t.1 = 3) (hm : ¬ txA l t ∈ [[116, 114, 117, 101], [102, 97, 108, 115, 101]]) : valR l fuel i t = .error (badF 140 i t) := by
  simp only [List.mem_cons, List.not_mem_nil, or_false, not_or] at hm
  simp only [valR, valV, srcP, eq_false h2, if_false, eq_false h3, eq_false hm.1, eq_false hm.2]
theorem strs_2 (w : World) (s r : List UInt8) : Strs (w.alloc (.cells #[.string (mk s), .string (mk r)] 9)) (.slice (some ⟨w.heap.size, 0, none⟩) 2 2) [s, r] :=
  Or.inr ⟨w.heap.size, 0, 2, rfl, by rw [hp_size]; omega, by simp, fun j hj => by
    have hh := hp_new w (.cells #[.string (mk s), .string (mk r)] 9)
    have : j = 0 ∨ j = 1 := by simp at hj; omega
    rcases this with rfl | rfl
    · rw [cell_of_row _ _ _ _ _ _ hh]; rfl
    · rw [cell_of_row _ _ _ _ _ _ hh]; rfl⟩
set_option maxRecDepth 20000 in
set_option maxHeartbeats 2000000 in
theorem value_any (w : World) (h : Sz w b l fuel i lv t) :
    Calls Tryd.prog 107 #[.pointer (some ⟨b, 0, none⟩)] w (Out l fuel b lv tV w (aft l fuel (valR l fuel i t))) := by
  obtain ⟨R, HR⟩ : ∃ R, Hid (valR l fuel i t = R) := ⟨_, rfl⟩
  rw [HR.out]
  have H0 := hid h
  have c1 := h.pz.c1
  have hb1 := below_walk w (.cells (vlC zVl).toArray 45)
  have hb2 := hb1.trans ((below_walk (w.alloc (.cells (vlC zVl).toArray 45)) (.cells (vlC zVl).toArray 45)).mono hb1.size)
  have HN2 : Hid (((w.alloc (.cells (vlC zVl).toArray 45)).alloc (.cells (vlC zVl).toArray 45)).heap[w.heap.size]? = some (.cells (vlC zVl).toArray 45 (0, 0))) := hid ((hp_old _ _ _ (by rw [hp_size]; omega)).trans (hp_new _ _))
  have HV2 : Hid (Vb ((w.alloc (.cells (vlC zVl).toArray 45)).alloc (.cells (vlC zVl).toArray 45)) (w.heap.size + 1) zVl) := hid (by have := hp_new (w.alloc (.cells (vlC zVl).toArray 45)) (.cells (vlC zVl).toArray 45); rw [hp_size] at this; exact this)
  have HZ2 := hid (h.below hb2)
  have HG2 := hid (below_gb hb2 (some b))
  have HLT := hid h.pz.lt
  have hsz1 := hp_size w (.cells (vlC zVl).toArray 45)
  clear h hb1 hb2 c1
  go_enter Tryd.func107, Tryd.ntmps107
  go_upto_region 3 with (first
    | (refine al_row rfl 45 rfl _ Tryd.zeroVal ?_)
    | (refine bd_row rfl 45 _ rfl [] rfl (vlC zVl).toArray (by kernel_rfl) ?_)
    | (refine st_new rfl 45 (.tmp 3) (.tmp 4) rfl (vlC zVl) rfl rfl _ _ Tryd.rowVal rfl (vlC_one _) ?_))
  rw [hsz1]
  generalize (w.alloc (.cells (vlC zVl).toArray 45)).alloc (.cells (vlC zVl).toArray 45) = w2 at *
  obtain ⟨g, HG⟩ : ∃ g, Hid (w.heap.size = g) := ⟨_, rfl⟩
  rw [HG.out] at HN2 HV2 HLT ⊢
  clear hsz1
  simp only [Act.put, List.setIfInBounds_toArray, List.set_cons_succ, List.set_cons_zero]
  have HVw2 := HV2
  have HGw2 := HG2
  have HZw2 := HZ2
  have HNw2 := HN2
  clear HV2 HG2 HZ2 HN2
  have hl6 := (lk_lt H0.out.lk).2
  have c1 := HZw2.out.pz.c1
  have v0 := HVw2.out.c 0
  have z0 := HVw2.out.z 0
  simp only [vlC, List.getElem?_cons_zero] at v0
  by_cases hk2 : t.1 = 2
  · have q2 : (t.1 : Int) = 2 := by omega
    rw [q2] at c1
    go_upto_region 5 with fail
    have HVw3 : Hid (Vb (w2.setCell ⟨g + 1, 0, none⟩ (.int .i64 1)) (g + 1) ⟨1, 0, false, []⟩) := hid (hp_put HVw2.out _)
    have HGw3 := hid (gb_new HGw2.out (gb_setc w2 (g + 1) 0 (.int .i64 1)) (by have := HG.out; omega))
    have HZw3 := hid (H0.out.new HZw2.out (gb_setc w2 (g + 1) 0 (.int .i64 1)) (by have := HG.out; omega))
    have HNw3 := hid ((hp_set w2 g (g + 1) 0 (.int .i64 1) (by omega)).trans HNw2.out)
    generalize w2.setCell ⟨g + 1, 0, none⟩ (.int .i64 1) = w3 at *
    clear c1 v0 z0
    have HX := hid (ptext_any HZw3.out.ok w3 HZw3.out.pz)
    have hjs : jsP 2 (txA l t) = true := by have := js_own (HZw3.out.ok.tok (by omega)).1 (HZw3.out.ok.tok (by omega)).2 (by omega) 2; unfold txA; rw [this, hk2]; rfl
    have HNB : Hid (∀ n, Calls Tryd.prog 108 #[.string (mk (txA l t))] (w3.drewN n) fun e w' => e = .returned (.tuple #[.int .i64 (valP (txA l t) : Nat), .int .i64 0]) ∧ ∃ n, w' = w3.drewN n) := hid (fun n => (number_is (txA l t) (by unfold txA ttP; simp; omega) _ (HZw3.out.drewN n).pz.tab).mono (fun e w' hh => by
      obtain ⟨h1, m, h2⟩ := hh
      exact ⟨by rw [h1, rn_ok ((js_num _).1 hjs)], n + m, by rw [h2]; exact drewN_add w3 n m⟩))
    have HE : Hid (valR l fuel i t = .ok (⟨1, (valP (txA l t) : Int), false, []⟩, i)) := hid (by simp only [valR, valV, srcP, hk2, if_true])
    change Hid (Calls Tryd.prog 43 _ _ fun r w' => r = .returned (.string (mk (txA l t))) ∧ _) at HX
    obtain ⟨s, HS⟩ : ∃ s, Hid (txA l t = s) := ⟨_, rfl⟩
    rw [HS.out] at HX HNB HE
    obtain ⟨x, HXV⟩ : ∃ x, Hid (valP s = x) := ⟨_, rfl⟩
    rw [HXV.out] at HNB HE
    clear hjs
    go_upto_region 5 with fail
    have v1 : ∀ n, (w3.drewN n).cell? ⟨g + 1, 1, none⟩ = some (.int .i64 0) := fun n => HVw3.out.c 1
    have z1 : ∀ n, (w3.drewN n).frozen? ⟨g + 1, 1, none⟩ = false := fun n => HVw3.out.z 1
    go_upto_region 12 with (first
      | (go_at_call 43; refine HX.out.mono ?_; rintro e w' ⟨rfl, n, rfl⟩)
      | (go_at_call 108; refine (HNB.out n).mono ?_; rintro e w' ⟨rfl, m, rfl⟩))
    have HVw4 : Hid (Vb (w3.drewN m) (g + 1) ⟨1, 0, false, []⟩) := HVw3
    have HGw4 := hid (gbz_drewN HGw3.out m)
    have HZw4 := hid (HZw3.out.drewN m)
    have HNw4 : Hid ((w3.drewN m).heap[g]? = some (.cells (vlC zVl).toArray 45 (0, 0))) := HNw3
    clear v1 z1 HX HNB HVw3 HGw3 HZw3 HNw3
    generalize w3.drewN m = w4 at *
    have HVw5 : Hid (Vb (w4.setCell ⟨g + 1, 1, none⟩ (.int .i64 (x : Int))) (g + 1) ⟨1, (x : Int), false, []⟩) := hid (hp_put HVw4.out _)
    have HGw5 := hid (gb_new HGw4.out (gb_setc w4 (g + 1) 1 (.int .i64 (x : Int))) (by have := HG.out; omega))
    have HZw5 := hid (H0.out.new HZw4.out (gb_setc w4 (g + 1) 1 (.int .i64 (x : Int))) (by have := HG.out; omega))
    have HNw5 := hid ((hp_set w4 g (g + 1) 1 (.int .i64 (x : Int)) (by omega)).trans HNw4.out)
    generalize w4.setCell ⟨g + 1, 1, none⟩ (.int .i64 (x : Int)) = w5 at *
    go_wp2_with (first
      | (refine ld_row rfl 45 (.tmp 3) rfl (g + 1) rfl (vlC ⟨1, (x : Int), false, []⟩) 45 HVw5.out _ Tryd.underlying45 rfl Tryd.rowVal ?_)
      | (refine st_row rfl 45 (.tmp 2) (.tmp 46) rfl g (vlC ⟨1, (x : Int), false, []⟩) rfl rfl 45 _ HNw5.out Tryd.rowVal rfl (vlC_one _) ?_; intro w9 hs9; have HS9 := hid hs9; clear hs9))
    refine ret_row 2 45 rfl g rfl _ 45 HS9.out.blk _ Tryd.underlying45 rfl Tryd.rowVal rfl ?_
    exact out_row H0.out HGw5.out HZw5.out HS9.out (by rw [HG.out]; exact Nat.le_refl _) (by rw [← HR.out]; exact HE.out) rfl
  · have q2 : ¬ (t.1 : Int) = 2 := by omega
    by_cases hk3 : t.1 = 3
    · have q3 : (t.1 : Int) = 3 := by omega
      rw [q3] at c1
      clear q2
      go_upto_region 8 with fail
      have HVw3 : Hid (Vb (w2.setCell ⟨g + 1, 0, none⟩ (.int .i64 3)) (g + 1) ⟨3, 0, false, []⟩) := hid (hp_put HVw2.out _)
      have HGw3 := hid (gb_new HGw2.out (gb_setc w2 (g + 1) 0 (.int .i64 3)) (by have := HG.out; omega))
      have HZw3 := hid (H0.out.new HZw2.out (gb_setc w2 (g + 1) 0 (.int .i64 3)) (by have := HG.out; omega))
      have HNw3 := hid ((hp_set w2 g (g + 1) 0 (.int .i64 3) (by omega)).trans HNw2.out)
      generalize w2.setCell ⟨g + 1, 0, none⟩ (.int .i64 3) = w3 at *
      clear c1 v0 z0
      have HX := hid (ptext_any HZw3.out.ok w3 HZw3.out.pz)
      have hjs : jsP 3 (txA l t) = true := by have := js_own (HZw3.out.ok.tok (by omega)).1 (HZw3.out.ok.tok (by omega)).2 (by omega) 3; unfold txA; rw [this, hk3]; rfl
      have HNB : Hid (∀ n, Calls Tryd.prog 45 #[.string (mk (txA l t))] (w3.drewN n) fun e w' => e = .returned (.tuple #[.string (mk (vlP (txA l t))), .int .i64 0]) ∧ Below (w3.drewN n).heap.size (w3.drewN n) w') := hid (fun n => text_ok (txA l t) _ (by unfold txA ttP; simp; omega) hjs (vl_text hjs) _ (HZw3.out.drewN n).pz.tab)
      have HE : Hid (valR l fuel i t = .ok (⟨3, 0, false, vlP (txA l t)⟩, i)) := hid (by simp only [valR, valV, srcP, hk3]; rfl)
      change Hid (Calls Tryd.prog 43 _ _ fun r w' => r = .returned (.string (mk (txA l t))) ∧ _) at HX
      obtain ⟨s, HS⟩ : ∃ s, Hid (txA l t = s) := ⟨_, rfl⟩
      rw [HS.out] at HX HNB HE
      obtain ⟨x, HXV⟩ : ∃ x, Hid (vlP s = x) := ⟨_, rfl⟩
      rw [HXV.out] at HNB HE
      clear hjs
      go_wp2_with (first
        | (go_at_call 43; refine HX.out.mono ?_; rintro e w' ⟨rfl, n, rfl⟩))
      refine (HNB.out n).mono ?_
      rintro e w4 ⟨rfl, hb4⟩
      have hb4 : Below w3.heap.size w3 w4 := (show Below w3.heap.size w3 (w3.drewN n) from ⟨rfl, rfl, rfl, Nat.le_refl _, fun _ _ => rfl⟩).trans hb4
      have HVw4 : Hid (Vb w4 (g + 1) ⟨3, 0, false, []⟩) := hid ((hb4.block (g + 1) (hp_lt HVw3.out)).trans HVw3.out)
      have HGw4 := hid (gb_trans HGw3.out (below_gb hb4 (some b)))
      have HZw4 := hid (HZw3.out.below hb4)
      have HNw4 := hid ((hb4.block g (hp_lt HNw3.out)).trans HNw3.out)
      clear hb4 HX HNB HVw3 HGw3 HZw3 HNw3
      have v1 : w4.cell? ⟨g + 1, 3, none⟩ = some (.string (mk [])) := HVw4.out.c 3
      have z1 := HVw4.out.z 3
      go_upto_region 12 with fail
      have HVw5 : Hid (Vb (w4.setCell ⟨g + 1, 3, none⟩ (.string (mk x))) (g + 1) ⟨3, 0, false, x⟩) := hid (hp_put HVw4.out _)
      have HGw5 := hid (gb_new HGw4.out (gb_setc w4 (g + 1) 3 (.string (mk x))) (by have := HG.out; omega))
      have HZw5 := hid (H0.out.new HZw4.out (gb_setc w4 (g + 1) 3 (.string (mk x))) (by have := HG.out; omega))
      have HNw5 := hid ((hp_set w4 g (g + 1) 3 (.string (mk x)) (by omega)).trans HNw4.out)
      generalize w4.setCell ⟨g + 1, 3, none⟩ (.string (mk x)) = w5 at *
      clear v1 z1
      go_wp2_with (first
        | (refine ld_row rfl 45 (.tmp 3) rfl (g + 1) rfl (vlC ⟨3, 0, false, x⟩) 45 HVw5.out _ Tryd.underlying45 rfl Tryd.rowVal ?_)
        | (refine st_row rfl 45 (.tmp 2) (.tmp 46) rfl g (vlC ⟨3, 0, false, x⟩) rfl rfl 45 _ HNw5.out Tryd.rowVal rfl (vlC_one _) ?_; intro w9 hs9; have HS9 := hid hs9; clear hs9))
      refine ret_row 2 45 rfl g rfl _ 45 HS9.out.blk _ Tryd.underlying45 rfl Tryd.rowVal rfl ?_
      exact out_row H0.out HGw5.out HZw5.out HS9.out (by rw [HG.out]; exact Nat.le_refl _) (by rw [← HR.out]; exact HE.out) rfl
    · have q3 : ¬ (t.1 : Int) = 3 := by omega
      have hb3 := below_walk w2 (.cells #[.string (mk [116, 114, 117, 101]), .string (mk [102, 97, 108, 115, 101])] 9)
      have HI := hid (is_any [[116, 114, 117, 101], [102, 97, 108, 115, 101]] _ HZw2.out.ok _ (HZw2.out.below hb3).pz (strs_2 w2 [116, 114, 117, 101] [102, 97, 108, 115, 101]) (by simp))
      change Hid (Calls Tryd.prog 25 _ _ fun r w' => r = .returned (.bool (decide (txA l t ∈ [[116, 114, 117, 101], [102, 97, 108, 115, 101]]))) ∧ _) at HI
      have HVw3 : Hid (Vb (w2.alloc (.cells #[.string (mk [116, 114, 117, 101]), .string (mk [102, 97, 108, 115, 101])] 9)) (g + 1) zVl) := hid ((hb3.block (g + 1) (hp_lt HVw2.out)).trans HVw2.out)
      have HGw3 := hid (gb_trans HGw2.out (below_gb hb3 (some b)))
      have HZw3 := hid (HZw2.out.below hb3)
      have HNw3 := hid ((hb3.block g (hp_lt HNw2.out)).trans HNw2.out)
      clear hb3 v0 z0
      by_cases hm : txA l t ∈ [[116, 114, 117, 101], [102, 97, 108, 115, 101]]
      · rw [decide_eq_true hm] at HI
        have HM := hid hm
        clear hm
        go_upto_region 10 with (first
          | (go_at_call 25; refine HI.out.mono ?_; rintro e w' ⟨rfl, n, rfl⟩))
        have HVw4 : Hid (Vb ((w2.alloc (.cells #[.string (mk [116, 114, 117, 101]), .string (mk [102, 97, 108, 115, 101])] 9)).drewN n) (g + 1) zVl) := HVw3
        have HGw4 := hid (gbz_drewN HGw3.out n)
        have HZw4 := hid (HZw3.out.drewN n)
        have HNw4 : Hid (((w2.alloc (.cells #[.string (mk [116, 114, 117, 101]), .string (mk [102, 97, 108, 115, 101])] 9)).drewN n).heap[g]? = some (.cells (vlC zVl).toArray 45 (0, 0))) := HNw3
        clear HI HVw3 HGw3 HZw3 HNw3 c1
        generalize hw4 : (w2.alloc (.cells #[.string (mk [116, 114, 117, 101]), .string (mk [102, 97, 108, 115, 101])] 9)).drewN n = w4 at *
        clear hw4
        have v0 : w4.cell? ⟨g + 1, 0, none⟩ = some (.int .i64 0) := HVw4.out.c 0
        have z0 := HVw4.out.z 0
        go_upto_region 11 with fail
        have HVw5 : Hid (Vb (w4.setCell ⟨g + 1, 0, none⟩ (.int .i64 2)) (g + 1) ⟨2, 0, false, []⟩) := hid (hp_put HVw4.out _)
        have HGw5 := hid (gb_new HGw4.out (gb_setc w4 (g + 1) 0 (.int .i64 2)) (by have := HG.out; omega))
        have HZw5 := hid (H0.out.new HZw4.out (gb_setc w4 (g + 1) 0 (.int .i64 2)) (by have := HG.out; omega))
        have HNw5 := hid ((hp_set w4 g (g + 1) 0 (.int .i64 2) (by omega)).trans HNw4.out)
        generalize w4.setCell ⟨g + 1, 0, none⟩ (.int .i64 2) = w5 at *
        clear v0 z0
        have hb6 := below_walk w5 (.cells #[.string (mk [116, 114, 117, 101])] 9)
        have HI := hid (is_any [[116, 114, 117, 101]] _ HZw5.out.ok _ (HZw5.out.below hb6).pz (strs_1 w5 [116, 114, 117, 101]) (by simp))
        have ht : (ttP l t.2.1 t.2.2 ∈ [[116, 114, 117, 101]]) = (txA l t = [116, 114, 117, 101]) := by simp [txA]
        simp only [ht] at HI
        have HVw6 : Hid (Vb (w5.alloc (.cells #[.string (mk [116, 114, 117, 101])] 9)) (g + 1) ⟨2, 0, false, []⟩) := hid ((hb6.block (g + 1) (hp_lt HVw5.out)).trans HVw5.out)
        have HGw6 := hid (gb_trans HGw5.out (below_gb hb6 (some b)))
        have HZw6 := hid (HZw5.out.below hb6)
        have HNw6 := hid ((hb6.block g (hp_lt HNw5.out)).trans HNw5.out)
        clear hb6 ht
        obtain ⟨bo, HBO⟩ : ∃ bo, Hid (decide (txA l t = [116, 114, 117, 101]) = bo) := ⟨_, rfl⟩
        rw [HBO.out] at HI
        have v2 : ∀ n, ((w5.alloc (.cells #[.string (mk [116, 114, 117, 101])] 9)).drewN n).cell? ⟨g + 1, 2, none⟩ = some (.bool false) := fun n => HVw6.out.c 2
        have z2 : ∀ n, ((w5.alloc (.cells #[.string (mk [116, 114, 117, 101])] 9)).drewN n).frozen? ⟨g + 1, 2, none⟩ = false := fun n => HVw6.out.z 2
        go_upto_region 12 with (first
          | (go_at_call 25; refine HI.out.mono ?_; rintro e w' ⟨rfl, n2, rfl⟩))
        have HVw7 : Hid (Vb ((w5.alloc (.cells #[.string (mk [116, 114, 117, 101])] 9)).drewN n2) (g + 1) ⟨2, 0, false, []⟩) := HVw6
        have HGw7 := hid (gbz_drewN HGw6.out n2)
        have HZw7 := hid (HZw6.out.drewN n2)
        have HNw7 : Hid (((w5.alloc (.cells #[.string (mk [116, 114, 117, 101])] 9)).drewN n2).heap[g]? = some (.cells (vlC zVl).toArray 45 (0, 0))) := HNw6
        clear v2 z2 HI HVw6 HGw6 HZw6 HNw6
        generalize hw7 : (w5.alloc (.cells #[.string (mk [116, 114, 117, 101])] 9)).drewN n2 = w7 at *
        clear hw7
        have HVw8 : Hid (Vb (w7.setCell ⟨g + 1, 2, none⟩ (.bool bo)) (g + 1) ⟨2, 0, bo, []⟩) := hid (hp_put HVw7.out _)
        have HGw8 := hid (gb_new HGw7.out (gb_setc w7 (g + 1) 2 (.bool bo)) (by have := HG.out; omega))
        have HZw8 := hid (H0.out.new HZw7.out (gb_setc w7 (g + 1) 2 (.bool bo)) (by have := HG.out; omega))
        have HNw8 := hid ((hp_set w7 g (g + 1) 2 (.bool bo) (by omega)).trans HNw7.out)
        generalize w7.setCell ⟨g + 1, 2, none⟩ (.bool bo) = w8 at *
        go_wp2_with (first
          | (refine ld_row rfl 45 (.tmp 3) rfl (g + 1) rfl (vlC ⟨2, 0, bo, []⟩) 45 HVw8.out _ Tryd.underlying45 rfl Tryd.rowVal ?_)
          | (refine st_row rfl 45 (.tmp 2) (.tmp 46) rfl g (vlC ⟨2, 0, bo, []⟩) rfl rfl 45 _ HNw8.out Tryd.rowVal rfl (vlC_one _) ?_; intro w9 hs9; have HS9 := hid hs9; clear hs9))
        refine ret_row 2 45 rfl g rfl _ 45 HS9.out.blk _ Tryd.underlying45 rfl Tryd.rowVal rfl ?_
        exact out_row H0.out HGw8.out HZw8.out HS9.out (by rw [HG.out]; exact Nat.le_refl _) (by rw [← HR.out]; exact val_tf hk2 hk3 HM.out HBO.out) rfl
      · rw [decide_eq_false hm] at HI
        have HM := hid hm
        clear hm
        go_upto_region 2 with (first
          | (go_at_call 25; refine HI.out.mono ?_; rintro e w' ⟨rfl, n, rfl⟩))
        have HGw4 := hid (gbz_drewN HGw3.out n)
        have HZw4 := hid (HZw3.out.drewN n)
        clear HI HVw3 HGw3 HZw3 HNw3 c1
        generalize (w2.alloc (.cells #[.string (mk [116, 114, 117, 101]), .string (mk [102, 97, 108, 115, 101])] 9)).drewN n = w4 at *
        have HF := hid (refuse_any w4 HZw4.out.pz)
        go_wp2_with (go_at_call 24; refine HF.out.mono ?_; rintro e w5 ⟨rfl, h5⟩; have h5 := h5.symm; subst h5)
        exact ⟨rfl, out_bad (by rw [← HR.out, val_no hk2 hk3 HM.out]; rfl) HGw4.out HZw4.out⟩
end

end Go.Proofs.YtjjajfipfeigiabDoor

/- The lines of the grammar; a call; signs ahead (written by zexpr.py). -/
namespace Go.Proofs.YtjjajfipfeigiabDoor
open Go.RowKit

section
variable {w w' : World} {b : Nat} {l : List UInt8} {fuel : Int} {i lv : Nat} {t : Tok}
theorem strs_n (w : World) (ts : List (List UInt8)) : Strs (w.alloc (.cells (strV ts).toArray 9)) (.slice (some ⟨w.heap.size, 0, none⟩) ts.length ts.length) ts :=
  Or.inr ⟨w.heap.size, 0, ts.length, rfl, by rw [hp_size]; omega, Nat.le_refl _, fun j hj => by
    rw [cell_of_row _ _ _ _ _ _ (hp_new w (.cells (strV ts).toArray 9))]
    simp [strV, hj]⟩
theorem Strs.gb {W W' : World} {r n c : Nat} {ts : List (List UInt8)} (h : Strs W (.slice (some ⟨r, 0, none⟩) n c) ts) (hg : W.grownBy W' (some b)) (hr : r ≠ b) : Strs W' (.slice (some ⟨r, 0, none⟩) n c) ts := by
  rcases h with ⟨ao, c2, hv, h0, hn⟩ | ⟨g, o, c2, hv, hlt, h1, hc⟩
  · exact Or.inl ⟨ao, c2, hv, h0, hn⟩
  · injection hv with e1 e4 e3
    injection e1 with e1
    injection e1 with e1 e2 _
    subst e1 e2 e3 e4
    exact Or.inr ⟨r, 0, c, rfl, Nat.lt_of_lt_of_le hlt hg.size, h1, fun j hj => by rw [cell_gb hg hlt (fun e => hr (Option.some.inj e).symm)]; exact hc j hj⟩

set_option maxRecDepth 20000 in
set_option maxHeartbeats 2000000 in
theorem wrap0_any {n : Nat} {x : Nat → Except Ft (Ex × Nat)} (hx : Reads l fuel b lv 38 x) (w : World) (h : Sz w b l fuel i lv t) (hout : lineP (srcP l fuel) x 0 n i ≠ .error outF) :
    Calls Tryd.prog 18 #[.pointer (some ⟨b, 0, none⟩)] w (Out l fuel b lv (tE w.heap.size) w (aft l fuel (lineP (srcP l fuel) x 0 n i))) := by
  obtain ⟨B, HB⟩ : ∃ B, Hid (w.heap.size = B) := ⟨_, rfl⟩
  rw [HB.out]
  have H0 := hid h
  have hb1 := below_walk w (.cells zX 49)
  have hb2 := below_walk (w.alloc (.cells zX 49)) (.cells #[.string ⟨#[124, 124]⟩] 9)
  have HN2 := hid ((hb2.block w.heap.size (hp_lt (hp_new w (.cells zX 49)))).trans (hp_new w (.cells zX 49)))
  have hz1 := hp_size w (.cells zX 49)
  have HST := hid (show Strs ((w.alloc (.cells zX 49)).alloc (.cells #[.string ⟨#[124, 124]⟩] 9)) (.slice (some ⟨(w.alloc (.cells zX 49)).heap.size, 0, none⟩) 1 1) (sgnL 0) from strs_n (w.alloc (.cells zX 49)) (sgnL 0))
  have hz2 := hp_size (w.alloc (.cells zX 49)) (.cells #[.string ⟨#[124, 124]⟩] 9)
  have HZ2 := hid ((h.below hb1).below hb2)
  have HG2 := hid (gb_trans (below_gb hb1 (some b)) (below_gb hb2 (some b)))
  have HLT := hid h.pz.lt
  have HX := hid hx
  have HOUT := hid hout
  rw [HB.out] at hz1 HLT HN2
  rw [hz1] at HST hz2
  clear h hb1 hb2 hx hout
  go_enter Tryd.func18, Tryd.ntmps18
  go_upto_region 1 with (refine al_row rfl 49 rfl zX Tryd.zeroExpr ?_)
  rw [HB.out]
  obtain ⟨W1, HW1⟩ : ∃ W1, Hid (w.alloc (.cells zX 49) = W1) := ⟨_, hid rfl⟩
  rw [HW1.out] at HST HN2 HZ2 HG2 hz1 hz2 ⊢
  have HL := hid (fun W (hz : Sz W b l fuel i lv t) hv => line0_any HX.out (.slice (some ⟨B + 1, 0, none⟩) 1 1) W hv hz HOUT.out)
  go_wp2_with fail
  try rw [hz1]
  generalize W1.alloc (.cells #[.string ⟨#[124, 124]⟩] 9) = w2 at *
  refine (HL.out w2 HZ2.out (fun W hW => Strs.gb (r := B + 1) HST.out hW (by have := HLT.out; omega))).mono ?_
  intro e w3 hO
  obtain ⟨hg, ⟨f, h1, h2, rfl, h4⟩ | ⟨a, j, v, u, h1, rfl, h3, h4⟩⟩ := out_mono (lv' := lv) (T' := tE B) (r' := aft l fuel (lineP (srcP l fuel) x 0 n i)) HG2.out hO (fun f hf => hf)
  · have H4 := hid h4
    clear h1 h2 h4 hg hO
    go_wp2_with fail
    exact ⟨rfl, H4.out⟩
  · have ho := hO.1
    clear hO
    obtain ⟨kv, d, rfl, hex⟩ := h3
    have HA := hid (aft_in h1)
    have HZ3 := hid h4
    have HG3 := hid hg
    have HN3 := hid ((ho.block B (hp_lt HN2.out) (by have := HLT.out; simp; omega)).trans HN2.out)
    have HE3 := hid hex
    have hs2 : B + 2 ≤ w2.heap.size := by omega
    clear h1 h4 hg ho hex
    go_wp2_with (first
      | (refine st_row rfl 49 (.tmp 2) (.tmp 5) rfl B (exC a kv) rfl rfl 49 _ HN3.out Tryd.rowExpr rfl (exC_one _ _ HE3.out.cell) ?_; intro w9 hs9; have HS9 := hid hs9; clear hs9))
    refine ret_row 2 49 rfl B rfl _ 49 HS9.out.blk _ Tryd.underlying49 rfl Tryd.rowExpr rfl ?_
    exact out_row H0.out HG3.out HZ3.out HS9.out (by rw [HB.out]; exact Nat.le_refl _) HA.out ⟨kv, d, rfl, HE3.out.keep (fun g hq hl => ⟨HS9.out.grown.block g hl (by simp; omega), by omega⟩) HS9.out.grown.size⟩

set_option maxRecDepth 20000 in
set_option maxHeartbeats 2000000 in
theorem wrap1_any {n : Nat} {x : Nat → Except Ft (Ex × Nat)} (hx : Reads l fuel b lv 56 x) (w : World) (h : Sz w b l fuel i lv t) (hout : lineP (srcP l fuel) x 1 n i ≠ .error outF) :
    Calls Tryd.prog 38 #[.pointer (some ⟨b, 0, none⟩)] w (Out l fuel b lv (tE w.heap.size) w (aft l fuel (lineP (srcP l fuel) x 1 n i))) := by
  obtain ⟨B, HB⟩ : ∃ B, Hid (w.heap.size = B) := ⟨_, rfl⟩
  rw [HB.out]
  have H0 := hid h
  have hb1 := below_walk w (.cells zX 49)
  have hb2 := below_walk (w.alloc (.cells zX 49)) (.cells #[.string ⟨#[38, 38]⟩] 9)
  have HN2 := hid ((hb2.block w.heap.size (hp_lt (hp_new w (.cells zX 49)))).trans (hp_new w (.cells zX 49)))
  have hz1 := hp_size w (.cells zX 49)
  have HST := hid (show Strs ((w.alloc (.cells zX 49)).alloc (.cells #[.string ⟨#[38, 38]⟩] 9)) (.slice (some ⟨(w.alloc (.cells zX 49)).heap.size, 0, none⟩) 1 1) (sgnL 1) from strs_n (w.alloc (.cells zX 49)) (sgnL 1))
  have hz2 := hp_size (w.alloc (.cells zX 49)) (.cells #[.string ⟨#[38, 38]⟩] 9)
  have HZ2 := hid ((h.below hb1).below hb2)
  have HG2 := hid (gb_trans (below_gb hb1 (some b)) (below_gb hb2 (some b)))
  have HLT := hid h.pz.lt
  have HX := hid hx
  have HOUT := hid hout
  rw [HB.out] at hz1 HLT HN2
  rw [hz1] at HST hz2
  clear h hb1 hb2 hx hout
  go_enter Tryd.func38, Tryd.ntmps38
  go_upto_region 1 with (refine al_row rfl 49 rfl zX Tryd.zeroExpr ?_)
  rw [HB.out]
  obtain ⟨W1, HW1⟩ : ∃ W1, Hid (w.alloc (.cells zX 49) = W1) := ⟨_, hid rfl⟩
  rw [HW1.out] at HST HN2 HZ2 HG2 hz1 hz2 ⊢
  have HL := hid (fun W (hz : Sz W b l fuel i lv t) hv => line1_any HX.out (.slice (some ⟨B + 1, 0, none⟩) 1 1) W hv hz HOUT.out)
  go_wp2_with fail
  try rw [hz1]
  generalize W1.alloc (.cells #[.string ⟨#[38, 38]⟩] 9) = w2 at *
  refine (HL.out w2 HZ2.out (fun W hW => Strs.gb (r := B + 1) HST.out hW (by have := HLT.out; omega))).mono ?_
  intro e w3 hO
  obtain ⟨hg, ⟨f, h1, h2, rfl, h4⟩ | ⟨a, j, v, u, h1, rfl, h3, h4⟩⟩ := out_mono (lv' := lv) (T' := tE B) (r' := aft l fuel (lineP (srcP l fuel) x 1 n i)) HG2.out hO (fun f hf => hf)
  · have H4 := hid h4
    clear h1 h2 h4 hg hO
    go_wp2_with fail
    exact ⟨rfl, H4.out⟩
  · have ho := hO.1
    clear hO
    obtain ⟨kv, d, rfl, hex⟩ := h3
    have HA := hid (aft_in h1)
    have HZ3 := hid h4
    have HG3 := hid hg
    have HN3 := hid ((ho.block B (hp_lt HN2.out) (by have := HLT.out; simp; omega)).trans HN2.out)
    have HE3 := hid hex
    have hs2 : B + 2 ≤ w2.heap.size := by omega
    clear h1 h4 hg ho hex
    go_wp2_with (first
      | (refine st_row rfl 49 (.tmp 2) (.tmp 5) rfl B (exC a kv) rfl rfl 49 _ HN3.out Tryd.rowExpr rfl (exC_one _ _ HE3.out.cell) ?_; intro w9 hs9; have HS9 := hid hs9; clear hs9))
    refine ret_row 2 49 rfl B rfl _ 49 HS9.out.blk _ Tryd.underlying49 rfl Tryd.rowExpr rfl ?_
    exact out_row H0.out HG3.out HZ3.out HS9.out (by rw [HB.out]; exact Nat.le_refl _) HA.out ⟨kv, d, rfl, HE3.out.keep (fun g hq hl => ⟨HS9.out.grown.block g hl (by simp; omega), by omega⟩) HS9.out.grown.size⟩

set_option maxRecDepth 20000 in
set_option maxHeartbeats 2000000 in
theorem wrap2_any {n : Nat} {x : Nat → Except Ft (Ex × Nat)} (hx : Reads l fuel b lv 70 x) (w : World) (h : Sz w b l fuel i lv t) (hout : lineP (srcP l fuel) x 2 n i ≠ .error outF) :
    Calls Tryd.prog 56 #[.pointer (some ⟨b, 0, none⟩)] w (Out l fuel b lv (tE w.heap.size) w (aft l fuel (lineP (srcP l fuel) x 2 n i))) := by
  obtain ⟨B, HB⟩ : ∃ B, Hid (w.heap.size = B) := ⟨_, rfl⟩
  rw [HB.out]
  have H0 := hid h
  have hb1 := below_walk w (.cells zX 49)
  have hb2 := below_walk (w.alloc (.cells zX 49)) (.cells #[.string ⟨#[61, 61]⟩, .string ⟨#[33, 61]⟩, .string ⟨#[60]⟩, .string ⟨#[60, 61]⟩, .string ⟨#[62]⟩, .string ⟨#[62, 61]⟩] 9)
  have HN2 := hid ((hb2.block w.heap.size (hp_lt (hp_new w (.cells zX 49)))).trans (hp_new w (.cells zX 49)))
  have hz1 := hp_size w (.cells zX 49)
  have HST := hid (show Strs ((w.alloc (.cells zX 49)).alloc (.cells #[.string ⟨#[61, 61]⟩, .string ⟨#[33, 61]⟩, .string ⟨#[60]⟩, .string ⟨#[60, 61]⟩, .string ⟨#[62]⟩, .string ⟨#[62, 61]⟩] 9)) (.slice (some ⟨(w.alloc (.cells zX 49)).heap.size, 0, none⟩) 6 6) (sgnL 2) from strs_n (w.alloc (.cells zX 49)) (sgnL 2))
  have hz2 := hp_size (w.alloc (.cells zX 49)) (.cells #[.string ⟨#[61, 61]⟩, .string ⟨#[33, 61]⟩, .string ⟨#[60]⟩, .string ⟨#[60, 61]⟩, .string ⟨#[62]⟩, .string ⟨#[62, 61]⟩] 9)
  have HZ2 := hid ((h.below hb1).below hb2)
  have HG2 := hid (gb_trans (below_gb hb1 (some b)) (below_gb hb2 (some b)))
  have HLT := hid h.pz.lt
  have HX := hid hx
  have HOUT := hid hout
  rw [HB.out] at hz1 HLT HN2
  rw [hz1] at HST hz2
  clear h hb1 hb2 hx hout
  go_enter Tryd.func56, Tryd.ntmps56
  go_upto_region 1 with (refine al_row rfl 49 rfl zX Tryd.zeroExpr ?_)
  rw [HB.out]
  obtain ⟨W1, HW1⟩ : ∃ W1, Hid (w.alloc (.cells zX 49) = W1) := ⟨_, hid rfl⟩
  rw [HW1.out] at HST HN2 HZ2 HG2 hz1 hz2 ⊢
  have HL := hid (fun W (hz : Sz W b l fuel i lv t) hv => line2_any HX.out (.slice (some ⟨B + 1, 0, none⟩) 6 6) W hv hz HOUT.out)
  go_wp2_with fail
  try rw [hz1]
  generalize W1.alloc (.cells #[.string ⟨#[61, 61]⟩, .string ⟨#[33, 61]⟩, .string ⟨#[60]⟩, .string ⟨#[60, 61]⟩, .string ⟨#[62]⟩, .string ⟨#[62, 61]⟩] 9) = w2 at *
  refine (HL.out w2 HZ2.out (fun W hW => Strs.gb (r := B + 1) HST.out hW (by have := HLT.out; omega))).mono ?_
  intro e w3 hO
  obtain ⟨hg, ⟨f, h1, h2, rfl, h4⟩ | ⟨a, j, v, u, h1, rfl, h3, h4⟩⟩ := out_mono (lv' := lv) (T' := tE B) (r' := aft l fuel (lineP (srcP l fuel) x 2 n i)) HG2.out hO (fun f hf => hf)
  · have H4 := hid h4
    clear h1 h2 h4 hg hO
    go_wp2_with fail
    exact ⟨rfl, H4.out⟩
  · have ho := hO.1
    clear hO
    obtain ⟨kv, d, rfl, hex⟩ := h3
    have HA := hid (aft_in h1)
    have HZ3 := hid h4
    have HG3 := hid hg
    have HN3 := hid ((ho.block B (hp_lt HN2.out) (by have := HLT.out; simp; omega)).trans HN2.out)
    have HE3 := hid hex
    have hs2 : B + 2 ≤ w2.heap.size := by omega
    clear h1 h4 hg ho hex
    go_wp2_with (first
      | (refine st_row rfl 49 (.tmp 2) (.tmp 5) rfl B (exC a kv) rfl rfl 49 _ HN3.out Tryd.rowExpr rfl (exC_one _ _ HE3.out.cell) ?_; intro w9 hs9; have HS9 := hid hs9; clear hs9))
    refine ret_row 2 49 rfl B rfl _ 49 HS9.out.blk _ Tryd.underlying49 rfl Tryd.rowExpr rfl ?_
    exact out_row H0.out HG3.out HZ3.out HS9.out (by rw [HB.out]; exact Nat.le_refl _) HA.out ⟨kv, d, rfl, HE3.out.keep (fun g hq hl => ⟨HS9.out.grown.block g hl (by simp; omega), by omega⟩) HS9.out.grown.size⟩

set_option maxRecDepth 20000 in
set_option maxHeartbeats 2000000 in
theorem wrap3_any {n : Nat} {x : Nat → Except Ft (Ex × Nat)} (hx : Reads l fuel b lv 90 x) (w : World) (h : Sz w b l fuel i lv t) (hout : lineP (srcP l fuel) x 3 n i ≠ .error outF) :
    Calls Tryd.prog 70 #[.pointer (some ⟨b, 0, none⟩)] w (Out l fuel b lv (tE w.heap.size) w (aft l fuel (lineP (srcP l fuel) x 3 n i))) := by
  obtain ⟨B, HB⟩ : ∃ B, Hid (w.heap.size = B) := ⟨_, rfl⟩
  rw [HB.out]
  have H0 := hid h
  have hb1 := below_walk w (.cells zX 49)
  have hb2 := below_walk (w.alloc (.cells zX 49)) (.cells #[.string ⟨#[43]⟩, .string ⟨#[45]⟩, .string ⟨#[43, 43]⟩] 9)
  have HN2 := hid ((hb2.block w.heap.size (hp_lt (hp_new w (.cells zX 49)))).trans (hp_new w (.cells zX 49)))
  have hz1 := hp_size w (.cells zX 49)
  have HST := hid (show Strs ((w.alloc (.cells zX 49)).alloc (.cells #[.string ⟨#[43]⟩, .string ⟨#[45]⟩, .string ⟨#[43, 43]⟩] 9)) (.slice (some ⟨(w.alloc (.cells zX 49)).heap.size, 0, none⟩) 3 3) (sgnL 3) from strs_n (w.alloc (.cells zX 49)) (sgnL 3))
  have hz2 := hp_size (w.alloc (.cells zX 49)) (.cells #[.string ⟨#[43]⟩, .string ⟨#[45]⟩, .string ⟨#[43, 43]⟩] 9)
  have HZ2 := hid ((h.below hb1).below hb2)
  have HG2 := hid (gb_trans (below_gb hb1 (some b)) (below_gb hb2 (some b)))
  have HLT := hid h.pz.lt
  have HX := hid hx
  have HOUT := hid hout
  rw [HB.out] at hz1 HLT HN2
  rw [hz1] at HST hz2
  clear h hb1 hb2 hx hout
  go_enter Tryd.func70, Tryd.ntmps70
  go_upto_region 1 with (refine al_row rfl 49 rfl zX Tryd.zeroExpr ?_)
  rw [HB.out]
  obtain ⟨W1, HW1⟩ : ∃ W1, Hid (w.alloc (.cells zX 49) = W1) := ⟨_, hid rfl⟩
  rw [HW1.out] at HST HN2 HZ2 HG2 hz1 hz2 ⊢
  have HL := hid (fun W (hz : Sz W b l fuel i lv t) hv => line3_any HX.out (.slice (some ⟨B + 1, 0, none⟩) 3 3) W hv hz HOUT.out)
  go_wp2_with fail
  try rw [hz1]
  generalize W1.alloc (.cells #[.string ⟨#[43]⟩, .string ⟨#[45]⟩, .string ⟨#[43, 43]⟩] 9) = w2 at *
  refine (HL.out w2 HZ2.out (fun W hW => Strs.gb (r := B + 1) HST.out hW (by have := HLT.out; omega))).mono ?_
  intro e w3 hO
  obtain ⟨hg, ⟨f, h1, h2, rfl, h4⟩ | ⟨a, j, v, u, h1, rfl, h3, h4⟩⟩ := out_mono (lv' := lv) (T' := tE B) (r' := aft l fuel (lineP (srcP l fuel) x 3 n i)) HG2.out hO (fun f hf => hf)
  · have H4 := hid h4
    clear h1 h2 h4 hg hO
    go_wp2_with fail
    exact ⟨rfl, H4.out⟩
  · have ho := hO.1
    clear hO
    obtain ⟨kv, d, rfl, hex⟩ := h3
    have HA := hid (aft_in h1)
    have HZ3 := hid h4
    have HG3 := hid hg
    have HN3 := hid ((ho.block B (hp_lt HN2.out) (by have := HLT.out; simp; omega)).trans HN2.out)
    have HE3 := hid hex
    have hs2 : B + 2 ≤ w2.heap.size := by omega
    clear h1 h4 hg ho hex
    go_wp2_with (first
      | (refine st_row rfl 49 (.tmp 2) (.tmp 5) rfl B (exC a kv) rfl rfl 49 _ HN3.out Tryd.rowExpr rfl (exC_one _ _ HE3.out.cell) ?_; intro w9 hs9; have HS9 := hid hs9; clear hs9))
    refine ret_row 2 49 rfl B rfl _ 49 HS9.out.blk _ Tryd.underlying49 rfl Tryd.rowExpr rfl ?_
    exact out_row H0.out HG3.out HZ3.out HS9.out (by rw [HB.out]; exact Nat.le_refl _) HA.out ⟨kv, d, rfl, HE3.out.keep (fun g hq hl => ⟨HS9.out.grown.block g hl (by simp; omega), by omega⟩) HS9.out.grown.size⟩

set_option maxRecDepth 20000 in
set_option maxHeartbeats 2000000 in
theorem wrap4_any {n : Nat} {x : Nat → Except Ft (Ex × Nat)} (hx : Reads l fuel b lv 100 x) (w : World) (h : Sz w b l fuel i lv t) (hout : lineP (srcP l fuel) x 4 n i ≠ .error outF) :
    Calls Tryd.prog 90 #[.pointer (some ⟨b, 0, none⟩)] w (Out l fuel b lv (tE w.heap.size) w (aft l fuel (lineP (srcP l fuel) x 4 n i))) := by
  obtain ⟨B, HB⟩ : ∃ B, Hid (w.heap.size = B) := ⟨_, rfl⟩
  rw [HB.out]
  have H0 := hid h
  have hb1 := below_walk w (.cells zX 49)
  have hb2 := below_walk (w.alloc (.cells zX 49)) (.cells #[.string ⟨#[42]⟩, .string ⟨#[47]⟩, .string ⟨#[37]⟩] 9)
  have HN2 := hid ((hb2.block w.heap.size (hp_lt (hp_new w (.cells zX 49)))).trans (hp_new w (.cells zX 49)))
  have hz1 := hp_size w (.cells zX 49)
  have HST := hid (show Strs ((w.alloc (.cells zX 49)).alloc (.cells #[.string ⟨#[42]⟩, .string ⟨#[47]⟩, .string ⟨#[37]⟩] 9)) (.slice (some ⟨(w.alloc (.cells zX 49)).heap.size, 0, none⟩) 3 3) (sgnL 4) from strs_n (w.alloc (.cells zX 49)) (sgnL 4))
  have hz2 := hp_size (w.alloc (.cells zX 49)) (.cells #[.string ⟨#[42]⟩, .string ⟨#[47]⟩, .string ⟨#[37]⟩] 9)
  have HZ2 := hid ((h.below hb1).below hb2)
  have HG2 := hid (gb_trans (below_gb hb1 (some b)) (below_gb hb2 (some b)))
  have HLT := hid h.pz.lt
  have HX := hid hx
  have HOUT := hid hout
  rw [HB.out] at hz1 HLT HN2
  rw [hz1] at HST hz2
  clear h hb1 hb2 hx hout
  go_enter Tryd.func90, Tryd.ntmps90
  go_upto_region 1 with (refine al_row rfl 49 rfl zX Tryd.zeroExpr ?_)
  rw [HB.out]
  obtain ⟨W1, HW1⟩ : ∃ W1, Hid (w.alloc (.cells zX 49) = W1) := ⟨_, hid rfl⟩
  rw [HW1.out] at HST HN2 HZ2 HG2 hz1 hz2 ⊢
  have HL := hid (fun W (hz : Sz W b l fuel i lv t) hv => line4_any HX.out (.slice (some ⟨B + 1, 0, none⟩) 3 3) W hv hz HOUT.out)
  go_wp2_with fail
  try rw [hz1]
  generalize W1.alloc (.cells #[.string ⟨#[42]⟩, .string ⟨#[47]⟩, .string ⟨#[37]⟩] 9) = w2 at *
  refine (HL.out w2 HZ2.out (fun W hW => Strs.gb (r := B + 1) HST.out hW (by have := HLT.out; omega))).mono ?_
  intro e w3 hO
  obtain ⟨hg, ⟨f, h1, h2, rfl, h4⟩ | ⟨a, j, v, u, h1, rfl, h3, h4⟩⟩ := out_mono (lv' := lv) (T' := tE B) (r' := aft l fuel (lineP (srcP l fuel) x 4 n i)) HG2.out hO (fun f hf => hf)
  · have H4 := hid h4
    clear h1 h2 h4 hg hO
    go_wp2_with fail
    exact ⟨rfl, H4.out⟩
  · have ho := hO.1
    clear hO
    obtain ⟨kv, d, rfl, hex⟩ := h3
    have HA := hid (aft_in h1)
    have HZ3 := hid h4
    have HG3 := hid hg
    have HN3 := hid ((ho.block B (hp_lt HN2.out) (by have := HLT.out; simp; omega)).trans HN2.out)
    have HE3 := hid hex
    have hs2 : B + 2 ≤ w2.heap.size := by omega
    clear h1 h4 hg ho hex
    go_wp2_with (first
      | (refine st_row rfl 49 (.tmp 2) (.tmp 5) rfl B (exC a kv) rfl rfl 49 _ HN3.out Tryd.rowExpr rfl (exC_one _ _ HE3.out.cell) ?_; intro w9 hs9; have HS9 := hid hs9; clear hs9))
    refine ret_row 2 49 rfl B rfl _ 49 HS9.out.blk _ Tryd.underlying49 rfl Tryd.rowExpr rfl ?_
    exact out_row H0.out HG3.out HZ3.out HS9.out (by rw [HB.out]; exact Nat.le_refl _) HA.out ⟨kv, d, rfl, HE3.out.keep (fun g hq hl => ⟨HS9.out.grown.block g hl (by simp; omega), by omega⟩) HS9.out.grown.size⟩

end

end Go.Proofs.YtjjajfipfeigiabDoor

/- A call; signs ahead; what stands without signs (written by zprim.py). -/
namespace Go.Proofs.YtjjajfipfeigiabDoor
open Go.RowKit

section
variable {w w' : World} {b : Nat} {l : List UInt8} {fuel : Int} {i lv : Nat} {t : Tok}
theorem exs_one (w6 : World) (e : Ex) (kv : Value) {B g9 d : Nat} (h1 : ExS (fun g => B < g ∧ g ≠ g9) w6 d kv e.kids) (hB : B < w6.heap.size) (hg : g9 < w6.heap.size) :
    ExS (fun g => B < g ∧ g ≠ g9) (w6.alloc (.cells (kE.cells (e, kv)).toArray 49)) (d + 1) (.slice (some ⟨w6.heap.size, 0, none⟩) 1 1) [e] := by
  have hb := below_walk w6 (.cells (kE.cells (e, kv)).toArray 49)
  have hn := hp_new w6 (.cells (kE.cells (e, kv)).toArray 49)
  refine Or.inr ⟨w6.heap.size, 0, 1, rfl, ⟨hB, by omega⟩, by rw [hp_size]; omega, fun j y hy => ?_⟩
  match j, hy with
  | 0, hy =>
    cases hy
    exact ⟨kv, fun i u hu => by rw [cell_of_row _ _ _ _ _ _ hn]; simpa [kE] using hu, h1.keep (fun g hq hl => ⟨hb.block g hl, hq⟩) hb.size⟩
theorem Xb.c {w : World} {g : Nat} {e : Ex} {kv : Value} (h : Xb w g e kv) (j : Nat) : w.cell? ⟨g, j, none⟩ = (exC e kv)[j]? := by
  have h : w.heap[g]? = some (.cells (exC e kv).toArray 49 (0, 0)) := h
  simp [World.cell?, h]
theorem Xb.z {w : World} {g : Nat} {e : Ex} {kv : Value} (h : Xb w g e kv) (j : Nat) : w.frozen? ⟨g, j, none⟩ = false := by
  have h : w.heap[g]? = some (.cells (exC e kv).toArray 49 (0, 0)) := h
  simp [World.frozen?, h]

set_option maxRecDepth 20000 in
set_option maxHeartbeats 2000000 in
theorem callE_any {n : Nat} {x : Nat → Except Ft (Ex × Nat)} (hx : Reads l fuel b (lv + 1) 18 x) (hlv : lv ≤ 1000000000) (e : Ex) (kv0 : Value) (w : World) (h : Sz w b l fuel i lv t) (hout : calP (srcP l fuel) x n lv e i ≠ .error outF) :
    Calls Tryd.prog 98 #[.pointer (some ⟨b, 0, none⟩), .agg (exC e kv0).toArray] w (Out l fuel b lv (tE w.heap.size) w (aft l fuel (calP (srcP l fuel) x n lv e i))) := by
  obtain ⟨R, HR⟩ : ∃ R, Hid (calP (srcP l fuel) x n lv e i = R) := ⟨_, rfl⟩
  rw [HR.out] at hout ⊢
  obtain ⟨B, HB⟩ : ∃ B, Hid (w.heap.size = B) := ⟨_, rfl⟩
  rw [HB.out]
  have H0 := hid h
  have hao : argP (srcP l fuel) x n lv i ≠ .error outF := fun q => hout (by rw [← HR.out]; simp only [calP, q])
  have hb1 := below_walk w (.cells (exC e kv0).toArray 49)
  have hb2 := below_walk (w.alloc (.cells (exC e kv0).toArray 49)) (.cells zX 49)
  have HX2 : Hid (Xb ((w.alloc (.cells (exC e kv0).toArray 49)).alloc (.cells zX 49)) w.heap.size e kv0) := hid ((hb2.block w.heap.size (hp_lt (hp_new w _))).trans (hp_new w _))
  have HN2 := hid (hp_new (w.alloc (.cells (exC e kv0).toArray 49)) (.cells zX 49))
  have hz1 := hp_size w (.cells (exC e kv0).toArray 49)
  have hz2 := hp_size (w.alloc (.cells (exC e kv0).toArray 49)) (.cells zX 49)
  have HZ2 := hid ((h.below hb1).below hb2)
  have HG2 := hid (gb_trans (below_gb hb1 (some b)) (below_gb hb2 (some b)))
  have HLT := hid h.pz.lt
  rw [hz1] at hz2 HN2
  rw [HB.out] at hz1 hz2 HLT HX2 HN2
  clear h hb1 hb2 hout
  go_enter Tryd.func98, Tryd.ntmps98
  go_upto_region 1 with (first
    | (refine bx_row rfl 49 (.tmp 1) rfl (exC e kv0).toArray rfl ?_)
    | (refine al_row rfl 49 rfl zX Tryd.zeroExpr ?_))
  try rw [hz1]
  try rw [HB.out]
  generalize (w.alloc (.cells (exC e kv0).toArray 49)).alloc (.cells zX 49) = w2 at *
  have HC := hid (brackE_any hx hlv w2 HZ2.out hao)
  clear hao hx
  go_wp2_with fail
  refine HC.out.mono ?_
  intro e w3 hO
  obtain ⟨hg, ⟨f, h1, h2, rfl, h4⟩ | ⟨a, j, v, u, h1, rfl, h3, h4⟩⟩ := out_mono (lv' := lv) (T' := tE B) (r' := aft l fuel R) HG2.out hO (fun f hf => by rw [← HR.out]; exact Or.elim (aft_er hf) (fun q => by simp only [calP, q, aft]) (fun ⟨_, _, q, ql⟩ => by simp only [calP, q, ql, aft]))
  · have H4 := hid h4
    clear h1 h2 h4 hg hO
    go_wp2_with fail
    exact ⟨rfl, H4.out⟩
  · have ho := hO.1
    clear hO
    obtain ⟨d, hex⟩ := h3
    obtain ⟨av, cv, hvv⟩ := hex.one
    subst hvv
    have HA := hid (aft_in h1)
    have HZ3 := hid h4
    have HG3 := hid hg
    have HX3 : Hid (Xb w3 B e kv0) := hid ((ho.block B (hp_lt HX2.out) (by have := HLT.out; simp; omega)).trans HX2.out)
    have HN3 := hid ((ho.block (B + 1) (hp_lt HN2.out) (by have := HLT.out; simp; omega)).trans HN2.out)
    have HE3 := hid hex
    obtain ⟨N, HN⟩ : ∃ N, Hid (a.length = N) := ⟨_, rfl⟩
    rw [HN.out] at HE3 ⊢
    clear h1 h4 hg ho hex HX2 HN2 HG2
    have x0 := HX3.out.c 0
    have x9 := HX3.out.c 9
    have y0 := HX3.out.z 0
    have y9 := HX3.out.z 9
    simp only [exC, List.getElem?_cons_zero, List.getElem?_cons_succ] at x0 x9
    go_upto_region 2 with fail
    have HX4 : Hid (Xb (w3.setCell ⟨B, 0, none⟩ (.int .i64 3)) B { e with kind := 3 } kv0) := hid (hp_put HX3.out _)
    have HX5 : Hid (Xb ((w3.setCell ⟨B, 0, none⟩ (.int .i64 3)).setCell ⟨B, 9, none⟩ (.slice av N cv)) B { e with kind := 3, kids := a } (.slice av N cv)) := hid (hp_put HX4.out _)
    have g5 := gb_trans (gb_setc w3 B 0 (.int .i64 3)) (gb_setc _ B 9 (.slice av N cv))
    have HZ5 := hid (H0.out.new HZ3.out g5 (by rw [HB.out]; exact Nat.le_refl _))
    have HG5 := hid (gb_new HG3.out g5 (by rw [HB.out]; exact Nat.le_refl _))
    have HN5 := hid ((g5.block (B + 1) (hp_lt HN3.out) (by simp)).trans HN3.out)
    have HE5 : Hid (ExS (fun g => B + 2 ≤ g) ((w3.setCell ⟨B, 0, none⟩ (.int .i64 3)).setCell ⟨B, 9, none⟩ (.slice av N cv)) d (.slice av N cv) a) := hid (HE3.out.keep (fun g hq hl => ⟨g5.block g hl (by simp; omega), by omega⟩) g5.size)
    clear x0 x9 y0 y9 g5
    generalize (w3.setCell ⟨B, 0, none⟩ (.int .i64 3)).setCell ⟨B, 9, none⟩ (.slice av N cv) = w5 at *
    go_wp2_with (first
      | (refine ld_row rfl 49 (.tmp 3) rfl B rfl (exC { e with kind := 3, kids := a } (.slice av N cv)) 49 HX5.out _ Tryd.underlying49 rfl Tryd.rowExpr ?_)
      | (refine st_row rfl 49 (.tmp 4) (.tmp 9) rfl (B + 1) (exC { e with kind := 3, kids := a } (.slice av N cv)) rfl rfl 49 _ HN5.out Tryd.rowExpr rfl (exC_one _ _ rfl) ?_; intro w9 hs9; have HS9 := hid hs9; clear hs9))
    refine ret_row 4 49 rfl (B + 1) rfl _ 49 HS9.out.blk _ Tryd.underlying49 rfl Tryd.rowExpr rfl ?_
    exact out_row H0.out HG5.out HZ5.out HS9.out (by rw [HB.out]; omega) (by rw [← HR.out]; simp only [calP, HA.out]) ⟨_, d, rfl, HE5.out.keep (fun g hq hl => ⟨HS9.out.grown.block g hl (by simp; omega), by omega⟩) HS9.out.grown.size⟩
set_option maxRecDepth 20000 in
set_option maxHeartbeats 2000000 in
theorem unary_any {y p : Nat → Except Ft (Ex × Nat)} (hy : Reads l fuel b (lv + 1) 100 y) (hp : Reads l fuel b lv 105 p) (hlv : lv ≤ 1000000000) (w : World) (h : Sz w b l fuel i lv t) (hout : unaP (srcP l fuel) y p lv i ≠ .error outF) :
    Calls Tryd.prog 100 #[.pointer (some ⟨b, 0, none⟩)] w (Out l fuel b lv (tE w.heap.size) w (aft l fuel (unaP (srcP l fuel) y p lv i))) := by
  obtain ⟨R, HR⟩ : ∃ R, Hid (unaP (srcP l fuel) y p lv i = R) := ⟨_, rfl⟩
  rw [HR.out] at hout ⊢
  obtain ⟨B, HB⟩ : ∃ B, Hid (w.heap.size = B) := ⟨_, rfl⟩
  rw [HB.out]
  have H0 := hid h
  have HOUT := hid hout
  have hb1 := below_walk w (.cells zX 49)
  have HN1 := hid (hp_new w (.cells zX 49))
  have hz1 := hp_size w (.cells zX 49)
  have HZ1 := hid (h.below hb1)
  have HG1 := hid (below_gb hb1 (some b))
  have HLT := hid h.pz.lt
  rw [HB.out] at hz1 HLT HN1
  clear h hb1 hout
  go_enter Tryd.func100, Tryd.ntmps100
  go_upto_region 1 with (refine al_row rfl 49 rfl zX Tryd.zeroExpr ?_)
  rw [HB.out]
  generalize w.alloc (.cells zX 49) = w1 at *
  have HTX : Hid (∀ q, Calls Tryd.prog 43 #[.pointer (some ⟨b, 0, none⟩)] (w1.drewN q) fun e w' => e = .returned (.string (mk (ttP l t.2.1 t.2.2))) ∧ ∃ p, w' = w1.drewN p) := hid (fun q => (ptext_any HZ1.out.ok _ (HZ1.out.drewN q).pz).mono (fun e w' hh => ⟨hh.1, by obtain ⟨p, hp⟩ := hh.2; exact ⟨q + p, by rw [hp]; exact drewN_add2 w1 q p⟩⟩))
  have HUO : Hid (∀ q, Calls Tryd.prog 104 #[.string (mk (ttP l t.2.1 t.2.2))] (w1.drewN q) fun e w' => e = .returned (.int .i64 (unN (txA l t) : Int)) ∧ w' = w1.drewN q) := hid (fun q => unop_any (txA l t) _)
  have HTX0 := hid (ptext_any HZ1.out.ok w1 HZ1.out.pz)
  obtain ⟨op, HOP⟩ : ∃ op, Hid (unN (txA l t) = op) := ⟨_, rfl⟩
  rw [HOP.out] at HUO
  by_cases h0 : op = 0
  · have hpo : p i ≠ .error outF := fun q => HOUT.out (by rw [← HR.out]; simp only [unaP, srcP, H0.out.lk, HOP.out, h0, if_true, q])
    have HC := hid (fun W hz => hp.1 W i t hz hpo)
    subst h0
    clear hpo hy hp
    go_wp2_with (first
      | (go_at_call 43; refine HTX0.out.mono ?_; rintro e w' ⟨rfl, n1, rfl⟩)
      | (go_at_call 104; refine (HUO.out _).mono ?_; rintro e w' ⟨rfl, rfl⟩))
    refine (HC.out _ (HZ1.out.drewN n1)).mono ?_
    intro e w3 hO
    obtain ⟨hg, ⟨f, h1, h2, rfl, h4⟩ | ⟨a, j, v, u, h1, rfl, h3, h4⟩⟩ := out_mono (lv' := lv) (T' := tE B) (r' := aft l fuel R) (gbz_drewN HG1.out n1) hO (fun f hf => by rw [← HR.out]; simp only [unaP, srcP, H0.out.lk, HOP.out, if_true]; exact hf)
    · have H4 := hid h4
      clear h1 h2 h4 hg hO
      go_wp2_with fail
      exact ⟨rfl, H4.out⟩
    · have ho := hO.1
      clear hO
      obtain ⟨kv, d, rfl, hex⟩ := h3
      have HA := hid (aft_in h1)
      have HZ3 := hid h4
      have HG3 := hid hg
      have ho : w1.grownBy w3 (some b) := gb_trans (gb_drewN w1 n1 (some b)) ho
      have HN3 := hid ((ho.block B (hp_lt HN1.out) (by have := HLT.out; simp; omega)).trans HN1.out)
      have hex : ExS (fun g => w1.heap.size ≤ g) w3 d kv a.kids := hex
      have HE3 := hid hex
      clear h1 h4 hg ho hex
      go_wp2_with (first
        | (refine st_row rfl 49 (.tmp 2) (.tmp 11) rfl B (exC a kv) rfl rfl 49 _ HN3.out Tryd.rowExpr rfl (exC_one _ _ HE3.out.cell) ?_; intro w9 hs9; have HS9 := hid hs9; clear hs9))
      refine ret_row 2 49 rfl B rfl _ 49 HS9.out.blk _ Tryd.underlying49 rfl Tryd.rowExpr rfl ?_
      exact out_row H0.out HG3.out HZ3.out HS9.out (by rw [HB.out]; exact Nat.le_refl _) (by rw [← HR.out]; simp only [unaP, srcP, H0.out.lk, HOP.out, if_true]; exact HA.out) ⟨kv, d, rfl, HE3.out.keep (fun g hq hl => ⟨HS9.out.grown.block g hl (by simp; omega), by omega⟩) HS9.out.grown.size⟩
  · have q0 : ¬ (op : Int) = 0 := by omega
    have hsn : txA l t ≠ [] := fun q => h0 (by rw [← HOP.out, q]; rfl)
    have HO := hid (fun W (hz : Sz W b l fuel i lv t) => open_any (txA l t) hsn hlv W hz)
    have H00 := hid h0
    clear hsn h0 hp
    go_wp2_with (first
      | (go_at_call 43; with_reducible refine HTX0.out.mono ?_; rintro e w' ⟨rfl, n1, rfl⟩; clear HTX0)
      | (go_at_call 43; refine (HTX.out _).mono ?_; rintro e w' ⟨rfl, n2, rfl⟩)
      | (go_at_call 104; refine (HUO.out _).mono ?_; rintro e w' ⟨rfl, rfl⟩))
    refine (HO.out _ (HZ1.out.drewN n2)).mono ?_
    intro e w3 hO
    obtain ⟨hg, ⟨f, h1, h2, rfl, h4⟩ | ⟨a, j, v, u, h1, rfl, h3, h4⟩⟩ := out_mono (lv' := lv) (T' := tE B) (r' := aft l fuel R) (gbz_drewN HG1.out n2) hO (fun f hf => by rw [← HR.out]; have hm := HOUT.out; rw [← HR.out] at hm; refine Or.elim (ope_er hf) (fun ⟨q1, q2⟩ => absurd rfl q1) (fun hf2 => Or.elim hf2 (fun ⟨q1, q2, q3⟩ => by simp only [unaP, srcP, H0.out.lk, HOP.out, eq_false H00.out, if_false, q2, if_true, aft, q3]) (fun ⟨q1, q2, q3⟩ => ?_)); simp only [unaP, srcP, H0.out.lk, HOP.out, eq_false H00.out, if_false, eq_false q2] at hm ⊢; rcases hy.2.2 _ _ q3 with q4 | q4; (simp only [q4, aft]); (simp only [q4] at hm; exact absurd rfl hm))
    · have H4 := hid h4
      clear h1 h2 h4 hg hO
      go_wp2_with fail
      exact ⟨rfl, H4.out⟩
    · have ho := hO.1
      clear hO
      subst h3
      obtain ⟨_, k2, rfl, rfl⟩ := ope_in h1
      have HK2 := hid k2
      have HZ3 := hid h4
      have HG3 := hid hg
      have ho : w1.grownBy w3 (some b) := gb_trans (gb_drewN w1 n2 (some b)) ho
      have HN3 := hid ((ho.block B (hp_lt HN1.out) (by have := HLT.out; simp; omega)).trans HN1.out)
      have hs3 : B + 1 ≤ w3.heap.size := by have := ho.size; omega
      have hyo : y (i + 1) ≠ .error outF := fun q => HOUT.out (by rw [← HR.out]; simp only [unaP, srcP, H0.out.lk, HOP.out, eq_false H00.out, if_false, eq_false k2, q])
      clear h1 h4 hg ho k2
      have hb4 := below_walk w3 (.cells (exC ⟨4, t.2.1, [], [], zVl, op, []⟩ (.slice none 0 0)).toArray 49)
      have HX4 : Hid (Xb (w3.alloc (.cells (exC ⟨4, t.2.1, [], [], zVl, op, []⟩ (.slice none 0 0)).toArray 49)) w3.heap.size ⟨4, t.2.1, [], [], zVl, op, []⟩ (.slice none 0 0)) := hid (hp_new _ _)
      have HN4 := hid ((hb4.block B (hp_lt HN3.out)).trans HN3.out)
      have HZ4 := hid (HZ3.out.below hb4)
      have HG4 := hid (gb_trans HG3.out (below_gb hb4 (some b)))
      have hz4 := hp_size w3 (.cells (exC ⟨4, t.2.1, [], [], zVl, op, []⟩ (.slice none 0 0)).toArray 49)
      clear hb4
      go_upto_region 5 with (first
        | (refine bd_row rfl 49 _ rfl [(0, .int .i64 4), (1, .int .i64 (t.2.1 : Int)), (5, .int .i64 (op : Int))] rfl (exC ⟨4, t.2.1, [], [], zVl, op, []⟩ (.slice none 0 0)).toArray (by kernel_rfl) ?_)
        | (refine al_row rfl 49 rfl zX Tryd.zeroExpr ?_; refine st_new rfl 49 (.tmp 4) (.tmp 17) rfl (exC ⟨4, t.2.1, [], [], zVl, op, []⟩ (.slice none 0 0)) rfl rfl _ _ Tryd.rowExpr rfl (exC_one _ _ rfl) ?_))
      try simp only [Act.put, List.setIfInBounds_toArray, List.set_cons_succ, List.set_cons_zero]
      generalize w3.alloc (.cells (exC ⟨4, t.2.1, [], [], zVl, op, []⟩ (.slice none 0 0)).toArray 49) = w4 at *
      obtain ⟨g, HGG⟩ : ∃ g, Hid (w3.heap.size = g) := ⟨_, rfl⟩
      rw [HGG.out] at HX4 hs3 hz4 ⊢
      have HC := hid (hy.1 w4 (i + 1) u HZ4.out hyo)
      go_wp2_with fail
      refine HC.out.mono ?_
      intro e w5 hO
      obtain ⟨hgc, ⟨f, h1, h2, rfl, h4⟩ | ⟨a, j, vc, uc, h1c, rfl, h3c, h4c⟩⟩ := out_mono (lv' := lv) (T' := tE B) (r' := aft l fuel R) HG4.out hO (fun f hf => by rw [← HR.out]; exact Or.elim (aft_er hf) (fun q => by simp only [unaP, srcP, H0.out.lk, HOP.out, eq_false H00.out, if_false, eq_false HK2.out, q, aft]) (fun ⟨_, _, q, ql⟩ => by simp only [unaP, srcP, H0.out.lk, HOP.out, eq_false H00.out, if_false, eq_false HK2.out, q, ql, aft]))
      · have H4 := hid h4
        clear h1 h2 h4 hgc hO
        go_wp2_with fail
        exact ⟨rfl, H4.out⟩
      · have hoc := hO.1
        clear hO
        obtain ⟨kv, d, rfl, hex⟩ := h3c
        have HA := hid (aft_in h1c)
        have HZ5 := hid h4c
        have HG5 := hid hgc
        have HX5 : Hid (Xb w5 g ⟨4, t.2.1, [], [], zVl, op, []⟩ (.slice none 0 0)) := hid ((hoc.block g (hp_lt HX4.out) (by have := HLT.out; simp; omega)).trans HX4.out)
        have HN5 := hid ((hoc.block B (hp_lt HN4.out) (by have := HLT.out; simp; omega)).trans HN4.out)
        have HE5 := hid hex
        have hs5 := hoc.size
        have hb6 := below_walk w5 (.cells (kE.cells (a, kv)).toArray 49)
        have HX6 : Hid (Xb (w5.alloc (.cells (kE.cells (a, kv)).toArray 49)) g ⟨4, t.2.1, [], [], zVl, op, []⟩ (.slice none 0 0)) := hid ((hb6.block g (hp_lt HX5.out)).trans HX5.out)
        have HN6 := hid ((hb6.block B (hp_lt HN5.out)).trans HN5.out)
        have HZ6 := hid (HZ5.out.below hb6)
        have HG6 := hid (gb_trans HG5.out (below_gb hb6 (some b)))
        have HE6 : Hid (ExS (fun k => B < k ∧ k ≠ g) (w5.alloc (.cells (kE.cells (a, kv)).toArray 49)) (d + 1) (.slice (some ⟨w5.heap.size, 0, none⟩) 1 1) [a]) := hid (exs_one w5 a kv (HE5.out.keep (fun k hq _ => ⟨rfl, by omega, by omega⟩) (Nat.le_refl _)) (by omega) (by omega))
        obtain ⟨w6, HW6⟩ : ∃ w6, Hid (w5.alloc (.cells (kE.cells (a, kv)).toArray 49) = w6) := ⟨_, hid rfl⟩
        rw [HW6.out] at HX6 HN6 HZ6 HG6 HE6
        have x9 := HX6.out.c 9
        have y9 := HX6.out.z 9
        simp only [exC, List.getElem?_cons_zero, List.getElem?_cons_succ] at x9
        clear h1c h4c hgc hoc hex hb6 HC hyo
        go_upto_region 6 with (first
          | (refine bs_oneW kE_ok rfl (.tmp 19) rfl (a, kv) rfl _ rfl w6 HW6.out ?_))
        have HX7 : Hid (Xb (w6.setCell ⟨g, 9, none⟩ (.slice (some ⟨w5.heap.size, 0, none⟩) 1 1)) g ⟨4, t.2.1, [], [], zVl, op, [a]⟩ (.slice (some ⟨w5.heap.size, 0, none⟩) 1 1)) := hid (hp_put HX6.out _)
        have g7 := gb_setc w6 g 9 (.slice (some ⟨w5.heap.size, 0, none⟩) 1 1)
        have HZ7 := hid (H0.out.new HZ6.out g7 (by rw [HB.out]; omega))
        have HG7 := hid (gb_new HG6.out g7 (by rw [HB.out]; omega))
        have HN7 := hid ((g7.block B (hp_lt HN6.out) (by simp; omega)).trans HN6.out)
        have HE7 : Hid (ExS (fun k => B < k ∧ k ≠ g) _ (d + 1) (.slice (some ⟨w5.heap.size, 0, none⟩) 1 1) [a]) := hid (HE6.out.keep (fun k hq hl => ⟨g7.block k hl (by simp; exact hq.2), hq⟩) g7.size)
        clear x9 y9 g7
        generalize w6.setCell ⟨g, 9, none⟩ (.slice (some ⟨w5.heap.size, 0, none⟩) 1 1) = w7 at *
        have c6 := HZ7.out.pz.c6
        have z6 := HZ7.out.pz.z 6
        have hq6 : ((lv + 1 : Nat) : Int) - 1 = (lv : Int) := by omega
        go_upto_region 7 with fail
        have HZ8 : Hid (Sz (w7.setCell ⟨b, 6, none⟩ (.int .i64 (lv : Int))) b l fuel j lv uc) := hid ⟨HZ7.out.lk, HZ7.out.pz.setl lv⟩
        have g8 := gb_setc w7 b 6 (.int .i64 (lv : Int))
        have HG8 := hid (gb_trans HG7.out g8)
        have HX8 : Hid (Xb (w7.setCell ⟨b, 6, none⟩ (.int .i64 (lv : Int))) g ⟨4, t.2.1, [], [], zVl, op, [a]⟩ (.slice (some ⟨w5.heap.size, 0, none⟩) 1 1)) := hid ((g8.block g (hp_lt HX7.out) (by have := HLT.out; simp; omega)).trans HX7.out)
        have HN8 := hid ((g8.block B (hp_lt HN7.out) (by have := HLT.out; simp; omega)).trans HN7.out)
        have HE8 : Hid (ExS (fun k => B < k ∧ k ≠ g) (w7.setCell ⟨b, 6, none⟩ (.int .i64 (lv : Int))) (d + 1) (.slice (some ⟨w5.heap.size, 0, none⟩) 1 1) [a]) := hid (HE7.out.keep (fun k hq hl => ⟨g8.block k hl (by have := HLT.out; simp; omega), hq⟩) g8.size)
        clear c6 z6 g8
        generalize w7.setCell ⟨b, 6, none⟩ (.int .i64 (lv : Int)) = w8 at *
        go_wp2_with (first
          | (refine ld_row rfl 49 (.tmp 4) rfl g rfl (exC ⟨4, t.2.1, [], [], zVl, op, [a]⟩ (.slice (some ⟨w5.heap.size, 0, none⟩) 1 1)) 49 HX8.out _ Tryd.underlying49 rfl Tryd.rowExpr ?_)
          | (refine st_row rfl 49 (.tmp 2) (.tmp 29) rfl B (exC ⟨4, t.2.1, [], [], zVl, op, [a]⟩ (.slice (some ⟨w5.heap.size, 0, none⟩) 1 1)) rfl rfl 49 _ HN8.out Tryd.rowExpr rfl (exC_one _ _ rfl) ?_; intro w9 hs9; have HS9 := hid hs9; clear hs9))
        refine ret_row 2 49 rfl B rfl _ 49 HS9.out.blk _ Tryd.underlying49 rfl Tryd.rowExpr rfl ?_
        exact out_row H0.out HG8.out HZ8.out HS9.out (by rw [HB.out]; exact Nat.le_refl _) (by rw [← HR.out]; simp only [unaP, srcP, H0.out.lk, HOP.out, eq_false H00.out, if_false, eq_false HK2.out, HA.out]) ⟨_, d + 1, rfl, HE8.out.keep (fun k hq hl => ⟨HS9.out.grown.block k hl (by simp; omega), by omega⟩) HS9.out.grown.size⟩
end

end Go.Proofs.YtjjajfipfeigiabDoor
