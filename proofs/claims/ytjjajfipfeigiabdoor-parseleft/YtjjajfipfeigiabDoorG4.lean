/- Contracts and pure facts that the proof needs, joined. -/
import Derived.Test.YtjjajfipfeigiabDoorG3
import Derived.Test.YtjjajfipfeigiabDoorG1
import Derived.Recover
import Derived.Defers

/- What stands without signs (written by zprim2.py). -/
namespace Go.Proofs.YtjjajfipfeigiabDoor
open Go.RowKit

theorem pri_val {l : List UInt8} {fuel : Int} {x : Nat → Except Ft (Ex × Nat)} {n lv i : Nat} {t : Tok} (h1 : ¬ txA l t = [40]) (h2 : ¬ t.1 = 1) (hl : lkP l fuel i = .ok t) : priP (srcP l fuel) x n lv i = match valV (srcP l fuel) t with | some v => .ok (⟨1, t.2.1, [], [], v, 0, []⟩, i + 1) | none => .error (badF 140 i t) := by
  simp only [priP, show (srcP l fuel).lk i = .ok t from hl, show (srcP l fuel).tx = txA l from rfl, if_neg h1, if_neg h2]
  cases valV (srcP l fuel) t <;> rfl
theorem val_in {l : List UInt8} {fuel : Int} {i j : Nat} {t : Tok} {a : Vl} (h : aft l fuel (valR l fuel i t) = .ok (a, j)) : valV (srcP l fuel) t = some a ∧ j = i := by
  have h := aft_in h
  unfold valR at h
  cases hv : valV (srcP l fuel) t with
  | none => rw [hv] at h; cases h
  | some v => rw [hv] at h; cases h; exact ⟨rfl, rfl⟩
theorem lit_some {l : List UInt8} {fuel : Int} {t : Tok} {a : Vl} (ht : TokOk l t) (h : valV (srcP l fuel) t = some a) : t.1 ≠ 0 := fun h0 => by
  have hx : txA l t = [] := by unfold txA ttP; rw [ht.fin h0]; simp
  unfold valV at h
  rw [show (srcP l fuel).tx t = [] from hx, h0] at h
  simp at h
theorem yields_build {P : Program} {ops : Array Oper} {S : World → Prop} {o : Oper} {a : Act} (hw : Region.wanted o (yielded ops a.tmps) = true) (t : TypeId) (parts : Array (Nat × Operand)) (ho : o.op = .build t parts)
    (vs : List (Nat × Value)) (hvs : (parts.map fun (i, x) => (i, a.eval x)).toList = vs) (cs : Array Value) (hb : P.built t vs = some cs) : YieldsIf P ops S o (.agg cs) a :=
  .inl ⟨hw, fun w _ => by
    unfold execOp
    simp only [ho, Sem.run_bind, run_build w t (parts.map fun (i, x) => (i, a.eval x)) cs (by rw [hvs]; exact hb), Sem.run_pure, Result.andThen_ok]⟩
theorem srcP_lk (l : List UInt8) (fuel : Int) : (srcP l fuel).lk = lkP l fuel := rfl
theorem srcP_tx (l : List UInt8) (fuel : Int) : (srcP l fuel).tx = txA l := rfl
theorem tak_unit {l : List UInt8} {fuel : Int} {s : List UInt8} {i j : Nat} {t : Tok} {a : Unit} (h : aft l fuel (match takP l s i t with | .error f => Except.error f | .ok (_, j) => .ok ((), j)) = .ok (a, j)) : txA l t = s ∧ j = i + 1 := by
  have h := aft_in h
  unfold takP at h
  split at h
  · rename_i he; split at he <;> cases h
  · rename_i he
    cases h
    split at he
    · rename_i hq; cases he; exact ⟨hq, rfl⟩
    · cases he

section
variable {w w' : World} {b : Nat} {l : List UInt8} {fuel : Int} {i lv : Nat} {t : Tok}
set_option maxRecDepth 20000 in
set_option maxHeartbeats 2000000 in
theorem primary_any {n : Nat} {x : Nat → Except Ft (Ex × Nat)} (hx : Reads l fuel b (lv + 1) 18 x) (hlv : lv ≤ 1000000000) (w : World) (h : Sz w b l fuel i lv t) (hout : priP (srcP l fuel) x n lv i ≠ .error outF) :
    Calls Tryd.prog 105 #[.pointer (some ⟨b, 0, none⟩)] w (Out l fuel b lv (tE w.heap.size) w (aft l fuel (priP (srcP l fuel) x n lv i))) := by
  obtain ⟨R, HR⟩ : ∃ R, Hid (priP (srcP l fuel) x n lv i = R) := ⟨_, rfl⟩
  rw [HR.out] at hout ⊢
  obtain ⟨B, HB⟩ : ∃ B, Hid (w.heap.size = B) := ⟨_, rfl⟩
  rw [HB.out]
  have H0 := hid h
  have HOUT := hid hout
  have HX := hid hx
  have hb1 := below_walk w (.cells zX 49)
  have HN1 := hid (hp_new w (.cells zX 49))
  have hz1 := hp_size w (.cells zX 49)
  have HZ1 := hid (h.below hb1)
  have HG1 := hid (below_gb hb1 (some b))
  have HLT := hid h.pz.lt
  rw [HB.out] at hz1 HLT HN1
  clear h hb1 hout hx
  go_enter Tryd.func105, Tryd.ntmps105
  go_upto_region 1 with (refine al_row rfl 49 rfl zX Tryd.zeroExpr ?_)
  rw [HB.out]
  generalize w.alloc (.cells zX 49) = w1 at *
  have hb2 := below_walk w1 (.cells #[.string (mk [40])] 9)
  have HI := hid (is_any [[40]] _ HZ1.out.ok _ (HZ1.out.below hb2).pz (strs_1 w1 [40]) (by simp))
  have ht : (ttP l t.2.1 t.2.2 ∈ [[40]]) = (txA l t = [40]) := by simp [txA]
  simp only [ht] at HI
  have HN2 := hid ((hb2.block B (hp_lt HN1.out)).trans HN1.out)
  have HZ2 := hid (HZ1.out.below hb2)
  have HG2 := hid (gb_trans HG1.out (below_gb hb2 (some b)))
  have hz2 : B + 2 ≤ (w1.alloc (.cells #[.string (mk [40])] 9)).heap.size := by rw [hp_size]; omega
  clear hb2 ht HN1 HZ1 HG1 hz1
  by_cases hp : txA l t = [40]
  · simp only [decide_eq_true hp] at HI
    have HP := hid hp
    clear hp
    go_upto_region 2 with (first
      | (go_at_call 25; refine HI.out.mono ?_; rintro e w' ⟨rfl, n1, rfl⟩))
    have HN3 : Hid (((w1.alloc (.cells #[.string (mk [40])] 9)).drewN n1).heap[B]? = some (.cells zX 49 (0, 0))) := HN2
    have HZ3 := hid (HZ2.out.drewN n1)
    have HG3 := hid (gbz_drewN HG2.out n1)
    have hz3 : B + 2 ≤ ((w1.alloc (.cells #[.string (mk [40])] 9)).drewN n1).heap.size := hz2
    clear HI HN2 HZ2 HG2 hz2
    generalize (w1.alloc (.cells #[.string (mk [40])] 9)).drewN n1 = w3 at *
    have HO := hid (open_any [40] (by decide) hlv w3 HZ3.out)
    go_wp2_with fail
    refine HO.out.mono ?_
    intro e w4 hO
    obtain ⟨hg, ⟨f, h1, h2, rfl, h4⟩ | ⟨a4, j4, v4, u4, h1, rfl, h3, h4⟩⟩ := out_mono (lv' := lv) (T' := tE B) (r' := aft l fuel R) HG3.out hO (fun f hf => by rw [← HR.out]; have hm := HOUT.out; rw [← HR.out] at hm; refine Or.elim (ope_er hf) (fun ⟨q1, q2⟩ => absurd HP.out q1) (fun hf2 => Or.elim hf2 (fun ⟨q1, q2, q3⟩ => by simp only [priP, srcP_lk, srcP_tx, H0.out.lk, HP.out, if_true, q2, aft, q3]) (fun ⟨q1, q2, q3⟩ => ?_)); simp only [priP, srcP_lk, srcP_tx, H0.out.lk, HP.out, if_true, eq_false q2, if_false] at hm ⊢; rcases HX.out.2.2 _ _ q3 with q4 | q4; (simp only [q4, aft]); (simp only [q4] at hm; exact absurd rfl hm))
    · have H4 := hid h4
      clear h1 h2 h4 hg hO
      go_wp2_with fail
      exact ⟨rfl, H4.out⟩
    · have ho := hO.1
      clear hO
      subst h3
      obtain ⟨_, k2, rfl, rfl⟩ := ope_in h1
      have HK2 := hid k2
      have HZ4 := hid h4
      have HG4 := hid hg
      have HN4 := hid ((ho.block B (hp_lt HN3.out) (by have := HLT.out; simp; omega)).trans HN3.out)
      have hz4 : B + 2 ≤ w4.heap.size := Nat.le_trans hz3 ho.size
      have hxo : x (i + 1) ≠ .error outF := fun q => HOUT.out (by rw [← HR.out]; simp only [priP, srcP_lk, srcP_tx, H0.out.lk, HP.out, if_true, eq_false k2, if_false, q])
      have HC := hid (HX.out.1 w4 (i + 1) u4 h4 hxo)
      clear h1 h4 hg ho k2 hxo HN3 HZ3 HG3 HO
      go_wp2_with fail
      refine HC.out.mono ?_
      intro e w5 hO
      obtain ⟨hgc, ⟨f, h1, h2, rfl, h4⟩ | ⟨a, j, vc, uc, h1c, rfl, h3c, h4c⟩⟩ := out_mono (lv' := lv) (T' := tE B) (r' := aft l fuel R) HG4.out hO (fun f hf => by rw [← HR.out]; exact Or.elim (aft_er hf) (fun q => by simp only [priP, srcP_lk, srcP_tx, H0.out.lk, HP.out, if_true, eq_false HK2.out, if_false, q, aft]) (fun ⟨_, _, q, ql⟩ => by simp only [priP, srcP_lk, srcP_tx, H0.out.lk, HP.out, if_true, eq_false HK2.out, if_false, q, takeP, ql, aft]))
      · have H4 := hid h4
        clear h1 h2 h4 hgc hO
        go_wp2_with fail
        exact ⟨rfl, H4.out⟩
      · have hoc := hO.1
        clear hO
        obtain ⟨kv, d, rfl, hex⟩ := h3c
        have HA := hid (aft_in h1c)
        have HZ5 := hid h4c
        have HG5 := hid hgc
        have HN5 := hid ((hoc.block B (hp_lt HN4.out) (by have := HLT.out; simp; omega)).trans HN4.out)
        have hs5 := hoc.size
        have hb6 := below_walk w5 (.cells (exC a kv).toArray 49)
        have HXw6 : Hid (Xb (w5.alloc (.cells (exC a kv).toArray 49)) w5.heap.size a kv) := hid (hp_new _ _)
        have HNw6 := hid ((hb6.block B (hp_lt HN5.out)).trans HN5.out)
        have HZw6 := hid (HZ5.out.below hb6)
        have HGw6 := hid (gb_trans HG5.out (below_gb hb6 (some b)))
        have HEw6 : Hid (ExS (fun k => B < k) (w5.alloc (.cells (exC a kv).toArray 49)) d kv a.kids) := hid (hex.keep (fun k hq hl => ⟨hb6.block k hl, by omega⟩) hb6.size)
        have HCE := hid hex.cell
        clear h1c h4c hgc hoc hex hb6 HC HN5 HZ5 HG5
        go_upto_region 4 with (first
          | (refine al_row rfl 49 rfl zX Tryd.zeroExpr ?_; refine st_new rfl 49 (.tmp 3) (.tmp 14) rfl (exC a kv) rfl rfl _ _ Tryd.rowExpr rfl (exC_one _ _ HCE.out) ?_))
        try simp only [Act.put, List.setIfInBounds_toArray, List.set_cons_succ, List.set_cons_zero]
        generalize w5.alloc (.cells (exC a kv).toArray 49) = w6 at *
        obtain ⟨g, HGG⟩ : ∃ g, Hid (w5.heap.size = g) := ⟨_, rfl⟩
        rw [HGG.out] at HXw6 hs5 ⊢
        have HK := hid (shut_any [41] (by decide) hlv w6 HZw6.out)
        go_wp2_with fail
        refine HK.out.mono ?_
        intro e w7 hO
        obtain ⟨hgd, ⟨f, h1, h2, rfl, h4⟩ | ⟨a7, j7, vd, ud, h1d, rfl, h3d, h4d⟩⟩ := out_mono (lv' := lv) (T' := tE B) (r' := aft l fuel R) HGw6.out hO (fun f hf => by rw [← HR.out]; rcases aft_er hf with q | ⟨_, _, q, ql⟩; (by_cases q41 : txA l uc = [41]); (simp only [takP, q41, if_true] at q; cases q); (simp only [takP, eq_false q41, if_false] at q; simp only [priP, srcP_lk, srcP_tx, H0.out.lk, HP.out, if_true, eq_false HK2.out, if_false, HA.out, takeP, HZw6.out.lk, eq_false q41, aft]; cases q; rfl); (by_cases q41 : txA l uc = [41]); (simp only [takP, q41, if_true] at q; cases q; simp only [priP, srcP_lk, srcP_tx, H0.out.lk, HP.out, if_true, eq_false HK2.out, if_false, HA.out, takeP, HZw6.out.lk, q41, aft, ql]); (simp only [takP, eq_false q41, if_false] at q; cases q))
        · have H4 := hid h4
          clear h1 h2 h4 hgd hO
          go_wp2_with fail
          exact ⟨rfl, H4.out⟩
        · have hod := hO.1
          clear hO
          subst h3d
          have HTK := hid (tak_unit h1d)
          have HZw7 := hid h4d
          have HGw7 := hid hgd
          have HXw7 : Hid (Xb w7 g a kv) := hid ((hod.block g (hp_lt HXw6.out) (by have := HLT.out; simp; omega)).trans HXw6.out)
          have HNw7 := hid ((hod.block B (hp_lt HNw6.out) (by have := HLT.out; simp; omega)).trans HNw6.out)
          have HEw7 : Hid (ExS (fun k => B < k) w7 d kv a.kids) := hid (HEw6.out.keep (fun k hq hl => ⟨hod.block k hl (by have := HLT.out; simp; omega), hq⟩) hod.size)
          clear h1d h4d hgd hod
          go_wp2_with (first
            | (refine ld_row rfl 49 (.tmp 3) rfl g rfl (exC a kv) 49 HXw7.out _ Tryd.underlying49 rfl Tryd.rowExpr ?_)
            | (refine st_row rfl 49 (.tmp 2) (.tmp 17) rfl B (exC a kv) rfl rfl 49 _ HNw7.out Tryd.rowExpr rfl (exC_one _ _ HCE.out) ?_; intro w9 hs9; have HS9 := hid hs9; clear hs9))
          refine ret_row 2 49 rfl B rfl _ 49 HS9.out.blk _ Tryd.underlying49 rfl Tryd.rowExpr rfl ?_
          exact out_row H0.out HGw7.out HZw7.out HS9.out (by rw [HB.out]; exact Nat.le_refl _) (by rw [← HR.out]; simp only [priP, srcP_lk, srcP_tx, H0.out.lk, HP.out, if_true, eq_false HK2.out, if_false, HA.out, takeP, HZw6.out.lk, HTK.out.1, HTK.out.2]) ⟨_, d, rfl, HEw7.out.keep (fun k hq hl => ⟨HS9.out.grown.block k hl (by simp; omega), by omega⟩) HS9.out.grown.size⟩
  · simp only [decide_eq_false hp] at HI
    have HP := hid hp
    clear hp
    have HN3 : Hid (∀ q, ((w1.alloc (.cells #[.string (mk [40])] 9)).drewN q).heap[B]? = some (.cells zX 49 (0, 0))) := hid (fun q => HN2.out)
    by_cases hk : t.1 = 1
    · have q1 : (t.1 : Int) = 1 := by omega
      have HK := hid hk
      have c1 : ∀ q, ((w1.alloc (.cells #[.string (mk [40])] 9)).drewN q).cell? ⟨b, 1, none⟩ = some (.int .i64 1) := fun q => by rw [← q1]; exact HZ2.out.pz.c1
      have c2 : ∀ q, ((w1.alloc (.cells #[.string (mk [40])] 9)).drewN q).cell? ⟨b, 2, none⟩ = some (.int .i64 (t.2.1 : Int)) := fun q => HZ2.out.pz.c2
      clear hk q1
      go_upto_region 8 with (first
        | (go_at_call 25; refine HI.out.mono ?_; rintro e w' ⟨rfl, n1, rfl⟩))
      have HN3 : Hid (((w1.alloc (.cells #[.string (mk [40])] 9)).drewN n1).heap[B]? = some (.cells zX 49 (0, 0))) := HN2
      have HZ3 := hid (HZ2.out.drewN n1)
      have HG3 := hid (gbz_drewN HG2.out n1)
      have hz3 : B + 2 ≤ ((w1.alloc (.cells #[.string (mk [40])] 9)).drewN n1).heap.size := hz2
      clear HI HN2 HZ2 HG2 hz2 c1 c2
      generalize (w1.alloc (.cells #[.string (mk [40])] 9)).drewN n1 = w3 at *
      have HW := hid (pword_any w3 HZ3.out)
      go_wp2_with fail
      refine HW.out.mono ?_
      intro e w4 hO
      obtain ⟨hg, ⟨f, h1, h2, rfl, h4⟩ | ⟨a4, j4, v4, u4, h1, rfl, h3, h4⟩⟩ := out_mono (lv' := lv) (T' := tE B) (r' := aft l fuel R) HG3.out hO (fun f hf => Or.elim (wor_er hf) (fun ⟨q1, q2⟩ => absurd HK.out q1) (fun ⟨q1, q2⟩ => by rw [← HR.out]; simp only [priP, srcP_lk, srcP_tx, H0.out.lk, eq_false HP.out, if_false, HK.out, if_true, namP, q2, aft]))
      · have H4 := hid h4
        clear h1 h2 h4 hg hO
        go_wp2_with fail
        exact ⟨rfl, H4.out⟩
      · have ho := hO.1
        clear hO
        subst h3
        obtain ⟨_, rfl, rfl⟩ := wor_in h1
        have HZ4 := hid h4
        have HG4 := hid hg
        have HN4 := hid ((ho.block B (hp_lt HN3.out) (by have := HLT.out; simp; omega)).trans HN3.out)
        have hz4 : B + 2 ≤ w4.heap.size := Nat.le_trans hz3 ho.size
        clear h1 h4 hg ho HN3 HZ3 HG3 HW
        have HM := hid (pnamed_any t.2.1 (txA l t) w4 HZ4.out)
        go_wp2_with fail
        refine HM.out.mono ?_
        intro e w5 hO
        obtain ⟨hgc, ⟨f, h1, h2, rfl, h4⟩ | ⟨a, j, vc, uc, h1c, rfl, h3c, h4c⟩⟩ := out_mono (lv' := lv) (T' := tE B) (r' := aft l fuel R) HG4.out hO (fun f hf => by rw [← HR.out]; exact Or.elim (aft_er hf) (fun q => by simp only [priP, srcP_lk, srcP_tx, H0.out.lk, eq_false HP.out, if_false, HK.out, if_true, q, aft]) (fun ⟨_, _, q, ql⟩ => by simp only [priP, srcP_lk, srcP_tx, H0.out.lk, eq_false HP.out, if_false, HK.out, if_true, q, ql, aft]))
        · have H4 := hid h4
          clear h1 h2 h4 hgc hO
          go_wp2_with fail
          exact ⟨rfl, H4.out⟩
        · have hoc := hO.1
          clear hO
          obtain ⟨kv, d, rfl, hex⟩ := h3c
          have HA := hid (aft_in h1c)
          have HZ5 := hid h4c
          have HG5 := hid hgc
          have HN5 := hid ((hoc.block B (hp_lt HN4.out) (by have := HLT.out; simp; omega)).trans HN4.out)
          have hs5 := hoc.size
          have hb6 := below_walk w5 (.cells (exC a kv).toArray 49)
          have HX6 : Hid (Xb (w5.alloc (.cells (exC a kv).toArray 49)) w5.heap.size a kv) := hid (hp_new _ _)
          have HN6 := hid ((hb6.block B (hp_lt HN5.out)).trans HN5.out)
          have HZ6 := hid (HZ5.out.below hb6)
          have HG6 := hid (gb_trans HG5.out (below_gb hb6 (some b)))
          have HE6 : Hid (ExS (fun k => B < k) (w5.alloc (.cells (exC a kv).toArray 49)) d kv a.kids) := hid (hex.keep (fun k hq hl => ⟨hb6.block k hl, by omega⟩) hb6.size)
          have HCE := hid hex.cell
          clear h1c h4c hgc hoc hex hb6 HM HN5 HZ5 HG5
          go_upto_region 9 with (first
            | (refine al_row rfl 49 rfl zX Tryd.zeroExpr ?_; refine st_new rfl 49 (.tmp 5) (.tmp 34) rfl (exC a kv) rfl rfl _ _ Tryd.rowExpr rfl (exC_one _ _ HCE.out) ?_))
          try simp only [Act.put, List.setIfInBounds_toArray, List.set_cons_succ, List.set_cons_zero]
          generalize w5.alloc (.cells (exC a kv).toArray 49) = w6 at *
          obtain ⟨g, HGG⟩ : ∃ g, Hid (w5.heap.size = g) := ⟨_, rfl⟩
          rw [HGG.out] at HX6 hs5 ⊢
          have hb7 := below_walk w6 (.cells #[.string (mk [40])] 9)
          have HI := hid (is_any [[40]] _ HZ6.out.ok _ (HZ6.out.below hb7).pz (strs_1 w6 [40]) (by simp))
          have ht : (ttP l uc.2.1 uc.2.2 ∈ [[40]]) = (txA l uc = [40]) := by simp [txA]
          simp only [ht] at HI
          have HX7 : Hid (Xb (w6.alloc (.cells #[.string (mk [40])] 9)) g a kv) := hid ((hb7.block g (hp_lt HX6.out)).trans HX6.out)
          have HN7 := hid ((hb7.block B (hp_lt HN6.out)).trans HN6.out)
          have HZ7 := hid (HZ6.out.below hb7)
          have HG7 := hid (gb_trans HG6.out (below_gb hb7 (some b)))
          have HE7 : Hid (ExS (fun k => B < k) (w6.alloc (.cells #[.string (mk [40])] 9)) d kv a.kids) := hid (HE6.out.keep (fun k hq hl => ⟨hb7.block k hl, hq⟩) hb7.size)
          have hs7 : g ≤ (w6.alloc (.cells #[.string (mk [40])] 9)).heap.size := Nat.le_of_lt (hp_lt HX7.out)
          clear hb7 ht HX6 HN6 HG6 HE6
          by_cases hc : txA l uc = [40]
          · simp only [decide_eq_true hc] at HI
            have HCC := hid hc
            clear hc
            go_upto_region 10 with (first
              | (go_at_call 25; refine HI.out.mono ?_; rintro e w' ⟨rfl, n2, rfl⟩))
            have HX8 : Hid (Xb ((w6.alloc (.cells #[.string (mk [40])] 9)).drewN n2) g a kv) := HX7
            have HN8 : Hid (((w6.alloc (.cells #[.string (mk [40])] 9)).drewN n2).heap[B]? = some (.cells zX 49 (0, 0))) := HN7
            have HZ8 := hid (HZ7.out.drewN n2)
            have HG8 := hid (gbz_drewN HG7.out n2)
            have hs8 : g < ((w6.alloc (.cells #[.string (mk [40])] 9)).drewN n2).heap.size := hp_lt HX7.out
            clear HI HX7 HN7 HZ7 HG7 HE7 hs7
            generalize (w6.alloc (.cells #[.string (mk [40])] 9)).drewN n2 = w8 at *
            have hco : calP (srcP l fuel) x n lv a j ≠ .error outF := fun q => HOUT.out (by rw [← HR.out]; simp only [priP, srcP_lk, srcP_tx, H0.out.lk, eq_false HP.out, if_false, HK.out, if_true, HA.out, HZ6.out.lk, HCC.out, q])
            have HCL := hid (callE_any HX.out hlv a kv w8 HZ8.out hco)
            clear hco
            go_wp2_with (first
              | (refine ld_row rfl 49 (.tmp 5) rfl g rfl (exC a kv) 49 HX8.out _ Tryd.underlying49 rfl Tryd.rowExpr ?_))
            refine HCL.out.mono ?_
            intro e w9 hO
            obtain ⟨hgd, ⟨f, h1, h2, rfl, h4⟩ | ⟨a9, j9, vd, ud, h1d, rfl, h3d, h4d⟩⟩ := out_mono (lv' := lv) (T' := tE B) (r' := aft l fuel R) HG8.out hO (fun f hf => by rw [← HR.out]; simp only [priP, srcP_lk, srcP_tx, H0.out.lk, eq_false HP.out, if_false, HK.out, if_true, HA.out, HZ6.out.lk, HCC.out]; exact hf)
            · have H4 := hid h4
              clear h1 h2 h4 hgd hO
              go_wp2_with fail
              exact ⟨rfl, H4.out⟩
            · have hod := hO.1
              clear hO
              obtain ⟨kv9, d9, rfl, hex⟩ := h3d
              have HA9 := hid (aft_in h1d)
              have HZ9 := hid h4d
              have HG9 := hid hgd
              have HN9 := hid ((hod.block B (hp_lt HN8.out) (by have := HLT.out; simp; omega)).trans HN8.out)
              have HE9 := hid hex
              clear h1d h4d hgd hod hex
              go_wp2_with (first
                | (refine st_row rfl 49 (.tmp 2) (.tmp 40) rfl B (exC a9 kv9) rfl rfl 49 _ HN9.out Tryd.rowExpr rfl (exC_one _ _ HE9.out.cell) ?_; intro w10 hs10; have HS10 := hid hs10; clear hs10))
              refine ret_row 2 49 rfl B rfl _ 49 HS10.out.blk _ Tryd.underlying49 rfl Tryd.rowExpr rfl ?_
              exact out_row H0.out HG9.out HZ9.out HS10.out (by rw [HB.out]; exact Nat.le_refl _) (by rw [← HR.out]; simp only [priP, srcP_lk, srcP_tx, H0.out.lk, eq_false HP.out, if_false, HK.out, if_true, HA.out, HZ6.out.lk, HCC.out]; exact HA9.out) ⟨_, d9, rfl, HE9.out.keep (fun k hq hl => ⟨HS10.out.grown.block k hl (by simp; omega), by omega⟩) HS10.out.grown.size⟩
          · simp only [decide_eq_false hc] at HI
            have HCC := hid hc
            clear hc
            go_upto_region 11 with (first
              | (go_at_call 25; refine HI.out.mono ?_; rintro e w' ⟨rfl, n2, rfl⟩))
            have HXw8 : Hid (Xb ((w6.alloc (.cells #[.string (mk [40])] 9)).drewN n2) g a kv) := HX7
            have HNw8 : Hid (((w6.alloc (.cells #[.string (mk [40])] 9)).drewN n2).heap[B]? = some (.cells zX 49 (0, 0))) := HN7
            have HZw8 := hid (HZ7.out.drewN n2)
            have HGw8 := hid (gbz_drewN HG7.out n2)
            have HEw8 : Hid (ExS (fun k => B < k) ((w6.alloc (.cells #[.string (mk [40])] 9)).drewN n2) d kv a.kids) := hid (HE7.out.keep (w := w6.alloc (.cells #[.string (mk [40])] 9)) (w' := (w6.alloc (.cells #[.string (mk [40])] 9)).drewN n2) (fun k hq hl => ⟨rfl, hq⟩) (Nat.le_refl (w6.alloc (.cells #[.string (mk [40])] 9)).heap.size))
            clear HI HX7 HN7 HZ7 HG7 HE7 hs7
            generalize (w6.alloc (.cells #[.string (mk [40])] 9)).drewN n2 = w8 at *
            go_wp2_with (first
              | (refine ld_row rfl 49 (.tmp 5) rfl g rfl (exC a kv) 49 HXw8.out _ Tryd.underlying49 rfl Tryd.rowExpr ?_)
              | (refine st_row rfl 49 (.tmp 2) (.tmp 41) rfl B (exC a kv) rfl rfl 49 _ HNw8.out Tryd.rowExpr rfl (exC_one _ _ HCE.out) ?_; intro w9 hs9; have HS9 := hid hs9; clear hs9))
            refine ret_row 2 49 rfl B rfl _ 49 HS9.out.blk _ Tryd.underlying49 rfl Tryd.rowExpr rfl ?_
            exact out_row H0.out HGw8.out HZw8.out HS9.out (by rw [HB.out]; exact Nat.le_refl _) (by rw [← HR.out]; simp only [priP, srcP_lk, srcP_tx, H0.out.lk, eq_false HP.out, if_false, HK.out, if_true, HA.out, HZ6.out.lk, eq_false HCC.out]) ⟨_, d, rfl, HEw8.out.keep (fun k hq hl => ⟨HS9.out.grown.block k hl (by simp; omega), by omega⟩) HS9.out.grown.size⟩
    · have q1 : ¬ (t.1 : Int) = 1 := by omega
      have HK := hid hk
      have c1 : ∀ q, ((w1.alloc (.cells #[.string (mk [40])] 9)).drewN q).cell? ⟨b, 1, none⟩ = some (.int .i64 (t.1 : Int)) := fun q => HZ2.out.pz.c1
      clear hk
      go_upto_region 12 with (first
        | (go_at_call 25; refine HI.out.mono ?_; rintro e w' ⟨rfl, n1, rfl⟩))
      have HN3 : Hid (((w1.alloc (.cells #[.string (mk [40])] 9)).drewN n1).heap[B]? = some (.cells zX 49 (0, 0))) := HN2
      have HZ3 := hid (HZ2.out.drewN n1)
      have HG3 := hid (gbz_drewN HG2.out n1)
      have hz3 : B + 2 ≤ ((w1.alloc (.cells #[.string (mk [40])] 9)).drewN n1).heap.size := hz2
      clear HI HN2 HZ2 HG2 hz2 c1
      generalize (w1.alloc (.cells #[.string (mk [40])] 9)).drewN n1 = w3 at *
      have HV := hid (fun W (hz : Sz W b l fuel i lv t) => value_any W hz)
      have HDR := hid (show Below w3.heap.size w3 w3.drew from (Below.refl _ _).drew)
      refine wp_region_held_drew (S := fun W => Sz W b l fuel i lv t) (by kernel_rfl) (HZ3.out.below HDR.out) ?_
      intro hHeld
      refine wpAnyH_take (i := 0) (v := .pointer (some ⟨b, 0, none⟩)) rfl (by kernel_rfl) (by kernel_rfl) (by kernel_rfl) (fun _ _ _ h => h) (Or.inl ⟨by rfl, fun W _ => by go_simp⟩) hHeld ?_
      simp only [Act.put, List.getElem_toArray, List.getElem_cons_zero, List.setIfInBounds_toArray, List.set_cons_succ, List.set_cons_zero]
      refine wpAnyH_take (i := 1) (v := .pointer (some ⟨b, 0, none⟩)) rfl (by kernel_rfl) (by kernel_rfl) (by kernel_rfl) (fun _ _ _ h => h) (Or.inl ⟨by rfl, fun W _ => by go_simp⟩) hHeld ?_
      simp only [Act.put, List.getElem_toArray, List.getElem_cons_zero, List.getElem_cons_succ, List.setIfInBounds_toArray, List.set_cons_succ, List.set_cons_zero]
      refine wpAnyH_take (i := 2) (v := .pointer (some ⟨b, 1, none⟩)) rfl (by kernel_rfl) (by kernel_rfl) (by kernel_rfl) (fun _ _ _ h => h) (Or.inl ⟨by rfl, fun W _ => by go_simp⟩) hHeld ?_
      simp only [Act.put, List.getElem_toArray, List.getElem_cons_zero, List.getElem_cons_succ, List.setIfInBounds_toArray, List.set_cons_succ, List.set_cons_zero]
      refine wpAnyH_take (i := 3) (v := .pointer (some ⟨b, 2, none⟩)) rfl (by kernel_rfl) (by kernel_rfl) (by kernel_rfl) (fun _ _ _ h => h) (Or.inl ⟨by rfl, fun W _ => by go_simp⟩) hHeld ?_
      simp only [Act.put, List.getElem_toArray, List.getElem_cons_zero, List.getElem_cons_succ, List.setIfInBounds_toArray, List.set_cons_succ, List.set_cons_zero]
      refine wpAnyH_take (i := 4) (v := .int .i64 (t.2.1 : Int)) rfl (by kernel_rfl) (by kernel_rfl) (by kernel_rfl) (fun _ _ _ h => h) (Or.inl ⟨by rfl, fun W hW => by have hcell := hW.pz.c2; clear hW; go_simp⟩) hHeld ?_
      simp only [Act.put, List.getElem_toArray, List.getElem_cons_zero, List.getElem_cons_succ, List.setIfInBounds_toArray, List.set_cons_succ, List.set_cons_zero]
      refine wpAnyH_take (i := 5) (v := .pointer (some ⟨b, 0, none⟩)) rfl (by kernel_rfl) (by kernel_rfl) (by kernel_rfl) (fun _ _ _ h => h) (Or.inl ⟨by rfl, fun W _ => by go_simp⟩) hHeld ?_
      simp only [Act.put, List.getElem_toArray, List.getElem_cons_zero, List.getElem_cons_succ, List.setIfInBounds_toArray, List.set_cons_succ, List.set_cons_zero]
      refine wpAnyH_ready (rs := [6, 8]) (by kernel_rfl) (by simp) ?_
      refine AllReadyH.cons rfl (fun K hK => ?_) (AllReadyH.cons rfl (fun K hK => ?_) AllReadyH.nil)
      · skip
        go_simp
        refine (HV.out _ hHeld).mono ?_
        intro e w5 hO
        obtain ⟨hg, ⟨f, h1, h2, rfl, h4⟩ | ⟨a, j5, v5, u5, h1, rfl, h3, h4⟩⟩ := out_mono (lv' := lv) (T' := tE B) (r' := aft l fuel R) (gb_trans HG3.out (below_gb HDR.out (some b))) hO (fun f hf => by rw [← HR.out]; exact Or.elim (aft_er hf) (fun q => by rw [pri_val HP.out HK.out H0.out.lk]; unfold valR at q; cases hv : valV (srcP l fuel) t with | none => (rw [hv] at q; simp only [aft]; cases q; rfl) | some v => (rw [hv] at q; cases q)) (fun ⟨_, _, q, ql⟩ => by unfold valR at q; cases hv : valV (srcP l fuel) t with | none => (rw [hv] at q; cases q) | some v => (rw [hv] at q; cases q; rw [H0.out.lk] at ql; cases ql)))
        · have H4 := hid h4
          clear h1 h2 h4 hg hO
          go_wp2_with fail
          exact ⟨rfl, H4.out⟩
        · have ho := hO.1
          clear hO
          subst h3
          have HVV := hid (val_in h1)
          obtain ⟨rfl, rfl⟩ : i = j5 ∧ t = u5 := by have e1 := HVV.out.2; exact ⟨e1.symm, by have := h4.lk; rw [e1, H0.out.lk] at this; exact Except.ok.inj this⟩
          have HZ5 := hid h4
          have HG5 := hid hg
          have hod3 : w3.grownBy w5 (some b) := gb_trans (below_gb HDR.out (some b)) ho
          have HN5 := hid ((hod3.block B (hp_lt HN3.out) (by have := HLT.out; simp; omega)).trans HN3.out)
          have hs5 : B + 2 ≤ w5.heap.size := Nat.le_trans hz3 hod3.size
          clear h1 h4 hg ho hod3
          go_wp2_with fail
          refine hK.out _ _ HZ5.out (fun hHeld => ?_)
          clear hK K
          try simp only [Act.put, List.getElem_toArray, List.getElem_cons_zero, List.getElem_cons_succ, List.setIfInBounds_toArray, List.set_cons_succ, List.set_cons_zero]
          refine wpAnyH_take (i := 7) (v := .agg (exC ⟨1, t.2.1, [], [], a, 0, []⟩ (.slice none 0 0)).toArray) rfl (by kernel_rfl) (by kernel_rfl) (by kernel_rfl) (fun _ _ _ h => h) (yields_build (by rfl) 49 #[(0, .const (.int .i64 1)), (1, .tmp 46), (4, .tmp 48)] rfl [(0, .int .i64 1), (1, .int .i64 (t.2.1 : Int)), (4, .agg (vlC a).toArray)] (by simp [Act.eval]) _ (by kernel_rfl)) hHeld ?_
          simp only [Act.put, List.getElem_toArray, List.getElem_cons_zero, List.getElem_cons_succ, List.setIfInBounds_toArray, List.set_cons_succ, List.set_cons_zero]
          refine wpAnyH_ready (rs := [8]) (by kernel_rfl) (by simp) ?_
          refine AllReadyH.cons rfl (fun K hK => ?_) AllReadyH.nil
          refine step_alloc_row rfl 49 rfl _ Tryd.zeroExpr ?_
          have hb6 := below_walk w5 (.cells zX 49)
          have HZ6 := hid (HZ5.out.below hb6)
          have HG6 := hid (gb_trans HG5.out (below_gb hb6 (some b)))
          have HN6 := hid ((hb6.block B (hp_lt HN5.out)).trans HN5.out)
          have HNW := hid (hp_new w5 (.cells zX 49))
          clear hb6
          refine hK.out _ _ HZ6.out (fun hHeld => ?_)
          clear hK K
          try simp only [Act.put, List.getElem_toArray, List.getElem_cons_zero, List.getElem_cons_succ, List.setIfInBounds_toArray, List.set_cons_succ, List.set_cons_zero]
          refine wpAnyH_ready (rs := [9]) (by kernel_rfl) (by simp) ?_
          refine AllReadyH.cons rfl (fun K hK => ?_) AllReadyH.nil
          refine step_store_row rfl 49 (.tmp 6) (.tmp 49) rfl w5.heap.size (exC ⟨1, t.2.1, [], [], a, 0, []⟩ (.slice none 0 0)) rfl rfl 49 _ HNW.out Tryd.rowExpr rfl (exC_one _ _ rfl) ?_
          intro w7 hs7
          have hgl : B < w5.heap.size := by omega
          have HZ7 := hid (H0.out.new HZ6.out hs7.grown (by rw [HB.out]; omega))
          have HG7 := hid (gb_new HG6.out hs7.grown (by rw [HB.out]; omega))
          have HN7 := hid ((hs7.grown.block B (hp_lt HN6.out) (by simp; omega)).trans HN6.out)
          have HX7 : Hid (Xb w7 w5.heap.size ⟨1, t.2.1, [], [], a, 0, []⟩ (.slice none 0 0)) := hid hs7.blk
          refine hK.out _ _ HZ7.out (fun hHeld => ?_)
          clear hK K hs7
          try simp only [Act.put, List.getElem_toArray, List.getElem_cons_zero, List.getElem_cons_succ]
          refine wpAnyH_done (by kernel_rfl) ?_ _
          clear hHeld
          obtain ⟨g, HGG⟩ : ∃ g, Hid (w5.heap.size = g) := ⟨_, rfl⟩
          rw [HGG.out] at HX7 hgl
          first | rw [HGG.out] | rw [show w3.drew.heap.size = g from HGG.out]
          have HKW := hid (next_sz w7 HZ7.out (lit_some HZ7.out.ok HVV.out.1))
          go_wp2_with fail
          refine HKW.out.mono ?_
          intro e w8 hO
          obtain ⟨hgd, ⟨f, h1, h2, rfl, h4⟩ | ⟨ad, j8, vd, ud, h1d, rfl, h3d, h4d⟩⟩ := out_mono (lv' := lv) (T' := tE B) (r' := aft l fuel R) HG7.out hO (fun f hf => by rw [← HR.out, pri_val HP.out HK.out H0.out.lk, HVV.out.1]; exact aft_err hf)
          · have H4 := hid h4
            clear h1 h2 h4 hgd hO
            go_wp2_with fail
            exact ⟨rfl, H4.out⟩
          · have hod := hO.1
            clear hO
            subst h3d
            obtain ⟨_, rfl⟩ := aft_get h1d
            have HZw8 := hid h4d
            have HGw8 := hid hgd
            have HXw8 : Hid (Xb w8 g ⟨1, t.2.1, [], [], a, 0, []⟩ (.slice none 0 0)) := hid ((hod.block g (hp_lt HX7.out) (by have := HLT.out; simp; omega)).trans HX7.out)
            have HNw8 := hid ((hod.block B (hp_lt HN7.out) (by have := HLT.out; simp; omega)).trans HN7.out)
            have HEw8 : Hid (ExS (fun k => B < k) w8 0 (.slice none 0 0) []) := hid (ExS.none _ _)
            clear h1d h4d hgd hod
            go_wp2_with (first
              | (refine ld_row rfl 49 (.tmp 6) rfl g rfl (exC ⟨1, t.2.1, [], [], a, 0, []⟩ (.slice none 0 0)) 49 HXw8.out _ Tryd.underlying49 rfl Tryd.rowExpr ?_)
              | (refine st_row rfl 49 (.tmp 2) (.tmp 52) rfl B (exC ⟨1, t.2.1, [], [], a, 0, []⟩ (.slice none 0 0)) rfl rfl 49 _ HNw8.out Tryd.rowExpr rfl (exC_one _ _ rfl) ?_; intro w9 hs9; have HS9 := hid hs9; clear hs9))
            refine ret_row 2 49 rfl B rfl _ 49 HS9.out.blk _ Tryd.underlying49 rfl Tryd.rowExpr rfl ?_
            exact out_row H0.out HGw8.out HZw8.out HS9.out (by rw [HB.out]; exact Nat.le_refl _) (by rw [← HR.out, pri_val HP.out HK.out H0.out.lk, HVV.out.1]) ⟨_, 0, rfl, HEw8.out.keep (fun k hq hl => ⟨HS9.out.grown.block k hl (by simp; omega), by omega⟩) HS9.out.grown.size⟩
      · skip
        refine step_alloc_row rfl 49 rfl _ Tryd.zeroExpr ?_
        have hb4 : Below w3.heap.size w3 (w3.drew.alloc (.cells zX 49)) := HDR.out.trans (below_walk w3.drew (.cells zX 49))
        have HZ4 := hid (HZ3.out.below hb4)
        have HG4 := hid (gb_trans HG3.out (below_gb hb4 (some b)))
        have HN4 := hid ((hb4.block B (hp_lt HN3.out)).trans HN3.out)
        have HNW4 := hid (show (w3.drew.alloc (.cells zX 49)).heap[w3.heap.size]? = some (.cells zX 49 (0, 0)) from hp_new w3.drew (.cells zX 49))
        clear hb4
        refine hK.out _ _ HZ4.out (fun hHeld => ?_)
        clear hK K
        try simp only [Act.put, List.getElem_toArray, List.getElem_cons_zero, List.getElem_cons_succ, List.setIfInBounds_toArray, List.set_cons_succ, List.set_cons_zero]
        generalize w3.drew.alloc (.cells zX 49) = w4 at *
        refine wpAnyH_ready (rs := [6]) (by kernel_rfl) (by simp) ?_
        refine AllReadyH.cons rfl (fun K hK => ?_) AllReadyH.nil
        go_simp
        refine (HV.out _ HZ4.out).mono ?_
        intro e w5 hO
        obtain ⟨hg, ⟨f, h1, h2, rfl, h4⟩ | ⟨a, j5, v5, u5, h1, rfl, h3, h4⟩⟩ := out_mono (lv' := lv) (T' := tE B) (r' := aft l fuel R) HG4.out hO (fun f hf => by rw [← HR.out]; exact Or.elim (aft_er hf) (fun q => by rw [pri_val HP.out HK.out H0.out.lk]; unfold valR at q; cases hv : valV (srcP l fuel) t with | none => (rw [hv] at q; simp only [aft]; cases q; rfl) | some v => (rw [hv] at q; cases q)) (fun ⟨_, _, q, ql⟩ => by unfold valR at q; cases hv : valV (srcP l fuel) t with | none => (rw [hv] at q; cases q) | some v => (rw [hv] at q; cases q; rw [H0.out.lk] at ql; cases ql)))
        · have H4 := hid h4
          clear h1 h2 h4 hg hO
          go_wp2_with fail
          exact ⟨rfl, H4.out⟩
        · have ho := hO.1
          clear hO
          subst h3
          have HVV := hid (val_in h1)
          obtain ⟨rfl, rfl⟩ : i = j5 ∧ t = u5 := by have e1 := HVV.out.2; exact ⟨e1.symm, by have := h4.lk; rw [e1, H0.out.lk] at this; exact Except.ok.inj this⟩
          have HZ5 := hid h4
          have HG5 := hid hg
          have HN6 := hid ((ho.block B (hp_lt HN4.out) (by have := HLT.out; simp; omega)).trans HN4.out)
          have HNW := hid ((ho.block w3.heap.size (hp_lt HNW4.out) (by have := HLT.out; simp; omega)).trans HNW4.out)
          have HZ6 := HZ5
          have HG6 := HG5
          clear h1 h4 hg ho
          go_wp2_with fail
          refine hK.out _ _ HZ5.out (fun hHeld => ?_)
          clear hK K
          try simp only [Act.put, List.getElem_toArray, List.getElem_cons_zero, List.getElem_cons_succ, List.setIfInBounds_toArray, List.set_cons_succ, List.set_cons_zero]
          refine wpAnyH_take (i := 7) (v := .agg (exC ⟨1, t.2.1, [], [], a, 0, []⟩ (.slice none 0 0)).toArray) rfl (by kernel_rfl) (by kernel_rfl) (by kernel_rfl) (fun _ _ _ h => h) (yields_build (by rfl) 49 #[(0, .const (.int .i64 1)), (1, .tmp 46), (4, .tmp 48)] rfl [(0, .int .i64 1), (1, .int .i64 (t.2.1 : Int)), (4, .agg (vlC a).toArray)] (by simp [Act.eval]) _ (by kernel_rfl)) hHeld ?_
          simp only [Act.put, List.getElem_toArray, List.getElem_cons_zero, List.getElem_cons_succ, List.setIfInBounds_toArray, List.set_cons_succ, List.set_cons_zero]
          refine wpAnyH_ready (rs := [9]) (by kernel_rfl) (by simp) ?_
          refine AllReadyH.cons rfl (fun K hK => ?_) AllReadyH.nil
          refine step_store_row rfl 49 (.tmp 6) (.tmp 49) rfl w3.heap.size (exC ⟨1, t.2.1, [], [], a, 0, []⟩ (.slice none 0 0)) rfl rfl 49 _ HNW.out Tryd.rowExpr rfl (exC_one _ _ rfl) ?_
          intro w7 hs7
          have hgl : B < w3.heap.size := by omega
          have HZ7 := hid (H0.out.new HZ6.out hs7.grown (by rw [HB.out]; omega))
          have HG7 := hid (gb_new HG6.out hs7.grown (by rw [HB.out]; omega))
          have HN7 := hid ((hs7.grown.block B (hp_lt HN6.out) (by simp; omega)).trans HN6.out)
          have HX7 : Hid (Xb w7 w3.heap.size ⟨1, t.2.1, [], [], a, 0, []⟩ (.slice none 0 0)) := hid hs7.blk
          refine hK.out _ _ HZ7.out (fun hHeld => ?_)
          clear hK K hs7
          try simp only [Act.put, List.getElem_toArray, List.getElem_cons_zero, List.getElem_cons_succ]
          refine wpAnyH_done (by kernel_rfl) ?_ _
          clear hHeld
          obtain ⟨g, HGG⟩ : ∃ g, Hid (w3.heap.size = g) := ⟨_, rfl⟩
          rw [HGG.out] at HX7 hgl
          first | rw [HGG.out] | rw [show w3.drew.heap.size = g from HGG.out]
          have HKW := hid (next_sz w7 HZ7.out (lit_some HZ7.out.ok HVV.out.1))
          go_wp2_with fail
          refine HKW.out.mono ?_
          intro e w8 hO
          obtain ⟨hgd, ⟨f, h1, h2, rfl, h4⟩ | ⟨ad, j8, vd, ud, h1d, rfl, h3d, h4d⟩⟩ := out_mono (lv' := lv) (T' := tE B) (r' := aft l fuel R) HG7.out hO (fun f hf => by rw [← HR.out, pri_val HP.out HK.out H0.out.lk, HVV.out.1]; exact aft_err hf)
          · have H4 := hid h4
            clear h1 h2 h4 hgd hO
            go_wp2_with fail
            exact ⟨rfl, H4.out⟩
          · have hod := hO.1
            clear hO
            subst h3d
            obtain ⟨_, rfl⟩ := aft_get h1d
            have HZw8 := hid h4d
            have HGw8 := hid hgd
            have HXw8 : Hid (Xb w8 g ⟨1, t.2.1, [], [], a, 0, []⟩ (.slice none 0 0)) := hid ((hod.block g (hp_lt HX7.out) (by have := HLT.out; simp; omega)).trans HX7.out)
            have HNw8 := hid ((hod.block B (hp_lt HN7.out) (by have := HLT.out; simp; omega)).trans HN7.out)
            have HEw8 : Hid (ExS (fun k => B < k) w8 0 (.slice none 0 0) []) := hid (ExS.none _ _)
            clear h1d h4d hgd hod
            go_wp2_with (first
              | (refine ld_row rfl 49 (.tmp 6) rfl g rfl (exC ⟨1, t.2.1, [], [], a, 0, []⟩ (.slice none 0 0)) 49 HXw8.out _ Tryd.underlying49 rfl Tryd.rowExpr ?_)
              | (refine st_row rfl 49 (.tmp 2) (.tmp 52) rfl B (exC ⟨1, t.2.1, [], [], a, 0, []⟩ (.slice none 0 0)) rfl rfl 49 _ HNw8.out Tryd.rowExpr rfl (exC_one _ _ rfl) ?_; intro w9 hs9; have HS9 := hid hs9; clear hs9))
            refine ret_row 2 49 rfl B rfl _ 49 HS9.out.blk _ Tryd.underlying49 rfl Tryd.rowExpr rfl ?_
            exact out_row H0.out HGw8.out HZw8.out HS9.out (by rw [HB.out]; exact Nat.le_refl _) (by rw [← HR.out, pri_val HP.out HK.out H0.out.lk, HVV.out.1]) ⟨_, 0, rfl, HEw8.out.keep (fun k hq hl => ⟨HS9.out.grown.block k hl (by simp; omega), by omega⟩) HS9.out.grown.size⟩
end

end Go.Proofs.YtjjajfipfeigiabDoor

/- What is read takes tokens; what is wrong with the first token is told first. -/
namespace Go.Proofs.YtjjajfipfeigiabDoor

section
variable {S : Sup}
theorem takeP_in {s : List UInt8} {i j : Nat} (h : takeP S s i = .ok j) : j = i + 1 := by
  unfold takeP at h
  split at h
  · cases h
  · split at h
    · cases h; rfl
    · cases h
theorem openP_in {s : List UInt8} {lv i j : Nat} (h : openP S s lv i = .ok j) : j = i + 1 := by
  unfold openP at h
  split at h
  · cases h
  · split at h
    · split at h
      · cases h
      · cases h; rfl
    · cases h
theorem wordP_in {i j : Nat} {s : List UInt8} (h : wordP S i = .ok (s, j)) : j = i + 1 := by
  unfold wordP at h
  split at h
  · cases h
  · split at h
    · cases h; rfl
    · cases h
theorem argL_lt {α : Type} {x : Nat → Except Ft (α × Nat)} (hx : ∀ i e j, x i = .ok (e, j) → i < j) : ∀ (n : Nat) (l r : List α) (i j : Nat), argL S x n l i = .ok (r, j) → i < j
  | 0, _, _, _, _, h => by simp [argL] at h
  | n + 1, l, r, i, j, h => by
    unfold argL at h
    split at h
    · cases h
    · rename_i a k hk
      have := hx _ _ _ hk
      split at h
      · cases h
      · split at h
        · have := argL_lt hx n _ _ _ _ h; omega
        · split at h
          · cases h; omega
          · cases h
theorem argP_lt {α : Type} {x : Nat → Except Ft (α × Nat)} (hx : ∀ i e j, x i = .ok (e, j) → i < j) {n lv i j : Nat} {r : List α} (h : argP S x n lv i = .ok (r, j)) : i < j := by
  unfold argP at h
  split at h
  · cases h
  · rename_i k hk
    have := openP_in hk
    split at h
    · cases h
    · split at h
      · cases h; omega
      · have := argL_lt hx _ _ _ _ _ h; omega
theorem namP_le {p i j : Nat} {s : List UInt8} {e : Ex} (h : namP S p s i = .ok (e, j)) : i ≤ j := by
  unfold namP at h
  split at h
  · cases h
  · split at h
    · split at h
      · cases h
      · rename_i hw
        have := wordP_in hw
        cases h
        omega
    · cases h; omega
theorem calP_lt {x : Nat → Except Ft (Ex × Nat)} (hx : ∀ i e j, x i = .ok (e, j) → i < j) {n lv i j : Nat} {e r : Ex} (h : calP S x n lv e i = .ok (r, j)) : i < j := by
  unfold calP at h
  split at h
  · cases h
  · rename_i ha
    have := argP_lt hx ha
    cases h
    omega
theorem priP_lt {x : Nat → Except Ft (Ex × Nat)} (hx : ∀ i e j, x i = .ok (e, j) → i < j) {n lv i j : Nat} {r : Ex} (h : priP S x n lv i = .ok (r, j)) : i < j := by
  unfold priP at h
  split at h
  · cases h
  · split at h
    · split at h
      · cases h
      · split at h
        · cases h
        · rename_i hk
          have h1 := hx _ _ _ hk
          split at h
          · cases h
          · rename_i ht
            have := takeP_in ht
            cases h
            omega
    · split at h
      · split at h
        · cases h
        · rename_i hn
          have h1 := namP_le hn
          split at h
          · cases h
          · split at h
            · have := calP_lt hx h; omega
            · cases h; omega
      · split at h
        · cases h; omega
        · cases h
theorem unaP_lt {u p : Nat → Except Ft (Ex × Nat)} (hu : ∀ i e j, u i = .ok (e, j) → i < j) (hp : ∀ i e j, p i = .ok (e, j) → i < j) {lv i j : Nat} {r : Ex} (h : unaP S u p lv i = .ok (r, j)) : i < j := by
  unfold unaP at h
  split at h
  · cases h
  · split at h
    · exact hp _ _ _ h
    · split at h
      · cases h
      · split at h
        · cases h
        · rename_i hk
          have := hu _ _ _ hk
          cases h
          omega
theorem binL_le {x : Nat → Except Ft (Ex × Nat)} (hx : ∀ i e j, x i = .ok (e, j) → i < j) {k : Nat} : ∀ (n : Nat) (e r : Ex) (i j : Nat), binL S x k n e i = .ok (r, j) → i ≤ j
  | 0, _, _, _, _, h => by simp [binL] at h
  | n + 1, e, r, i, j, h => by
    unfold binL at h
    split at h
    · cases h
    · split at h
      · split at h
        · cases h
        · rename_i hk
          have := hx _ _ _ hk
          split at h
          · cases h; omega
          · have := binL_le hx n _ _ _ _ h; omega
      · cases h; omega
theorem exp_lt : ∀ (n k lv i : Nat) (e : Ex) (j : Nat), expF S n k lv i = .ok (e, j) → i < j
  | 0, _, _, _, _, _, h => by simp [expF] at h
  | n + 1, k, lv, i, e, j, h => by
    unfold expF at h
    split at h
    · split at h
      · cases h
      · rename_i hk
        have h1 := exp_lt n _ _ _ _ _ hk
        have h2 := binL_le (exp_lt n (k + 1) lv) _ _ _ _ _ h
        omega
    · split at h
      · exact unaP_lt (exp_lt n 5 (lv + 1)) (exp_lt n 6 lv) h
      · exact priP_lt (exp_lt n 0 (lv + 1)) h
theorem exp_look {i : Nat} {f : Ft} (hl : S.lk i = .error f) : ∀ (n k lv : Nat), expF S n k lv i = .error f ∨ expF S n k lv i = .error outF
  | 0, _, _ => Or.inr rfl
  | n + 1, k, lv => by
    unfold expF
    split
    · rcases exp_look hl n (k + 1) lv with h | h
      · left; rw [h]
      · right; rw [h]
    · split
      · left; unfold unaP; rw [hl]
      · left; unfold priP; rw [hl]
end

end Go.Proofs.YtjjajfipfeigiabDoor

/- Every expression is read as the grammar says. -/
namespace Go.Proofs.YtjjajfipfeigiabDoor
open Go.RowKit

/-- the functions of the grammar's lines -/
def fnK : Nat → Nat
  | 0 => 18
  | 1 => 38
  | 2 => 56
  | 3 => 70
  | 4 => 90
  | 5 => 100
  | _ => 105

theorem exp_line (S : Sup) (n k lv i : Nat) (hk : k < 5) : expF S (n + 1) k lv i = lineP S (expF S n (k + 1) lv) k n i := by
  unfold lineP
  rw [expF, if_pos hk]
  rfl
theorem exp_una (S : Sup) (n lv i : Nat) : expF S (n + 1) 5 lv i = unaP S (expF S n 5 (lv + 1)) (expF S n 6 lv) lv i := by
  rw [expF, if_neg (by omega), if_pos rfl]
theorem exp_pri (S : Sup) (n lv i : Nat) : expF S (n + 1) 6 lv i = priP S (expF S n 0 (lv + 1)) n lv i := by
  rw [expF, if_neg (by omega), if_neg (by omega)]

theorem exp_all (b : Nat) (l : List UInt8) (fuel : Int) : ∀ (n k lv : Nat), k ≤ 6 → lv + n ≤ 1000000000 → Reads l fuel b lv (fnK k) (expF (srcP l fuel) n k lv)
  | 0, k, lv, _, _ => ⟨fun W i t _ ho => absurd rfl ho, exp_lt 0 k lv, fun i f hl => exp_look hl 0 k lv⟩
  | n + 1, k, lv, hk, hl => by
    refine ⟨fun W i t hz ho => ?_, exp_lt (n + 1) k lv, fun i f hl => exp_look hl (n + 1) k lv⟩
    have ih := exp_all b l fuel n
    match k, hk with
    | 0, _ =>
      rw [exp_line _ _ _ _ _ (by omega)] at ho ⊢
      exact wrap0_any (ih 1 lv (by omega) (by omega)) W hz ho
    | 1, _ =>
      rw [exp_line _ _ _ _ _ (by omega)] at ho ⊢
      exact wrap1_any (ih 2 lv (by omega) (by omega)) W hz ho
    | 2, _ =>
      rw [exp_line _ _ _ _ _ (by omega)] at ho ⊢
      exact wrap2_any (ih 3 lv (by omega) (by omega)) W hz ho
    | 3, _ =>
      rw [exp_line _ _ _ _ _ (by omega)] at ho ⊢
      exact wrap3_any (ih 4 lv (by omega) (by omega)) W hz ho
    | 4, _ =>
      rw [exp_line _ _ _ _ _ (by omega)] at ho ⊢
      exact wrap4_any (ih 5 lv (by omega) (by omega)) W hz ho
    | 5, _ =>
      rw [exp_una] at ho ⊢
      exact unary_any (ih 5 (lv + 1) (by omega) (by omega)) (ih 6 lv (by omega) (by omega)) (by omega) W hz ho
    | 6, _ =>
      rw [exp_pri] at ho ⊢
      exact primary_any (ih 0 (lv + 1) (by omega) (by omega)) (by omega) W hz ho

/-- an expression, from the i-th token on -/
theorem expr_any {b : Nat} {l : List UInt8} {fuel : Int} {n lv i : Nat} {t : Tok} (hl : lv + n ≤ 1000000000) (w : World) (h : Sz w b l fuel i lv t) (ho : expF (srcP l fuel) n 0 lv i ≠ .error outF) :
    Calls Tryd.prog 18 #[.pointer (some ⟨b, 0, none⟩)] w (Out l fuel b lv (tE w.heap.size) w (aft l fuel (expF (srcP l fuel) n 0 lv i))) :=
  (exp_all b l fuel n 0 lv (by omega) hl).1 w i t h ho

end Go.Proofs.YtjjajfipfeigiabDoor

/- What is given to a name; a constant (written by zgiven.py). -/
namespace Go.Proofs.YtjjajfipfeigiabDoor
open Go.RowKit

section
variable {w w' : World} {b : Nat} {l : List UInt8} {fuel : Int} {i lv : Nat} {t : Tok}
set_option maxRecDepth 20000 in
set_option maxHeartbeats 2000000 in
theorem given_any {n : Nat} (hl : lv + n ≤ 1000000000) (w : World) (h : Sz w b l fuel i lv t) (hout : givP (srcP l fuel) n lv i ≠ .error outF) :
    Calls Tryd.prog 47 #[.pointer (some ⟨b, 0, none⟩)] w (Out l fuel b lv (tE w.heap.size) w (aft l fuel (givP (srcP l fuel) n lv i))) := by
  obtain ⟨R, HR⟩ : ∃ R, Hid (givP (srcP l fuel) n lv i = R) := ⟨_, rfl⟩
  rw [HR.out] at hout ⊢
  obtain ⟨B, HB⟩ : ∃ B, Hid (w.heap.size = B) := ⟨_, rfl⟩
  rw [HB.out]
  have H0 := hid h
  have HOUT := hid hout
  have hb1 := below_walk w (.cells zX 49)
  have HN1 := hid (hp_new w (.cells zX 49))
  have hz1 : B + 1 ≤ (w.alloc (.cells zX 49)).heap.size := by rw [hp_size, HB.out]; omega
  have HZ1 := hid (h.below hb1)
  have HG1 := hid (below_gb hb1 (some b))
  have HLT := hid h.pz.lt
  rw [HB.out] at HLT HN1
  clear h hb1 hout
  go_enter Tryd.func47, Tryd.ntmps47
  go_upto_region 1 with (refine al_row rfl 49 rfl zX Tryd.zeroExpr ?_)
  rw [HB.out]
  generalize w.alloc (.cells zX 49) = w1 at *
  have HT := hid (take_any [61] (by decide) w1 HZ1.out)
  go_wp2_with fail
  refine HT.out.mono ?_
  intro e w2 hO
  obtain ⟨hg, ⟨f, h1, h2, rfl, h4⟩ | ⟨a2, j2, v2, u2, h1, rfl, h3, h4⟩⟩ := out_mono (lv' := lv) (T' := tE B) (r' := aft l fuel R) HG1.out hO (fun f hf => by rw [← HR.out]; have hm := HOUT.out; rw [← HR.out] at hm; refine Or.elim (tak_er hf) (fun ⟨q1, q2⟩ => by simp only [givP, srcP_lk, srcP_tx, takeP, H0.out.lk, eq_false q1, if_false, aft, q2]) (fun ⟨q1, q2⟩ => ?_); simp only [givP, srcP_lk, srcP_tx, takeP, H0.out.lk, q1, if_true] at hm ⊢; rcases exp_look (S := srcP l fuel) q2 n 0 lv with q4 | q4; (simp only [q4, aft]); (simp only [q4] at hm; exact absurd rfl hm))
  · have H4 := hid h4
    clear h1 h2 h4 hg hO
    go_wp2_with fail
    exact ⟨rfl, H4.out⟩
  · have ho := hO.1
    clear hO
    subst h3
    obtain ⟨k1, rfl, rfl⟩ := tak_in h1
    have HK1 := hid k1
    have HZ2 := hid h4
    have HG2 := hid hg
    have HN2 := hid ((ho.block B (hp_lt HN1.out) (by have := HLT.out; simp; omega)).trans HN1.out)
    have hz2 : B + 1 ≤ w2.heap.size := Nat.le_trans hz1 ho.size
    have hxo : expF (srcP l fuel) n 0 lv (i + 1) ≠ .error outF := fun q => HOUT.out (by rw [← HR.out]; simp only [givP, srcP_lk, srcP_tx, takeP, H0.out.lk, k1, if_true, q])
    have HC := hid (expr_any hl w2 h4 hxo)
    clear h1 h4 hg ho k1 hxo HN1 HZ1 HG1 HT
    go_wp2_with fail
    refine HC.out.mono ?_
    intro e w5 hO
    obtain ⟨hgc, ⟨f, h1, h2, rfl, h4⟩ | ⟨a, j, vc, uc, h1c, rfl, h3c, h4c⟩⟩ := out_mono (lv' := lv) (T' := tE B) (r' := aft l fuel R) HG2.out hO (fun f hf => by rw [← HR.out]; exact Or.elim (aft_er hf) (fun q => by simp only [givP, srcP_lk, srcP_tx, takeP, H0.out.lk, HK1.out, if_true, q, aft]) (fun ⟨_, _, q, ql⟩ => by simp only [givP, srcP_lk, srcP_tx, takeP, H0.out.lk, HK1.out, if_true, q, ql, aft]))
    · have H4 := hid h4
      clear h1 h2 h4 hgc hO
      go_wp2_with fail
      exact ⟨rfl, H4.out⟩
    · have hoc := hO.1
      clear hO
      obtain ⟨kv, d, rfl, hex⟩ := h3c
      have HA := hid (aft_in h1c)
      have HN5 := hid ((hoc.block B (hp_lt HN2.out) (by have := HLT.out; simp; omega)).trans HN2.out)
      have hs5 := hoc.size
      have hb6 := below_walk w5 (.cells (exC a kv).toArray 49)
      have HXw6 : Hid (Xb (w5.alloc (.cells (exC a kv).toArray 49)) w5.heap.size a kv) := hid (hp_new _ _)
      have HNw6 := hid ((hb6.block B (hp_lt HN5.out)).trans HN5.out)
      have HZw6 := hid (h4c.below hb6)
      have HGw6 := hid (gb_trans hgc (below_gb hb6 (some b)))
      have HEw6 : Hid (ExS (fun k => B < k) (w5.alloc (.cells (exC a kv).toArray 49)) d kv a.kids) := hid (hex.keep (fun k hq hl => ⟨hb6.block k hl, by omega⟩) hb6.size)
      have HCE := hid hex.cell
      clear h1c h4c hgc hoc hex hb6 HC HN5
      go_upto_region 3 with (first
        | (refine al_row rfl 49 rfl zX Tryd.zeroExpr ?_; refine st_new rfl 49 (.tmp 3) (.tmp 7) rfl (exC a kv) rfl rfl _ _ Tryd.rowExpr rfl (exC_one _ _ HCE.out) ?_))
      try simp only [Act.put, List.setIfInBounds_toArray, List.set_cons_succ, List.set_cons_zero]
      generalize w5.alloc (.cells (exC a kv).toArray 49) = w6 at *
      obtain ⟨g, HGG⟩ : ∃ g, Hid (w5.heap.size = g) := ⟨_, rfl⟩
      rw [HGG.out] at HXw6 hs5 ⊢
      have HK := hid (take_any [59] (by decide) w6 HZw6.out)
      go_wp2_with fail
      refine HK.out.mono ?_
      intro e w7 hO
      obtain ⟨hgd, ⟨f, h1, h2, rfl, h4⟩ | ⟨a7, j7, vd, ud, h1d, rfl, h3d, h4d⟩⟩ := out_mono (lv' := lv) (T' := tE B) (r' := aft l fuel R) HGw6.out hO (fun f hf => by rw [← HR.out]; exact Or.elim (tak_er hf) (fun ⟨q1, q2⟩ => by simp only [givP, srcP_lk, srcP_tx, takeP, H0.out.lk, HK1.out, if_true, HA.out, HZw6.out.lk, eq_false q1, if_false, aft, q2]) (fun ⟨q1, q2⟩ => by simp only [givP, srcP_lk, srcP_tx, takeP, H0.out.lk, HK1.out, if_true, HA.out, HZw6.out.lk, q1, aft, q2]))
      · have H4 := hid h4
        clear h1 h2 h4 hgd hO
        go_wp2_with fail
        exact ⟨rfl, H4.out⟩
      · have hod := hO.1
        clear hO
        subst h3d
        obtain ⟨k2, rfl, rfl⟩ := tak_in h1d
        have HTK := hid k2
        have HZw7 := hid h4d
        have HGw7 := hid hgd
        have HXw7 : Hid (Xb w7 g a kv) := hid ((hod.block g (hp_lt HXw6.out) (by have := HLT.out; simp; omega)).trans HXw6.out)
        have HNw7 := hid ((hod.block B (hp_lt HNw6.out) (by have := HLT.out; simp; omega)).trans HNw6.out)
        have HEw7 : Hid (ExS (fun k => B < k) w7 d kv a.kids) := hid (HEw6.out.keep (fun k hq hl => ⟨hod.block k hl (by have := HLT.out; simp; omega), hq⟩) hod.size)
        clear h1d h4d hgd hod k2
        go_wp2_with (first
          | (refine ld_row rfl 49 (.tmp 3) rfl g rfl (exC a kv) 49 HXw7.out _ Tryd.underlying49 rfl Tryd.rowExpr ?_)
          | (refine st_row rfl 49 (.tmp 2) (.tmp 10) rfl B (exC a kv) rfl rfl 49 _ HNw7.out Tryd.rowExpr rfl (exC_one _ _ HCE.out) ?_; intro w9 hs9; have HS9 := hid hs9; clear hs9))
        refine ret_row 2 49 rfl B rfl _ 49 HS9.out.blk _ Tryd.underlying49 rfl Tryd.rowExpr rfl ?_
        exact out_row H0.out HGw7.out HZw7.out HS9.out (by rw [HB.out]; exact Nat.le_refl _) (by rw [← HR.out]; simp only [givP, srcP_lk, srcP_tx, takeP, H0.out.lk, HK1.out, if_true, HA.out, HZw6.out.lk, HTK.out]) ⟨_, d, rfl, HEw7.out.keep (fun k hq hl => ⟨HS9.out.grown.block k hl (by simp; omega), by omega⟩) HS9.out.grown.size⟩

/-- a constant's cells -/
def cnC (c : Cn) (kv : Value) : List Value := [.string (mk c.nm), .bool c.exp, .int .i64 (c.pl : Int)] ++ exC c.ex kv
def zCn : Cn := ⟨false, 0, [], zEx⟩
theorem Tryd.rowConst : (Tryd.prog.info? 64).map (·.size) = some 13 := by kernel_rfl
theorem Tryd.zeroConst : ∀ w, (zeroValue 64).run Tryd.prog w = .ok (.agg (cnC zCn (.slice none 0 0)).toArray) w :=
  (Go.zero_of_info (P := Tryd.prog) (t := 64) (v := .agg (cnC zCn (.slice none 0 0)).toArray) (n := 13) (by kernel_rfl)).1
end

end Go.Proofs.YtjjajfipfeigiabDoor

/- A constant (written by zconst.py). -/
namespace Go.Proofs.YtjjajfipfeigiabDoor
open Go.RowKit

section
variable {w w' : World} {b : Nat} {l : List UInt8} {fuel : Int} {i lv : Nat} {t : Tok}
theorem gb_setCells (g : Nat) : ∀ (xs : List Value) (w : World) (o : Nat), w.grownBy (w.setCells g o xs) (some g)
  | [], w, _ => gb_refl w _
  | x :: xs, w, o => gb_trans (gb_setc w g o x) (gb_setCells g xs _ (o + 1))
theorem hp_puts {g : Nat} {T : TypeId} : ∀ (xs : List Value) (w : World) (o : Nat) (cs : Array Value), w.heap[g]? = some (.cells cs T (0, 0)) → (w.setCells g o xs).heap[g]? = some (.cells (xs.foldl (fun (p : Array Value × Nat) x => (p.1.setIfInBounds p.2 x, p.2 + 1)) (cs, o)).1 T (0, 0))
  | [], _, _, _, h => h
  | x :: xs, _, o, _, h => hp_puts xs _ (o + 1) _ (hp_put h x)
theorem there_of {w : World} {g : Nat} {cs : Array Value} {T : TypeId} (h : w.heap[g]? = some (.cells cs T (0, 0))) (o n : Nat) (hn : o + n ≤ cs.size) : w.there g o n := fun j hj => by
  have h2 : o + j < cs.size := by omega
  refine ⟨by simp [World.cell?, h, h2], by simp [World.frozen?, h]⟩
/-- a constant in a block of its own -/
def Cb (w : World) (g : Nat) (c : Cn) (kv : Value) : Prop := w.heap[g]? = some (.cells (cnC c kv).toArray 64 (0, 0))
theorem Cb.put {w : World} {g : Nat} {c : Cn} {kv0 : Value} (h : Cb w g c kv0) (e : Ex) (kv : Value) : Cb (w.setCells g 3 (exC e kv)) g { c with ex := e } kv := by
  have := hp_puts (exC e kv) w 3 _ (show w.heap[g]? = some (.cells (cnC c kv0).toArray 64 (0, 0)) from h)
  unfold Cb
  rw [this]
  simp [exC, cnC]
theorem cnC_one (c : Cn) (kv : Value) (h : kv.oneCell' = true) : ∀ v ∈ cnC c kv, v.oneCell' = true := by
  intro v hv
  rcases List.mem_append.1 hv with hv | hv
  · simp only [List.mem_cons, List.not_mem_nil, or_false] at hv
    rcases hv with rfl | rfl | rfl <;> rfl
  · exact exC_one _ _ h v hv
/-- v is a constant whose operands lie from B on -/
def tC (B : Nat) : World → Value → Cn → Prop := fun w v c => ∃ kv d, v = .agg (cnC c kv).toArray ∧ ExS (fun g => B ≤ g) w d kv c.ex.kids
set_option maxRecDepth 20000 in
set_option maxHeartbeats 2000000 in
theorem constant_any {n : Nat} (hl : n ≤ 1000000000) (ex : Bool) (w : World) (h : Sz w b l fuel i 0 t) (hout : cnsP (srcP l fuel) n ex i ≠ .error outF) :
    Calls Tryd.prog 28 #[.pointer (some ⟨b, 0, none⟩), .bool ex] w (Out l fuel b 0 (tC w.heap.size) w (aft l fuel (cnsP (srcP l fuel) n ex i))) := by
  obtain ⟨R, HR⟩ : ∃ R, Hid (cnsP (srcP l fuel) n ex i = R) := ⟨_, rfl⟩
  rw [HR.out] at hout ⊢
  obtain ⟨B, HB⟩ : ∃ B, Hid (w.heap.size = B) := ⟨_, rfl⟩
  rw [HB.out]
  have H0 := hid h
  have HOUT := hid hout
  have hb1 := below_walk w (.cells (cnC zCn (.slice none 0 0)).toArray 64)
  have HN1 := hid (hp_new w (.cells (cnC zCn (.slice none 0 0)).toArray 64))
  have hz1 : B + 1 ≤ (w.alloc (.cells (cnC zCn (.slice none 0 0)).toArray 64)).heap.size := by rw [hp_size, HB.out]; omega
  have HZ1 := hid (h.below hb1)
  have HG1 := hid (below_gb hb1 (some b))
  have HLT := hid h.pz.lt
  rw [HB.out] at HLT HN1
  clear h hb1 hout
  go_enter Tryd.func28, Tryd.ntmps28
  go_upto_region 1 with (refine al_row rfl 64 rfl _ Tryd.zeroConst ?_)
  rw [HB.out]
  generalize w.alloc (.cells (cnC zCn (.slice none 0 0)).toArray 64) = w1 at *
  have HT := hid (take_any [99, 111, 110, 115, 116] (by decide) w1 HZ1.out)
  go_wp2_with fail
  refine HT.out.mono ?_
  intro e w2 hO
  obtain ⟨hg, ⟨f, h1, h2, rfl, h4⟩ | ⟨a2, j2, v2, u2, h1, rfl, h3, h4⟩⟩ := out_mono (lv' := 0) (T' := tC B) (r' := aft l fuel R) HG1.out hO (fun f hf => by rw [← HR.out]; exact Or.elim (tak_er hf) (fun ⟨q1, q2⟩ => by simp only [cnsP, srcP_lk, srcP_tx, takeP, H0.out.lk, eq_false q1, if_false, aft, q2]) (fun ⟨q1, q2⟩ => by simp only [cnsP, srcP_lk, srcP_tx, takeP, H0.out.lk, q1, if_true, q2, aft]))
  · have H4 := hid h4
    clear h1 h2 h4 hg hO
    go_wp2_with fail
    exact ⟨rfl, H4.out⟩
  · have ho := hO.1
    clear hO
    subst h3
    obtain ⟨k1, rfl, rfl⟩ := tak_in h1
    have HK1 := hid k1
    have HZ2 := hid h4
    have HN2 := hid ((ho.block B (hp_lt HN1.out) (by have := HLT.out; simp; omega)).trans HN1.out)
    have hz2 : B + 1 ≤ w2.heap.size := Nat.le_trans hz1 ho.size
    have hb3 := below_walk w2 (.cells (cnC ⟨ex, u2.2.1, [], zEx⟩ (.slice none 0 0)).toArray 64)
    have HX3 : Hid (Cb (w2.alloc (.cells (cnC ⟨ex, u2.2.1, [], zEx⟩ (.slice none 0 0)).toArray 64)) w2.heap.size ⟨ex, u2.2.1, [], zEx⟩ (.slice none 0 0)) := hid (hp_new _ _)
    have HN3 := hid ((hb3.block B (hp_lt HN2.out)).trans HN2.out)
    have HZ3 := hid (HZ2.out.below hb3)
    have HG3 := hid (gb_trans hg (below_gb hb3 (some b)))
    have c2 := HZ2.out.pz.c2
    clear h1 h4 hg ho k1 HN1 HZ1 HG1 HT hb3 HN2
    go_upto_region 3 with (first
      | (refine bd_row rfl 64 _ rfl [(1, .bool ex), (2, .int .i64 (u2.2.1 : Int))] rfl (cnC ⟨ex, u2.2.1, [], zEx⟩ (.slice none 0 0)).toArray (by kernel_rfl) ?_)
      | (refine al_row rfl 64 rfl _ Tryd.zeroConst ?_; refine st_new rfl 64 (.tmp 5) (.tmp 14) rfl (cnC ⟨ex, u2.2.1, [], zEx⟩ (.slice none 0 0)) rfl rfl _ _ Tryd.rowConst rfl (cnC_one _ _ rfl) ?_))
    try simp only [Act.put, List.setIfInBounds_toArray, List.set_cons_succ, List.set_cons_zero]
    generalize w2.alloc (.cells (cnC ⟨ex, u2.2.1, [], zEx⟩ (.slice none 0 0)).toArray 64) = w3 at *
    obtain ⟨g, HGG⟩ : ∃ g, Hid (w2.heap.size = g) := ⟨_, rfl⟩
    rw [HGG.out] at HX3 hz2 ⊢
    have HW := hid (pword_any w3 HZ3.out)
    clear c2
    go_wp2_with fail
    refine HW.out.mono ?_
    intro e w4 hO
    obtain ⟨hgc, ⟨f, h1, h2, rfl, h4⟩ | ⟨ac, j4, vc, u4, h1c, rfl, h3c, h4c⟩⟩ := out_mono (lv' := 0) (T' := tC B) (r' := aft l fuel R) HG3.out hO (fun f hf => by rw [← HR.out]; exact Or.elim (wor_er hf) (fun ⟨q1, q2⟩ => by simp only [cnsP, srcP_lk, srcP_tx, takeP, wordP, H0.out.lk, HK1.out, if_true, HZ2.out.lk, eq_false q1, if_false, aft, q2]) (fun ⟨q1, q2⟩ => by simp only [cnsP, srcP_lk, srcP_tx, takeP, wordP, H0.out.lk, HK1.out, if_true, HZ2.out.lk, q1, givP, q2, aft]))
    · have H4 := hid h4
      clear h1 h2 h4 hgc hO
      go_wp2_with fail
      exact ⟨rfl, H4.out⟩
    · have hoc := hO.1
      clear hO
      subst h3c
      obtain ⟨kw, rfl, rfl⟩ := wor_in h1c
      have HKW := hid kw
      have HX4 : Hid (Cb w4 g ⟨ex, u2.2.1, [], zEx⟩ (.slice none 0 0)) := hid ((hoc.block g (hp_lt HX3.out) (by have := HLT.out; simp; omega)).trans HX3.out)
      have HN4 := hid ((hoc.block B (hp_lt HN3.out) (by have := HLT.out; simp; omega)).trans HN3.out)
      have hs4 : g < w4.heap.size := hp_lt HX4.out
      obtain ⟨s, HS⟩ : ∃ s, Hid (txA l u2 = s) := ⟨_, rfl⟩
      rw [HS.out]
      have g5 := gb_setc w4 g 0 (.string (mk s))
      have HX5 : Hid (Cb (w4.setCell ⟨g, 0, none⟩ (.string (mk s))) g ⟨ex, u2.2.1, s, zEx⟩ (.slice none 0 0)) := hid (hp_put HX4.out _)
      have HN5 := hid ((g5.block B (hp_lt HN4.out) (by simp; omega)).trans HN4.out)
      have HZ5 := hid (H0.out.new h4c g5 (by rw [HB.out]; omega))
      have HG5 := hid (gb_new hgc g5 (by rw [HB.out]; omega))
      have x0 : w4.cell? ⟨g, 0, none⟩ = some (.string (mk [])) := by rw [cell_of_row _ _ _ _ _ _ HX4.out]; rfl
      have y0 : w4.frozen? ⟨g, 0, none⟩ = false := by have hh : w4.heap[g]? = _ := HX4.out; simp [World.frozen?, hh]
      have hs5 : (w4.setCell ⟨g, 0, none⟩ (.string (mk s))).heap.size = w4.heap.size := by simp [World.setCell]
      clear h1c h4c hgc hoc kw HW g5 HX3 HN3
      go_upto_region 4 with fail
      generalize w4.setCell ⟨g, 0, none⟩ (.string (mk s)) = w5 at *
      clear x0 y0
      have hgo : givP (srcP l fuel) n 0 (i + 1 + 1) ≠ .error outF := fun q => HOUT.out (by rw [← HR.out]; simp only [cnsP, srcP_lk, srcP_tx, takeP, wordP, H0.out.lk, HK1.out, if_true, HZ2.out.lk, HKW.out, q])
      have HC := hid (given_any (by omega) w5 HZ5.out hgo)
      clear hgo
      go_wp2_with fail
      refine HC.out.mono ?_
      intro e w6 hO
      obtain ⟨hgd, ⟨f, h1, h2, rfl, h4⟩ | ⟨a, j, vd, ud, h1d, rfl, h3d, h4d⟩⟩ := out_mono (lv' := 0) (T' := tC B) (r' := aft l fuel R) HG5.out hO (fun f hf => by rw [← HR.out]; exact Or.elim (aft_er hf) (fun q => by simp only [cnsP, srcP_lk, srcP_tx, takeP, wordP, H0.out.lk, HK1.out, if_true, HZ2.out.lk, HKW.out, q, aft]) (fun ⟨_, _, q, ql⟩ => by simp only [cnsP, srcP_lk, srcP_tx, takeP, wordP, H0.out.lk, HK1.out, if_true, HZ2.out.lk, HKW.out, q, ql, aft]))
      · have H4 := hid h4
        clear h1 h2 h4 hgd hO
        go_wp2_with fail
        exact ⟨rfl, H4.out⟩
      · have hod := hO.1
        clear hO
        obtain ⟨kv, d, rfl, hex⟩ := h3d
        have HA := hid (aft_in h1d)
        have HX6 : Hid (Cb w6 g ⟨ex, u2.2.1, s, zEx⟩ (.slice none 0 0)) := hid ((hod.block g (hp_lt HX5.out) (by have := HLT.out; simp; omega)).trans HX5.out)
        have HN6 := hid ((hod.block B (hp_lt HN5.out) (by have := HLT.out; simp; omega)).trans HN5.out)
        have HCE := hid hex.cell
        have g7 := gb_setCells g (exC a kv) w6 3
        have HX7 : Hid (Cb (w6.setCells g 3 (exC a kv)) g ⟨ex, u2.2.1, s, a⟩ kv) := hid (Cb.put HX6.out a kv)
        have HN7 := hid ((g7.block B (hp_lt HN6.out) (by simp; omega)).trans HN6.out)
        have HZ7 := hid (H0.out.new h4d g7 (by rw [HB.out]; omega))
        have HG7 := hid (gb_new hgd g7 (by rw [HB.out]; omega))
        have HE7 : Hid (ExS (fun k => B < k) (w6.setCells g 3 (exC a kv)) d kv a.kids) := hid (hex.keep (fun k hq hl => ⟨g7.block k hl (by simp; omega), by omega⟩) g7.size)
        have HTH := hid (there_of HX6.out 3 10 (by simp [cnC, exC]))
        clear h1d h4d hgd hod hex g7 HC
        go_upto_region 5 with (first
          | (refine wpList_store_mid rfl 49 (.tmp 20) (.tmp 19) rfl g 3 (exC a kv).toArray rfl rfl HTH.out Tryd.rowExpr (all_oneCell_toArray (exC_one _ _ HCE.out)) ?_))
        try simp only [Act.put]
        obtain ⟨w7, HW7⟩ : ∃ w7, Hid (w6.setCells g 3 (exC a kv) = w7) := ⟨_, hid rfl⟩
        first | rw [HW7.out] | rw [show w6.setCells g 3 (exC a kv).toArray.toList = w7 from HW7.out]
        rw [HW7.out] at HX7 HN7 HZ7 HG7 HE7
        go_wp2_with (first
          | (refine ld_row rfl 64 (.tmp 5) rfl g rfl (cnC ⟨ex, u2.2.1, s, a⟩ kv) 64 HX7.out _ Tryd.underlying64 rfl Tryd.rowConst ?_)
          | (refine st_row rfl 64 (.tmp 4) (.tmp 21) rfl B (cnC ⟨ex, u2.2.1, s, a⟩ kv) rfl rfl 64 _ HN7.out Tryd.rowConst rfl (cnC_one _ _ HCE.out) ?_; intro w9 hs9; have HS9 := hid hs9; clear hs9))
        refine ret_row 4 64 rfl B rfl _ 64 HS9.out.blk _ Tryd.underlying64 rfl Tryd.rowConst rfl ?_
        exact out_row H0.out HG7.out HZ7.out HS9.out (by rw [HB.out]; exact Nat.le_refl _) (by rw [← HR.out]; simp only [cnsP, srcP_lk, srcP_tx, takeP, wordP, H0.out.lk, HK1.out, if_true, HZ2.out.lk, HKW.out, HA.out, HS.out]) ⟨_, d, rfl, HE7.out.keep (fun k hq hl => ⟨HS9.out.grown.block k hl (by simp; omega), by omega⟩) HS9.out.grown.size⟩
end

end Go.Proofs.YtjjajfipfeigiabDoor

/- Statements, functions, includes and constants in memory. -/
namespace Go.Proofs.YtjjajfipfeigiabDoor
open Go.RowKit

section
variable {β : Type} {K : Knd β} {w w' : World} {B : Nat} {v : Value} {xs : List β}
/-- v is a slice of these structs, in blocks of Q -/
def Lsd (K : Knd β) (Q : Nat → Prop) (w : World) (v : Value) (xs : List β) : Prop :=
  (xs = [] ∧ ∃ a c, v = .slice a 0 c) ∨ ∃ g o c, v = .slice (some ⟨g, o, none⟩) xs.length c ∧ Q g ∧ g < w.heap.size ∧ ∀ j x, xs[j]? = some x → w.rangeAt g (o + K.size * j) (K.cells x) ∧ K.good Q w x
theorem Lsd.keep {P : Program} (hK : K.Ok P) {Q Q' : Nat → Prop} (hp : ∀ g, Q g → g < w.heap.size → w'.heap[g]? = w.heap[g]? ∧ Q' g) (hs : w.heap.size ≤ w'.heap.size) (h : Lsd K Q w v xs) : Lsd K Q' w' v xs := by
  rcases h with h | ⟨g, o, c, h1, h2, h3, h4⟩
  · exact Or.inl h
  · obtain ⟨q1, q2⟩ := hp g h2 h3
    refine Or.inr ⟨g, o, c, h1, q2, Nat.lt_of_lt_of_le h3 hs, fun j x hx => ?_⟩
    obtain ⟨h5, h6⟩ := h4 j x hx
    exact ⟨fun i u hu => by rw [World.cell?_of_block q1]; exact h5 i u hu, hK.keep hp hs x h6⟩
theorem Lsd.one {Q : Nat → Prop} (h : Lsd K Q w v xs) : ∃ a c, v = .slice a xs.length c := by
  rcases h with ⟨rfl, a, c, rfl⟩ | ⟨g, o, c, rfl, _⟩
  · exact ⟨a, c, rfl⟩
  · exact ⟨_, c, rfl⟩
theorem Gro.lsd {P : Program} (hK : K.Ok P) (h : Gro K w B v xs) : Lsd K (fun g => B ≤ g) w v xs := by
  rcases h.own.2 with ⟨rfl, h0⟩ | ⟨g, cap, cur, rfl, h1, h2, h3, h4, h5, h6⟩
  · exact Or.inl ⟨List.length_eq_zero_iff.1 h0, none, 0, rfl⟩
  · refine Or.inr ⟨g, 0, cap, rfl, h1, hp_lt h2, fun j x hx => ⟨fun i u hu => ?_, hK.keep (fun g hq _ => ⟨rfl, hq.1⟩) (Nat.le_refl _) x (h.all x (List.mem_of_getElem? hx))⟩⟩
    have hi : i < K.size := by
      rcases Nat.lt_or_ge i K.size with h | h
      · exact h
      · rw [List.getElem?_eq_none (by rw [hK.len]; exact h)] at hu; cases hu
    have hf := flat_get K.cells K.size hK.len xs j x i hx hi
    have hu' : (xs.flatMap K.cells)[K.size * j + i]? = some u := hf.trans hu
    rw [← h6] at hu'
    rw [show 0 + K.size * j + i = K.size * j + i by omega, cell_of_row _ _ _ _ _ _ h2]
    rw [List.getElem?_take] at hu'
    split at hu'
    · simpa using hu'
    · cases hu'
end

/-- a statement's cells: its expression's operands, its body, its else -/
def smC (s : Sm) (kv bv ev : Value) : List Value := [.int .i64 (s.kind : Int), .int .i64 (s.pl : Int), .string (mk s.nm)] ++ exC s.ex kv ++ [bv, ev, .bool s.has]
/-- bv is a slice of these statements, as deep as d -/
def SmS (Q : Nat → Prop) (w : World) : Nat → Value → List Sm → Prop
  | 0, v, ss => ss = [] ∧ ∃ a c, v = .slice a 0 c
  | d + 1, v, ss => (ss = [] ∧ ∃ a c, v = .slice a 0 c) ∨ ∃ g o c, v = .slice (some ⟨g, o, none⟩) ss.length c ∧ Q g ∧ g < w.heap.size ∧ ∀ j s, ss[j]? = some s → ∃ kv bv ev, w.rangeAt g (o + 16 * j) (smC s kv bv ev) ∧ (∃ d', ExS Q w d' kv s.ex.kids) ∧ SmS Q w d bv s.body ∧ SmS Q w d ev s.els
theorem SmS.up {Q : Nat → Prop} {w : World} : ∀ {d : Nat} {v : Value} {ss : List Sm}, SmS Q w d v ss → SmS Q w (d + 1) v ss
  | 0, _, _, h => Or.inl h
  | d + 1, _, _, h => by
    rcases h with h | ⟨g, o, c, h1, h2, h3, h4⟩
    · exact Or.inl h
    · refine Or.inr ⟨g, o, c, h1, h2, h3, fun j e he => ?_⟩
      obtain ⟨kv, bv, ev, h5, h6, h7, h8⟩ := h4 j e he
      exact ⟨kv, bv, ev, h5, h6, h7.up, h8.up⟩
theorem SmS.le {Q : Nat → Prop} {w : World} {d d' : Nat} {v : Value} {ss : List Sm} (h : SmS Q w d v ss) (hd : d ≤ d') : SmS Q w d' v ss := by
  obtain ⟨k, rfl⟩ := Nat.exists_eq_add_of_le hd
  clear hd
  induction k with
  | zero => exact h
  | succ k ih => exact ih.up
theorem SmS.keep {P Q : Nat → Prop} {w w' : World} (hp : ∀ g, P g → g < w.heap.size → w'.heap[g]? = w.heap[g]? ∧ Q g) (hs : w.heap.size ≤ w'.heap.size) : ∀ {d : Nat} {v : Value} {ss : List Sm}, SmS P w d v ss → SmS Q w' d v ss
  | 0, _, _, h => h
  | d + 1, _, _, h => by
    rcases h with h | ⟨g, o, c, h1, h2, h3, h4⟩
    · exact Or.inl h
    · obtain ⟨q1, q2⟩ := hp g h2 h3
      refine Or.inr ⟨g, o, c, h1, q2, Nat.lt_of_lt_of_le h3 hs, fun j e he => ?_⟩
      obtain ⟨kv, bv, ev, h5, ⟨d', h6⟩, h7, h8⟩ := h4 j e he
      exact ⟨kv, bv, ev, fun i v hv => by rw [World.cell?_of_block q1]; exact h5 i v hv, ⟨d', h6.keep hp hs⟩, h7.keep hp hs, h8.keep hp hs⟩
theorem SmS.one {P : Nat → Prop} {w : World} {d : Nat} {v : Value} {ss : List Sm} (h : SmS P w d v ss) : ∃ a c, v = .slice a ss.length c := by
  cases d with
  | zero => obtain ⟨rfl, a, c, rfl⟩ := h; exact ⟨a, c, rfl⟩
  | succ d =>
    rcases h with ⟨rfl, a, c, rfl⟩ | ⟨g, o, c, rfl, _⟩
    · exact ⟨a, c, rfl⟩
    · exact ⟨_, c, rfl⟩
def zSm : Sm := ⟨0, 0, [], zEx, [], false, []⟩

/-- parameters -/
def kP : Knd (List UInt8 × Nat) := ⟨98, 80, 2, 24, .agg #[.string ⟨#[]⟩, .int .i64 0], fun p => [.string (mk p.1), .int .i64 (p.2 : Int)], fun _ _ _ => True⟩
theorem kP_ok : kP.Ok Tryd.prog := by
  refine ⟨by kernel_rfl, Tryd.underlying80, rfl, by decide, fun x => rfl, fun Q w x h u hu => ?_, fun hp hs x h => trivial, by decide, by decide⟩
  simp only [kP, List.mem_cons, List.not_mem_nil, or_false] at hu
  rcases hu with rfl | rfl <;> rfl
/-- statements -/
def kS : Knd (Sm × Value × Value × Value) := ⟨124, 81, 16, 208, .agg (smC zSm (.slice none 0 0) (.slice none 0 0) (.slice none 0 0)).toArray, fun p => smC p.1 p.2.1 p.2.2.1 p.2.2.2, fun Q w p => (∃ d, ExS Q w d p.2.1 p.1.ex.kids) ∧ (∃ d, SmS Q w d p.2.2.1 p.1.body) ∧ ∃ d, SmS Q w d p.2.2.2 p.1.els⟩
theorem smC_one (s : Sm) (kv bv ev : Value) (h1 : kv.oneCell' = true) (h2 : bv.oneCell' = true) (h3 : ev.oneCell' = true) : ∀ u ∈ smC s kv bv ev, u.oneCell' = true := by
  intro u hu
  rcases List.mem_append.1 hu with hu | hu
  · rcases List.mem_append.1 hu with hu | hu
    · simp only [List.mem_cons, List.not_mem_nil, or_false] at hu
      rcases hu with rfl | rfl | rfl <;> rfl
    · exact exC_one _ _ h1 u hu
  · simp only [List.mem_cons, List.not_mem_nil, or_false] at hu
    rcases hu with rfl | rfl | rfl
    · exact h2
    · exact h3
    · rfl
theorem SmS.cell {Q : Nat → Prop} {w : World} {d : Nat} {v : Value} {ss : List Sm} (h : SmS Q w d v ss) : v.oneCell' = true := by
  obtain ⟨a, c, rfl⟩ := h.one; rfl
theorem kS_ok : kS.Ok Tryd.prog := by
  refine ⟨by kernel_rfl, Tryd.underlying81, rfl, by decide, fun x => rfl, fun Q w x h => ?_, fun hp hs x h => ?_, by decide, by decide⟩
  · obtain ⟨⟨_, h1⟩, ⟨_, h2⟩, _, h3⟩ := h
    exact smC_one _ _ _ _ h1.cell h2.cell h3.cell
  · obtain ⟨⟨d1, h1⟩, ⟨d2, h2⟩, d3, h3⟩ := h
    exact ⟨⟨d1, h1.keep hp hs⟩, ⟨d2, h2.keep hp hs⟩, d3, h3.keep hp hs⟩
/-- constants -/
def kC : Knd (Cn × Value) := ⟨64, 23, 13, 152, .agg (cnC zCn (.slice none 0 0)).toArray, fun p => cnC p.1 p.2, fun Q w p => ∃ d, ExS Q w d p.2 p.1.ex.kids⟩
theorem kC_ok : kC.Ok Tryd.prog := by
  refine ⟨by kernel_rfl, Tryd.underlying23, rfl, by decide, fun x => rfl, fun Q w x h => ?_, fun hp hs x h => ?_, by decide, by decide⟩
  · obtain ⟨_, h1⟩ := h
    exact cnC_one _ _ h1.cell
  · obtain ⟨d1, h1⟩ := h
    exact ⟨d1, h1.keep hp hs⟩
/-- includes -/
def kI : Knd Ic := ⟨76, 22, 3, 40, .agg #[.string ⟨#[]⟩, .string ⟨#[]⟩, .int .i64 0], fun p => [.string (mk p.path), .string (mk p.nm), .int .i64 (p.pl : Int)], fun _ _ _ => True⟩
theorem kI_ok : kI.Ok Tryd.prog := by
  refine ⟨by kernel_rfl, Tryd.underlying22, rfl, by decide, fun x => rfl, fun Q w x h u hu => ?_, fun hp hs x h => trivial, by decide, by decide⟩
  simp only [kI, List.mem_cons, List.not_mem_nil, or_false] at hu
  rcases hu with rfl | rfl | rfl <;> rfl
/-- functions: their parameters, their body -/
def fuC (f : Fu) (pv bv : Value) : List Value := [.string (mk f.nm), .bool f.exp, .int .i64 (f.pl : Int), pv, .int .i64 (f.res : Int), bv]
def zFu : Fu := ⟨false, 0, [], [], 0, []⟩
def kF : Knd (Fu × Value × Value) := ⟨83, 24, 6, 88, .agg (fuC zFu (.slice none 0 0) (.slice none 0 0)).toArray, fun p => fuC p.1 p.2.1 p.2.2, fun Q w p => Lsd kP Q w p.2.1 p.1.pars ∧ ∃ d, SmS Q w d p.2.2 p.1.body⟩
theorem kF_ok : kF.Ok Tryd.prog := by
  refine ⟨by kernel_rfl, Tryd.underlying24, rfl, by decide, fun x => rfl, fun Q w x h u hu => ?_, fun hp hs x h => ?_, by decide, by decide⟩
  · obtain ⟨h1, d, h2⟩ := h
    obtain ⟨_, _, e1⟩ := h1.one
    simp only [kF, fuC, List.mem_cons, List.not_mem_nil, or_false] at hu
    rcases hu with rfl | rfl | rfl | rfl | rfl | rfl
    · rfl
    · rfl
    · rfl
    · rw [e1]; rfl
    · rfl
    · exact h2.cell
  · obtain ⟨h1, d, h2⟩ := h
    exact ⟨h1.keep kP_ok hp hs, d, h2.keep hp hs⟩
/-- what a constant or a function is, as a call answers it -/
def tK {α β : Type} (K : Knd β) (B : Nat) (r : β → α) : World → Value → α → Prop := fun w v a => ∃ x, r x = a ∧ v = .agg (K.cells x).toArray ∧ K.good (fun g => B ≤ g) w x

end Go.Proofs.YtjjajfipfeigiabDoor

/- One more in a list, as steps of a region that draws its order. -/
namespace Go.Proofs.YtjjajfipfeigiabDoor
open Go.RowKit

section
variable {β : Type} {K : Knd β} {w w' : World} {B : Nat} {v : Value} {xs : List β} {P : Program} {ops : Array Oper} {o : Oper} {a : Act} {K0 : Act → World → Prop} {Q : Exit → Act → World → Prop} {E : Prop}
theorem bs_oneS (hK : K.Ok P) (hg : o.guard = none) (x : Operand) (ho : o.op = .buildSlice K.sl 1 #[(0, x)])
    (y : β) (hx : a.eval x = .agg (K.cells y).toArray) (g : Nat) (hg2 : w.heap.size = g) (w6 : World) (hw : w.alloc (.cells (K.cells y).toArray K.ty) = w6)
    (h : K0 (a.put o.dst (.slice (some ⟨g, 0, none⟩) 1 1)) w6) : if Region.wanted o (yielded ops a.tmps) = true then Oper.wp P o a w K0 Q else E := by
  rw [if_pos (by simp [Region.wanted, hg])]
  subst hg2 hw
  obtain ⟨i0, hi, hz0, hz1, hz2⟩ := info_parts hK.info
  have hl := hK.len y
  refine wp_buildSlice K.sl K.ty 1 #[(0, x)] ho (K.cells y).toArray i0 _ hK.und hi hz0 (by have := hK.sz; rw [hz1]; omega) (by have := hK.pos; rw [hz1]; omega) ?_ h
  rw [hz1]
  have e : (#[(0, x)].map fun (i, x) => (i, a.eval x)).toList = (([Value.agg (K.cells y).toArray]).zipIdx 0).map fun x => (x.2, x.1) := by simp [hx]
  rw [e, Great.fill_whole (s := K.size) hK.pos [Value.agg (K.cells y).toArray] _ (by intro v hv; simp at hv; subst hv; simpa [Value.cells] using hl) (by simp [hK.zs])]
  simp [Value.cells]
theorem app_groS (hK : K.Ok P) (hgd : o.guard = none) (s x : Operand)
    (ho : o.op = .call { callee := .builtin .append, args := #[s, x], argTypes := #[K.sl, K.sl] })
    (hs : a.eval s = v) (h : Gro K w B v xs) (r c : Nat) (y : β) (hx : a.eval x = .slice (some ⟨r, 0, none⟩) 1 c)
    (hr : w.heap[r]? = some (.cells (K.cells y).toArray K.ty (0, 0))) (hy : K.good (fun g => B ≤ g ∧ v.ownBlock ≠ some g) w y) (hlen : xs.length ≤ 1000000) (hB : B ≤ w.heap.size)
    (hn : ∀ v' w', Gro K w' B v' (xs ++ [y]) → (∀ k, k < B → w'.heap[k]? = w.heap[k]?) → w.grownBy w' v.ownBlock → K0 (a.put o.dst v') w') : if Region.wanted o (yielded ops a.tmps) = true then Oper.wp P o a w K0 Q else E := by
  rw [if_pos (by simp [Region.wanted, hgd])]
  obtain ⟨i0, hi, hz0, hz1, hz2⟩ := info_parts hK.info
  have hl : (K.cells y).length = 1 * K.size := by rw [hK.len]; omega
  have hcl : ∀ j u, (K.cells y)[j]? = some u → w.cell? ((⟨r, 0, none⟩ : Addr).add j) = some u := fun j u hj => by
    rw [addr_add, cell_of_row _ _ _ _ _ _ hr]; simpa using hj
  have h1 := hK.one _ _ _ hy
  have hbb := hK.small
  have hb2 : (xs.length + 1) * K.bytes ≤ 140737488355328 := Nat.le_trans (Nat.mul_le_mul (by omega : xs.length + 1 ≤ 1000001) hbb) (by decide)
  have hsm : xs.length + 1 ≤ maxLen := by unfold maxLen; omega
  obtain ⟨v', w', hrun, ho1, hg1, _⟩ := run_append_own (P := P) w B K.sl o.type K.ty i0 K.zero K.size K.bytes hK.und hi hz0 hz1 hz2 hK.zs hK.pos v xs.length (xs.flatMap K.cells) h.own ⟨r, 0, none⟩ 1 c (K.cells y) hl hcl h1 hsm hb2 hB
  have hp := app_place (P := P) w B K.sl o.type K.ty i0 K.zero K.size K.bytes hK.und hi hz0 hz1 hz2 v xs.length (xs.flatMap K.cells) h.own ⟨r, 0, none⟩ 1 c (K.cells y) hl hcl h1 hsm hb2 v' w' hrun
  unfold Oper.wp
  simp [execOp, ho, resolve, invoke, builtin, hs, hx, hrun, Result.andThen]
  have kp : ∀ g, (B ≤ g ∧ v.ownBlock ≠ some g) → g < w.heap.size → w'.heap[g]? = w.heap[g]? ∧ (B ≤ g ∧ v'.ownBlock ≠ some g) := fun g hq hlt => by
    refine ⟨hg1.block g hlt (fun e => hq.2 e.symm), hq.1, ?_⟩
    rcases hp with e | e
    · rw [e]; exact hq.2
    · rw [e]; intro e2; cases e2; omega
  refine hn v' w' ⟨?_, fun z hz => ?_⟩ (fun k hk => ?_) hg1
  · rw [List.length_append, List.length_singleton, List.flatMap_append]
    simpa using ho1
  · rcases List.mem_append.1 hz with hz | hz
    · exact hK.keep kp hg1.size z (h.all z hz)
    · simp at hz; subst hz; exact hK.keep kp hg1.size z hy
  · refine hg1.block k (by omega) (fun e => ?_)
    have := (own_lt h.own e.symm).2
    omega
end

end Go.Proofs.YtjjajfipfeigiabDoor

/- A module of constants alone (written by zmodc.py). -/
namespace Go.Proofs.YtjjajfipfeigiabDoor
open Go.RowKit

theorem Tryd.rowModule : (Tryd.prog.info? 26).map (·.size) = some 3 := by kernel_rfl
theorem Tryd.zeroModule : ∀ w, (zeroValue 26).run Tryd.prog w = .ok (.agg #[.slice none 0 0, .slice none 0 0, .slice none 0 0]) w :=
  (Go.zero_of_info (P := Tryd.prog) (t := 26) (v := .agg #[.slice none 0 0, .slice none 0 0, .slice none 0 0]) (n := 3) (by kernel_rfl)).1
theorem Tryd.zeroFunc : ∀ w, (zeroValue 83).run Tryd.prog w = .ok (.agg (fuC zFu (.slice none 0 0) (.slice none 0 0)).toArray) w :=
  (Go.zero_of_info (P := Tryd.prog) (t := 83) (v := .agg (fuC zFu (.slice none 0 0) (.slice none 0 0)).toArray) (n := 6) (by kernel_rfl)).1
/-- a module in a block of its own -/
def Mb (w : World) (g : Nat) (iv cv fv : Value) : Prop := w.heap[g]? = some (.cells #[iv, cv, fv] 26 (0, 0))
/-- v is a module whose lists lie from B on -/
def tMd (B : Nat) : World → Value → Md → Prop := fun w v m => ∃ iv cv fv is cs fs, v = .agg #[iv, cv, fv] ∧ m = ⟨is, cs.map (·.1), fs.map (·.1)⟩ ∧ Lsd kI (fun g => B ≤ g) w iv is ∧ Lsd kC (fun g => B ≤ g) w cv cs ∧ Lsd kF (fun g => B ≤ g) w fv fs
theorem any_doneQ {P : Program} {ops : Array Oper} {Q : Exit → Act → World → Prop} {listed : Array Bool} {a : Act} {w : World} (hr : Region.ready .any ops listed = []) (h : Q .normal a w) : ∀ fuel, wpAny P .any ops Q fuel listed a w
  | 0 => ⟨hr, h⟩
  | _ + 1 => ⟨fun _ => h, by rw [hr]; simp⟩
/-- a module without includes, of its constants and functions -/
def modF (d : Except Ft (List Cn × List Fu × Nat)) : Except Ft (Md × Nat) := match d with
  | .error f => .error f
  | .ok (cs, fs, j) => .ok (⟨[], cs, fs⟩, j)
/-- no token of an include or a function -/
def NoIF (l : List UInt8) (fuel : Int) : Prop := ∀ i t, lkP l fuel i = .ok t → txA l t ≠ [105, 110, 99, 108, 117, 100, 101] ∧ txA l t ≠ [102, 117, 110, 99]

theorem dec_look {l : List UInt8} {fuel : Int} {n m j : Nat} {X : List Cn} {f : Ft} (hl : lkP l fuel j = .error f) (hm : modF (decL (srcP l fuel) n m X [] j) ≠ .error outF) : aft l fuel (modF (decL (srcP l fuel) n m X [] j)) = .error f := by
  cases m with
  | zero => exact absurd rfl hm
  | succ m => simp only [decL, show (srcP l fuel).lk j = .error f from hl, modF, aft]
theorem dec_const {l : List UInt8} {fuel : Int} {n m j jx : Nat} {X : List Cn} {u2 u3 : Tok} {ex : Bool} (h1 : lkP l fuel j = .ok u2) (h0 : ¬ u2.1 = 0) (he : (txA l u2 = [101, 120, 112, 111, 114, 116] ∧ ex = true ∧ jx = j + 1) ∨ (txA l u2 ≠ [101, 120, 112, 111, 114, 116] ∧ ex = false ∧ jx = j)) (h3 : lkP l fuel jx = .ok u3) (hc : txA l u3 = [99, 111, 110, 115, 116]) :
    decL (srcP l fuel) n (m + 1) X [] j = (match cnsP (srcP l fuel) n ex jx with | .error f => .error f | .ok (c, j') => decL (srcP l fuel) n m (X ++ [c]) [] j') := by
  rcases he with ⟨e1, rfl, rfl⟩ | ⟨e1, rfl, rfl⟩
  · simp only [decL, decP, show (srcP l fuel).lk = lkP l fuel from rfl, show (srcP l fuel).tx = txA l from rfl, h1, eq_false h0, if_false, e1, if_true, h3, hc, decide_true]
    cases cnsP (srcP l fuel) n true (j + 1) <;> rfl
  · rw [h1] at h3
    cases h3
    simp only [decL, decP, show (srcP l fuel).lk = lkP l fuel from rfl, show (srcP l fuel).tx = txA l from rfl, h1, eq_false h0, if_false, eq_false e1, decide_false]
    rw [if_pos hc]
    cases cnsP (srcP l fuel) n false jx <;> rfl
theorem dec_bad {l : List UInt8} {fuel : Int} {n m j jx : Nat} {X : List Cn} {u2 u3 : Tok} {ex : Bool} (h1 : lkP l fuel j = .ok u2) (h0 : ¬ u2.1 = 0) (he : (txA l u2 = [101, 120, 112, 111, 114, 116] ∧ ex = true ∧ jx = j + 1) ∨ (txA l u2 ≠ [101, 120, 112, 111, 114, 116] ∧ ex = false ∧ jx = j)) (h3 : lkP l fuel jx = .ok u3) (hc : ¬ txA l u3 = [99, 111, 110, 115, 116]) (hf : txA l u3 ≠ [102, 117, 110, 99]) :
    decL (srcP l fuel) n (m + 1) X [] j = .error (badF 140 jx u3) := by
  rcases he with ⟨e1, rfl, rfl⟩ | ⟨e1, rfl, rfl⟩
  · simp only [decL, decP, funP, takeP, show (srcP l fuel).lk = lkP l fuel from rfl, show (srcP l fuel).tx = txA l from rfl, h1, eq_false h0, if_false, e1, if_true, h3, eq_false hc, eq_false hf]
  · rw [h1] at h3
    cases h3
    simp only [decL, decP, funP, takeP, show (srcP l fuel).lk = lkP l fuel from rfl, show (srcP l fuel).tx = txA l from rfl, h1, eq_false h0, if_false, eq_false e1, eq_false hc, eq_false hf]

section
variable {w w' : World} {b : Nat} {l : List UInt8} {fuel : Int} {i lv : Nat} {t : Tok}
theorem cnsP_lt {S : Sup} {n i j : Nat} {ex : Bool} {a : Cn} (h : cnsP S n ex i = .ok (a, j)) : i + 2 ≤ j := by
  unfold cnsP at h
  split at h
  · cases h
  · rename_i h1
    have := takeP_in h1
    split at h
    · cases h
    · split at h
      · cases h
      · rename_i h2
        have := wordP_in h2
        split at h
        · cases h
        · rename_i h3
          have : ∀ {lv i j : Nat} {e : Ex}, givP S n lv i = .ok (e, j) → i < j := fun {lv i j e} hh => by
            unfold givP at hh
            split at hh
            · cases hh
            · rename_i k1
              have := takeP_in k1
              split at hh
              · cases hh
              · rename_i k2
                have := exp_lt _ _ _ _ _ _ k2
                split at hh
                · cases hh
                · rename_i k3
                  have := takeP_in k3
                  cases hh
                  omega
          have := this h3
          cases h
          omega

set_option maxRecDepth 20000 in
set_option maxHeartbeats 2000000 in
theorem function_no (ex : Bool) (hf : txA l t ≠ [102, 117, 110, 99]) (w : World) (h : Sz w b l fuel i 0 t) :
    Calls Tryd.prog 29 #[.pointer (some ⟨b, 0, none⟩), .bool ex] w (Out l fuel b 0 (tK kF w.heap.size (·.1)) w (.error (badF 140 i t))) := by
  have hb1 := below_walk w (.cells (fuC zFu (.slice none 0 0) (.slice none 0 0)).toArray 83)
  have HZ1 := hid (h.below hb1)
  have HG1 := hid (below_gb hb1 (some b))
  have HT := hid (take_any [102, 117, 110, 99] (by decide) _ (h.below hb1))
  have HE : Hid (aft l fuel (takP l [102, 117, 110, 99] i t) = .error (badF 140 i t)) := hid (by simp only [takP, if_neg hf, aft])
  rw [HE.out] at HT
  clear h hb1 hf
  go_enter Tryd.func29, Tryd.ntmps29
  go_upto_region 1 with (refine al_row rfl 83 rfl _ Tryd.zeroFunc ?_)
  go_wp2_with fail
  refine HT.out.mono ?_
  rintro e w3 ⟨hg, rfl, u, lv', hz⟩
  have HH := hid (show Out l fuel b 0 (tK kF w.heap.size (·.1)) w (.error (badF 140 i t)) (.panicked (wrV 140 t.2.1)) w3 from ⟨gb_trans HG1.out hg, rfl, u, lv', hz⟩)
  clear hg hz
  go_wp2_with fail
  exact ⟨rfl, HH.out⟩
set_option maxRecDepth 20000 in
set_option maxHeartbeats 2000000 in
theorem modC_any {n : Nat} (hn : n ≤ 1000000000) (hno : NoIF l fuel) (w : World) (h : Sz w b l fuel 0 0 t) (hout : modP (srcP l fuel) n ≠ .error outF) :
    Calls Tryd.prog 14 #[.pointer (some ⟨b, 0, none⟩)] w (Out l fuel b 0 (tMd w.heap.size) w (aft l fuel (modP (srcP l fuel) n))) := by
  obtain ⟨R, HR⟩ : ∃ R, Hid (modP (srcP l fuel) n = R) := ⟨_, rfl⟩
  rw [HR.out] at hout ⊢
  obtain ⟨B, HB⟩ : ∃ B, Hid (w.heap.size = B) := ⟨_, rfl⟩
  rw [HB.out]
  have H0 := hid h
  have HOUT := hid hout
  have HNO := hid hno
  obtain ⟨n0, rfl⟩ : ∃ q, n = q + 1 := by
    cases n with
    | zero => exact absurd (by rw [← HR.out]; rfl) hout
    | succ n => exact ⟨n, rfl⟩
  have HEQ0 : Hid (R = modF (decL (srcP l fuel) (n0 + 1) (n0 + 1) [] [] 0)) := hid (by
    rw [← HR.out]
    have := (hno 0 t h.lk).1
    simp only [modP, incL, srcP_lk, srcP_tx, h.lk, eq_false this, if_false]
    cases decL (srcP l fuel) (n0 + 1) (n0 + 1) [] [] 0 <;> rfl)
  have hb1 := below_walk w (.cells #[.slice none 0 0, .slice none 0 0, .slice none 0 0] 26)
  have hb2 := below_walk (w.alloc (.cells #[.slice none 0 0, .slice none 0 0, .slice none 0 0] 26)) (.cells #[.slice none 0 0, .slice none 0 0, .slice none 0 0] 26)
  have hz1 := hp_size w (.cells #[.slice none 0 0, .slice none 0 0, .slice none 0 0] 26)
  have HN2 := hid ((hb2.block w.heap.size (hp_lt (hp_new w _))).trans (hp_new w (.cells #[.slice none 0 0, .slice none 0 0, .slice none 0 0] 26)))
  have HM2 : Hid (Mb ((w.alloc (.cells #[.slice none 0 0, .slice none 0 0, .slice none 0 0] 26)).alloc (.cells #[.slice none 0 0, .slice none 0 0, .slice none 0 0] 26)) (w.heap.size + 1) (.slice none 0 0) (.slice none 0 0) (.slice none 0 0)) := hid (by have := hp_new (w.alloc (.cells #[.slice none 0 0, .slice none 0 0, .slice none 0 0] 26)) (.cells #[.slice none 0 0, .slice none 0 0, .slice none 0 0] 26); rw [hz1] at this; exact this)
  have HZ2 := hid ((h.below hb1).below hb2)
  have HG2 := hid (gb_trans (below_gb hb1 (some b)) (below_gb hb2 (some b)))
  have hz2 : B + 2 ≤ ((w.alloc (.cells #[.slice none 0 0, .slice none 0 0, .slice none 0 0] 26)).alloc (.cells #[.slice none 0 0, .slice none 0 0, .slice none 0 0] 26)).heap.size := by rw [hp_size, hz1, HB.out]; omega
  have HLT := hid h.pz.lt
  rw [HB.out] at HLT HN2 HM2 hz1
  clear h hb1 hb2 hout hno
  go_enter Tryd.func14, Tryd.ntmps14
  go_wp2_with (refine al_row rfl 26 rfl _ Tryd.zeroModule ?_)
  try rw [hz1]
  try rw [HB.out]
  generalize (w.alloc (.cells #[.slice none 0 0, .slice none 0 0, .slice none 0 0] 26)).alloc (.cells #[.slice none 0 0, .slice none 0 0, .slice none 0 0] 26) = w2 at *
  clear hz1
  try simp only [Act.put, List.setIfInBounds_toArray, List.set_cons_succ, List.set_cons_zero]
  go_loopw [5] (fun _ wr => Hid (Mb wr (B + 1) (.slice none 0 0) (.slice none 0 0) (.slice none 0 0)) ∧ Hid (Sz wr b l fuel 0 0 t) ∧ Hid (w.grownBy wr (some b)) ∧ Hid (wr.heap[B]? = some (.cells #[.slice none 0 0, .slice none 0 0, .slice none 0 0] 26 (0, 0))) ∧ B + 2 ≤ wr.heap.size) (fun _ _ => 0)
  case atStart => exact ⟨HM2, HZ2, HG2, HN2, hz2⟩
  case round =>
    clear HM2 HZ2 HG2 HN2 hz2
    obtain ⟨HM, HZ, HG, HN, hz⟩ := hrel
    have hb3 := below_walk wr (.cells #[.string (mk [105, 110, 99, 108, 117, 100, 101])] 9)
    have HI := hid (is_any [[105, 110, 99, 108, 117, 100, 101]] _ HZ.out.ok _ (HZ.out.below hb3).pz (strs_1 wr [105, 110, 99, 108, 117, 100, 101]) (by simp))
    have ht : (ttP l t.2.1 t.2.2 ∈ [[105, 110, 99, 108, 117, 100, 101]]) = (txA l t = [105, 110, 99, 108, 117, 100, 101]) := by simp [txA]
    simp only [ht, decide_eq_false (HNO.out 0 t HZ.out.lk).1] at HI
    have HM3 : Hid (Mb (wr.alloc (.cells #[.string (mk [105, 110, 99, 108, 117, 100, 101])] 9)) (B + 1) (.slice none 0 0) (.slice none 0 0) (.slice none 0 0)) := hid ((hb3.block (B + 1) (hp_lt HM.out)).trans HM.out)
    have HN3 := hid ((hb3.block B (hp_lt HN.out)).trans HN.out)
    have HZ3 := hid (HZ.out.below hb3)
    have HG3 := hid (gb_trans HG.out (below_gb hb3 (some b)))
    have hz3 : B + 2 ≤ (wr.alloc (.cells #[.string (mk [105, 110, 99, 108, 117, 100, 101])] 9)).heap.size := Nat.le_trans hz hb3.size
    clear hb3 ht HM HN HZ HG hz
    go_wp2_with (first
      | (go_at_call 25; refine HI.out.mono ?_; rintro e w' ⟨rfl, n1, rfl⟩))
    have HM4 : Hid (Mb ((wr.alloc (.cells #[.string (mk [105, 110, 99, 108, 117, 100, 101])] 9)).drewN n1) (B + 1) (.slice none 0 0) (.slice none 0 0) (.slice none 0 0)) := HM3
    have HN4 : Hid (((wr.alloc (.cells #[.string (mk [105, 110, 99, 108, 117, 100, 101])] 9)).drewN n1).heap[B]? = some (.cells #[.slice none 0 0, .slice none 0 0, .slice none 0 0] 26 (0, 0))) := HN3
    have HZ4 := hid (HZ3.out.drewN n1)
    have HG4 := hid (gbz_drewN HG3.out n1)
    have hz4 : B + 2 ≤ ((wr.alloc (.cells #[.string (mk [105, 110, 99, 108, 117, 100, 101])] 9)).drewN n1).heap.size := hz3
    clear HI HM3 HN3 HZ3 HG3 hz3
    generalize (wr.alloc (.cells #[.string (mk [105, 110, 99, 108, 117, 100, 101])] 9)).drewN n1 = w4 at *
    go_loopw [15] (fun _ wr => ∃ (m j : Nat) (u : Tok) (cs : List (Cn × Value)) (cv : Value), cs.length ≤ j ∧ Hid (Mb wr (B + 1) (.slice none 0 0) cv (.slice none 0 0)) ∧ Hid (Gro kC wr (B + 2) cv cs) ∧ Hid (Sz wr b l fuel j 0 u) ∧ Hid (w.grownBy wr (some b)) ∧ Hid (wr.heap[B]? = some (.cells #[.slice none 0 0, .slice none 0 0, .slice none 0 0] 26 (0, 0))) ∧ Hid (R = modF (decL (srcP l fuel) (n0 + 1) m (cs.map (·.1)) [] j))) (fun _ wr => 65540 - usW b wr)
    case atStart => exact ⟨n0 + 1, 0, t, [], .slice none 0 0, by simp, HM4, hid (Gro.nil _ _ _), HZ4, HG4, HN4, HEQ0⟩
    case round =>
      clear HM4 HZ4 HG4 HN4 HEQ0 hz4
      obtain ⟨m, j, u2, cs, cv0, hcs, HMW, HLW, HZW, HGW, HNW, HEQ⟩ := hrel
      have hj6 := (lk_lt HZW.out.lk).1
      obtain ⟨av, cv, hcv⟩ := HLW.out.shape
      subst hcv
      obtain ⟨N, HNN⟩ : ∃ N, Hid (cs.length = N) := ⟨_, rfl⟩
      rw [HNN.out] at hcs HMW HLW
      obtain ⟨m, rfl⟩ : ∃ q, m = q + 1 := by
        cases m with
        | zero => exact absurd HEQ.out HOUT.out
        | succ m => exact ⟨m, rfl⟩
      have HUS := hid HZW.out.us
      have c1 := HZW.out.pz.c1
      have hzw : B + 2 ≤ wr.heap.size := by have := hp_lt HMW.out; omega
      by_cases h0 : u2.1 = 0
      · have HREQ : Hid (R = .ok (⟨[], cs.map (·.1), []⟩, j)) := hid (by rw [HEQ.out]; simp only [decL, srcP_lk, HZW.out.lk, h0, if_true, modF])
        have q0 : (u2.1 : Int) = 0 := by omega
        rw [q0] at c1
        clear h0 q0
        go_wp2_with (first
          | (refine ld_row rfl 26 (.tmp 3) rfl (B + 1) rfl [.slice none 0 0, .slice av N cv, .slice none 0 0] 26 HMW.out _ Tryd.underlying26 rfl Tryd.rowModule ?_)
          | (refine st_row rfl 26 (.tmp 2) (.tmp 42) rfl B [.slice none 0 0, .slice av N cv, .slice none 0 0] rfl rfl 26 _ HNW.out Tryd.rowModule rfl (by simp [Value.oneCell']) ?_; intro w9 hs9; have HS9 := hid hs9; clear hs9))
        refine ret_row 2 26 rfl B rfl _ 26 HS9.out.blk _ Tryd.underlying26 rfl Tryd.rowModule rfl ?_
        exact out_row H0.out HGW.out HZW.out HS9.out (by rw [HB.out]; exact Nat.le_refl _) HREQ.out ⟨_, _, _, [], cs, [], rfl, rfl, Or.inl ⟨rfl, _, _, rfl⟩, (HLW.out.lsd kC_ok).keep kC_ok (fun g hq hl => ⟨HS9.out.grown.block g hl (by simp; omega), by omega⟩) HS9.out.grown.size, Or.inl ⟨rfl, _, _, rfl⟩⟩
      · have q0 : ¬ (u2.1 : Int) = 0 := by omega
        have H00 := hid h0
        have HZW0 := HZW
        have HGW0 := HGW
        have HK := hid (skip_any [101, 120, 112, 111, 114, 116] (by decide) wr HZW.out)
        clear h0
        go_wp2_with fail
        refine HK.out.mono ?_
        intro e w5 hO
        obtain ⟨hgc, ⟨f, h1, h2, rfl, h4⟩ | ⟨ex, jx, vc, u3, h1c, rfl, h3c, h4c⟩⟩ := out_mono (lv' := 0) (T' := tMd B) (r' := aft l fuel R) HGW0.out hO (fun f hf => by obtain ⟨q1, q2⟩ := skp_er HZW0.out.lk hf; rw [HEQ.out]; simp only [decL, decP, srcP_lk, srcP_tx, HZW0.out.lk, eq_false H00.out, if_false, q1, if_true, q2, modF, aft])
        · have H4 := hid h4
          clear h1 h2 h4 hgc hO
          go_wp2_with fail
          exact ⟨rfl, H4.out⟩
        · have hoc := hO.1
          clear hO
          subst h3c
          have HSK := hid (skp_in h1c)
          have HZ5 := hid h4c
          have HM5 : Hid (Mb w5 (B + 1) (.slice none 0 0) (.slice av N cv) (.slice none 0 0)) := hid ((hoc.block (B + 1) (hp_lt HMW.out) (by have := HLT.out; simp; omega)).trans HMW.out)
          have HN5 := hid ((hoc.block B (hp_lt HNW.out) (by have := HLT.out; simp; omega)).trans HNW.out)
          have HL5 := hid (HLW.out.gb kC_ok hoc (by have := HLT.out; omega))
          have hb6 := below_walk w5 (.cells #[.string (mk [99, 111, 110, 115, 116])] 9)
          have HI := hid (is_any [[99, 111, 110, 115, 116]] _ HZ5.out.ok _ (HZ5.out.below hb6).pz (strs_1 w5 [99, 111, 110, 115, 116]) (by simp))
          have ht : (ttP l u3.2.1 u3.2.2 ∈ [[99, 111, 110, 115, 116]]) = (txA l u3 = [99, 111, 110, 115, 116]) := by simp [txA]
          simp only [ht] at HI
          have HM6 : Hid (Mb (w5.alloc (.cells #[.string (mk [99, 111, 110, 115, 116])] 9)) (B + 1) (.slice none 0 0) (.slice av N cv) (.slice none 0 0)) := hid ((hb6.block (B + 1) (hp_lt HM5.out)).trans HM5.out)
          have HN6 := hid ((hb6.block B (hp_lt HN5.out)).trans HN5.out)
          have HL6 := hid (HL5.out.below kC_ok hb6)
          have HZ6 := hid (HZ5.out.below hb6)
          have HG6 := hid (gb_trans hgc (below_gb hb6 (some b)))
          have hjx : j ≤ jx := by rcases HSK.out with ⟨_, _, h⟩ | ⟨_, _, h⟩ <;> omega
          clear h1c h4c hgc hoc hb6 ht HM5 HN5 HL5 HMW HLW HZW HGW HNW c1 HK
          by_cases hc : txA l u3 = [99, 111, 110, 115, 116]
          · simp only [decide_eq_true hc] at HI
            have HDEC := hid (fun X => dec_const (n := n0 + 1) (m := m) (X := X) HZW0.out.lk H00.out HSK.out HZ5.out.lk hc)
            clear hc
            go_upto_region 7 with (first
              | (go_at_call 25; refine HI.out.mono ?_; rintro e w' ⟨rfl, n1, rfl⟩))
            have HMW : Hid (Mb ((w5.alloc (.cells #[.string (mk [99, 111, 110, 115, 116])] 9)).drewN n1) (B + 1) (.slice none 0 0) (.slice av N cv) (.slice none 0 0)) := HM6
            have HNW : Hid (((w5.alloc (.cells #[.string (mk [99, 111, 110, 115, 116])] 9)).drewN n1).heap[B]? = some (.cells #[.slice none 0 0, .slice none 0 0, .slice none 0 0] 26 (0, 0))) := HN6
            have HLW : Hid (Gro kC ((w5.alloc (.cells #[.string (mk [99, 111, 110, 115, 116])] 9)).drewN n1) (B + 2) (.slice av N cv) cs) := hid (HL6.out.below kC_ok ⟨rfl, rfl, rfl, Nat.le_refl _, fun _ _ => rfl⟩)
            have HZW := hid (HZ6.out.drewN n1)
            have HGW := hid (gbz_drewN HG6.out n1)
            clear HI HM6 HN6 HL6 HZ6 HG6
            generalize (w5.alloc (.cells #[.string (mk [99, 111, 110, 115, 116])] 9)).drewN n1 = wx at *
            have hzx : B + 2 ≤ wx.heap.size := by have := hp_lt HMW.out; omega
            have hlen : cs.length ≤ 1000000 := by rw [HNN.out]; omega
            have hco : cnsP (srcP l fuel) (n0 + 1) ex jx ≠ .error outF := fun q => HOUT.out (by rw [HEQ.out]; simp only [HDEC.out, q, modF])
            have HC := hid (fun W hz => constant_any (b := b) (i := jx) (t := u3) hn ex W hz hco)
            clear hco
            have HDW := hid (show Below wx.heap.size wx wx.drew from (Below.refl _ _).drew)
            refine wp_region_any (by kernel_rfl) ?_
            refine any_yieldQ 0 _ (.pointer (some ⟨B + 1, 1, none⟩)) rfl rfl (by kernel_rfl) (by kernel_rfl) (by kernel_rfl) (fun _ _ _ h => h) (fun W => by go_simp) ?_
            simp only [Act.put, List.getElem_toArray, List.getElem_cons_zero, List.setIfInBounds_toArray, List.set_cons_succ, List.set_cons_zero]
            refine any_yieldQ 2 _ (.pointer (some ⟨b, 0, none⟩)) rfl rfl (by kernel_rfl) (by kernel_rfl) (by kernel_rfl) (fun _ _ _ h => h) (fun W => by go_simp) ?_
            simp only [Act.put, List.getElem_toArray, List.getElem_cons_zero, List.getElem_cons_succ, List.setIfInBounds_toArray, List.set_cons_succ, List.set_cons_zero]
            refine any_yieldQ 3 _ (.bool ex) rfl rfl (by kernel_rfl) (by kernel_rfl) (by kernel_rfl) (fun _ _ _ h => h) (fun W => by go_simp) ?_
            simp only [Act.put, List.getElem_toArray, List.getElem_cons_zero, List.getElem_cons_succ, List.setIfInBounds_toArray, List.set_cons_succ, List.set_cons_zero]
            refine any_two 1 4 (by kernel_rfl) ?ld ?cl
            case ld =>
              refine op_go rfl (fun K hK => ?_)
              have hcell : wx.drew.cell? ⟨B + 1, 1, none⟩ = some (.slice av N cv) := by rw [cell_of_row _ _ _ _ _ _ (show wx.drew.heap[B + 1]? = _ from HMW.out)]; rfl
              go_simp
              refine hK.out _ _ ?_
              clear hK K hcell
              try simp only [Act.put, List.getElem_toArray, List.getElem_cons_zero, List.getElem_cons_succ, List.setIfInBounds_toArray, List.set_cons_succ, List.set_cons_zero]
              refine any_oneQ 4 (by kernel_rfl) ?_
              refine op_go rfl (fun K hK => ?_)
              go_simp
              refine (HC.out _ (HZW.out.below HDW.out)).mono ?_
              intro e w6 hO
              obtain ⟨hgd, ⟨f, h1, h2, rfl, h4⟩ | ⟨a6, j6, vd, u6, h1d, rfl, h3d, h4d⟩⟩ := out_mono (lv' := 0) (T' := tMd B) (r' := aft l fuel R) (gb_trans HGW.out (below_gb HDW.out (some b))) hO (fun f hf => by rw [HEQ.out]; exact Or.elim (aft_er hf) (fun q => by simp only [HDEC.out, q, modF, aft]) (fun ⟨_, _, q, ql⟩ => by have hm := HOUT.out; rw [HEQ.out] at hm; simp only [HDEC.out, q] at hm ⊢; exact dec_look ql hm))
              · have H4 := hid h4
                clear h1 h2 h4 hgd hO
                go_wp2_with fail
                exact ⟨rfl, H4.out⟩
              · have hod := hO.1
                clear hO
                obtain ⟨kv, dd, rfl, hex⟩ := h3d
                have HA := hid (aft_in h1d)
                have hjj := cnsP_lt HA.out
                have hod : wx.grownBy w6 (some b) := gb_trans (below_gb HDW.out (some b)) hod
                have HM6 : Hid (Mb w6 (B + 1) (.slice none 0 0) (.slice av N cv) (.slice none 0 0)) := hid ((hod.block (B + 1) (hp_lt HMW.out) (by have := HLT.out; simp; omega)).trans HMW.out)
                have HN6 := hid ((hod.block B (hp_lt HNW.out) (by have := HLT.out; simp; omega)).trans HNW.out)
                have HL6 := hid (HLW.out.gb kC_ok hod (by have := HLT.out; omega))
                have hs6 : wx.heap.size ≤ w6.heap.size := hod.size
                have hb7 := below_walk w6 (.cells (kC.cells (a6, kv)).toArray kC.ty)
                obtain ⟨w7, HW7⟩ : ∃ w7, Hid (w6.alloc (.cells (kC.cells (a6, kv)).toArray kC.ty) = w7) := ⟨_, hid rfl⟩
                have HR7 := hid (hp_new w6 (.cells (kC.cells (a6, kv)).toArray kC.ty))
                rw [HW7.out] at hb7 HR7
                have HM7 : Hid (Mb w7 (B + 1) (.slice none 0 0) (.slice av N cv) (.slice none 0 0)) := hid ((hb7.block (B + 1) (hp_lt HM6.out)).trans HM6.out)
                have HN7 := hid ((hb7.block B (hp_lt HN6.out)).trans HN6.out)
                have HL7 := hid (HL6.out.below kC_ok hb7)
                have HZ7 := hid (h4d.below hb7)
                have HG7 := hid (gb_trans hgd (below_gb hb7 (some b)))
                have HS7 : Hid (B + 2 ≤ w7.heap.size) := hid (by have := hb7.size; omega)
                have HY7 : Hid (kC.good (fun g => B + 2 ≤ g ∧ (Value.slice av N cv).ownBlock ≠ some g) w7 (a6, kv)) := hid ⟨dd, hex.keep (fun g hq hl => ⟨hb7.block g hl, by have : wx.heap.size ≤ g := hq; exact ⟨by omega, fun e => by have := (own_lt HLW.out.own e).1; omega⟩⟩) hb7.size⟩
                clear h1d h4d hgd hod hex hb7
                go_wp2_with fail
                refine hK.out _ _ ?_
                clear hK K
                try simp only [Act.put, List.getElem_toArray, List.getElem_cons_zero, List.getElem_cons_succ, List.setIfInBounds_toArray, List.set_cons_succ, List.set_cons_zero]
                refine any_oneQ 5 (by kernel_rfl) ?_
                refine op_go rfl (fun K hK => ?_)
                refine bs_oneS kC_ok rfl (.tmp 30) rfl (a6, kv) rfl _ rfl w7 HW7.out ?_
                refine hK.out _ _ ?_
                clear hK K
                try simp only [Act.put, List.getElem_toArray, List.getElem_cons_zero, List.getElem_cons_succ, List.setIfInBounds_toArray, List.set_cons_succ, List.set_cons_zero]
                refine any_oneQ 6 (by kernel_rfl) ?_
                refine op_go rfl (fun K hK => ?_)
                refine app_groS kC_ok rfl (.tmp 27) (.tmp 31) rfl rfl HL7.out _ 1 (a6, kv) rfl HR7.out HY7.out hlen HS7.out ?_
                intro v8 w8 hg8 hl8 hw8
                have HL8 := hid hg8
                have HM8 : Hid (Mb w8 (B + 1) (.slice none 0 0) (.slice av N cv) (.slice none 0 0)) := hid ((hl8 (B + 1) (by omega)).trans HM7.out)
                have HN8 := hid ((hl8 B (by omega)).trans HN7.out)
                have HZ8 : Hid (Sz w8 b l fuel j6 0 u6) := hid ⟨HZ7.out.lk, H0.out.pz.lows HB.out HZ7.out.pz (fun k hk => hl8 k (by omega)) hw8.size⟩
                have HG8 := hid (gb_low HB.out HG7.out hw8 (fun k hk => hl8 k (by omega)))
                obtain ⟨av8, cv8, hv8⟩ := hg8.shape
                subst hv8
                rw [List.length_append, List.length_singleton, HNN.out] at HL8 ⊢
                clear hg8 hl8 hw8
                refine hK.out _ _ ?_
                clear hK K
                try simp only [Act.put, List.getElem_toArray, List.getElem_cons_zero, List.getElem_cons_succ, List.setIfInBounds_toArray, List.set_cons_succ, List.set_cons_zero]
                refine any_yieldQ 7 _ (.pointer (some ⟨B + 1, 1, none⟩)) rfl rfl (by kernel_rfl) (by kernel_rfl) (by kernel_rfl) (fun _ _ _ h => h) (fun W => by go_simp) ?_
                simp only [Act.put, List.getElem_toArray, List.getElem_cons_zero, List.getElem_cons_succ, List.setIfInBounds_toArray, List.set_cons_succ, List.set_cons_zero]
                refine any_oneQ 8 (by kernel_rfl) ?_
                refine op_go rfl (fun K hK => ?_)
                have hcell : w8.cell? ⟨B + 1, 1, none⟩ = some (.slice av N cv) := by rw [cell_of_row _ _ _ _ _ _ HM8.out]; rfl
                have hfz : w8.frozen? ⟨B + 1, 1, none⟩ = false := by have hh : w8.heap[B + 1]? = _ := HM8.out; simp [World.frozen?, hh]
                go_simp
                refine hK.out _ _ ?_
                clear hK K hcell hfz
                have g9 := gb_setc w8 (B + 1) 1 (.slice av8 (N + 1) cv8)
                have HM9 : Hid (Mb (w8.setCell ⟨B + 1, 1, none⟩ (.slice av8 (N + 1) cv8)) (B + 1) (.slice none 0 0) (.slice av8 (N + 1) cv8) (.slice none 0 0)) := hid (hp_put HM8.out _)
                have HN9 := hid ((g9.block B (hp_lt HN8.out) (by simp)).trans HN8.out)
                have HZ9 := hid (H0.out.new HZ8.out g9 (by rw [HB.out]; omega))
                have HG9 := hid (gb_new HG8.out g9 (by rw [HB.out]; omega))
                have HL9 : Hid (Gro kC (w8.setCell ⟨B + 1, 1, none⟩ (.slice av8 (N + 1) cv8)) (B + 2) (.slice av8 (N + 1) cv8) (cs ++ [(a6, kv)])) := hid (HL8.out.gb kC_ok g9 (by omega))
                clear g9
                generalize w8.setCell ⟨B + 1, 1, none⟩ (.slice av8 (N + 1) cv8) = w9 at *
                refine any_doneQ (by kernel_rfl) ?_ _
                go_wp2
                refine ⟨⟨m, j6, u6, cs ++ [(a6, kv)], _, by rw [List.length_append, List.length_singleton, HNN.out]; omega, HM9, HL9, HZ9, HG9, HN9, hid ?_⟩, ?_⟩
                · rw [HEQ.out]
                  simp only [HDEC.out, HA.out, List.map_append, List.map_cons, List.map_nil]
                · rw [HZ9.out.us, HUS.out]
                  have h7 := us_le j6 u6
                  have h8 := us_le j u2
                  have h9 := (lk_lt HZ9.out.lk).1
                  omega
            case cl =>
              refine op_go rfl (fun K hK => ?_)
              go_simp
              refine (HC.out _ (HZW.out.below HDW.out)).mono ?_
              intro e w6 hO
              obtain ⟨hgd, ⟨f, h1, h2, rfl, h4⟩ | ⟨a6, j6, vd, u6, h1d, rfl, h3d, h4d⟩⟩ := out_mono (lv' := 0) (T' := tMd B) (r' := aft l fuel R) (gb_trans HGW.out (below_gb HDW.out (some b))) hO (fun f hf => by rw [HEQ.out]; exact Or.elim (aft_er hf) (fun q => by simp only [HDEC.out, q, modF, aft]) (fun ⟨_, _, q, ql⟩ => by have hm := HOUT.out; rw [HEQ.out] at hm; simp only [HDEC.out, q] at hm ⊢; exact dec_look ql hm))
              · have H4 := hid h4
                clear h1 h2 h4 hgd hO
                go_wp2_with fail
                exact ⟨rfl, H4.out⟩
              · have hod := hO.1
                clear hO
                obtain ⟨kv, dd, rfl, hex⟩ := h3d
                have HA := hid (aft_in h1d)
                have hjj := cnsP_lt HA.out
                have hod : wx.grownBy w6 (some b) := gb_trans (below_gb HDW.out (some b)) hod
                have HM6 : Hid (Mb w6 (B + 1) (.slice none 0 0) (.slice av N cv) (.slice none 0 0)) := hid ((hod.block (B + 1) (hp_lt HMW.out) (by have := HLT.out; simp; omega)).trans HMW.out)
                have HN6 := hid ((hod.block B (hp_lt HNW.out) (by have := HLT.out; simp; omega)).trans HNW.out)
                have HL6 := hid (HLW.out.gb kC_ok hod (by have := HLT.out; omega))
                have hs6 : wx.heap.size ≤ w6.heap.size := hod.size
                have hb7 := below_walk w6 (.cells (kC.cells (a6, kv)).toArray kC.ty)
                obtain ⟨w7, HW7⟩ : ∃ w7, Hid (w6.alloc (.cells (kC.cells (a6, kv)).toArray kC.ty) = w7) := ⟨_, hid rfl⟩
                have HR7 := hid (hp_new w6 (.cells (kC.cells (a6, kv)).toArray kC.ty))
                rw [HW7.out] at hb7 HR7
                have HM7 : Hid (Mb w7 (B + 1) (.slice none 0 0) (.slice av N cv) (.slice none 0 0)) := hid ((hb7.block (B + 1) (hp_lt HM6.out)).trans HM6.out)
                have HN7 := hid ((hb7.block B (hp_lt HN6.out)).trans HN6.out)
                have HL7 := hid (HL6.out.below kC_ok hb7)
                have HZ7 := hid (h4d.below hb7)
                have HG7 := hid (gb_trans hgd (below_gb hb7 (some b)))
                have HS7 : Hid (B + 2 ≤ w7.heap.size) := hid (by have := hb7.size; omega)
                have HY7 : Hid (kC.good (fun g => B + 2 ≤ g ∧ (Value.slice av N cv).ownBlock ≠ some g) w7 (a6, kv)) := hid ⟨dd, hex.keep (fun g hq hl => ⟨hb7.block g hl, by have : wx.heap.size ≤ g := hq; exact ⟨by omega, fun e => by have := (own_lt HLW.out.own e).1; omega⟩⟩) hb7.size⟩
                clear h1d h4d hgd hod hex hb7
                go_wp2_with fail
                refine hK.out _ _ ?_
                clear hK K
                try simp only [Act.put, List.getElem_toArray, List.getElem_cons_zero, List.getElem_cons_succ, List.setIfInBounds_toArray, List.set_cons_succ, List.set_cons_zero]
                refine any_two 1 5 (by kernel_rfl) ?l1 ?l2
                case l1 =>
                  refine op_go rfl (fun K hK => ?_)
                  have hcell : w6.cell? ⟨B + 1, 1, none⟩ = some (.slice av N cv) := by rw [cell_of_row _ _ _ _ _ _ HM6.out]; rfl
                  go_simp
                  refine hK.out _ _ ?_
                  clear hK K hcell
                  try simp only [Act.put, List.getElem_toArray, List.getElem_cons_zero, List.getElem_cons_succ, List.setIfInBounds_toArray, List.set_cons_succ, List.set_cons_zero]
                  refine any_oneQ 5 (by kernel_rfl) ?_
                  refine op_go rfl (fun K hK => ?_)
                  refine bs_oneS kC_ok rfl (.tmp 30) rfl (a6, kv) rfl _ rfl w7 HW7.out ?_
                  refine hK.out _ _ ?_
                  clear hK K
                  try simp only [Act.put, List.getElem_toArray, List.getElem_cons_zero, List.getElem_cons_succ, List.setIfInBounds_toArray, List.set_cons_succ, List.set_cons_zero]
                  refine any_oneQ 6 (by kernel_rfl) ?_
                  refine op_go rfl (fun K hK => ?_)
                  refine app_groS kC_ok rfl (.tmp 27) (.tmp 31) rfl rfl HL7.out _ 1 (a6, kv) rfl HR7.out HY7.out hlen HS7.out ?_
                  intro v8 w8 hg8 hl8 hw8
                  have HL8 := hid hg8
                  have HM8 : Hid (Mb w8 (B + 1) (.slice none 0 0) (.slice av N cv) (.slice none 0 0)) := hid ((hl8 (B + 1) (by omega)).trans HM7.out)
                  have HN8 := hid ((hl8 B (by omega)).trans HN7.out)
                  have HZ8 : Hid (Sz w8 b l fuel j6 0 u6) := hid ⟨HZ7.out.lk, H0.out.pz.lows HB.out HZ7.out.pz (fun k hk => hl8 k (by omega)) hw8.size⟩
                  have HG8 := hid (gb_low HB.out HG7.out hw8 (fun k hk => hl8 k (by omega)))
                  obtain ⟨av8, cv8, hv8⟩ := hg8.shape
                  subst hv8
                  rw [List.length_append, List.length_singleton, HNN.out] at HL8 ⊢
                  clear hg8 hl8 hw8
                  refine hK.out _ _ ?_
                  clear hK K
                  try simp only [Act.put, List.getElem_toArray, List.getElem_cons_zero, List.getElem_cons_succ, List.setIfInBounds_toArray, List.set_cons_succ, List.set_cons_zero]
                  refine any_yieldQ 7 _ (.pointer (some ⟨B + 1, 1, none⟩)) rfl rfl (by kernel_rfl) (by kernel_rfl) (by kernel_rfl) (fun _ _ _ h => h) (fun W => by go_simp) ?_
                  simp only [Act.put, List.getElem_toArray, List.getElem_cons_zero, List.getElem_cons_succ, List.setIfInBounds_toArray, List.set_cons_succ, List.set_cons_zero]
                  refine any_oneQ 8 (by kernel_rfl) ?_
                  refine op_go rfl (fun K hK => ?_)
                  have hcell : w8.cell? ⟨B + 1, 1, none⟩ = some (.slice av N cv) := by rw [cell_of_row _ _ _ _ _ _ HM8.out]; rfl
                  have hfz : w8.frozen? ⟨B + 1, 1, none⟩ = false := by have hh : w8.heap[B + 1]? = _ := HM8.out; simp [World.frozen?, hh]
                  go_simp
                  refine hK.out _ _ ?_
                  clear hK K hcell hfz
                  have g9 := gb_setc w8 (B + 1) 1 (.slice av8 (N + 1) cv8)
                  have HM9 : Hid (Mb (w8.setCell ⟨B + 1, 1, none⟩ (.slice av8 (N + 1) cv8)) (B + 1) (.slice none 0 0) (.slice av8 (N + 1) cv8) (.slice none 0 0)) := hid (hp_put HM8.out _)
                  have HN9 := hid ((g9.block B (hp_lt HN8.out) (by simp)).trans HN8.out)
                  have HZ9 := hid (H0.out.new HZ8.out g9 (by rw [HB.out]; omega))
                  have HG9 := hid (gb_new HG8.out g9 (by rw [HB.out]; omega))
                  have HL9 : Hid (Gro kC (w8.setCell ⟨B + 1, 1, none⟩ (.slice av8 (N + 1) cv8)) (B + 2) (.slice av8 (N + 1) cv8) (cs ++ [(a6, kv)])) := hid (HL8.out.gb kC_ok g9 (by omega))
                  clear g9
                  generalize w8.setCell ⟨B + 1, 1, none⟩ (.slice av8 (N + 1) cv8) = w9 at *
                  refine any_doneQ (by kernel_rfl) ?_ _
                  go_wp2
                  refine ⟨⟨m, j6, u6, cs ++ [(a6, kv)], _, by rw [List.length_append, List.length_singleton, HNN.out]; omega, HM9, HL9, HZ9, HG9, HN9, hid ?_⟩, ?_⟩
                  · rw [HEQ.out]
                    simp only [HDEC.out, HA.out, List.map_append, List.map_cons, List.map_nil]
                  · rw [HZ9.out.us, HUS.out]
                    have h7 := us_le j6 u6
                    have h8 := us_le j u2
                    have h9 := (lk_lt HZ9.out.lk).1
                    omega
                case l2 =>
                  refine op_go rfl (fun K hK => ?_)
                  refine bs_oneS kC_ok rfl (.tmp 30) rfl (a6, kv) rfl _ rfl w7 HW7.out ?_
                  refine hK.out _ _ ?_
                  clear hK K
                  try simp only [Act.put, List.getElem_toArray, List.getElem_cons_zero, List.getElem_cons_succ, List.setIfInBounds_toArray, List.set_cons_succ, List.set_cons_zero]
                  refine any_oneQ 1 (by kernel_rfl) ?_
                  refine op_go rfl (fun K hK => ?_)
                  have hcell : w7.cell? ⟨B + 1, 1, none⟩ = some (.slice av N cv) := by rw [cell_of_row _ _ _ _ _ _ HM7.out]; rfl
                  go_simp
                  refine hK.out _ _ ?_
                  clear hK K hcell
                  try simp only [Act.put, List.getElem_toArray, List.getElem_cons_zero, List.getElem_cons_succ, List.setIfInBounds_toArray, List.set_cons_succ, List.set_cons_zero]
                  refine any_oneQ 6 (by kernel_rfl) ?_
                  refine op_go rfl (fun K hK => ?_)
                  refine app_groS kC_ok rfl (.tmp 27) (.tmp 31) rfl rfl HL7.out _ 1 (a6, kv) rfl HR7.out HY7.out hlen HS7.out ?_
                  intro v8 w8 hg8 hl8 hw8
                  have HL8 := hid hg8
                  have HM8 : Hid (Mb w8 (B + 1) (.slice none 0 0) (.slice av N cv) (.slice none 0 0)) := hid ((hl8 (B + 1) (by omega)).trans HM7.out)
                  have HN8 := hid ((hl8 B (by omega)).trans HN7.out)
                  have HZ8 : Hid (Sz w8 b l fuel j6 0 u6) := hid ⟨HZ7.out.lk, H0.out.pz.lows HB.out HZ7.out.pz (fun k hk => hl8 k (by omega)) hw8.size⟩
                  have HG8 := hid (gb_low HB.out HG7.out hw8 (fun k hk => hl8 k (by omega)))
                  obtain ⟨av8, cv8, hv8⟩ := hg8.shape
                  subst hv8
                  rw [List.length_append, List.length_singleton, HNN.out] at HL8 ⊢
                  clear hg8 hl8 hw8
                  refine hK.out _ _ ?_
                  clear hK K
                  try simp only [Act.put, List.getElem_toArray, List.getElem_cons_zero, List.getElem_cons_succ, List.setIfInBounds_toArray, List.set_cons_succ, List.set_cons_zero]
                  refine any_yieldQ 7 _ (.pointer (some ⟨B + 1, 1, none⟩)) rfl rfl (by kernel_rfl) (by kernel_rfl) (by kernel_rfl) (fun _ _ _ h => h) (fun W => by go_simp) ?_
                  simp only [Act.put, List.getElem_toArray, List.getElem_cons_zero, List.getElem_cons_succ, List.setIfInBounds_toArray, List.set_cons_succ, List.set_cons_zero]
                  refine any_oneQ 8 (by kernel_rfl) ?_
                  refine op_go rfl (fun K hK => ?_)
                  have hcell : w8.cell? ⟨B + 1, 1, none⟩ = some (.slice av N cv) := by rw [cell_of_row _ _ _ _ _ _ HM8.out]; rfl
                  have hfz : w8.frozen? ⟨B + 1, 1, none⟩ = false := by have hh : w8.heap[B + 1]? = _ := HM8.out; simp [World.frozen?, hh]
                  go_simp
                  refine hK.out _ _ ?_
                  clear hK K hcell hfz
                  have g9 := gb_setc w8 (B + 1) 1 (.slice av8 (N + 1) cv8)
                  have HM9 : Hid (Mb (w8.setCell ⟨B + 1, 1, none⟩ (.slice av8 (N + 1) cv8)) (B + 1) (.slice none 0 0) (.slice av8 (N + 1) cv8) (.slice none 0 0)) := hid (hp_put HM8.out _)
                  have HN9 := hid ((g9.block B (hp_lt HN8.out) (by simp)).trans HN8.out)
                  have HZ9 := hid (H0.out.new HZ8.out g9 (by rw [HB.out]; omega))
                  have HG9 := hid (gb_new HG8.out g9 (by rw [HB.out]; omega))
                  have HL9 : Hid (Gro kC (w8.setCell ⟨B + 1, 1, none⟩ (.slice av8 (N + 1) cv8)) (B + 2) (.slice av8 (N + 1) cv8) (cs ++ [(a6, kv)])) := hid (HL8.out.gb kC_ok g9 (by omega))
                  clear g9
                  generalize w8.setCell ⟨B + 1, 1, none⟩ (.slice av8 (N + 1) cv8) = w9 at *
                  refine any_doneQ (by kernel_rfl) ?_ _
                  go_wp2
                  refine ⟨⟨m, j6, u6, cs ++ [(a6, kv)], _, by rw [List.length_append, List.length_singleton, HNN.out]; omega, HM9, HL9, HZ9, HG9, HN9, hid ?_⟩, ?_⟩
                  · rw [HEQ.out]
                    simp only [HDEC.out, HA.out, List.map_append, List.map_cons, List.map_nil]
                  · rw [HZ9.out.us, HUS.out]
                    have h7 := us_le j6 u6
                    have h8 := us_le j u2
                    have h9 := (lk_lt HZ9.out.lk).1
                    omega

          · simp only [decide_eq_false hc] at HI
            have hff := (HNO.out jx u3 HZ5.out.lk).2
            have HDB := hid (fun X => dec_bad (n := n0 + 1) (m := m) (X := X) HZW0.out.lk H00.out HSK.out HZ5.out.lk hc hff)
            have HFN := hid (fun W hz => function_no (b := b) (fuel := fuel) (i := jx) (t := u3) ex hff W hz)
            clear hc hff
            go_upto_region 8 with (first
              | (go_at_call 25; refine HI.out.mono ?_; rintro e w' ⟨rfl, n1, rfl⟩))
            have HMW : Hid (Mb ((w5.alloc (.cells #[.string (mk [99, 111, 110, 115, 116])] 9)).drewN n1) (B + 1) (.slice none 0 0) (.slice av N cv) (.slice none 0 0)) := HM6
            have HZW := hid (HZ6.out.drewN n1)
            have HGW := hid (gbz_drewN HG6.out n1)
            clear HI HM6 HN6 HL6 HZ6 HG6
            generalize (w5.alloc (.cells #[.string (mk [99, 111, 110, 115, 116])] 9)).drewN n1 = wx at *
            have HDW := hid (show Below wx.heap.size wx wx.drew from (Below.refl _ _).drew)
            have HREQ : Hid (aft l fuel R = .error (badF 140 jx u3)) := hid (by rw [HEQ.out]; simp only [HDB.out, modF, aft])
            refine wp_region_any (by kernel_rfl) ?_
            refine any_yieldQ 0 _ (.pointer (some ⟨B + 1, 2, none⟩)) rfl rfl (by kernel_rfl) (by kernel_rfl) (by kernel_rfl) (fun _ _ _ h => h) (fun W => by go_simp) ?_
            simp only [Act.put, List.getElem_toArray, List.getElem_cons_zero, List.setIfInBounds_toArray, List.set_cons_succ, List.set_cons_zero]
            refine any_yieldQ 2 _ (.pointer (some ⟨b, 0, none⟩)) rfl rfl (by kernel_rfl) (by kernel_rfl) (by kernel_rfl) (fun _ _ _ h => h) (fun W => by go_simp) ?_
            simp only [Act.put, List.getElem_toArray, List.getElem_cons_zero, List.getElem_cons_succ, List.setIfInBounds_toArray, List.set_cons_succ, List.set_cons_zero]
            refine any_yieldQ 3 _ (.bool ex) rfl rfl (by kernel_rfl) (by kernel_rfl) (by kernel_rfl) (fun _ _ _ h => h) (fun W => by go_simp) ?_
            simp only [Act.put, List.getElem_toArray, List.getElem_cons_zero, List.getElem_cons_succ, List.setIfInBounds_toArray, List.set_cons_succ, List.set_cons_zero]
            refine any_two 1 4 (by kernel_rfl) ?ld ?cl
            case ld =>
              refine op_go rfl (fun K hK => ?_)
              have hcell : wx.drew.cell? ⟨B + 1, 2, none⟩ = some (.slice none 0 0) := by rw [cell_of_row _ _ _ _ _ _ (show wx.drew.heap[B + 1]? = _ from HMW.out)]; rfl
              go_simp
              refine hK.out _ _ ?_
              clear hK K hcell
              try simp only [Act.put, List.getElem_toArray, List.getElem_cons_zero, List.getElem_cons_succ, List.setIfInBounds_toArray, List.set_cons_succ, List.set_cons_zero]
              refine any_oneQ 4 (by kernel_rfl) ?_
              refine op_go rfl (fun K hK => ?_)
              go_simp
              refine (HFN.out _ (HZW.out.below HDW.out)).mono ?_
              rintro e w6 ⟨hg6, rfl, ut, lv6, hz6⟩
              have HH := hid (show Out l fuel b 0 (tMd B) w (aft l fuel R) (.panicked (wrV 140 u3.2.1)) w6 from by rw [HREQ.out]; exact ⟨gb_trans (gb_trans HGW.out (below_gb HDW.out (some b))) hg6, rfl, ut, lv6, hz6⟩)
              clear hg6 hz6
              go_wp2_with fail
              exact ⟨rfl, HH.out⟩
            case cl =>
              refine op_go rfl (fun K hK => ?_)
              go_simp
              refine (HFN.out _ (HZW.out.below HDW.out)).mono ?_
              rintro e w6 ⟨hg6, rfl, ut, lv6, hz6⟩
              have HH := hid (show Out l fuel b 0 (tMd B) w (aft l fuel R) (.panicked (wrV 140 u3.2.1)) w6 from by rw [HREQ.out]; exact ⟨gb_trans (gb_trans HGW.out (below_gb HDW.out (some b))) hg6, rfl, ut, lv6, hz6⟩)
              clear hg6 hz6
              go_wp2_with fail
              exact ⟨rfl, HH.out⟩
end

end Go.Proofs.YtjjajfipfeigiabDoor

/- A source is read from its first token to its end (written by zrd.py). -/
namespace Go.Proofs.YtjjajfipfeigiabDoor
open Go.RowKit

/-- the tables -/
structure TabZ (w : World) : Prop where
  tab : Tabs w
  bin : w.rangeAt 0 0 (strV opT)
  low : 0 < w.heap.size
theorem TabZ.below {w w' : World} (h : TabZ w) (hb : Below w.heap.size w w') : TabZ w' :=
  ⟨h.tab.below hb, fun j v hv => by rw [hb.cell (p := ⟨0, 0 + j, none⟩) h.low]; exact h.bin j v hv, Nat.lt_of_lt_of_le h.low hb.size⟩
/-- all of a source has been read, up to its end -/
def finP {α : Type} (l : List UInt8) (fuel : Int) (r : Except Ft (α × Nat)) : Except Ft (α × Nat) := match lkP l fuel 0 with
  | .error f => .error f
  | .ok _ => match r with
    | .error f => .error f
    | .ok (a, j) => match lkP l fuel j with
      | .error f => .error f
      | .ok u => if u.1 = 0 then .ok (a, j) else .error (badF 140 j u)
/-- what read answers -/
def RdOut {α : Type} (l : List UInt8) (fuel : Int) (T : Nat → World → Value → α → Prop) (z : Array Value) (r : Except Ft (α × Nat)) (w : World) (e : Ending) (w' : World) : Prop :=
  Below w.heap.size w w' ∧ match finP l fuel r with
    | .error f => e = .returned (.tuple #[.agg z, .int .i64 (f.2.2 : Int), .agg #[.int .i64 f.1, .int .i64 (f.2.1 : Int)]])
    | .ok (a, j) => ∃ v, e = .returned (.tuple #[v, .int .i64 (j : Int), .agg #[.int .i64 0, .int .i64 0]]) ∧ T w.heap.size w' v a

theorem ta_wrong (v : Value) (xT : TypeId) (w : World) : (Instr.typeAssert (.iface 73 v) xT 73 false).run Tryd.prog w = .ok v w := by
  simp [Instr.typeAssert, run_underlying Tryd.underlying73]

theorem al5 (w : World) (o0 o1 o2 o3 o4 : Obj) : let W := ((((w.alloc o0).alloc o1).alloc o2).alloc o3).alloc o4
    W.heap[w.heap.size]? = some o0 ∧ W.heap[w.heap.size + 1]? = some o1 ∧ W.heap[w.heap.size + 1 + 1]? = some o2 ∧ W.heap[w.heap.size + 1 + 1 + 1]? = some o3 ∧ W.heap[w.heap.size + 1 + 1 + 1 + 1]? = some o4 ∧ W.heap.size = w.heap.size + 1 + 1 + 1 + 1 + 1 ∧ Below w.heap.size w W := by
  have s1 := hp_size w o0
  have s2 := hp_size (w.alloc o0) o1
  have s3 := hp_size ((w.alloc o0).alloc o1) o2
  have s4 := hp_size (((w.alloc o0).alloc o1).alloc o2) o3
  have s5 := hp_size ((((w.alloc o0).alloc o1).alloc o2).alloc o3) o4
  have n0 := hp_new w o0
  have n1 := hp_new (w.alloc o0) o1
  have n2 := hp_new ((w.alloc o0).alloc o1) o2
  have n3 := hp_new (((w.alloc o0).alloc o1).alloc o2) o3
  have n4 := hp_new ((((w.alloc o0).alloc o1).alloc o2).alloc o3) o4
  rw [s1] at n1 s2
  rw [s2] at n2 s3
  rw [s3] at n3 s4
  rw [s4] at n4 s5
  refine ⟨?_, ?_, ?_, ?_, n4, s5, ?_⟩
  · rw [hp_old _ _ _ (by omega), hp_old _ _ _ (by omega), hp_old _ _ _ (by omega), hp_old _ _ _ (by omega)]; exact n0
  · rw [hp_old _ _ _ (by omega), hp_old _ _ _ (by omega), hp_old _ _ _ (by omega)]; exact n1
  · rw [hp_old _ _ _ (by omega), hp_old _ _ _ (by omega)]; exact n2
  · rw [hp_old _ _ _ (by omega)]; exact n3
  · exact ((((below_walk w o0).alloc (by omega) o1).alloc (by omega) o2).alloc (by omega) o3).alloc (by omega) o4
theorem results_ccc {fn : Func} {p q r : Tmp} {ty ty2 ty3 : TypeId} (h : fn.results = #[.cell p ty, .cell q ty2, .cell r ty3]) (tmps : Array Value) (P : Program) (w : World) :
    (results fn tmps).run P w = ((asAddr (tmps.getD p undef)).run P w).andThen fun a w₁ => ((loadVar ty a).run P w₁).andThen fun v w₂ => ((asAddr (tmps.getD q undef)).run P w₂).andThen fun a2 w₃ => ((loadVar ty2 a2).run P w₃).andThen fun v2 w₄ => ((asAddr (tmps.getD r undef)).run P w₄).andThen fun a3 w₅ => ((loadVar ty3 a3).run P w₅).andThen fun v3 w₆ => .ok (.tuple #[v, v2, v3]) w₆ := by
  simp only [results, h]
  simp [Sem.run_bind, Result.andThen]

theorem TabZ.oth {w W W' : World} {b g : Nat} {l : List UInt8} {t : Tok} {fuel : Int} {u lv : Nat} (ht : TabZ w) (h : Pz W b l t fuel u lv) (hg : W.grownBy W' (some g)) (hne : g ≠ b) (hw : w.heap.size ≤ g) : Pz W' b l t fuel u lv := by
  have n1 := ht.tab.low.1
  have n2 := ht.tab.low.2
  have n3 := ht.low
  exact ⟨(hg.block b h.lt (by simp; omega)).trans h.blk, ⟨fun j v hv => by rw [cell_gb hg h.tab.low.1 (fun e => by have := Option.some.inj e; omega)]; exact h.tab.signs j v hv, fun j v hv => by rw [cell_gb hg h.tab.low.2 (fun e => by have := Option.some.inj e; omega)]; exact h.tab.keys j v hv, ⟨Nat.lt_of_lt_of_le h.tab.low.1 hg.size, Nat.lt_of_lt_of_le h.tab.low.2 hg.size⟩⟩,
    fun j v hv => by rw [cell_gb hg h.low (fun e => by have := Option.some.inj e; omega)]; exact h.bin j v hv, Nat.lt_of_lt_of_le h.low hg.size⟩
theorem tz_keep {W W' : World} {B g : Nat} {v : Value} {m : Md} (h : tMd B W v m) (hg : W.grownBy W' (some g)) (hgB : g < B) : tMd B W' v m := by
  obtain ⟨iv, cv, fv, is, cs, fs, h1, h2, l1, l2, l3⟩ := h
  exact ⟨iv, cv, fv, is, cs, fs, h1, h2, l1.keep kI_ok (fun k hq hl => ⟨hg.block k hl (by simp; omega), hq⟩) hg.size, l2.keep kC_ok (fun k hq hl => ⟨hg.block k hl (by simp; omega), hq⟩) hg.size, l3.keep kF_ok (fun k hq hl => ⟨hg.block k hl (by simp; omega), hq⟩) hg.size⟩
theorem tz_low {W : World} {B B' : Nat} {v : Value} {m : Md} (h : tMd B W v m) (hB : B' ≤ B) : tMd B' W v m := by
  obtain ⟨iv, cv, fv, is, cs, fs, h1, h2, l1, l2, l3⟩ := h
  exact ⟨iv, cv, fv, is, cs, fs, h1, h2, l1.keep kI_ok (fun k hq _ => ⟨rfl, by omega⟩) (Nat.le_refl _), l2.keep kC_ok (fun k hq _ => ⟨rfl, by omega⟩) (Nat.le_refl _), l3.keep kF_ok (fun k hq _ => ⟨rfl, by omega⟩) (Nat.le_refl _)⟩
theorem te_keep {W W' : World} {B g : Nat} {v : Value} {e : Ex} (h : tE B W v e) (hg : W.grownBy W' (some g)) (hgB : g < B) : tE B W' v e := by
  obtain ⟨kv, d, h1, h2⟩ := h
  exact ⟨kv, d, h1, h2.keep (fun k hq hl => ⟨hg.block k hl (by simp; omega), hq⟩) hg.size⟩
theorem te_low {W : World} {B B' : Nat} {v : Value} {e : Ex} (h : tE B W v e) (hB : B' ≤ B) : tE B' W v e := by
  obtain ⟨kv, d, h1, h2⟩ := h
  exact ⟨kv, d, h1, h2.lw hB⟩
theorem lsd3_one {iv cv fv : Value} {a b c : Nat} (h1 : ∃ x y, iv = .slice x a y) (h2 : ∃ x y, cv = .slice x b y) (h3 : ∃ x y, fv = .slice x c y) : ∀ u ∈ [iv, cv, fv], u.oneCell' = true := by
  obtain ⟨_, _, rfl⟩ := h1
  obtain ⟨_, _, rfl⟩ := h2
  obtain ⟨_, _, rfl⟩ := h3
  intro u hu
  simp only [List.mem_cons, List.not_mem_nil, or_false] at hu
  rcases hu with rfl | rfl | rfl <;> rfl
theorem fin_er {α : Type} {l : List UInt8} {fuel : Int} {r : Except Ft (α × Nat)} {f : Ft} {u0 : Tok} (h0 : lkP l fuel 0 = .ok u0) (h : aft l fuel r = .error f) : finP l fuel r = .error f := by
  rcases aft_er h with q | ⟨a, j, q, ql⟩
  · simp only [finP, h0, q]
  · simp only [finP, h0, q, ql]

section
set_option maxRecDepth 20000 in
set_option maxHeartbeats 2000000 in
theorem catchModule_idle (a0 a1 a2 a3 : Value) (w : World) :
    CallsD Tryd.prog 22 #[a0, a1, a2, a3] .returning w fun e u' w' => e = .returned (.tuple #[]) ∧ u' = .returning ∧ w' = w := by
  refine callsD_of_wpS Tryd.func22 rfl fun c₀ cs hu => ?_
  apply wpS_seq
  apply wpS_region
  simp [wpOpsS, go_sem, recoverD, hu, Tryd.ntmps22, Exit.thenS]
  refine wpS_of_wp ?_
  rw [show (#[a0, a1, a2, a3] ++ ((Array.replicate 12 undef).setIfInBounds 2 Value.nilIface).setIfInBounds 0 Value.nilIface) = #[a0, a1, a2, a3, Value.nilIface, undef, Value.nilIface, undef, undef, undef, undef, undef, undef, undef, undef, undef] from rfl]
  go_wp2
  cases c₀
  simp_all [bodyPostS, results, Tryd.results22]

set_option maxRecDepth 20000 in
set_option maxHeartbeats 2000000 in
theorem catchModule_fault (g0 g1 g2 g3 g4 : Nat) (e : Int) (at1 used : Nat) (w : World) (B : Nat) (l : List UInt8) (t : Tok) (fuel : Int) (lv : Nat) (z0 : Array Value) (v1 : Value) (v2 : Array Value)
    (h0 : w.heap[g0]? = some (.cells z0 26 (0, 0))) (hz0 : z0.size = 3) (h1 : w.heap[g1]? = some (.cells #[v1] 3 (0, 0))) (h2 : w.heap[g2]? = some (.cells v2 29 (0, 0))) (hv2 : v2.size = 2) (h3 : Pq w g3 l t fuel used lv) (h4 : w.heap[g4]? = some (.cells #[.pointer (some ⟨g3, 0, none⟩)] 61 (0, 0)))
    (hB : B ≤ g0 ∧ g0 < g1 ∧ g1 < g2 ∧ g2 < g3 ∧ g3 < g4) :
    CallsD Tryd.prog 22 #[.pointer (some ⟨g4, 0, none⟩), .pointer (some ⟨g0, 0, none⟩), .pointer (some ⟨g1, 0, none⟩), .pointer (some ⟨g2, 0, none⟩)] (.panicking (wrV e at1)) w fun r u' w' =>
      r = .returned (.tuple #[]) ∧ u' = .panicking [{ v := .iface 73 (.agg #[.int .i64 e, .int .i64 (at1 : Int)]), recovered := true }] ∧ w'.heap[g0]? = some (.cells #[.slice none 0 0, .slice none 0 0, .slice none 0 0] 26 (0, 0)) ∧ w'.heap[g1]? = some (.cells #[.int .i64 (used : Int)] 3 (0, 0)) ∧ w'.heap[g2]? = some (.cells #[.int .i64 e, .int .i64 (at1 : Int)] 29 (0, 0)) ∧ Below B w w' := by
  refine callsD_of_wpS Tryd.func22 rfl fun c₀ cs hu => ?_
  apply wpS_seq
  apply wpS_region
  unfold wrV at hu
  simp [wpOpsS, go_sem, recoverD, hu, Tryd.ntmps22, Exit.thenS]
  refine wpS_of_wp ?_
  rw [show (#[Value.pointer (some (⟨g4, 0, none⟩ : Addr)), Value.pointer (some (⟨g0, 0, none⟩ : Addr)), Value.pointer (some (⟨g1, 0, none⟩ : Addr)), Value.pointer (some (⟨g2, 0, none⟩ : Addr))] ++ ((Array.replicate 12 undef).setIfInBounds 2 (Value.iface 73 (Value.agg #[Value.int IntKind.i64 e, Value.int IntKind.i64 (at1 : Int)]))).setIfInBounds 0 (Value.iface 73 (Value.agg #[Value.int IntKind.i64 e, Value.int IntKind.i64 (at1 : Int)]))) = #[Value.pointer (some (⟨g4, 0, none⟩ : Addr)), Value.pointer (some (⟨g0, 0, none⟩ : Addr)), Value.pointer (some (⟨g1, 0, none⟩ : Addr)), Value.pointer (some (⟨g2, 0, none⟩ : Addr)), Value.iface 73 (Value.agg #[Value.int IntKind.i64 e, Value.int IntKind.i64 (at1 : Int)]), undef, Value.iface 73 (Value.agg #[Value.int IntKind.i64 e, Value.int IntKind.i64 (at1 : Int)]), undef, undef, undef, undef, undef, undef, undef, undef, undef] from rfl]
  have hb1 := below_walk w (.cells #[.slice none 0 0, .slice none 0 0, .slice none 0 0] 26)
  have HNW := hid (hp_new w (.cells #[.slice none 0 0, .slice none 0 0, .slice none 0 0] 26))
  have H0 := hid ((hb1.block g0 (hp_lt h0)).trans h0)
  have H1 := hid ((hb1.block g1 (hp_lt h1)).trans h1)
  have H2 := hid ((hb1.block g2 (hp_lt h2)).trans h2)
  have H3 : Hid (Pq (w.alloc (.cells #[.slice none 0 0, .slice none 0 0, .slice none 0 0] 26)) g3 l t fuel used lv) := hid ((hb1.block g3 (hp_lt h3)).trans h3)
  have H4 := hid ((hb1.block g4 (hp_lt h4)).trans h4)
  have HBB := hid (hb1.mono (show B ≤ w.heap.size by have := hp_lt h0; omega))
  have hg4 := hp_lt h4
  clear h0 h1 h2 h3 h4 hb1
  go_upto_region 3 with (refine al_row rfl 26 rfl _ Tryd.zeroModule ?_)
  clear hu
  try simp only [Act.put, List.setIfInBounds_toArray, List.set_cons_succ, List.set_cons_zero]
  generalize w.alloc (.cells #[.slice none 0 0, .slice none 0 0, .slice none 0 0] 26) = w1 at *
  obtain ⟨gn, HGN⟩ : ∃ gn, Hid (w.heap.size = gn) := ⟨_, rfl⟩
  rw [HGN.out] at HNW hg4 ⊢
  refine wp_noPanic (wp_region_held_drew (S := fun W => W.heap[gn]? = some (.cells #[.slice none 0 0, .slice none 0 0, .slice none 0 0] 26 (0, 0)) ∧ W.heap[g4]? = some (.cells #[.pointer (some ⟨g3, 0, none⟩)] 61 (0, 0)) ∧ Pq W g3 l t fuel used lv) (by kernel_rfl) ⟨HNW.out, H4.out, H3.out⟩ ?_)
  intro hHeld
  refine wpAnyH_take (i := 0) (v := .agg #[.slice none 0 0, .slice none 0 0, .slice none 0 0]) rfl (by kernel_rfl) (by kernel_rfl) (by kernel_rfl) (fun _ _ _ h => h) (yieldsIf_load_mid (by rfl) 26 (.tmp 5) rfl gn 0 rfl #[.slice none 0 0, .slice none 0 0, .slice none 0 0].toList _ (fun W hW j v hv => by rw [Nat.zero_add, cell_of_row _ _ _ _ _ _ hW.1]; simpa using hv) Tryd.underlying26 rfl Tryd.rowModule) hHeld ?_
  simp only [Act.put, List.getElem_toArray, List.getElem_cons_zero, List.setIfInBounds_toArray, List.set_cons_succ, List.set_cons_zero]
  refine wpAnyH_take (i := 1) (v := .pointer (some ⟨g3, 0, none⟩)) rfl (by kernel_rfl) (by kernel_rfl) (by kernel_rfl) (fun _ _ _ h => h) (Or.inl ⟨by rfl, fun W hW => by have hcell : W.cell? ⟨g4, 0, none⟩ = some (.pointer (some ⟨g3, 0, none⟩)) := (by rw [cell_of_row _ _ _ _ _ _ hW.2.1]; rfl); (clear hW; go_simp)⟩) hHeld ?_
  simp only [Act.put, List.getElem_toArray, List.getElem_cons_zero, List.getElem_cons_succ, List.setIfInBounds_toArray, List.set_cons_succ, List.set_cons_zero]
  refine wpAnyH_take (i := 2) (v := .pointer (some ⟨g3, 0, none⟩)) rfl (by kernel_rfl) (by kernel_rfl) (by kernel_rfl) (fun _ _ _ h => h) (Or.inl ⟨by rfl, fun W _ => by go_simp⟩) hHeld ?_
  simp only [Act.put, List.getElem_toArray, List.getElem_cons_zero, List.getElem_cons_succ, List.setIfInBounds_toArray, List.set_cons_succ, List.set_cons_zero]
  refine wpAnyH_take (i := 3) (v := .pointer (some ⟨g3, 5, none⟩)) rfl (by kernel_rfl) (by kernel_rfl) (by kernel_rfl) (fun _ _ _ h => h) (Or.inl ⟨by rfl, fun W _ => by go_simp⟩) hHeld ?_
  simp only [Act.put, List.getElem_toArray, List.getElem_cons_zero, List.getElem_cons_succ, List.setIfInBounds_toArray, List.set_cons_succ, List.set_cons_zero]
  refine wpAnyH_take (i := 4) (v := .int .i64 (used : Int)) rfl (by kernel_rfl) (by kernel_rfl) (by kernel_rfl) (fun _ _ _ h => h) (Or.inl ⟨by rfl, fun W hW => by have hcell : W.cell? ⟨g3, 5, none⟩ = some (.int .i64 (used : Int)) := (hW.2.2.c 5).trans rfl; (clear hW; go_simp)⟩) hHeld ?_
  simp only [Act.put, List.getElem_toArray, List.getElem_cons_zero, List.getElem_cons_succ, List.setIfInBounds_toArray, List.set_cons_succ, List.set_cons_zero]
  refine wpAnyH_take (i := 5) (v := .iface 73 (.agg #[.int .i64 e, .int .i64 (at1 : Int)])) rfl (by kernel_rfl) (by kernel_rfl) (by kernel_rfl) (fun _ _ _ h => h) (Or.inl ⟨by rfl, fun W _ => by go_simp⟩) hHeld ?_
  simp only [Act.put, List.getElem_toArray, List.getElem_cons_zero, List.getElem_cons_succ, List.setIfInBounds_toArray, List.set_cons_succ, List.set_cons_zero]
  refine wpAnyH_take (i := 6) (v := .agg #[.int .i64 e, .int .i64 (at1 : Int)]) rfl (by kernel_rfl) (by kernel_rfl) (by kernel_rfl) (fun _ _ _ h => h) (Or.inl ⟨by rfl, fun W _ => by have hf := fun xT => ta_wrong (.agg #[.int .i64 e, .int .i64 (at1 : Int)]) xT W; go_simp⟩) hHeld ?_
  simp only [Act.put, List.getElem_toArray, List.getElem_cons_zero, List.getElem_cons_succ, List.setIfInBounds_toArray, List.set_cons_succ, List.set_cons_zero]
  refine wpAnyH_ready (rs := [7]) (by kernel_rfl) (by simp) ?_
  refine AllReadyH.cons rfl (fun K hK => ?_) AllReadyH.nil
  refine step_store_row rfl 26 (.tmp 1) (.tmp 9) rfl g0 #[.slice none 0 0, .slice none 0 0, .slice none 0 0].toList rfl rfl 26 z0 (by exact H0.out) Tryd.rowModule (by rw [hz0]; rfl) (by intro v hv; simp [] at hv; rcases hv with rfl | rfl | rfl <;> rfl) ?_
  intro w2 hs2
  have k1 : w2.heap[g1]? = some (.cells #[v1] 3 (0, 0)) := (hs2.grown.block g1 (hp_lt H1.out) (by simp; omega)).trans H1.out
  have k2 := (hs2.grown.block g2 (hp_lt H2.out) (by simp; omega)).trans H2.out
  have k3 : Pq w2 g3 l t fuel used lv := (hs2.grown.block g3 (hp_lt H3.out) (by simp; omega)).trans H3.out
  have k4 := (hs2.grown.block g4 (hp_lt H4.out) (by simp; omega)).trans H4.out
  have kn := (hs2.grown.block gn (hp_lt HNW.out) (by simp; omega)).trans HNW.out
  have kb : Below B w w2 := HBB.out.drew.grown hs2.grown (by have := HBB.out.size; have := HGN.out; show B ≤ w1.heap.size; omega) (fun k hk => by injection hk with hk; omega)
  have K0 := hid hs2.blk
  refine hK.out _ _ ⟨kn, k4, k3⟩ (fun hHeld => ?_)
  clear hK K hs2
  try simp only [Act.put]
  refine wpAnyH_ready (rs := [8]) (by kernel_rfl) (by simp) ?_
  refine AllReadyH.cons rfl (fun K hK => ?_) AllReadyH.nil
  have hcell : w2.cell? ⟨g1, 0, none⟩ = some v1 := by rw [cell_of_row _ _ _ _ _ _ k1]; rfl
  have hfz : w2.frozen? ⟨g1, 0, none⟩ = false := by simp [World.frozen?, k1]
  go_simp
  have K1 : Hid ((w2.setCell ⟨g1, 0, none⟩ (.int .i64 (used : Int))).heap[g1]? = some (.cells #[.int .i64 (used : Int)] 3 (0, 0))) := hid (hp_put k1 _)
  have K0' := hid ((hp_set w2 g0 g1 0 (.int .i64 (used : Int)) (by omega)).trans K0.out)
  have K2' := hid ((hp_set w2 g2 g1 0 (.int .i64 (used : Int)) (by omega)).trans k2)
  have K3' : Hid (Pq (w2.setCell ⟨g1, 0, none⟩ (.int .i64 (used : Int))) g3 l t fuel used lv) := hid ((hp_set w2 g3 g1 0 (.int .i64 (used : Int)) (by omega)).trans k3)
  have K4' := hid ((hp_set w2 g4 g1 0 (.int .i64 (used : Int)) (by omega)).trans k4)
  have KN' := hid ((hp_set w2 gn g1 0 (.int .i64 (used : Int)) (by omega)).trans kn)
  have KB' := hid (kb.setCell (p := ⟨g1, 0, none⟩) (by show B ≤ g1; omega) (.int .i64 (used : Int)))
  refine hK.out _ _ ⟨KN'.out, K4'.out, K3'.out⟩ (fun hHeld => ?_)
  clear hK K hcell hfz k1 k2 k3 k4 kn kb
  generalize w2.setCell ⟨g1, 0, none⟩ (.int .i64 (used : Int)) = w3 at *
  refine wpAnyH_ready (rs := [9]) (by kernel_rfl) (by simp) ?_
  refine AllReadyH.cons rfl (fun K hK => ?_) AllReadyH.nil
  refine step_store_row rfl 29 (.tmp 3) (.tmp 15) rfl g2 [.int .i64 e, .int .i64 (at1 : Int)] rfl rfl 29 v2 K2'.out (by kernel_rfl) hv2 (by intro v hv; simp at hv; rcases hv with rfl | rfl <;> rfl) ?_
  intro w4 hs4
  have q0 := (hs4.grown.block g0 (hp_lt K0'.out) (by simp; omega)).trans K0'.out
  have q1 := (hs4.grown.block g1 (hp_lt K1.out) (by simp; omega)).trans K1.out
  have q3 : Pq w4 g3 l t fuel used lv := (hs4.grown.block g3 (hp_lt K3'.out) (by simp; omega)).trans K3'.out
  have q4 := (hs4.grown.block g4 (hp_lt K4'.out) (by simp; omega)).trans K4'.out
  have qn := (hs4.grown.block gn (hp_lt KN'.out) (by simp; omega)).trans KN'.out
  have qb : Below B w w4 := KB'.out.grown hs4.grown (by have := KB'.out.size; have := HGN.out; omega) (fun k hk => by injection hk with hk; omega)
  have Q0 := hid q0
  have Q1 := hid q1
  have Q2 := hid hs4.blk
  have QB := hid qb
  refine hK.out _ _ ⟨qn, q4, q3⟩ (fun hHeld => ?_)
  clear hK K hs4 q0 q1 q3 q4 qn qb
  refine wpAnyH_done (by kernel_rfl) ?_ _
  simp only [noPanic]
  clear hHeld
  go_wp2
  simp [bodyPostS, results, Tryd.results22]
  first
    | exact ⟨rfl, Q0.out, Q1.out, Q2.out, QB.out⟩
    | exact ⟨Q0.out, Q1.out, Q2.out, QB.out⟩

theorem leaveModule {R : Ending → World → Prop} {tmps : Array Value} {w : World} {g g1 g2 : Nat} {cs : Array Value} {v1 x y : Value} (hp : tmps.getD 6 undef = .pointer (some ⟨g, 0, none⟩)) (hq : tmps.getD 7 undef = .pointer (some ⟨g1, 0, none⟩)) (hr : tmps.getD 8 undef = .pointer (some ⟨g2, 0, none⟩))
    (h0 : w.heap[g]? = some (.cells cs 26 (0, 0))) (hcs : cs.size = 3) (h1 : w.heap[g1]? = some (.cells #[v1] 3 (0, 0))) (h2 : w.heap[g2]? = some (.cells #[x, y] 29 (0, 0))) (hR : R (.returned (.tuple #[.agg cs, v1, .agg #[x, y]])) w) : Leaves Tryd.prog Tryd.f13 tmps R [] .returning w := by
  refine ⟨_, ?_, hR⟩
  rw [results_ccc Tryd.results13, hp, hq, hr]
  have e1 : w.cell? ⟨g1, 0, none⟩ = some v1 := by rw [cell_of_row _ _ _ _ _ _ h1]; rfl
  have k0 := run_loadVar_mid (P := Tryd.prog) w g 0 26 cs.toList _ (fun j v hv => by rw [Nat.zero_add, cell_of_row w g j cs 26 (0, 0) h0]; simpa using hv) Tryd.underlying26 rfl (by simp only [Array.length_toList, hcs]; exact Tryd.rowModule)
  have k2 := run_loadVar_mid (P := Tryd.prog) w g2 0 29 [x, y] _ (fun j v hv => by rw [Nat.zero_add, cell_of_row w g2 j #[x, y] 29 (0, 0) h2]; simpa using hv) Tryd.underlying29 rfl (by kernel_rfl)
  have k1 : (loadVar 3 ⟨g1, 0, none⟩).run Tryd.prog w = .ok v1 w := by simp [go_sem, loadVar, e1]
  simp [asAddr, k0, k1, k2]

set_option maxRecDepth 20000 in
set_option maxHeartbeats 2000000 in
theorem readModule_any (l : List UInt8) (hl : l.length ≤ 140737488355328) (fuel : Int) (r : Except Ft (Md × Nat)) (w : World) (hT : TabZ w)
    (hform : ∀ (W : World) (u : Tok), Sz W (w.heap.size + 3) l fuel 0 0 u → Calls Tryd.prog 14 #[.pointer (some ⟨w.heap.size + 3, 0, none⟩)] W (Out l fuel (w.heap.size + 3) 0 (tMd W.heap.size) W (aft l fuel r))) :
    Calls Tryd.prog 13 #[.string (mk l), .int .i64 fuel, .func (.func 14) #[] #[]] w (RdOut l fuel (fun w => tMd w) #[.slice none 0 0, .slice none 0 0, .slice none 0 0] r w) := by
  obtain ⟨B, HB⟩ : ∃ B, Hid (w.heap.size = B) := ⟨_, rfl⟩
  have hmf : ∀ (fn : Fn) (first cap : Array Value) (w : World), (Instr.makeFunc fn first cap).run Tryd.prog w = .ok (.func fn first cap) w := fun _ _ _ _ => rfl
  have HTZ := hid hT
  have HF := hid hform
  rw [HB.out] at HF
  clear hT hform
  go_enter_defers Tryd.func13, Tryd.ntmps13
  go_upto_region 3 with (first
    | (refine al_row rfl 26 rfl _ Tryd.zeroModule ?_)
    | (refine bd_row rfl 72 _ rfl [(0, .string (mk l)), (2, .int .i64 fuel)] rfl (pC l (0, 0, 0) fuel 0 0) (by kernel_rfl) ?_)
    | (refine bx_row rfl 72 (.tmp 12) rfl (pC l (0, 0, 0) fuel 0 0) rfl ?_))
  rw [HB.out]
  have HA5 := hid (al5 w (.cells #[.slice none 0 0, .slice none 0 0, .slice none 0 0] 26 (0, 0)) (.cells #[.int .i64 0] 3 (0, 0)) (.cells #[.int .i64 0, .int .i64 0] 29 (0, 0)) (.cells (pC l (0, 0, 0) fuel 0 0) 72 (0, 0)) (.cells #[.pointer (some ⟨B + 1 + 1 + 1, 0, none⟩)] 61 (0, 0)))
  dsimp only at HA5
  generalize (((((w.alloc (.cells #[.slice none 0 0, .slice none 0 0, .slice none 0 0] 26 (0, 0))).alloc (.cells #[.int .i64 0] 3 (0, 0))).alloc (.cells #[.int .i64 0, .int .i64 0] 29 (0, 0))).alloc (.cells (pC l (0, 0, 0) fuel 0 0) 72 (0, 0))).alloc (.cells #[.pointer (some ⟨B + 1 + 1 + 1, 0, none⟩)] 61 (0, 0))) = w5 at HA5 ⊢
  obtain ⟨a0, a1, a2, a3, a4, a5, a6⟩ := HA5.out
  rw [HB.out] at a0 a1 a2 a3 a4 a5
  obtain ⟨b, HBb⟩ : ∃ b, Hid (B + 1 + 1 + 1 = b) := ⟨_, rfl⟩
  rw [HBb.out] at a3 a4 a5 ⊢
  rw [show B + 3 = b from HBb.out] at HF
  have HQ0 := hid a0
  have HQ1 := hid a1
  have HQ2 := hid a2
  have HQ4 := hid a4
  have HBE := hid a6
  have HP5 : Hid (Pz w5 b l (0, 0, 0) fuel 0 0) := hid ⟨a3, HTZ.out.tab.below a6, (HTZ.out.below a6).bin, (HTZ.out.below a6).low⟩
  have x4 : w5.cell? ⟨b + 1, 0, none⟩ = some (.pointer (some ⟨b, 0, none⟩)) := by rw [cell_of_row _ _ _ _ _ _ a4]; rfl
  have HS5 := hid a5
  clear a0 a1 a2 a3 a4 a5 a6 HA5
  have HNX := hid (next_any2 hl (by omega) (beg_0 l) w5 HP5.out)
  go_wp2_with fail
  refine HNX.out.mono ?_
  rintro e w6 ⟨hg6, hO⟩
  have hbb : B ≤ b := by have := HBb.out; omega
  have hbs : B ≤ w5.heap.size := by have := HS5.out; omega
  have HBE5 : Hid (Below B w w5) := hid (by have := HBE.out; rw [HB.out] at this; exact this)
  have HBE6 : Hid (Below B w w6) := hid (HBE5.out.trans (gbz_below hg6 hbb hbs))
  have k0 := (hg6.block B (hp_lt HQ0.out) (by have := HBb.out; simp; omega)).trans HQ0.out
  have k1 := (hg6.block (B + 1) (hp_lt HQ1.out) (by have := HBb.out; simp; omega)).trans HQ1.out
  have k2 := (hg6.block (B + 1 + 1) (hp_lt HQ2.out) (by have := HBb.out; simp; omega)).trans HQ2.out
  have k4 := (hg6.block (b + 1) (hp_lt HQ4.out) (by simp)).trans HQ4.out
  replace HQ0 := hid k0
  replace HQ1 := hid k1
  replace HQ2 := hid k2
  replace HQ4 := hid k4
  have HZ6 := hid hg6.size
  clear k0 k1 k2 k4 hg6 x4 HNX
  cases hlk : lkP l fuel 0 with
  | error f =>
    simp only [aft, hlk] at hO
    obtain ⟨rfl, ut, lvt, hz⟩ := hO
    have HQ3 := hid hz
    have HFI : Hid (finP l fuel r = .error f) := hid (by simp only [finP, hlk])
    clear hz hlk
    go_wp2_with fail
    refine leaves_cons (f := 22) (args := #[.pointer (some ⟨b + 1, 0, none⟩), .pointer (some ⟨B, 0, none⟩), .pointer (some ⟨B + 1, 0, none⟩), .pointer (some ⟨B + 1 + 1, 0, none⟩)]) (by simp [wrV]) (by simp [go_sem]) ?_
    refine (catchModule_fault B (B + 1) (B + 1 + 1) b (b + 1) _ _ _ w6 B l _ fuel _ _ _ _ HQ0.out (by rfl) HQ1.out HQ2.out rfl HQ3.out.blk HQ4.out ⟨Nat.le_refl _, by omega, by omega, by have := HBb.out; omega, by omega⟩).mono ?_
    rintro rr u' w9 ⟨rfl, rfl, e0, e1, e2, e3⟩
    show Leaves Tryd.prog Tryd.f13 _ _ [] .returning _
    refine leaveModule (g := B) (g1 := B + 1) (g2 := B + 1 + 1) ?_ ?_ ?_ e0 rfl e1 e2 ?_
    · rfl
    · rfl
    · rfl
    · refine ⟨by rw [HB.out]; exact HBE6.out.trans e3, ?_⟩
      rw [HFI.out]
  | ok u0 =>
    simp only [aft, hlk] at hO
    obtain ⟨v6, u6, rfl, hv6, hl6, hz6⟩ := hO
    obtain rfl : u0 = u6 := Except.ok.inj hl6
    have hv6 : v6 = .tuple #[] := hv6
    subst hv6
    have HSZ6 : Hid (Sz w6 b l fuel 0 0 u0) := hid ⟨hlk, hz6⟩
    have HL0 := hid hlk
    have x4 : w6.cell? ⟨b + 1, 0, none⟩ = some (.pointer (some ⟨b, 0, none⟩)) := by rw [cell_of_row _ _ _ _ _ _ HQ4.out]; rfl
    have HFC := hid (HF.out w6 u0 HSZ6.out)
    clear hz6 hl6 hlk
    go_wp2_with fail
    refine HFC.out.mono ?_
    rintro e w7 ⟨hg7, hO⟩
    have HBE7 : Hid (Below B w w7) := hid (HBE6.out.trans (gbz_below hg7 hbb (by have := HZ6.out; omega)))
    have HQ0' := hid ((hg7.block B (hp_lt HQ0.out) (by have := HBb.out; simp; omega)).trans HQ0.out)
    have k1 := (hg7.block (B + 1) (hp_lt HQ1.out) (by have := HBb.out; simp; omega)).trans HQ1.out
    have k2 := (hg7.block (B + 1 + 1) (hp_lt HQ2.out) (by have := HBb.out; simp; omega)).trans HQ2.out
    have k4 := (hg7.block (b + 1) (hp_lt HQ4.out) (by simp)).trans HQ4.out
    replace HQ1 := hid k1
    replace HQ2 := hid k2
    replace HQ4 := hid k4
    clear k1 k2 k4
    have hz7 : b + 2 ≤ w6.heap.size := by have := HZ6.out; have := HS5.out; omega
    clear hg7 x4 HFC HQ0
    cases hra : aft l fuel r with
    | error f =>
      rw [hra] at hO
      obtain ⟨rfl, ut, lvt, hz⟩ := hO
      have HQ3 := hid hz
      have HFI : Hid (finP l fuel r = .error f) := hid (fin_er HL0.out hra)
      clear hz hra
      go_wp2_with fail
      refine leaves_cons (f := 22) (args := #[.pointer (some ⟨b + 1, 0, none⟩), .pointer (some ⟨B, 0, none⟩), .pointer (some ⟨B + 1, 0, none⟩), .pointer (some ⟨B + 1 + 1, 0, none⟩)]) (by simp [wrV]) (by simp [go_sem]) ?_
      refine (catchModule_fault B (B + 1) (B + 1 + 1) b (b + 1) _ _ _ w7 B l _ fuel _ _ _ _ HQ0'.out (by rfl) HQ1.out HQ2.out rfl HQ3.out.blk HQ4.out ⟨Nat.le_refl _, by omega, by omega, by have := HBb.out; omega, by omega⟩).mono ?_
      rintro rr u' w9 ⟨rfl, rfl, e0, e1, e2, e3⟩
      show Leaves Tryd.prog Tryd.f13 _ _ [] .returning _
      refine leaveModule (g := B) (g1 := B + 1) (g2 := B + 1 + 1) ?_ ?_ ?_ e0 rfl e1 e2 ?_
      · rfl
      · rfl
      · rfl
      · refine ⟨by rw [HB.out]; exact HBE7.out.trans e3, ?_⟩
        rw [HFI.out]
    | ok q =>
      obtain ⟨a, j⟩ := q
      rw [hra] at hO
      obtain ⟨v7, u7, rfl, hT, hl7, hz7'⟩ := hO
      have HSZ7 : Hid (Sz w7 b l fuel j 0 u7) := hid ⟨hl7, hz7'⟩
      have HAF := hid (aft_in hra)
      obtain ⟨iv, cv, fv, is, cs, fs, rfl, hT2⟩ := hT
      have HT2 := hid hT2
      have HONE : Hid (∀ u ∈ [iv, cv, fv], u.oneCell' = true) := hid (lsd3_one hT2.2.1.one hT2.2.2.1.one hT2.2.2.2.one)
      clear hz7' hl7 hra hT2
      go_upto_region 5 with (first
        | (refine st_row rfl 26 (.tmp 6) (.tmp 19) rfl B [iv, cv, fv] rfl rfl 26 _ HQ0'.out Tryd.rowModule rfl HONE.out ?_; intro w8 hs8; have HS8 := hid hs8; clear hs8))
      try simp only [Act.put]
      have HSZ8 : Hid (Sz w8 b l fuel j 0 u7) := hid ⟨HSZ7.out.lk, HTZ.out.oth HSZ7.out.pz HS8.out.grown (by have := HBb.out; omega) (by rw [HB.out]; exact Nat.le_refl _)⟩
      have HBE8 : Hid (Below B w w8) := hid (HBE7.out.trans (gbz_below HS8.out.grown (Nat.le_refl _) (by have := HBE7.out.size; rw [HB.out] at this; exact this)))
      have k1 := (HS8.out.grown.block (B + 1) (hp_lt HQ1.out) (by have := HBb.out; simp <;> omega)).trans HQ1.out
      have k2 := (HS8.out.grown.block (B + 1 + 1) (hp_lt HQ2.out) (by have := HBb.out; simp <;> omega)).trans HQ2.out
      have k4 := (HS8.out.grown.block (b + 1) (hp_lt HQ4.out) (by have := HBb.out; simp <;> omega)).trans HQ4.out
      replace HQ1 := hid k1
      replace HQ2 := hid k2
      replace HQ4 := hid k4
      clear k1 k2 k4

      have x4 : w8.cell? ⟨b + 1, 0, none⟩ = some (.pointer (some ⟨b, 0, none⟩)) := by rw [cell_of_row _ _ _ _ _ _ HQ4.out]; rfl
      have c1 := HSZ8.out.pz.c1
      by_cases hu7 : u7.1 = 0
      · have q0 : (u7.1 : Int) = 0 := by omega
        rw [q0] at c1
        have HFI : Hid (finP l fuel r = .ok (a, j)) := hid (by simp only [finP, HL0.out, HAF.out, HSZ7.out.lk, hu7, if_true])
        go_upto_region 7 with fail
        clear x4 c1
        have HDR := hid (show Below w8.heap.size w8 w8.drew from (Below.refl _ _).drew)
        refine wp_noPanic (wp_region_held_drew (S := fun W => W.heap[B]? = some (.cells [iv, cv, fv].toArray 26 (0, 0)) ∧ W.heap[b + 1]? = some (.cells #[.pointer (some ⟨b, 0, none⟩)] 61 (0, 0)) ∧ Pq W b l u7 fuel (usA j u7) 0) (by kernel_rfl) ⟨HS8.out.blk, HQ4.out, HSZ8.out.pz.blk⟩ ?_)
        intro hHeld
        refine wpAnyH_take (i := 0) (v := .agg [iv, cv, fv].toArray) rfl (by kernel_rfl) (by kernel_rfl) (by kernel_rfl) (fun _ _ _ h => h) (yieldsIf_load_mid (by rfl) 26 (.tmp 6) rfl B 0 rfl [iv, cv, fv] _ (fun W hW k v hv => by rw [Nat.zero_add, cell_of_row _ _ _ _ _ _ hW.1]; simpa using hv) Tryd.underlying26 rfl Tryd.rowModule) hHeld ?_
        simp only [Act.put, List.getElem_toArray, List.getElem_cons_zero, List.setIfInBounds_toArray, List.set_cons_succ, List.set_cons_zero]
        refine wpAnyH_take (i := 1) (v := .pointer (some ⟨b, 0, none⟩)) rfl (by kernel_rfl) (by kernel_rfl) (by kernel_rfl) (fun _ _ _ h => h) (Or.inl ⟨by rfl, fun W hW => by have hcell : W.cell? ⟨b + 1, 0, none⟩ = some (.pointer (some ⟨b, 0, none⟩)) := (by rw [cell_of_row _ _ _ _ _ _ hW.2.1]; rfl); (clear hW; go_simp)⟩) hHeld ?_
        simp only [Act.put, List.getElem_toArray, List.getElem_cons_zero, List.getElem_cons_succ, List.setIfInBounds_toArray, List.set_cons_succ, List.set_cons_zero]
        refine wpAnyH_take (i := 2) (v := .pointer (some ⟨b, 0, none⟩)) rfl (by kernel_rfl) (by kernel_rfl) (by kernel_rfl) (fun _ _ _ h => h) (Or.inl ⟨by rfl, fun W _ => by go_simp⟩) hHeld ?_
        simp only [Act.put, List.getElem_toArray, List.getElem_cons_zero, List.getElem_cons_succ, List.setIfInBounds_toArray, List.set_cons_succ, List.set_cons_zero]
        refine wpAnyH_take (i := 3) (v := .pointer (some ⟨b, 5, none⟩)) rfl (by kernel_rfl) (by kernel_rfl) (by kernel_rfl) (fun _ _ _ h => h) (Or.inl ⟨by rfl, fun W _ => by go_simp⟩) hHeld ?_
        simp only [Act.put, List.getElem_toArray, List.getElem_cons_zero, List.getElem_cons_succ, List.setIfInBounds_toArray, List.set_cons_succ, List.set_cons_zero]
        refine wpAnyH_take (i := 4) (v := .int .i64 (usA j u7 : Int)) rfl (by kernel_rfl) (by kernel_rfl) (by kernel_rfl) (fun _ _ _ h => h) (Or.inl ⟨by rfl, fun W hW => by have hcell : W.cell? ⟨b, 5, none⟩ = some (.int .i64 (usA j u7 : Int)) := (hW.2.2.c 5).trans rfl; (clear hW; go_simp)⟩) hHeld ?_
        simp only [Act.put, List.getElem_toArray, List.getElem_cons_zero, List.getElem_cons_succ, List.setIfInBounds_toArray, List.set_cons_succ, List.set_cons_zero]
        refine wpAnyH_take (i := 5) (v := .agg #[.int .i64 0, .int .i64 0]) rfl (by kernel_rfl) (by kernel_rfl) (by kernel_rfl) (fun _ _ _ h => h) (Or.inl ⟨by rfl, fun W _ => by go_simp⟩) hHeld ?_
        simp only [Act.put, List.getElem_toArray, List.getElem_cons_zero, List.getElem_cons_succ, List.setIfInBounds_toArray, List.set_cons_succ, List.set_cons_zero]
        refine wpAnyH_ready (rs := [6]) (by kernel_rfl) (by simp) ?_
        refine AllReadyH.cons rfl (fun K hK => ?_) AllReadyH.nil
        refine step_store_row rfl 26 (.tmp 6) (.tmp 28) rfl B [iv, cv, fv] rfl rfl 26 _ (by exact HS8.out.blk) Tryd.rowModule rfl HONE.out ?_
        intro w9 hs9
        have hbw : B ≤ w8.heap.size := Nat.le_of_lt (hp_lt HS8.out.blk)
        have k1 : w9.heap[B + 1]? = _ := (hs9.grown.block (B + 1) (hp_lt HQ1.out) (by simp)).trans HQ1.out
        have k2 := (hs9.grown.block (B + 1 + 1) (hp_lt HQ2.out) (by simp <;> omega)).trans HQ2.out
        have k4 := (hs9.grown.block (b + 1) (hp_lt HQ4.out) (by have := HBb.out; simp <;> omega)).trans HQ4.out
        have k3 : Pq w9 b l u7 fuel (usA j u7) 0 := (hs9.grown.block b HSZ8.out.pz.lt (by have := HBb.out; simp <;> omega)).trans HSZ8.out.pz.blk
        have kb : Below B w w9 := HBE8.out.trans (show Below B w8 w9 from ((Below.refl B w8).drew).grown hs9.grown hbw (fun k hk => by injection hk with hk; omega))
        have K0 := hid hs9.blk
        have HT9 : Hid (tMd w6.heap.size w9 (.agg [iv, cv, fv].toArray) a) := hid (tz_keep (tz_keep ⟨iv, cv, fv, is, cs, fs, rfl, HT2.out⟩ HS8.out.grown (by have := HBb.out; have := HZ6.out; have := HS5.out; omega)) (gb_trans (below_gb HDR.out (some B)) hs9.grown) (by have := HBb.out; have := HZ6.out; have := HS5.out; omega))
        refine hK.out _ _ ⟨K0.out, k4, k3⟩ (fun hHeld => ?_)
        clear hK K hs9
        try simp only [Act.put]
        refine wpAnyH_ready (rs := [7]) (by kernel_rfl) (by simp) ?_
        refine AllReadyH.cons rfl (fun K hK => ?_) AllReadyH.nil
        have hcell : w9.cell? ⟨B + 1, 0, none⟩ = some (.int .i64 0) := by rw [cell_of_row _ _ _ _ _ _ k1]; rfl
        have hfz : w9.frozen? ⟨B + 1, 0, none⟩ = false := by simp [World.frozen?, k1]
        go_simp
        have K1 : Hid ((w9.setCell ⟨B + 1, 0, none⟩ (.int .i64 (usA j u7 : Int))).heap[B + 1]? = some (.cells #[(.int .i64 (usA j u7 : Int))] 3 (0, 0))) := hid (hp_put k1 _)
        have K0' := hid ((hp_set w9 B (B + 1) 0 (.int .i64 (usA j u7 : Int)) (by omega)).trans K0.out)
        have K2' := hid ((hp_set w9 (B + 1 + 1) (B + 1) 0 (.int .i64 (usA j u7 : Int)) (by omega)).trans k2)
        have K3' : Hid (Pq (w9.setCell ⟨B + 1, 0, none⟩ (.int .i64 (usA j u7 : Int))) b l u7 fuel (usA j u7) 0) := hid ((hp_set w9 b (B + 1) 0 (.int .i64 (usA j u7 : Int)) (by have := HBb.out; omega)).trans k3)
        have K4' := hid ((hp_set w9 (b + 1) (B + 1) 0 (.int .i64 (usA j u7 : Int)) (by have := HBb.out; omega)).trans k4)
        have KB' := hid (kb.setCell (p := ⟨B + 1, 0, none⟩) (by show B ≤ B + 1; omega) (.int .i64 (usA j u7 : Int)))
        have HT10 : Hid (tMd w6.heap.size (w9.setCell ⟨B + 1, 0, none⟩ (.int .i64 (usA j u7 : Int))) (.agg [iv, cv, fv].toArray) a) := hid (tz_keep HT9.out (gb_setc w9 (B + 1) 0 (.int .i64 (usA j u7 : Int))) (by have := HBb.out; have := HZ6.out; have := HS5.out; omega))
        refine hK.out _ _ ⟨K0'.out, K4'.out, K3'.out⟩ (fun hHeld => ?_)
        clear hK K hcell hfz k1 k2 k3 k4 kb
        generalize w9.setCell ⟨B + 1, 0, none⟩ (.int .i64 (usA j u7 : Int)) = w10 at *
        refine wpAnyH_ready (rs := [8]) (by kernel_rfl) (by simp) ?_
        refine AllReadyH.cons rfl (fun K hK => ?_) AllReadyH.nil
        refine step_store_row rfl 29 (.tmp 8) (.tmp 33) rfl (B + 1 + 1) [.int .i64 0, .int .i64 0] rfl rfl 29 _ K2'.out (by kernel_rfl) rfl (by intro v hv; simp at hv; rw [hv]; rfl) ?_
        intro w11 hs11
        have q0 := (hs11.grown.block B (hp_lt K0'.out) (by simp <;> omega)).trans K0'.out
        have q1 := (hs11.grown.block (B + 1) (hp_lt K1.out) (by simp)).trans K1.out
        have q3 : Pq w11 b l u7 fuel (usA j u7) 0 := (hs11.grown.block b (hp_lt K3'.out) (by have := HBb.out; simp <;> omega)).trans K3'.out
        have q4 := (hs11.grown.block (b + 1) (hp_lt K4'.out) (by have := HBb.out; simp <;> omega)).trans K4'.out
        have QB : Hid (Below B w w11) := hid (KB'.out.trans (gbz_below hs11.grown (by omega) (Nat.le_of_lt (hp_lt K0'.out))))
        have HT11 := hid (tz_keep HT10.out hs11.grown (by have := HBb.out; have := HZ6.out; have := HS5.out; omega))
        have Q0 := hid q0
        have Q1 := hid q1
        have Q2 := hid hs11.blk
        refine hK.out _ _ ⟨q0, q4, q3⟩ (fun hHeld => ?_)
        clear hK K hs11 q0 q1 q3 q4
        refine wpAnyH_done (by kernel_rfl) ?_ _
        simp only [noPanic]
        clear hHeld
        go_wp2_with fail
        refine leaves_cons (f := 22) (args := #[.pointer (some ⟨b + 1, 0, none⟩), .pointer (some ⟨B, 0, none⟩), .pointer (some ⟨B + 1, 0, none⟩), .pointer (some ⟨B + 1 + 1, 0, none⟩)]) (by simp) (by simp [go_sem]) ?_
        refine (catchModule_idle _ _ _ _ w11).mono ?_
        rintro rr u' w12 ⟨rfl, rfl, rfl⟩
        refine leaveModule (g := B) (g1 := B + 1) (g2 := B + 1 + 1) ?_ ?_ ?_ Q0.out rfl Q1.out Q2.out ?_
        · rfl
        · rfl
        · rfl
        · refine ⟨by rw [HB.out]; exact QB.out, ?_⟩
          rw [HFI.out]
          exact ⟨_, by rw [show usA j u7 = j from if_pos hu7], tz_low HT11.out (by rw [HB.out]; omega)⟩
      · have q0 : ¬ (u7.1 : Int) = 0 := by omega
        have HFI : Hid (finP l fuel r = .error (badF 140 j u7)) := hid (by simp only [finP, HL0.out, HAF.out, HSZ7.out.lk, eq_false hu7, if_false])
        have HRF := hid (refuse_any w8 HSZ8.out.pz)
        have HQ3 := hid HSZ8.out.pz
        clear hu7
        go_wp2_with (go_at_call 24; refine HRF.out.mono ?_; rintro e w10 ⟨rfl, h10⟩; have h10 := h10.symm; subst h10)
        refine leaves_cons (f := 22) (args := #[.pointer (some ⟨b + 1, 0, none⟩), .pointer (some ⟨B, 0, none⟩), .pointer (some ⟨B + 1, 0, none⟩), .pointer (some ⟨B + 1 + 1, 0, none⟩)]) (by simp [wrV]) (by simp [go_sem]) ?_
        refine (catchModule_fault B (B + 1) (B + 1 + 1) b (b + 1) _ _ _ w8 B l _ fuel _ _ _ _ HS8.out.blk (by rfl) HQ1.out HQ2.out rfl HQ3.out.blk HQ4.out ⟨Nat.le_refl _, by omega, by omega, by have := HBb.out; omega, by omega⟩).mono ?_
        rintro rr u' w9 ⟨rfl, rfl, e0, e1, e2, e3⟩
        show Leaves Tryd.prog Tryd.f13 _ _ [] .returning _
        refine leaveModule (g := B) (g1 := B + 1) (g2 := B + 1 + 1) ?_ ?_ ?_ e0 rfl e1 e2 ?_
        · rfl
        · rfl
        · rfl
        · refine ⟨by rw [HB.out]; exact HBE8.out.trans e3, ?_⟩
          rw [HFI.out]
          rfl

set_option maxRecDepth 20000 in
set_option maxHeartbeats 2000000 in
theorem catchExpr_idle (a0 a1 a2 a3 : Value) (w : World) :
    CallsD Tryd.prog 36 #[a0, a1, a2, a3] .returning w fun e u' w' => e = .returned (.tuple #[]) ∧ u' = .returning ∧ w' = w := by
  refine callsD_of_wpS Tryd.func36 rfl fun c₀ cs hu => ?_
  apply wpS_seq
  apply wpS_region
  simp [wpOpsS, go_sem, recoverD, hu, Tryd.ntmps36, Exit.thenS]
  refine wpS_of_wp ?_
  rw [show (#[a0, a1, a2, a3] ++ ((Array.replicate 12 undef).setIfInBounds 2 Value.nilIface).setIfInBounds 0 Value.nilIface) = #[a0, a1, a2, a3, Value.nilIface, undef, Value.nilIface, undef, undef, undef, undef, undef, undef, undef, undef, undef] from rfl]
  go_wp2
  cases c₀
  simp_all [bodyPostS, results, Tryd.results36]

set_option maxRecDepth 20000 in
set_option maxHeartbeats 2000000 in
theorem catchExpr_fault (g0 g1 g2 g3 g4 : Nat) (e : Int) (at1 used : Nat) (w : World) (B : Nat) (l : List UInt8) (t : Tok) (fuel : Int) (lv : Nat) (z0 : Array Value) (v1 : Value) (v2 : Array Value)
    (h0 : w.heap[g0]? = some (.cells z0 49 (0, 0))) (hz0 : z0.size = 10) (h1 : w.heap[g1]? = some (.cells #[v1] 3 (0, 0))) (h2 : w.heap[g2]? = some (.cells v2 29 (0, 0))) (hv2 : v2.size = 2) (h3 : Pq w g3 l t fuel used lv) (h4 : w.heap[g4]? = some (.cells #[.pointer (some ⟨g3, 0, none⟩)] 61 (0, 0)))
    (hB : B ≤ g0 ∧ g0 < g1 ∧ g1 < g2 ∧ g2 < g3 ∧ g3 < g4) :
    CallsD Tryd.prog 36 #[.pointer (some ⟨g4, 0, none⟩), .pointer (some ⟨g0, 0, none⟩), .pointer (some ⟨g1, 0, none⟩), .pointer (some ⟨g2, 0, none⟩)] (.panicking (wrV e at1)) w fun r u' w' =>
      r = .returned (.tuple #[]) ∧ u' = .panicking [{ v := .iface 73 (.agg #[.int .i64 e, .int .i64 (at1 : Int)]), recovered := true }] ∧ w'.heap[g0]? = some (.cells zX 49 (0, 0)) ∧ w'.heap[g1]? = some (.cells #[.int .i64 (used : Int)] 3 (0, 0)) ∧ w'.heap[g2]? = some (.cells #[.int .i64 e, .int .i64 (at1 : Int)] 29 (0, 0)) ∧ Below B w w' := by
  refine callsD_of_wpS Tryd.func36 rfl fun c₀ cs hu => ?_
  apply wpS_seq
  apply wpS_region
  unfold wrV at hu
  simp [wpOpsS, go_sem, recoverD, hu, Tryd.ntmps36, Exit.thenS]
  refine wpS_of_wp ?_
  rw [show (#[Value.pointer (some (⟨g4, 0, none⟩ : Addr)), Value.pointer (some (⟨g0, 0, none⟩ : Addr)), Value.pointer (some (⟨g1, 0, none⟩ : Addr)), Value.pointer (some (⟨g2, 0, none⟩ : Addr))] ++ ((Array.replicate 12 undef).setIfInBounds 2 (Value.iface 73 (Value.agg #[Value.int IntKind.i64 e, Value.int IntKind.i64 (at1 : Int)]))).setIfInBounds 0 (Value.iface 73 (Value.agg #[Value.int IntKind.i64 e, Value.int IntKind.i64 (at1 : Int)]))) = #[Value.pointer (some (⟨g4, 0, none⟩ : Addr)), Value.pointer (some (⟨g0, 0, none⟩ : Addr)), Value.pointer (some (⟨g1, 0, none⟩ : Addr)), Value.pointer (some (⟨g2, 0, none⟩ : Addr)), Value.iface 73 (Value.agg #[Value.int IntKind.i64 e, Value.int IntKind.i64 (at1 : Int)]), undef, Value.iface 73 (Value.agg #[Value.int IntKind.i64 e, Value.int IntKind.i64 (at1 : Int)]), undef, undef, undef, undef, undef, undef, undef, undef, undef] from rfl]
  have hb1 := below_walk w (.cells zX 49)
  have HNW := hid (hp_new w (.cells zX 49))
  have H0 := hid ((hb1.block g0 (hp_lt h0)).trans h0)
  have H1 := hid ((hb1.block g1 (hp_lt h1)).trans h1)
  have H2 := hid ((hb1.block g2 (hp_lt h2)).trans h2)
  have H3 : Hid (Pq (w.alloc (.cells zX 49)) g3 l t fuel used lv) := hid ((hb1.block g3 (hp_lt h3)).trans h3)
  have H4 := hid ((hb1.block g4 (hp_lt h4)).trans h4)
  have HBB := hid (hb1.mono (show B ≤ w.heap.size by have := hp_lt h0; omega))
  have hg4 := hp_lt h4
  clear h0 h1 h2 h3 h4 hb1
  go_upto_region 3 with (refine al_row rfl 49 rfl _ Tryd.zeroExpr ?_)
  clear hu
  try simp only [Act.put, List.setIfInBounds_toArray, List.set_cons_succ, List.set_cons_zero]
  generalize w.alloc (.cells zX 49) = w1 at *
  obtain ⟨gn, HGN⟩ : ∃ gn, Hid (w.heap.size = gn) := ⟨_, rfl⟩
  rw [HGN.out] at HNW hg4 ⊢
  refine wp_noPanic (wp_region_held_drew (S := fun W => W.heap[gn]? = some (.cells zX 49 (0, 0)) ∧ W.heap[g4]? = some (.cells #[.pointer (some ⟨g3, 0, none⟩)] 61 (0, 0)) ∧ Pq W g3 l t fuel used lv) (by kernel_rfl) ⟨HNW.out, H4.out, H3.out⟩ ?_)
  intro hHeld
  refine wpAnyH_take (i := 0) (v := .agg zX) rfl (by kernel_rfl) (by kernel_rfl) (by kernel_rfl) (fun _ _ _ h => h) (yieldsIf_load_mid (by rfl) 49 (.tmp 5) rfl gn 0 rfl zX.toList _ (fun W hW j v hv => by rw [Nat.zero_add, cell_of_row _ _ _ _ _ _ hW.1]; simpa using hv) Tryd.underlying49 rfl Tryd.rowExpr) hHeld ?_
  simp only [Act.put, List.getElem_toArray, List.getElem_cons_zero, List.setIfInBounds_toArray, List.set_cons_succ, List.set_cons_zero]
  refine wpAnyH_take (i := 1) (v := .pointer (some ⟨g3, 0, none⟩)) rfl (by kernel_rfl) (by kernel_rfl) (by kernel_rfl) (fun _ _ _ h => h) (Or.inl ⟨by rfl, fun W hW => by have hcell : W.cell? ⟨g4, 0, none⟩ = some (.pointer (some ⟨g3, 0, none⟩)) := (by rw [cell_of_row _ _ _ _ _ _ hW.2.1]; rfl); (clear hW; go_simp)⟩) hHeld ?_
  simp only [Act.put, List.getElem_toArray, List.getElem_cons_zero, List.getElem_cons_succ, List.setIfInBounds_toArray, List.set_cons_succ, List.set_cons_zero]
  refine wpAnyH_take (i := 2) (v := .pointer (some ⟨g3, 0, none⟩)) rfl (by kernel_rfl) (by kernel_rfl) (by kernel_rfl) (fun _ _ _ h => h) (Or.inl ⟨by rfl, fun W _ => by go_simp⟩) hHeld ?_
  simp only [Act.put, List.getElem_toArray, List.getElem_cons_zero, List.getElem_cons_succ, List.setIfInBounds_toArray, List.set_cons_succ, List.set_cons_zero]
  refine wpAnyH_take (i := 3) (v := .pointer (some ⟨g3, 5, none⟩)) rfl (by kernel_rfl) (by kernel_rfl) (by kernel_rfl) (fun _ _ _ h => h) (Or.inl ⟨by rfl, fun W _ => by go_simp⟩) hHeld ?_
  simp only [Act.put, List.getElem_toArray, List.getElem_cons_zero, List.getElem_cons_succ, List.setIfInBounds_toArray, List.set_cons_succ, List.set_cons_zero]
  refine wpAnyH_take (i := 4) (v := .int .i64 (used : Int)) rfl (by kernel_rfl) (by kernel_rfl) (by kernel_rfl) (fun _ _ _ h => h) (Or.inl ⟨by rfl, fun W hW => by have hcell : W.cell? ⟨g3, 5, none⟩ = some (.int .i64 (used : Int)) := (hW.2.2.c 5).trans rfl; (clear hW; go_simp)⟩) hHeld ?_
  simp only [Act.put, List.getElem_toArray, List.getElem_cons_zero, List.getElem_cons_succ, List.setIfInBounds_toArray, List.set_cons_succ, List.set_cons_zero]
  refine wpAnyH_take (i := 5) (v := .iface 73 (.agg #[.int .i64 e, .int .i64 (at1 : Int)])) rfl (by kernel_rfl) (by kernel_rfl) (by kernel_rfl) (fun _ _ _ h => h) (Or.inl ⟨by rfl, fun W _ => by go_simp⟩) hHeld ?_
  simp only [Act.put, List.getElem_toArray, List.getElem_cons_zero, List.getElem_cons_succ, List.setIfInBounds_toArray, List.set_cons_succ, List.set_cons_zero]
  refine wpAnyH_take (i := 6) (v := .agg #[.int .i64 e, .int .i64 (at1 : Int)]) rfl (by kernel_rfl) (by kernel_rfl) (by kernel_rfl) (fun _ _ _ h => h) (Or.inl ⟨by rfl, fun W _ => by have hf := fun xT => ta_wrong (.agg #[.int .i64 e, .int .i64 (at1 : Int)]) xT W; go_simp⟩) hHeld ?_
  simp only [Act.put, List.getElem_toArray, List.getElem_cons_zero, List.getElem_cons_succ, List.setIfInBounds_toArray, List.set_cons_succ, List.set_cons_zero]
  refine wpAnyH_ready (rs := [7]) (by kernel_rfl) (by simp) ?_
  refine AllReadyH.cons rfl (fun K hK => ?_) AllReadyH.nil
  refine step_store_row rfl 49 (.tmp 1) (.tmp 9) rfl g0 zX.toList rfl rfl 49 z0 (by exact H0.out) Tryd.rowExpr (by rw [hz0]; rfl) (by intro v hv; simp [zX] at hv; rcases hv with rfl | rfl | rfl | rfl | rfl | rfl | rfl <;> rfl) ?_
  intro w2 hs2
  have k1 : w2.heap[g1]? = some (.cells #[v1] 3 (0, 0)) := (hs2.grown.block g1 (hp_lt H1.out) (by simp; omega)).trans H1.out
  have k2 := (hs2.grown.block g2 (hp_lt H2.out) (by simp; omega)).trans H2.out
  have k3 : Pq w2 g3 l t fuel used lv := (hs2.grown.block g3 (hp_lt H3.out) (by simp; omega)).trans H3.out
  have k4 := (hs2.grown.block g4 (hp_lt H4.out) (by simp; omega)).trans H4.out
  have kn := (hs2.grown.block gn (hp_lt HNW.out) (by simp; omega)).trans HNW.out
  have kb : Below B w w2 := HBB.out.drew.grown hs2.grown (by have := HBB.out.size; have := HGN.out; show B ≤ w1.heap.size; omega) (fun k hk => by injection hk with hk; omega)
  have K0 := hid hs2.blk
  refine hK.out _ _ ⟨kn, k4, k3⟩ (fun hHeld => ?_)
  clear hK K hs2
  try simp only [Act.put]
  refine wpAnyH_ready (rs := [8]) (by kernel_rfl) (by simp) ?_
  refine AllReadyH.cons rfl (fun K hK => ?_) AllReadyH.nil
  have hcell : w2.cell? ⟨g1, 0, none⟩ = some v1 := by rw [cell_of_row _ _ _ _ _ _ k1]; rfl
  have hfz : w2.frozen? ⟨g1, 0, none⟩ = false := by simp [World.frozen?, k1]
  go_simp
  have K1 : Hid ((w2.setCell ⟨g1, 0, none⟩ (.int .i64 (used : Int))).heap[g1]? = some (.cells #[.int .i64 (used : Int)] 3 (0, 0))) := hid (hp_put k1 _)
  have K0' := hid ((hp_set w2 g0 g1 0 (.int .i64 (used : Int)) (by omega)).trans K0.out)
  have K2' := hid ((hp_set w2 g2 g1 0 (.int .i64 (used : Int)) (by omega)).trans k2)
  have K3' : Hid (Pq (w2.setCell ⟨g1, 0, none⟩ (.int .i64 (used : Int))) g3 l t fuel used lv) := hid ((hp_set w2 g3 g1 0 (.int .i64 (used : Int)) (by omega)).trans k3)
  have K4' := hid ((hp_set w2 g4 g1 0 (.int .i64 (used : Int)) (by omega)).trans k4)
  have KN' := hid ((hp_set w2 gn g1 0 (.int .i64 (used : Int)) (by omega)).trans kn)
  have KB' := hid (kb.setCell (p := ⟨g1, 0, none⟩) (by show B ≤ g1; omega) (.int .i64 (used : Int)))
  refine hK.out _ _ ⟨KN'.out, K4'.out, K3'.out⟩ (fun hHeld => ?_)
  clear hK K hcell hfz k1 k2 k3 k4 kn kb
  generalize w2.setCell ⟨g1, 0, none⟩ (.int .i64 (used : Int)) = w3 at *
  refine wpAnyH_ready (rs := [9]) (by kernel_rfl) (by simp) ?_
  refine AllReadyH.cons rfl (fun K hK => ?_) AllReadyH.nil
  refine step_store_row rfl 29 (.tmp 3) (.tmp 15) rfl g2 [.int .i64 e, .int .i64 (at1 : Int)] rfl rfl 29 v2 K2'.out (by kernel_rfl) hv2 (by intro v hv; simp at hv; rcases hv with rfl | rfl <;> rfl) ?_
  intro w4 hs4
  have q0 := (hs4.grown.block g0 (hp_lt K0'.out) (by simp; omega)).trans K0'.out
  have q1 := (hs4.grown.block g1 (hp_lt K1.out) (by simp; omega)).trans K1.out
  have q3 : Pq w4 g3 l t fuel used lv := (hs4.grown.block g3 (hp_lt K3'.out) (by simp; omega)).trans K3'.out
  have q4 := (hs4.grown.block g4 (hp_lt K4'.out) (by simp; omega)).trans K4'.out
  have qn := (hs4.grown.block gn (hp_lt KN'.out) (by simp; omega)).trans KN'.out
  have qb : Below B w w4 := KB'.out.grown hs4.grown (by have := KB'.out.size; have := HGN.out; omega) (fun k hk => by injection hk with hk; omega)
  have Q0 := hid q0
  have Q1 := hid q1
  have Q2 := hid hs4.blk
  have QB := hid qb
  refine hK.out _ _ ⟨qn, q4, q3⟩ (fun hHeld => ?_)
  clear hK K hs4 q0 q1 q3 q4 qn qb
  refine wpAnyH_done (by kernel_rfl) ?_ _
  simp only [noPanic]
  clear hHeld
  go_wp2
  simp [bodyPostS, results, Tryd.results36]
  first
    | exact ⟨rfl, Q0.out, Q1.out, Q2.out, QB.out⟩
    | exact ⟨Q0.out, Q1.out, Q2.out, QB.out⟩

theorem leaveExpr {R : Ending → World → Prop} {tmps : Array Value} {w : World} {g g1 g2 : Nat} {cs : Array Value} {v1 x y : Value} (hp : tmps.getD 6 undef = .pointer (some ⟨g, 0, none⟩)) (hq : tmps.getD 7 undef = .pointer (some ⟨g1, 0, none⟩)) (hr : tmps.getD 8 undef = .pointer (some ⟨g2, 0, none⟩))
    (h0 : w.heap[g]? = some (.cells cs 49 (0, 0))) (hcs : cs.size = 10) (h1 : w.heap[g1]? = some (.cells #[v1] 3 (0, 0))) (h2 : w.heap[g2]? = some (.cells #[x, y] 29 (0, 0))) (hR : R (.returned (.tuple #[.agg cs, v1, .agg #[x, y]])) w) : Leaves Tryd.prog Tryd.f17 tmps R [] .returning w := by
  refine ⟨_, ?_, hR⟩
  rw [results_ccc Tryd.results17, hp, hq, hr]
  have e1 : w.cell? ⟨g1, 0, none⟩ = some v1 := by rw [cell_of_row _ _ _ _ _ _ h1]; rfl
  have k0 := run_loadVar_mid (P := Tryd.prog) w g 0 49 cs.toList _ (fun j v hv => by rw [Nat.zero_add, cell_of_row w g j cs 49 (0, 0) h0]; simpa using hv) Tryd.underlying49 rfl (by simp only [Array.length_toList, hcs]; exact Tryd.rowExpr)
  have k2 := run_loadVar_mid (P := Tryd.prog) w g2 0 29 [x, y] _ (fun j v hv => by rw [Nat.zero_add, cell_of_row w g2 j #[x, y] 29 (0, 0) h2]; simpa using hv) Tryd.underlying29 rfl (by kernel_rfl)
  have k1 : (loadVar 3 ⟨g1, 0, none⟩).run Tryd.prog w = .ok v1 w := by simp [go_sem, loadVar, e1]
  simp [asAddr, k0, k1, k2]

set_option maxRecDepth 20000 in
set_option maxHeartbeats 2000000 in
theorem readExpr_any (l : List UInt8) (hl : l.length ≤ 140737488355328) (fuel : Int) (r : Except Ft (Ex × Nat)) (w : World) (hT : TabZ w)
    (hform : ∀ (W : World) (u : Tok), Sz W (w.heap.size + 3) l fuel 0 0 u → Calls Tryd.prog 18 #[.pointer (some ⟨w.heap.size + 3, 0, none⟩)] W (Out l fuel (w.heap.size + 3) 0 (tE W.heap.size) W (aft l fuel r))) :
    Calls Tryd.prog 17 #[.string (mk l), .int .i64 fuel, .func (.func 18) #[] #[]] w (RdOut l fuel (fun w => tE w) zX r w) := by
  obtain ⟨B, HB⟩ : ∃ B, Hid (w.heap.size = B) := ⟨_, rfl⟩
  have hmf : ∀ (fn : Fn) (first cap : Array Value) (w : World), (Instr.makeFunc fn first cap).run Tryd.prog w = .ok (.func fn first cap) w := fun _ _ _ _ => rfl
  have HTZ := hid hT
  have HF := hid hform
  rw [HB.out] at HF
  clear hT hform
  go_enter_defers Tryd.func17, Tryd.ntmps17
  go_upto_region 3 with (first
    | (refine al_row rfl 49 rfl _ Tryd.zeroExpr ?_)
    | (refine bd_row rfl 72 _ rfl [(0, .string (mk l)), (2, .int .i64 fuel)] rfl (pC l (0, 0, 0) fuel 0 0) (by kernel_rfl) ?_)
    | (refine bx_row rfl 72 (.tmp 12) rfl (pC l (0, 0, 0) fuel 0 0) rfl ?_))
  rw [HB.out]
  have HA5 := hid (al5 w (.cells zX 49 (0, 0)) (.cells #[.int .i64 0] 3 (0, 0)) (.cells #[.int .i64 0, .int .i64 0] 29 (0, 0)) (.cells (pC l (0, 0, 0) fuel 0 0) 72 (0, 0)) (.cells #[.pointer (some ⟨B + 1 + 1 + 1, 0, none⟩)] 61 (0, 0)))
  dsimp only at HA5
  generalize (((((w.alloc (.cells zX 49 (0, 0))).alloc (.cells #[.int .i64 0] 3 (0, 0))).alloc (.cells #[.int .i64 0, .int .i64 0] 29 (0, 0))).alloc (.cells (pC l (0, 0, 0) fuel 0 0) 72 (0, 0))).alloc (.cells #[.pointer (some ⟨B + 1 + 1 + 1, 0, none⟩)] 61 (0, 0))) = w5 at HA5 ⊢
  obtain ⟨a0, a1, a2, a3, a4, a5, a6⟩ := HA5.out
  rw [HB.out] at a0 a1 a2 a3 a4 a5
  obtain ⟨b, HBb⟩ : ∃ b, Hid (B + 1 + 1 + 1 = b) := ⟨_, rfl⟩
  rw [HBb.out] at a3 a4 a5 ⊢
  rw [show B + 3 = b from HBb.out] at HF
  have HQ0 := hid a0
  have HQ1 := hid a1
  have HQ2 := hid a2
  have HQ4 := hid a4
  have HBE := hid a6
  have HP5 : Hid (Pz w5 b l (0, 0, 0) fuel 0 0) := hid ⟨a3, HTZ.out.tab.below a6, (HTZ.out.below a6).bin, (HTZ.out.below a6).low⟩
  have x4 : w5.cell? ⟨b + 1, 0, none⟩ = some (.pointer (some ⟨b, 0, none⟩)) := by rw [cell_of_row _ _ _ _ _ _ a4]; rfl
  have HS5 := hid a5
  clear a0 a1 a2 a3 a4 a5 a6 HA5
  have HNX := hid (next_any2 hl (by omega) (beg_0 l) w5 HP5.out)
  go_wp2_with fail
  refine HNX.out.mono ?_
  rintro e w6 ⟨hg6, hO⟩
  have hbb : B ≤ b := by have := HBb.out; omega
  have hbs : B ≤ w5.heap.size := by have := HS5.out; omega
  have HBE5 : Hid (Below B w w5) := hid (by have := HBE.out; rw [HB.out] at this; exact this)
  have HBE6 : Hid (Below B w w6) := hid (HBE5.out.trans (gbz_below hg6 hbb hbs))
  have k0 := (hg6.block B (hp_lt HQ0.out) (by have := HBb.out; simp; omega)).trans HQ0.out
  have k1 := (hg6.block (B + 1) (hp_lt HQ1.out) (by have := HBb.out; simp; omega)).trans HQ1.out
  have k2 := (hg6.block (B + 1 + 1) (hp_lt HQ2.out) (by have := HBb.out; simp; omega)).trans HQ2.out
  have k4 := (hg6.block (b + 1) (hp_lt HQ4.out) (by simp)).trans HQ4.out
  replace HQ0 := hid k0
  replace HQ1 := hid k1
  replace HQ2 := hid k2
  replace HQ4 := hid k4
  have HZ6 := hid hg6.size
  clear k0 k1 k2 k4 hg6 x4 HNX
  cases hlk : lkP l fuel 0 with
  | error f =>
    simp only [aft, hlk] at hO
    obtain ⟨rfl, ut, lvt, hz⟩ := hO
    have HQ3 := hid hz
    have HFI : Hid (finP l fuel r = .error f) := hid (by simp only [finP, hlk])
    clear hz hlk
    go_wp2_with fail
    refine leaves_cons (f := 36) (args := #[.pointer (some ⟨b + 1, 0, none⟩), .pointer (some ⟨B, 0, none⟩), .pointer (some ⟨B + 1, 0, none⟩), .pointer (some ⟨B + 1 + 1, 0, none⟩)]) (by simp [wrV]) (by simp [go_sem]) ?_
    refine (catchExpr_fault B (B + 1) (B + 1 + 1) b (b + 1) _ _ _ w6 B l _ fuel _ _ _ _ HQ0.out (by rfl) HQ1.out HQ2.out rfl HQ3.out.blk HQ4.out ⟨Nat.le_refl _, by omega, by omega, by have := HBb.out; omega, by omega⟩).mono ?_
    rintro rr u' w9 ⟨rfl, rfl, e0, e1, e2, e3⟩
    show Leaves Tryd.prog Tryd.f17 _ _ [] .returning _
    refine leaveExpr (g := B) (g1 := B + 1) (g2 := B + 1 + 1) ?_ ?_ ?_ e0 rfl e1 e2 ?_
    · rfl
    · rfl
    · rfl
    · refine ⟨by rw [HB.out]; exact HBE6.out.trans e3, ?_⟩
      rw [HFI.out]
  | ok u0 =>
    simp only [aft, hlk] at hO
    obtain ⟨v6, u6, rfl, hv6, hl6, hz6⟩ := hO
    obtain rfl : u0 = u6 := Except.ok.inj hl6
    have hv6 : v6 = .tuple #[] := hv6
    subst hv6
    have HSZ6 : Hid (Sz w6 b l fuel 0 0 u0) := hid ⟨hlk, hz6⟩
    have HL0 := hid hlk
    have x4 : w6.cell? ⟨b + 1, 0, none⟩ = some (.pointer (some ⟨b, 0, none⟩)) := by rw [cell_of_row _ _ _ _ _ _ HQ4.out]; rfl
    have HFC := hid (HF.out w6 u0 HSZ6.out)
    clear hz6 hl6 hlk
    go_wp2_with fail
    refine HFC.out.mono ?_
    rintro e w7 ⟨hg7, hO⟩
    have HBE7 : Hid (Below B w w7) := hid (HBE6.out.trans (gbz_below hg7 hbb (by have := HZ6.out; omega)))
    have HQ0' := hid ((hg7.block B (hp_lt HQ0.out) (by have := HBb.out; simp; omega)).trans HQ0.out)
    have k1 := (hg7.block (B + 1) (hp_lt HQ1.out) (by have := HBb.out; simp; omega)).trans HQ1.out
    have k2 := (hg7.block (B + 1 + 1) (hp_lt HQ2.out) (by have := HBb.out; simp; omega)).trans HQ2.out
    have k4 := (hg7.block (b + 1) (hp_lt HQ4.out) (by simp)).trans HQ4.out
    replace HQ1 := hid k1
    replace HQ2 := hid k2
    replace HQ4 := hid k4
    clear k1 k2 k4
    have hz7 : b + 2 ≤ w6.heap.size := by have := HZ6.out; have := HS5.out; omega
    clear hg7 x4 HFC HQ0
    cases hra : aft l fuel r with
    | error f =>
      rw [hra] at hO
      obtain ⟨rfl, ut, lvt, hz⟩ := hO
      have HQ3 := hid hz
      have HFI : Hid (finP l fuel r = .error f) := hid (fin_er HL0.out hra)
      clear hz hra
      go_wp2_with fail
      refine leaves_cons (f := 36) (args := #[.pointer (some ⟨b + 1, 0, none⟩), .pointer (some ⟨B, 0, none⟩), .pointer (some ⟨B + 1, 0, none⟩), .pointer (some ⟨B + 1 + 1, 0, none⟩)]) (by simp [wrV]) (by simp [go_sem]) ?_
      refine (catchExpr_fault B (B + 1) (B + 1 + 1) b (b + 1) _ _ _ w7 B l _ fuel _ _ _ _ HQ0'.out (by rfl) HQ1.out HQ2.out rfl HQ3.out.blk HQ4.out ⟨Nat.le_refl _, by omega, by omega, by have := HBb.out; omega, by omega⟩).mono ?_
      rintro rr u' w9 ⟨rfl, rfl, e0, e1, e2, e3⟩
      show Leaves Tryd.prog Tryd.f17 _ _ [] .returning _
      refine leaveExpr (g := B) (g1 := B + 1) (g2 := B + 1 + 1) ?_ ?_ ?_ e0 rfl e1 e2 ?_
      · rfl
      · rfl
      · rfl
      · refine ⟨by rw [HB.out]; exact HBE7.out.trans e3, ?_⟩
        rw [HFI.out]
    | ok q =>
      obtain ⟨a, j⟩ := q
      rw [hra] at hO
      obtain ⟨v7, u7, rfl, hT, hl7, hz7'⟩ := hO
      have HSZ7 : Hid (Sz w7 b l fuel j 0 u7) := hid ⟨hl7, hz7'⟩
      have HAF := hid (aft_in hra)
      obtain ⟨kv, d, rfl, hT2⟩ := hT
      have HT2 := hid hT2
      have HONE : Hid (∀ u ∈ (exC a kv), u.oneCell' = true) := hid (exC_one _ _ hT2.cell)
      clear hz7' hl7 hra hT2
      go_upto_region 5 with (first
        | (refine st_row rfl 49 (.tmp 6) (.tmp 19) rfl B (exC a kv) rfl rfl 49 _ HQ0'.out Tryd.rowExpr rfl HONE.out ?_; intro w8 hs8; have HS8 := hid hs8; clear hs8))
      try simp only [Act.put]
      have HSZ8 : Hid (Sz w8 b l fuel j 0 u7) := hid ⟨HSZ7.out.lk, HTZ.out.oth HSZ7.out.pz HS8.out.grown (by have := HBb.out; omega) (by rw [HB.out]; exact Nat.le_refl _)⟩
      have HBE8 : Hid (Below B w w8) := hid (HBE7.out.trans (gbz_below HS8.out.grown (Nat.le_refl _) (by have := HBE7.out.size; rw [HB.out] at this; exact this)))
      have k1 := (HS8.out.grown.block (B + 1) (hp_lt HQ1.out) (by have := HBb.out; simp <;> omega)).trans HQ1.out
      have k2 := (HS8.out.grown.block (B + 1 + 1) (hp_lt HQ2.out) (by have := HBb.out; simp <;> omega)).trans HQ2.out
      have k4 := (HS8.out.grown.block (b + 1) (hp_lt HQ4.out) (by have := HBb.out; simp <;> omega)).trans HQ4.out
      replace HQ1 := hid k1
      replace HQ2 := hid k2
      replace HQ4 := hid k4
      clear k1 k2 k4

      have x4 : w8.cell? ⟨b + 1, 0, none⟩ = some (.pointer (some ⟨b, 0, none⟩)) := by rw [cell_of_row _ _ _ _ _ _ HQ4.out]; rfl
      have c1 := HSZ8.out.pz.c1
      by_cases hu7 : u7.1 = 0
      · have q0 : (u7.1 : Int) = 0 := by omega
        rw [q0] at c1
        have HFI : Hid (finP l fuel r = .ok (a, j)) := hid (by simp only [finP, HL0.out, HAF.out, HSZ7.out.lk, hu7, if_true])
        go_upto_region 7 with fail
        clear x4 c1
        have HDR := hid (show Below w8.heap.size w8 w8.drew from (Below.refl _ _).drew)
        refine wp_noPanic (wp_region_held_drew (S := fun W => W.heap[B]? = some (.cells (exC a kv).toArray 49 (0, 0)) ∧ W.heap[b + 1]? = some (.cells #[.pointer (some ⟨b, 0, none⟩)] 61 (0, 0)) ∧ Pq W b l u7 fuel (usA j u7) 0) (by kernel_rfl) ⟨HS8.out.blk, HQ4.out, HSZ8.out.pz.blk⟩ ?_)
        intro hHeld
        refine wpAnyH_take (i := 0) (v := .agg (exC a kv).toArray) rfl (by kernel_rfl) (by kernel_rfl) (by kernel_rfl) (fun _ _ _ h => h) (yieldsIf_load_mid (by rfl) 49 (.tmp 6) rfl B 0 rfl (exC a kv) _ (fun W hW k v hv => by rw [Nat.zero_add, cell_of_row _ _ _ _ _ _ hW.1]; simpa using hv) Tryd.underlying49 rfl Tryd.rowExpr) hHeld ?_
        simp only [Act.put, List.getElem_toArray, List.getElem_cons_zero, List.setIfInBounds_toArray, List.set_cons_succ, List.set_cons_zero]
        refine wpAnyH_take (i := 1) (v := .pointer (some ⟨b, 0, none⟩)) rfl (by kernel_rfl) (by kernel_rfl) (by kernel_rfl) (fun _ _ _ h => h) (Or.inl ⟨by rfl, fun W hW => by have hcell : W.cell? ⟨b + 1, 0, none⟩ = some (.pointer (some ⟨b, 0, none⟩)) := (by rw [cell_of_row _ _ _ _ _ _ hW.2.1]; rfl); (clear hW; go_simp)⟩) hHeld ?_
        simp only [Act.put, List.getElem_toArray, List.getElem_cons_zero, List.getElem_cons_succ, List.setIfInBounds_toArray, List.set_cons_succ, List.set_cons_zero]
        refine wpAnyH_take (i := 2) (v := .pointer (some ⟨b, 0, none⟩)) rfl (by kernel_rfl) (by kernel_rfl) (by kernel_rfl) (fun _ _ _ h => h) (Or.inl ⟨by rfl, fun W _ => by go_simp⟩) hHeld ?_
        simp only [Act.put, List.getElem_toArray, List.getElem_cons_zero, List.getElem_cons_succ, List.setIfInBounds_toArray, List.set_cons_succ, List.set_cons_zero]
        refine wpAnyH_take (i := 3) (v := .pointer (some ⟨b, 5, none⟩)) rfl (by kernel_rfl) (by kernel_rfl) (by kernel_rfl) (fun _ _ _ h => h) (Or.inl ⟨by rfl, fun W _ => by go_simp⟩) hHeld ?_
        simp only [Act.put, List.getElem_toArray, List.getElem_cons_zero, List.getElem_cons_succ, List.setIfInBounds_toArray, List.set_cons_succ, List.set_cons_zero]
        refine wpAnyH_take (i := 4) (v := .int .i64 (usA j u7 : Int)) rfl (by kernel_rfl) (by kernel_rfl) (by kernel_rfl) (fun _ _ _ h => h) (Or.inl ⟨by rfl, fun W hW => by have hcell : W.cell? ⟨b, 5, none⟩ = some (.int .i64 (usA j u7 : Int)) := (hW.2.2.c 5).trans rfl; (clear hW; go_simp)⟩) hHeld ?_
        simp only [Act.put, List.getElem_toArray, List.getElem_cons_zero, List.getElem_cons_succ, List.setIfInBounds_toArray, List.set_cons_succ, List.set_cons_zero]
        refine wpAnyH_take (i := 5) (v := .agg #[.int .i64 0, .int .i64 0]) rfl (by kernel_rfl) (by kernel_rfl) (by kernel_rfl) (fun _ _ _ h => h) (Or.inl ⟨by rfl, fun W _ => by go_simp⟩) hHeld ?_
        simp only [Act.put, List.getElem_toArray, List.getElem_cons_zero, List.getElem_cons_succ, List.setIfInBounds_toArray, List.set_cons_succ, List.set_cons_zero]
        refine wpAnyH_ready (rs := [6]) (by kernel_rfl) (by simp) ?_
        refine AllReadyH.cons rfl (fun K hK => ?_) AllReadyH.nil
        refine step_store_row rfl 49 (.tmp 6) (.tmp 28) rfl B (exC a kv) rfl rfl 49 _ (by exact HS8.out.blk) Tryd.rowExpr rfl HONE.out ?_
        intro w9 hs9
        have hbw : B ≤ w8.heap.size := Nat.le_of_lt (hp_lt HS8.out.blk)
        have k1 : w9.heap[B + 1]? = _ := (hs9.grown.block (B + 1) (hp_lt HQ1.out) (by simp)).trans HQ1.out
        have k2 := (hs9.grown.block (B + 1 + 1) (hp_lt HQ2.out) (by simp <;> omega)).trans HQ2.out
        have k4 := (hs9.grown.block (b + 1) (hp_lt HQ4.out) (by have := HBb.out; simp <;> omega)).trans HQ4.out
        have k3 : Pq w9 b l u7 fuel (usA j u7) 0 := (hs9.grown.block b HSZ8.out.pz.lt (by have := HBb.out; simp <;> omega)).trans HSZ8.out.pz.blk
        have kb : Below B w w9 := HBE8.out.trans (show Below B w8 w9 from ((Below.refl B w8).drew).grown hs9.grown hbw (fun k hk => by injection hk with hk; omega))
        have K0 := hid hs9.blk
        have HT9 : Hid (tE w6.heap.size w9 (.agg (exC a kv).toArray) a) := hid (te_keep (te_keep ⟨kv, d, rfl, HT2.out⟩ HS8.out.grown (by have := HBb.out; have := HZ6.out; have := HS5.out; omega)) (gb_trans (below_gb HDR.out (some B)) hs9.grown) (by have := HBb.out; have := HZ6.out; have := HS5.out; omega))
        refine hK.out _ _ ⟨K0.out, k4, k3⟩ (fun hHeld => ?_)
        clear hK K hs9
        try simp only [Act.put]
        refine wpAnyH_ready (rs := [7]) (by kernel_rfl) (by simp) ?_
        refine AllReadyH.cons rfl (fun K hK => ?_) AllReadyH.nil
        have hcell : w9.cell? ⟨B + 1, 0, none⟩ = some (.int .i64 0) := by rw [cell_of_row _ _ _ _ _ _ k1]; rfl
        have hfz : w9.frozen? ⟨B + 1, 0, none⟩ = false := by simp [World.frozen?, k1]
        go_simp
        have K1 : Hid ((w9.setCell ⟨B + 1, 0, none⟩ (.int .i64 (usA j u7 : Int))).heap[B + 1]? = some (.cells #[(.int .i64 (usA j u7 : Int))] 3 (0, 0))) := hid (hp_put k1 _)
        have K0' := hid ((hp_set w9 B (B + 1) 0 (.int .i64 (usA j u7 : Int)) (by omega)).trans K0.out)
        have K2' := hid ((hp_set w9 (B + 1 + 1) (B + 1) 0 (.int .i64 (usA j u7 : Int)) (by omega)).trans k2)
        have K3' : Hid (Pq (w9.setCell ⟨B + 1, 0, none⟩ (.int .i64 (usA j u7 : Int))) b l u7 fuel (usA j u7) 0) := hid ((hp_set w9 b (B + 1) 0 (.int .i64 (usA j u7 : Int)) (by have := HBb.out; omega)).trans k3)
        have K4' := hid ((hp_set w9 (b + 1) (B + 1) 0 (.int .i64 (usA j u7 : Int)) (by have := HBb.out; omega)).trans k4)
        have KB' := hid (kb.setCell (p := ⟨B + 1, 0, none⟩) (by show B ≤ B + 1; omega) (.int .i64 (usA j u7 : Int)))
        have HT10 : Hid (tE w6.heap.size (w9.setCell ⟨B + 1, 0, none⟩ (.int .i64 (usA j u7 : Int))) (.agg (exC a kv).toArray) a) := hid (te_keep HT9.out (gb_setc w9 (B + 1) 0 (.int .i64 (usA j u7 : Int))) (by have := HBb.out; have := HZ6.out; have := HS5.out; omega))
        refine hK.out _ _ ⟨K0'.out, K4'.out, K3'.out⟩ (fun hHeld => ?_)
        clear hK K hcell hfz k1 k2 k3 k4 kb
        generalize w9.setCell ⟨B + 1, 0, none⟩ (.int .i64 (usA j u7 : Int)) = w10 at *
        refine wpAnyH_ready (rs := [8]) (by kernel_rfl) (by simp) ?_
        refine AllReadyH.cons rfl (fun K hK => ?_) AllReadyH.nil
        refine step_store_row rfl 29 (.tmp 8) (.tmp 33) rfl (B + 1 + 1) [.int .i64 0, .int .i64 0] rfl rfl 29 _ K2'.out (by kernel_rfl) rfl (by intro v hv; simp at hv; rw [hv]; rfl) ?_
        intro w11 hs11
        have q0 := (hs11.grown.block B (hp_lt K0'.out) (by simp <;> omega)).trans K0'.out
        have q1 := (hs11.grown.block (B + 1) (hp_lt K1.out) (by simp)).trans K1.out
        have q3 : Pq w11 b l u7 fuel (usA j u7) 0 := (hs11.grown.block b (hp_lt K3'.out) (by have := HBb.out; simp <;> omega)).trans K3'.out
        have q4 := (hs11.grown.block (b + 1) (hp_lt K4'.out) (by have := HBb.out; simp <;> omega)).trans K4'.out
        have QB : Hid (Below B w w11) := hid (KB'.out.trans (gbz_below hs11.grown (by omega) (Nat.le_of_lt (hp_lt K0'.out))))
        have HT11 := hid (te_keep HT10.out hs11.grown (by have := HBb.out; have := HZ6.out; have := HS5.out; omega))
        have Q0 := hid q0
        have Q1 := hid q1
        have Q2 := hid hs11.blk
        refine hK.out _ _ ⟨q0, q4, q3⟩ (fun hHeld => ?_)
        clear hK K hs11 q0 q1 q3 q4
        refine wpAnyH_done (by kernel_rfl) ?_ _
        simp only [noPanic]
        clear hHeld
        go_wp2_with fail
        refine leaves_cons (f := 36) (args := #[.pointer (some ⟨b + 1, 0, none⟩), .pointer (some ⟨B, 0, none⟩), .pointer (some ⟨B + 1, 0, none⟩), .pointer (some ⟨B + 1 + 1, 0, none⟩)]) (by simp) (by simp [go_sem]) ?_
        refine (catchExpr_idle _ _ _ _ w11).mono ?_
        rintro rr u' w12 ⟨rfl, rfl, rfl⟩
        refine leaveExpr (g := B) (g1 := B + 1) (g2 := B + 1 + 1) ?_ ?_ ?_ Q0.out rfl Q1.out Q2.out ?_
        · rfl
        · rfl
        · rfl
        · refine ⟨by rw [HB.out]; exact QB.out, ?_⟩
          rw [HFI.out]
          exact ⟨_, by rw [show usA j u7 = j from if_pos hu7], te_low HT11.out (by rw [HB.out]; omega)⟩
      · have q0 : ¬ (u7.1 : Int) = 0 := by omega
        have HFI : Hid (finP l fuel r = .error (badF 140 j u7)) := hid (by simp only [finP, HL0.out, HAF.out, HSZ7.out.lk, eq_false hu7, if_false])
        have HRF := hid (refuse_any w8 HSZ8.out.pz)
        have HQ3 := hid HSZ8.out.pz
        clear hu7
        go_wp2_with (go_at_call 24; refine HRF.out.mono ?_; rintro e w10 ⟨rfl, h10⟩; have h10 := h10.symm; subst h10)
        refine leaves_cons (f := 36) (args := #[.pointer (some ⟨b + 1, 0, none⟩), .pointer (some ⟨B, 0, none⟩), .pointer (some ⟨B + 1, 0, none⟩), .pointer (some ⟨B + 1 + 1, 0, none⟩)]) (by simp [wrV]) (by simp [go_sem]) ?_
        refine (catchExpr_fault B (B + 1) (B + 1 + 1) b (b + 1) _ _ _ w8 B l _ fuel _ _ _ _ HS8.out.blk (by rfl) HQ1.out HQ2.out rfl HQ3.out.blk HQ4.out ⟨Nat.le_refl _, by omega, by omega, by have := HBb.out; omega, by omega⟩).mono ?_
        rintro rr u' w9 ⟨rfl, rfl, e0, e1, e2, e3⟩
        show Leaves Tryd.prog Tryd.f17 _ _ [] .returning _
        refine leaveExpr (g := B) (g1 := B + 1) (g2 := B + 1 + 1) ?_ ?_ ?_ e0 rfl e1 e2 ?_
        · rfl
        · rfl
        · rfl
        · refine ⟨by rw [HB.out]; exact HBE8.out.trans e3, ?_⟩
          rw [HFI.out]
          rfl

end

end Go.Proofs.YtjjajfipfeigiabDoor
