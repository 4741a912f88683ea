/- Contracts and pure facts that the proof needs, joined. -/
import Derived.Test.YtiibhccbbpgehabGreatG5

/- The law's bye and awake. -/
namespace Go.Proofs.YtiibhccbbpgehabGreat
open Go.RowKit Go.BigFrame

theorem faultG : Tryz.prog.eqGuardType Tryz.prog.depth 30 = false := by kernel_rfl
theorem fault_run (a b x y : Int) (w : World) : (Op.equalIn 10000 30 (.agg #[.int .i64 a, .int .i64 b]) (.agg #[.int .i64 x, .int .i64 y])).run Tryz.prog w = .ok (a == x && b == y) w := by
  have hS : Tryz.prog.underlying 30 = some (.struct (Tryz.prog.fieldsOf 30)) := by kernel_rfl
  have hp : Tryz.prog.stoodInHeld 30 = false := by kernel_rfl
  have u3 := Tryz.underlying3
  have a3 := Tryz.isAgg3
  have z3 := Tryz.sizeOf3
  have u4 := Tryz.underlying25
  have a4 := Tryz.isAgg25
  have z4 := Tryz.sizeOf25
  rw [show (10000 : Nat) = 9999 + 1 from rfl, run_equalIn_agg w 9999 30 _ _ hS hp]
  simp only [Program.fieldsOf, Tryz.underlying30]
  go_simp
  by_cases h1 : a = x <;> by_cases h2 : b = y <;> simp [h1, h2]
theorem fault_neq (a b x y : Int) (w : World) : (binOp .neq 30 (.agg #[.int .i64 a, .int .i64 b]) (.agg #[.int .i64 x, .int .i64 y])).run Tryz.prog w = .ok (.bool (!decide ((a, b) = (x, y)))) w := by
  rw [run_neq_struct, fault_run]
  have : (a == x && b == y) = decide ((a, b) = (x, y)) := by
    rw [Bool.eq_iff_iff]
    simp
  rw [this]
  rfl
theorem fault_eql (a b x y : Int) (w : World) : (binOp .eql 30 (.agg #[.int .i64 a, .int .i64 b]) (.agg #[.int .i64 x, .int .i64 y])).run Tryz.prog w = .ok (.bool (decide ((a, b) = (x, y)))) w := by
  rw [run_eql_struct, fault_run]
  have : (a == x && b == y) = decide ((a, b) = (x, y)) := by
    rw [Bool.eq_iff_iff]
    simp
  rw [this]
  rfl

theorem own_blk {w : World} {b n : Nat} {cs ds : Array Value} {e t : TypeId} (hb : w.heap[b]? = some (.cells cs e (0, 0))) (hn : w.heap[n]? = some (.cells ds t (0, 0))) (he : e ≠ t) : n ≠ b := by
  intro h
  subst h
  rw [hb] at hn
  simp at hn
  exact he hn.2
theorem yields_slice {P : Program} {ops : Array Oper} {S : World → Prop} {o : Oper} {a : Act} (hw : Region.wanted o (yielded ops a.tmps) = true) (t : TypeId) (x : Operand) (lo hi mx : Option Operand) (ho : o.op = .slice t x lo hi mx) (vx : Value)
    (h : ∀ W, (Instr.sliceAt t (a.eval x) (lo.map a.eval) (hi.map a.eval) (mx.map a.eval)).run P W = .ok vx W) : YieldsIf P ops S o vx a :=
  .inl ⟨hw, fun W _ => by
    unfold execOp
    simp only [ho, Sem.run_bind, h, Sem.run_pure, Result.andThen_ok]⟩
theorem step_alloc_row8 {P : Program} {ops : Array Oper} {o : Oper} {a : Act} {w : World} {K : Act → World → Prop} {Q : Exit → Act → World → Prop} {E : Prop} (hgd : o.guard = none) (ty : TypeId) (ho : o.op = .alloc ty)
    (cs : Array Value) (hz : ∀ w, (zeroValue ty).run P w = .ok (.agg cs) w)
    (h : K (a.put o.dst (.pointer (some ⟨w.heap.size, 0, none⟩))) (w.alloc (.cells cs ty))) : if Region.wanted o (yielded ops a.tmps) = true then Oper.wp P o a w K Q else E := by
  rw [if_pos (by simp [Region.wanted, hgd])]
  unfold Oper.wp execOp
  simp only [ho, Instr.alloc, Sem.run_bind, hz, newVar, newRow, run_newObj_alloc, Sem.run_pure, Result.andThen_ok, Value.cells]
  exact h
def BY : List UInt8 := sealP [1, 5]
theorem by_len : BY.length = 6 := rfl
theorem run_by : runP 9 nev (zS, [], 0) BY = (⟨[], 6, 1, 0, 0, [6]⟩, [byeF], 6) := by kernel_rfl
theorem run_bye : runP 9 nev (zS, [], 0) (fl [BY.take 2, BY.drop 2]) = (⟨[], 6, 1, 0, 0, [6]⟩, [byeF], 6) := by
  rw [show fl [BY.take 2, BY.drop 2] = BY by simp [fl]]
  exact run_by
theorem run_bad : runP 9 nev (⟨[], 6, 1, 0, 0, [6]⟩, [], 0) (fl [[128, 0]]) = (⟨[128, 0], 8, 1, 5, 6, [6]⟩, [], 2) := by kernel_rfl
theorem map_one {fs : List FV} {f : Fr} (h : fs.map (·.1) = [f]) : ∃ va, fs = [(f, va)] := by
  match fs, h with
  | [(g, va)], h => simp at h; exact ⟨va, by rw [h]⟩
theorem cut_atb {w : World} {v : Value} {bs : List UInt8} (h : Src w v bs) (k : Nat) (hk : k ≤ bs.length) :
    ∃ vx, Src w vx (bs.take k) ∧ (∀ j, vx.ownBlock = some j → v.ownBlock = some j) ∧ (∀ W, (Instr.sliceAt 22 v none (some (.int .i64 (k : Int))) none).run Tryz.prog W = .ok vx W) := by
  obtain ⟨hl, ⟨rfl, rfl⟩ | ⟨ad, cap, rfl, h1, h2, hlt, hc⟩⟩ := h
  · simp at hk
    subst hk
    exact ⟨.slice none 0 0, ⟨by simp, Or.inl ⟨rfl, rfl⟩⟩, fun _ e => e, fun W => by go_simp⟩
  · have hlen : (bs.take k).length = k := by simp; omega
    refine ⟨.slice (some ad) k cap, ⟨by omega, Or.inr ⟨ad, cap, by rw [hlen], by omega, h2, fun h0 => hlt (by omega), fun j hj => ?_⟩⟩, fun _ e => e, fun W => ?_⟩
    · rw [hlen] at hj
      rw [hc j (by omega)]
      simp [List.getD_eq_getElem?_getD, hj]
    · have hk2 : (k : Int) ≤ (cap : Int) := by omega
      go_simp
theorem cut_endb {w : World} {v : Value} {bs : List UInt8} (h : Src w v bs) (k : Nat) (hk : k ≤ bs.length) :
    ∃ vx, Src w vx (bs.drop k) ∧ (∀ j, vx.ownBlock = some j → v.ownBlock = some j) ∧ (∀ W, (Instr.sliceAt 22 v (some (.int .i64 (k : Int))) none none).run Tryz.prog W = .ok vx W) := cut_end h k hk
theorem src_two (w : World) : Src (w.alloc (.cells #[.int .u8 128, .int .u8 0] 5)) (.slice (some ⟨w.heap.size, 0, none⟩) 2 2) [128, 0] := by
  refine ⟨by simp, Or.inr ⟨⟨w.heap.size, 0, none⟩, 2, rfl, by simp, by decide, fun _ => by simp, fun j hj => ?_⟩⟩
  match j, hj with
  | 0, _ => simp [Addr.add]
  | 1, _ => simp [Addr.add]
theorem lsts_two (w : World) (u v : Value) (a b : List UInt8) (h1 : Src w u a) (h2 : Src w v b) : Lsts (w.alloc (.cells #[u, v] 22)) (.slice (some ⟨w.heap.size, 0, none⟩) 2 2) [u, v] [a, b] := by
  have hb := below_walk w (.cells #[u, v] 22)
  refine Or.inr ⟨w.heap.size, 0, 2, rfl, by simp, fun j hj => ?_⟩
  match j, hj with
  | 0, _ => exact ⟨by simp, h1.below hb⟩
  | 1, _ => exact ⟨by simp, h2.below hb⟩
theorem lsts_one (w : World) (u : Value) (a : List UInt8) (h1 : Src w u a) : Lsts (w.alloc (.cells #[u] 22)) (.slice (some ⟨w.heap.size, 0, none⟩) 1 1) [u] [a] := by
  have hb := below_walk w (.cells #[u] 22)
  refine Or.inr ⟨w.heap.size, 0, 1, rfl, by simp, fun j hj => ?_⟩
  match j, hj with
  | 0, _ => exact ⟨by simp, h1.below hb⟩
theorem Src.empty {w : World} {v : Value} (h : Src w v []) (w' : World) : Src w' v [] := by
  obtain ⟨h0, h | ⟨ad, cap, rfl, h1, h2, hlt, hc⟩⟩ := h
  · exact ⟨h0, Or.inl h⟩
  · exact ⟨h0, Or.inr ⟨ad, cap, rfl, h1, h2, fun h => by simp at h, fun j hj => by simp at hj⟩⟩
theorem src_lt {w : World} {v : Value} {bs : List UInt8} (h : Src w v bs) (hne : bs ≠ []) {k : Nat} (e : v.ownBlock = some k) : k < w.heap.size := by
  obtain ⟨h0, ⟨rfl, _⟩ | ⟨ad, cap, rfl, h1, h2, hlt, hc⟩⟩ := h
  · cases e
  · simp only [Value.ownBlock, Option.some.injEq] at e
    rw [← e]
    exact hlt (List.length_pos_iff.2 hne)
theorem Lsts.gd {w w' : World} {b : Nat} {v v' vp : Value} {us : List Value} {pss : List (List UInt8)} (h : Lsts w vp us pss) (g : Gd w w' b v v') (hb : vp.ownBlock ≠ some b) (hv : ∀ k, vp.ownBlock = some k → v.ownBlock ≠ some k) (hub : ∀ j, pss.getD j [] ≠ [] → (us.getD j nS).ownBlock ≠ some b) (huv : ∀ j k, pss.getD j [] ≠ [] → (us.getD j nS).ownBlock = some k → v.ownBlock ≠ some k) : Lsts w' vp us pss := by
  rcases h with h | ⟨g0, o, c, rfl, hlt, hc⟩
  · exact Or.inl h
  · refine Or.inr ⟨g0, o, c, rfl, Nat.lt_of_lt_of_le hlt g.size, fun j hj => ⟨?_, ?_⟩⟩
    rotate_left
    · by_cases he : pss.getD j [] = []
      · have h9 := (hc j hj).2
        rw [he] at h9 ⊢
        exact h9.empty w'
      · exact (hc j hj).2.gd g (hub j he) (fun k => huv j k he)
    rw [World.cell?_of_block (g.block g0 hlt (fun e => hb (by rw [e]; rfl)) (hv g0 rfl))]
    exact (hc j hj).1

set_option maxRecDepth 100000 in
set_option maxHeartbeats 1000000 in
theorem abye_any (w : World) : Calls Tryz.prog 11 #[] w fun e w' => ∃ v, e = .returned v ∧ OwnB w' w.heap.size v BY ∧ Below w.heap.size w w' := by
  have HR := hid (rencodeBye_any w)
  go_enter Tryz.func11, Tryz.ntmps11
  go_wp2_with (refine bd_row (by rfl) 65 #[(0, .const (.int .i64 5))] (by rfl) _ (by simp [Act.eval]) _ built_bye ?_)
  refine HR.out.mono ?_
  rintro e w1 ⟨v1, rfl, ho1, hb1⟩
  have HO := hid ho1
  have HB := hid hb1
  obtain ⟨a1, c1, e1⟩ := ho1.shape
  subst e1
  clear ho1 hb1 HR
  go_wp2
  go_ret
  exact ⟨_, rfl, HO.out, HB.out⟩
theorem new9 (w : World) : Calls Tryz.prog 6 #[.int .i64 9] w fun e w' => ∃ b, e = .returned (.tuple #[.pointer (some ⟨b, 0, none⟩), .int .i64 0]) ∧ w.heap.size ≤ b ∧ Sd w' b b (.slice none 0 0) 9 zS ∧ Below w.heap.size w w' := new_ok8 w 9 (by omega) (by omega)

set_option maxRecDepth 100000 in
set_option maxHeartbeats 8000000 in
theorem awake8_any (w : World) : Calls Tryz.prog 9 #[] w fun e w' => e = .returned (.bool true) ∧ Below w.heap.size w w' := by
  have hl6 : BY.length = 6 := by_len
  go_enter Tryz.func9, Tryz.ntmps9
  go_wp2_with fail
  refine (new9 w).mono ?_
  rintro e w1 ⟨b, rfl, hbw, hsd, hb1⟩
  have HBW := hid hbw
  have HSD := hid hsd
  have HB1 := hid hb1
  clear hbw hsd hb1
  go_upto_region 4 with fail
  refine wp_noPanic (wp_region_held_drew (S := fun _ => True) (by kernel_rfl) trivial ?_)
  intro hHeld
  refine wpAnyH_take (i := 0) (v := .pointer (some ⟨b, 0, none⟩)) rfl (by kernel_rfl) (by kernel_rfl) (by kernel_rfl) (fun _ _ _ h => h) (Or.inl ⟨by rfl, fun W _ => by go_simp⟩) hHeld ?_
  simp only [Act.put, List.getElem_toArray, List.getElem_cons_zero, List.setIfInBounds_toArray, List.set_cons_succ, List.set_cons_zero]
  have HSDx := hid (HSD.out.drew 1)
  have HBx := hid (below_then HB1.out (bel_drw w1 1))
  obtain ⟨x, HWX⟩ : ∃ x, Hid (w1.drewN 1 = x) := ⟨_, rfl⟩
  have HWY := hid (show w1.drew = x from HWX.out)
  rw [HWX.out] at HSDx HBx
  rw [HWY.out]
  refine wpAnyH_ready (rs := [1, 10]) (by kernel_rfl) (by simp) ?_
  refine AllReadyH.cons rfl (fun K hK => ?_) (AllReadyH.cons rfl (fun K hK => ?_) AllReadyH.nil)
  · skip
    go_simp
    refine (abye_any x).mono ?_
    rintro e w2 ⟨v19, rfl, ho, hb⟩
    have HSv19 := hid (ho.src (by decide))
    have HLv19 := hid (show ∀ k, v19.ownBlock = some k → k ≠ b from fun k e => by have := (World.ownsRow.lt ho k e).1; have := HSDx.out.kb.lt; omega)
    have HSDw2 := hid (HSDx.out.below hb)
    have HBw2 := hid (below_then HBx.out hb)
    obtain ⟨av19, cv19, ev19⟩ := ho.shape
    rw [hl6] at ev19
    subst ev19
    clear ho hb
    go_wp2_with fail
    refine hK.out _ _ trivial (fun hHeld => ?_)
    clear hK K
    try simp only [Act.put, List.getElem_toArray, List.getElem_cons_zero, List.getElem_cons_succ, List.setIfInBounds_toArray, List.set_cons_succ, List.set_cons_zero]
    obtain ⟨vA, hA1, hAo, hA2⟩ := cut_atb HSv19.out 2 (by decide)
    have HAw2 := hid hA1
    have HAn := hid (show vA.ownBlock ≠ some b from fun e => HLv19.out b (hAo b e) rfl)
    refine wpAnyH_take (i := 2) (v := vA) rfl (by kernel_rfl) (by kernel_rfl) (by kernel_rfl) (fun _ _ _ h => h) (yields_slice (by rfl) 22 (.tmp 19) none (some (.const (.int .i64 2))) none (by rfl) vA (fun W => hA2 W)) hHeld ?_
    simp only [Act.put, List.getElem_toArray, List.getElem_cons_zero, List.getElem_cons_succ, List.setIfInBounds_toArray, List.set_cons_succ, List.set_cons_zero]
    refine wpAnyH_ready (rs := [3, 10]) (by kernel_rfl) (by simp) ?_
    refine AllReadyH.cons rfl (fun K hK => ?_) (AllReadyH.cons rfl (fun K hK => ?_) AllReadyH.nil)
    · skip
      go_simp
      refine (abye_any w2).mono ?_
      rintro e w3 ⟨v21, rfl, ho, hb⟩
      have HSv21 := hid (ho.src (by decide))
      have HLv21 := hid (show ∀ k, v21.ownBlock = some k → k ≠ b from fun k e => by have := (World.ownsRow.lt ho k e).1; have := HSDw2.out.kb.lt; omega)
      have HSDw3 := hid (HSDw2.out.below hb)
      have HBw3 := hid (below_then HBw2.out hb)
      have HAw3 := hid (HAw2.out.below hb)
      obtain ⟨av21, cv21, ev21⟩ := ho.shape
      rw [hl6] at ev21
      subst ev21
      clear ho hb
      go_wp2_with fail
      refine hK.out _ _ trivial (fun hHeld => ?_)
      clear hK K
      try simp only [Act.put, List.getElem_toArray, List.getElem_cons_zero, List.getElem_cons_succ, List.setIfInBounds_toArray, List.set_cons_succ, List.set_cons_zero]
      obtain ⟨vB, hB1, hBo, hB2⟩ := cut_endb HSv21.out 2 (by decide)
      have HCw3 := hid hB1
      have HBn := hid (show vB.ownBlock ≠ some b from fun e => HLv21.out b (hBo b e) rfl)
      refine wpAnyH_take (i := 4) (v := vB) rfl (by kernel_rfl) (by kernel_rfl) (by kernel_rfl) (fun _ _ _ h => h) (yields_slice (by rfl) 22 (.tmp 21) (some (.const (.int .i64 2))) none none (by rfl) vB (fun W => hB2 W)) hHeld ?_
      simp only [Act.put, List.getElem_toArray, List.getElem_cons_zero, List.getElem_cons_succ, List.setIfInBounds_toArray, List.set_cons_succ, List.set_cons_zero]
      refine wpAnyH_ready (rs := [5, 10]) (by kernel_rfl) (by simp) ?_
      refine AllReadyH.cons rfl (fun K hK => ?_) (AllReadyH.cons rfl (fun K hK => ?_) AllReadyH.nil)
      · skip
        obtain ⟨aA, nA, cA, eA⟩ := src_named HAw3.out
        obtain ⟨aB, nB, cB, eB⟩ := src_named HCw3.out
        have HWA := hid (below_walk w3 (.cells #[vA, vB] 22))
        have HLw4 := hid (lsts_two w3 vA vB _ _ HAw3.out HCw3.out)
        have HSDw4 := hid (HSDw3.out.below HWA.out)
        have HBw4 := hid (below_then HBw3.out HWA.out)
        have HLB := hid (HSDw3.out.kb.lt)
        clear hA1 hA2 hB1 hB2 hAo hBo
        subst eA eB
        go_simp
        refine hK.out _ _ trivial (fun hHeld => ?_)
        clear hK K
        try simp only [Act.put, List.getElem_toArray, List.getElem_cons_zero, List.getElem_cons_succ, List.setIfInBounds_toArray, List.set_cons_succ, List.set_cons_zero]
        obtain ⟨B3, HB3e⟩ : ∃ n, Hid (w3.heap.size = n) := ⟨_, rfl⟩
        rw [HB3e.out] at HLw4 HLB
        try rw [HB3e.out]
        generalize w3.alloc (.cells #[.slice aA nA cA, .slice aB nB cB] 22) = w4 at *
        refine wpAnyH_ready (rs := [6, 10]) (by kernel_rfl) (by simp) ?_
        refine AllReadyH.cons rfl (fun K hK => ?_) (AllReadyH.cons rfl (fun K hK => ?_) AllReadyH.nil)
        · skip
          have HFE := hid (kfeed_any HSDw4.out rfl _ _ _ (fun W vd hg => HLw4.out.gd hg (by show some B3 ≠ some b; have := HLB.out; simp; omega) (fun k e e2 => by cases e2) (fun j _ => by match j with | 0 => exact HAn.out | 1 => exact HBn.out | j + 2 => exact (by show nS.ownBlock ≠ some b; intro e; cases e)) (fun j k _ e e2 => by cases e2)) (by decide) (by decide) (by decide))
          rw [run_bye] at HFE
          go_simp
          refine HFE.out.mono ?_
          rintro e w5 ⟨vl, v4, fs, rfl, hof, hsd4, hg4, hm4⟩
          obtain ⟨va, rfl⟩ := map_one hm4
          have HVw5 := hid (show Sd w5 b b v4 9 ⟨[], 6, 1, 0, 0, [6]⟩ from hsd4)
          have HBw5 := hid (Below.trans HBw4.out ((HSDw4.out.low hg4).mono HBW.out))
          have HOw5 := hid hof
          obtain ⟨al, cl, el⟩ := hof.shape
          simp only [List.length_singleton] at el
          subst el
          clear hof hsd4 hg4 hm4 HFE HSDw4 HLw4
          go_wp2_with fail
          refine hK.out _ _ trivial (fun hHeld => ?_)
          clear hK K
          try simp only [Act.put, List.getElem_toArray, List.getElem_cons_zero, List.getElem_cons_succ, List.setIfInBounds_toArray, List.set_cons_succ, List.set_cons_zero]
          refine wpAnyH_take (i := 7) (v := .tuple #[.slice al 1 cl, .agg #[.int .i64 0, .int .i64 0]]) rfl (by kernel_rfl) (by kernel_rfl) (by kernel_rfl) (fun _ _ _ h => h) (Or.inl ⟨by rfl, fun W _ => by go_simp⟩) hHeld ?_
          simp only [Act.put, List.getElem_toArray, List.getElem_cons_zero, List.getElem_cons_succ, List.setIfInBounds_toArray, List.set_cons_succ, List.set_cons_zero]
          refine wpAnyH_take (i := 8) (v := .slice al 1 cl) rfl (by kernel_rfl) (by kernel_rfl) (by kernel_rfl) (fun _ _ _ h => h) (Or.inl ⟨by rfl, fun W _ => by go_simp⟩) hHeld ?_
          simp only [Act.put, List.getElem_toArray, List.getElem_cons_zero, List.getElem_cons_succ, List.setIfInBounds_toArray, List.set_cons_succ, List.set_cons_zero]
          refine wpAnyH_take (i := 9) (v := .agg #[.int .i64 0, .int .i64 0]) rfl (by kernel_rfl) (by kernel_rfl) (by kernel_rfl) (fun _ _ _ h => h) (Or.inl ⟨by rfl, fun W _ => by go_simp⟩) hHeld ?_
          simp only [Act.put, List.getElem_toArray, List.getElem_cons_zero, List.getElem_cons_succ, List.setIfInBounds_toArray, List.set_cons_succ, List.set_cons_zero]
          refine wpAnyH_ready (rs := [10]) (by kernel_rfl) (by simp) ?_
          refine AllReadyH.cons rfl (fun K hK => ?_) AllReadyH.nil
          have HWF := hid (below_walk w5 (.cells #[.int .i64 0, .int .i64 0] 30))
          have HFw6 := hid (hp_new w5 (.cells #[.int .i64 0, .int .i64 0] 30))
          have HVw6 := hid (HVw5.out.below HWF.out)
          have HBw6 := hid (below_then HBw5.out HWF.out)
          have HOw6 := hid (HOw5.out.below HWF.out)
          refine step_alloc_row8 (by rfl) 30 (by rfl) _ zeroFault ?_
          refine hK.out _ _ trivial (fun hHeld => ?_)
          clear hK K
          try simp only [Act.put, List.getElem_toArray, List.getElem_cons_zero, List.getElem_cons_succ, List.setIfInBounds_toArray, List.set_cons_succ, List.set_cons_zero]
          obtain ⟨F, HFe⟩ : ∃ n, Hid (w5.heap.size = n) := ⟨_, rfl⟩
          have HFl := hid HBw5.out.size
          rw [HFe.out] at HFw6 HFl
          try rw [HFe.out]
          generalize w5.alloc (.cells #[.int .i64 0, .int .i64 0] 30) = w6 at *
          refine wpAnyH_take (i := 11) (v := .slice al 1 cl) rfl (by kernel_rfl) (by kernel_rfl) (by kernel_rfl) (fun _ _ _ h => h) (Or.inl ⟨by rfl, fun W _ => by go_simp⟩) hHeld ?_
          simp only [Act.put, List.getElem_toArray, List.getElem_cons_zero, List.getElem_cons_succ, List.setIfInBounds_toArray, List.set_cons_succ, List.set_cons_zero]
          refine wpAnyH_ready (rs := [12]) (by kernel_rfl) (by simp) ?_
          refine AllReadyH.cons rfl (fun K hK => ?_) AllReadyH.nil
          refine step_store_row (by rfl) 30 _ _ (by rfl) F [Value.int .i64 0, .int .i64 0] (by rfl) (by rfl) 30 _ HFw6.out faultSize rfl (fault_one _ _) ?_
          intro wz hwz
          refine hK.out _ _ trivial (fun hHeld => ?_)
          clear hK K
          try simp only [Act.put, List.getElem_toArray, List.getElem_cons_zero, List.getElem_cons_succ]
          refine wpAnyH_done (by kernel_rfl) ?_ _
          simp only [noPanic]
          clear hHeld
          have HFz := hid hwz.blk
          have HBz := hid (Below.of_gb HBw6.out hwz.grown (by have := HFl.out; omega))
          have HVz := hid (HVw6.out.far hwz.grown (fun e => own_blk HVw6.out.kb.blk HFw6.out (by decide) e.symm) (fun k e h9 => own_block HVw6.out.kb.own HFw6.out (by decide) (h9 ▸ e)))
          have HOz := hid (HOw6.out.gone hwz.grown HFw6.out (by decide) (by decide))
          clear hwz
          have HWa := hid (below_walk wz (.cells #[.int .u8 128, .int .u8 0] 5))
          have HSa := hid (src_two wz)
          have HWb := hid (below_walk (wz.alloc (.cells #[.int .u8 128, .int .u8 0] 5)) (.cells #[.slice (some ⟨wz.heap.size, 0, none⟩) 2 2] 22))
          have HLb := hid (lsts_one _ _ _ HSa.out)
          have HVb := hid ((HVz.out.below HWa.out).below HWb.out)
          have HOb := hid ((HOz.out.below HWa.out).below HWb.out)
          have HFb := hid (bel_keep HWb.out (bel_keep HWa.out HFz.out))
          have HBb := hid (below_then (below_then HBz.out HWa.out) HWb.out)
          have HVl := hid HVz.out.kb.lt
          have HVo := hid (fun k e => (World.ownsRow.lt HVz.out.kb.own k e).2)
          have HSz : Hid ((wz.alloc (.cells #[.int .u8 128, .int .u8 0] 5)).heap.size = wz.heap.size + 1) := hid (by simp)
          rw [HSz.out] at HLb
          obtain ⟨Z, HZe⟩ : ∃ n, Hid (wz.heap.size = n) := ⟨_, rfl⟩
          rw [HZe.out] at HLb HVb HOb HFb HBb HVl HVo
          go_wp2_with fail
          try rw [HZe.out]
          generalize (wz.alloc (.cells #[.int .u8 128, .int .u8 0] 5)).alloc (.cells #[.slice (some ⟨Z, 0, none⟩) 2 2] 22) = wb at HLb HVb HOb HFb HBb ⊢
          have HFE := hid (kfeed_any HVb.out rfl _ _ _ (fun W vd hg => HLb.out.gd hg (by show some (Z + 1) ≠ some b; have := HVl.out; simp; omega) (fun k e e2 => by have := HVo.out k e2; simp [Value.ownBlock] at e; omega) (fun j _ => by match j with | 0 => exact (by show some Z ≠ some b; have := HVl.out; simp; omega) | j + 1 => exact (by show nS.ownBlock ≠ some b; intro e; cases e)) (fun j k _ e e2 => by match j, e with | 0, e => (have := HVo.out k e2; simp [Value.ownBlock] at e; omega) | j + 1, e => (cases (show nS.ownBlock = some k from e)))) (by decide) (by decide) (by decide))
          rw [run_bad] at HFE
          refine HFE.out.mono ?_
          rintro e w7 ⟨vl7, v7, fs7, rfl, hof7, hsd7, hg7, hm7⟩
          have HB7 := hid (Below.trans HBb.out ((HVb.out.low hg7).mono HBW.out))
          have HO7 := hid (HOb.out.sd hg7 HVb.out)
          have HF7 := hid ((hg7.block F (hp_lt HFb.out) (own_blk HVb.out.kb.blk HFb.out (by decide)) (fun e => own_block HVb.out.kb.own HFb.out (by decide) e)).trans HFb.out)
          obtain ⟨al7, cl7, el7⟩ := hof7.shape
          subst el7
          clear hof7 hsd7 hg7 hm7 HFE
          have HW8 := hid (below_walk w7 (.cells [Value.int .i64 5, .int .i64 6].toArray 30))
          have HN8 := hid (hp_new w7 (.cells [Value.int .i64 5, .int .i64 6].toArray 30))
          have HB8 := hid (below_then HB7.out HW8.out)
          have HO8 := hid (HO7.out.below HW8.out)
          have HF8 := hid (bel_keep HW8.out HF7.out)
          go_upto_region 6 with (refine st_new (by rfl) 30 _ _ (by rfl) [Value.int .i64 5, .int .i64 6] (by rfl) (by rfl) 30 _ faultSize rfl (fault_one _ _) ?_)
          obtain ⟨Y, HYe⟩ : ∃ n, Hid (w7.heap.size = n) := ⟨_, rfl⟩
          rw [HYe.out] at HN8
          try rw [HYe.out]
          generalize w7.alloc (.cells [Value.int .i64 5, .int .i64 6].toArray 30) = w8 at HW8 HN8 HB8 HO8 HF8 ⊢
          obtain ⟨lg, lo, el, _, hrg, _⟩ := HO8.out.frs.at 0 (by simp)
          subst el
          have k0 : w8.cell? ⟨lg, lo, none⟩ = some (.int .i64 5) := by have := hrg 0 (.int .i64 5) rfl; simpa using this
          have f0 : w8.cell? ⟨F, 0, none⟩ = some (.int .i64 0) := by simp [World.cell?, HF8.out]
          have f1 : w8.cell? ⟨F, 1, none⟩ = some (.int .i64 0) := by simp [World.cell?, HF8.out]
          have g0 : w8.cell? ⟨Y, 0, none⟩ = some (.int .i64 5) := by simp [World.cell?, HN8.out]
          have g1 : w8.cell? ⟨Y, 1, none⟩ = some (.int .i64 6) := by simp [World.cell?, HN8.out]
          have n1 : ∀ W, (binOp .eql 30 (.agg #[.int .i64 0, .int .i64 0]) (.agg #[.int .i64 0, .int .i64 0])).run Tryz.prog W = .ok (.bool true) W := fun W => fault_eql 0 0 0 0 W
          have n2 : ∀ W, (binOp .eql 30 (.agg #[.int .i64 5, .int .i64 6]) (.agg #[.int .i64 5, .int .i64 6])).run Tryz.prog W = .ok (.bool true) W := fun W => fault_eql 5 6 5 6 W
          clear hrg
          go_wp2_with (first
            | (refine bd_row (by rfl) 30 #[] (by rfl) _ (by simp) _ built_fz ?_)
            | (refine bd_row (by rfl) 30 #[(0, .const (.int .i64 5)), (1, .const (.int .i64 6))] (by rfl) _ (by simp [Act.eval]) _ (built_ft _ _) ?_))
          go_ret
          exact ⟨rfl, HB8.out⟩
        · as_aux_lemma =>
            have HWF := hid (below_walk w4 (.cells #[.int .i64 0, .int .i64 0] 30))
            have HFw5 := hid (hp_new w4 (.cells #[.int .i64 0, .int .i64 0] 30))
            have HSDw5 := hid (HSDw4.out.below HWF.out)
            have HBw5 := hid (below_then HBw4.out HWF.out)
            have HLw5 := hid (HLw4.out.below HWF.out)
            refine step_alloc_row8 (by rfl) 30 (by rfl) _ zeroFault ?_
            refine hK.out _ _ trivial (fun hHeld => ?_)
            clear hK K
            try simp only [Act.put, List.getElem_toArray, List.getElem_cons_zero, List.getElem_cons_succ, List.setIfInBounds_toArray, List.set_cons_succ, List.set_cons_zero]
            obtain ⟨F, HFe⟩ : ∃ n, Hid (w4.heap.size = n) := ⟨_, rfl⟩
            have HFl := hid HBw4.out.size
            rw [HFe.out] at HFw5 HFl
            try rw [HFe.out]
            generalize w4.alloc (.cells #[.int .i64 0, .int .i64 0] 30) = w5 at *
            refine wpAnyH_ready (rs := [6]) (by kernel_rfl) (by simp) ?_
            refine AllReadyH.cons rfl (fun K hK => ?_) AllReadyH.nil
            have HFE := hid (kfeed_any HSDw5.out rfl _ _ _ (fun W vd hg => HLw5.out.gd hg (by show some B3 ≠ some b; have := HLB.out; simp; omega) (fun k e e2 => by cases e2) (fun j _ => by match j with | 0 => exact HAn.out | 1 => exact HBn.out | j + 2 => exact (by show nS.ownBlock ≠ some b; intro e; cases e)) (fun j k _ e e2 => by cases e2)) (by decide) (by decide) (by decide))
            rw [run_bye] at HFE
            go_simp
            refine HFE.out.mono ?_
            rintro e w6 ⟨vl, v4, fs, rfl, hof, hsd4, hg4, hm4⟩
            obtain ⟨va, rfl⟩ := map_one hm4
            have HVw6 := hid (show Sd w6 b b v4 9 ⟨[], 6, 1, 0, 0, [6]⟩ from hsd4)
            have HBw6 := hid (Below.trans HBw5.out ((HSDw5.out.low hg4).mono HBW.out))
            have HOw6 := hid hof
            have HFw6 := hid ((hg4.block F (hp_lt HFw5.out) (own_blk HSDw5.out.kb.blk HFw5.out (by decide)) (fun e => by cases e)).trans HFw5.out)
            obtain ⟨al, cl, el⟩ := hof.shape
            simp only [List.length_singleton] at el
            subst el
            clear hof hsd4 hg4 hm4 HFE HSDw5 HLw5
            go_wp2_with fail
            refine hK.out _ _ trivial (fun hHeld => ?_)
            clear hK K
            try simp only [Act.put, List.getElem_toArray, List.getElem_cons_zero, List.getElem_cons_succ, List.setIfInBounds_toArray, List.set_cons_succ, List.set_cons_zero]
            refine wpAnyH_take (i := 7) (v := .tuple #[.slice al 1 cl, .agg #[.int .i64 0, .int .i64 0]]) rfl (by kernel_rfl) (by kernel_rfl) (by kernel_rfl) (fun _ _ _ h => h) (Or.inl ⟨by rfl, fun W _ => by go_simp⟩) hHeld ?_
            simp only [Act.put, List.getElem_toArray, List.getElem_cons_zero, List.getElem_cons_succ, List.setIfInBounds_toArray, List.set_cons_succ, List.set_cons_zero]
            refine wpAnyH_take (i := 8) (v := .slice al 1 cl) rfl (by kernel_rfl) (by kernel_rfl) (by kernel_rfl) (fun _ _ _ h => h) (Or.inl ⟨by rfl, fun W _ => by go_simp⟩) hHeld ?_
            simp only [Act.put, List.getElem_toArray, List.getElem_cons_zero, List.getElem_cons_succ, List.setIfInBounds_toArray, List.set_cons_succ, List.set_cons_zero]
            refine wpAnyH_take (i := 9) (v := .agg #[.int .i64 0, .int .i64 0]) rfl (by kernel_rfl) (by kernel_rfl) (by kernel_rfl) (fun _ _ _ h => h) (Or.inl ⟨by rfl, fun W _ => by go_simp⟩) hHeld ?_
            simp only [Act.put, List.getElem_toArray, List.getElem_cons_zero, List.getElem_cons_succ, List.setIfInBounds_toArray, List.set_cons_succ, List.set_cons_zero]
            refine wpAnyH_take (i := 11) (v := .slice al 1 cl) rfl (by kernel_rfl) (by kernel_rfl) (by kernel_rfl) (fun _ _ _ h => h) (Or.inl ⟨by rfl, fun W _ => by go_simp⟩) hHeld ?_
            simp only [Act.put, List.getElem_toArray, List.getElem_cons_zero, List.getElem_cons_succ, List.setIfInBounds_toArray, List.set_cons_succ, List.set_cons_zero]
            refine wpAnyH_ready (rs := [12]) (by kernel_rfl) (by simp) ?_
            refine AllReadyH.cons rfl (fun K hK => ?_) AllReadyH.nil
            refine step_store_row (by rfl) 30 _ _ (by rfl) F [Value.int .i64 0, .int .i64 0] (by rfl) (by rfl) 30 _ HFw6.out faultSize rfl (fault_one _ _) ?_
            intro wz hwz
            refine hK.out _ _ trivial (fun hHeld => ?_)
            clear hK K
            try simp only [Act.put, List.getElem_toArray, List.getElem_cons_zero, List.getElem_cons_succ]
            refine wpAnyH_done (by kernel_rfl) ?_ _
            simp only [noPanic]
            clear hHeld
            have HFz := hid hwz.blk
            have HBz := hid (Below.of_gb HBw6.out hwz.grown (by have := HFl.out; omega))
            have HVz := hid (HVw6.out.far hwz.grown (fun e => own_blk HVw6.out.kb.blk HFw6.out (by decide) e.symm) (fun k e h9 => own_block HVw6.out.kb.own HFw6.out (by decide) (h9 ▸ e)))
            have HOz := hid (HOw6.out.gone hwz.grown HFw6.out (by decide) (by decide))
            clear hwz
            have HWa := hid (below_walk wz (.cells #[.int .u8 128, .int .u8 0] 5))
            have HSa := hid (src_two wz)
            have HWb := hid (below_walk (wz.alloc (.cells #[.int .u8 128, .int .u8 0] 5)) (.cells #[.slice (some ⟨wz.heap.size, 0, none⟩) 2 2] 22))
            have HLb := hid (lsts_one _ _ _ HSa.out)
            have HVb := hid ((HVz.out.below HWa.out).below HWb.out)
            have HOb := hid ((HOz.out.below HWa.out).below HWb.out)
            have HFb := hid (bel_keep HWb.out (bel_keep HWa.out HFz.out))
            have HBb := hid (below_then (below_then HBz.out HWa.out) HWb.out)
            have HVl := hid HVz.out.kb.lt
            have HVo := hid (fun k e => (World.ownsRow.lt HVz.out.kb.own k e).2)
            have HSz : Hid ((wz.alloc (.cells #[.int .u8 128, .int .u8 0] 5)).heap.size = wz.heap.size + 1) := hid (by simp)
            rw [HSz.out] at HLb
            obtain ⟨Z, HZe⟩ : ∃ n, Hid (wz.heap.size = n) := ⟨_, rfl⟩
            rw [HZe.out] at HLb HVb HOb HFb HBb HVl HVo
            go_wp2_with fail
            try rw [HZe.out]
            generalize (wz.alloc (.cells #[.int .u8 128, .int .u8 0] 5)).alloc (.cells #[.slice (some ⟨Z, 0, none⟩) 2 2] 22) = wb at HLb HVb HOb HFb HBb ⊢
            have HFE := hid (kfeed_any HVb.out rfl _ _ _ (fun W vd hg => HLb.out.gd hg (by show some (Z + 1) ≠ some b; have := HVl.out; simp; omega) (fun k e e2 => by have := HVo.out k e2; simp [Value.ownBlock] at e; omega) (fun j _ => by match j with | 0 => exact (by show some Z ≠ some b; have := HVl.out; simp; omega) | j + 1 => exact (by show nS.ownBlock ≠ some b; intro e; cases e)) (fun j k _ e e2 => by match j, e with | 0, e => (have := HVo.out k e2; simp [Value.ownBlock] at e; omega) | j + 1, e => (cases (show nS.ownBlock = some k from e)))) (by decide) (by decide) (by decide))
            rw [run_bad] at HFE
            refine HFE.out.mono ?_
            rintro e w7 ⟨vl7, v7, fs7, rfl, hof7, hsd7, hg7, hm7⟩
            have HB7 := hid (Below.trans HBb.out ((HVb.out.low hg7).mono HBW.out))
            have HO7 := hid (HOb.out.sd hg7 HVb.out)
            have HF7 := hid ((hg7.block F (hp_lt HFb.out) (own_blk HVb.out.kb.blk HFb.out (by decide)) (fun e => own_block HVb.out.kb.own HFb.out (by decide) e)).trans HFb.out)
            obtain ⟨al7, cl7, el7⟩ := hof7.shape
            subst el7
            clear hof7 hsd7 hg7 hm7 HFE
            have HW8 := hid (below_walk w7 (.cells [Value.int .i64 5, .int .i64 6].toArray 30))
            have HN8 := hid (hp_new w7 (.cells [Value.int .i64 5, .int .i64 6].toArray 30))
            have HB8 := hid (below_then HB7.out HW8.out)
            have HO8 := hid (HO7.out.below HW8.out)
            have HF8 := hid (bel_keep HW8.out HF7.out)
            go_upto_region 6 with (refine st_new (by rfl) 30 _ _ (by rfl) [Value.int .i64 5, .int .i64 6] (by rfl) (by rfl) 30 _ faultSize rfl (fault_one _ _) ?_)
            obtain ⟨Y, HYe⟩ : ∃ n, Hid (w7.heap.size = n) := ⟨_, rfl⟩
            rw [HYe.out] at HN8
            try rw [HYe.out]
            generalize w7.alloc (.cells [Value.int .i64 5, .int .i64 6].toArray 30) = w8 at HW8 HN8 HB8 HO8 HF8 ⊢
            obtain ⟨lg, lo, el, _, hrg, _⟩ := HO8.out.frs.at 0 (by simp)
            subst el
            have k0 : w8.cell? ⟨lg, lo, none⟩ = some (.int .i64 5) := by have := hrg 0 (.int .i64 5) rfl; simpa using this
            have f0 : w8.cell? ⟨F, 0, none⟩ = some (.int .i64 0) := by simp [World.cell?, HF8.out]
            have f1 : w8.cell? ⟨F, 1, none⟩ = some (.int .i64 0) := by simp [World.cell?, HF8.out]
            have g0 : w8.cell? ⟨Y, 0, none⟩ = some (.int .i64 5) := by simp [World.cell?, HN8.out]
            have g1 : w8.cell? ⟨Y, 1, none⟩ = some (.int .i64 6) := by simp [World.cell?, HN8.out]
            have n1 : ∀ W, (binOp .eql 30 (.agg #[.int .i64 0, .int .i64 0]) (.agg #[.int .i64 0, .int .i64 0])).run Tryz.prog W = .ok (.bool true) W := fun W => fault_eql 0 0 0 0 W
            have n2 : ∀ W, (binOp .eql 30 (.agg #[.int .i64 5, .int .i64 6]) (.agg #[.int .i64 5, .int .i64 6])).run Tryz.prog W = .ok (.bool true) W := fun W => fault_eql 5 6 5 6 W
            clear hrg
            go_wp2_with (first
              | (refine bd_row (by rfl) 30 #[] (by rfl) _ (by simp) _ built_fz ?_)
              | (refine bd_row (by rfl) 30 #[(0, .const (.int .i64 5)), (1, .const (.int .i64 6))] (by rfl) _ (by simp [Act.eval]) _ (built_ft _ _) ?_))
            go_ret
            exact ⟨rfl, HB8.out⟩
      · as_aux_lemma =>
          have HWF := hid (below_walk w3 (.cells #[.int .i64 0, .int .i64 0] 30))
          have HFw4 := hid (hp_new w3 (.cells #[.int .i64 0, .int .i64 0] 30))
          have HSDw4 := hid (HSDw3.out.below HWF.out)
          have HBw4 := hid (below_then HBw3.out HWF.out)
          have HAw4 := hid (HAw3.out.below HWF.out)
          have HCw4 := hid (HCw3.out.below HWF.out)
          refine step_alloc_row8 (by rfl) 30 (by rfl) _ zeroFault ?_
          refine hK.out _ _ trivial (fun hHeld => ?_)
          clear hK K
          try simp only [Act.put, List.getElem_toArray, List.getElem_cons_zero, List.getElem_cons_succ, List.setIfInBounds_toArray, List.set_cons_succ, List.set_cons_zero]
          obtain ⟨F, HFe⟩ : ∃ n, Hid (w3.heap.size = n) := ⟨_, rfl⟩
          have HFl := hid HBw3.out.size
          rw [HFe.out] at HFw4 HFl
          try rw [HFe.out]
          generalize w3.alloc (.cells #[.int .i64 0, .int .i64 0] 30) = w4 at *
          refine wpAnyH_ready (rs := [5]) (by kernel_rfl) (by simp) ?_
          refine AllReadyH.cons rfl (fun K hK => ?_) AllReadyH.nil
          obtain ⟨aA, nA, cA, eA⟩ := src_named HAw4.out
          obtain ⟨aB, nB, cB, eB⟩ := src_named HCw4.out
          have HWA := hid (below_walk w4 (.cells #[vA, vB] 22))
          have HLw5 := hid (lsts_two w4 vA vB _ _ HAw4.out HCw4.out)
          have HSDw5 := hid (HSDw4.out.below HWA.out)
          have HBw5 := hid (below_then HBw4.out HWA.out)
          have HLB := hid (HSDw4.out.kb.lt)
          have HFw5 := hid (bel_keep HWA.out HFw4.out)
          clear hA1 hA2 hB1 hB2 hAo hBo
          subst eA eB
          go_simp
          refine hK.out _ _ trivial (fun hHeld => ?_)
          clear hK K
          try simp only [Act.put, List.getElem_toArray, List.getElem_cons_zero, List.getElem_cons_succ, List.setIfInBounds_toArray, List.set_cons_succ, List.set_cons_zero]
          obtain ⟨B3, HB3e⟩ : ∃ n, Hid (w4.heap.size = n) := ⟨_, rfl⟩
          rw [HB3e.out] at HLw5 HLB
          try rw [HB3e.out]
          generalize w4.alloc (.cells #[.slice aA nA cA, .slice aB nB cB] 22) = w5 at *
          refine wpAnyH_ready (rs := [6]) (by kernel_rfl) (by simp) ?_
          refine AllReadyH.cons rfl (fun K hK => ?_) AllReadyH.nil
          have HFE := hid (kfeed_any HSDw5.out rfl _ _ _ (fun W vd hg => HLw5.out.gd hg (by show some B3 ≠ some b; have := HLB.out; simp; omega) (fun k e e2 => by cases e2) (fun j _ => by match j with | 0 => exact HAn.out | 1 => exact HBn.out | j + 2 => exact (by show nS.ownBlock ≠ some b; intro e; cases e)) (fun j k _ e e2 => by cases e2)) (by decide) (by decide) (by decide))
          rw [run_bye] at HFE
          go_simp
          refine HFE.out.mono ?_
          rintro e w6 ⟨vl, v4, fs, rfl, hof, hsd4, hg4, hm4⟩
          obtain ⟨va, rfl⟩ := map_one hm4
          have HVw6 := hid (show Sd w6 b b v4 9 ⟨[], 6, 1, 0, 0, [6]⟩ from hsd4)
          have HBw6 := hid (Below.trans HBw5.out ((HSDw5.out.low hg4).mono HBW.out))
          have HOw6 := hid hof
          have HFw6 := hid ((hg4.block F (hp_lt HFw5.out) (own_blk HSDw5.out.kb.blk HFw5.out (by decide)) (fun e => by cases e)).trans HFw5.out)
          obtain ⟨al, cl, el⟩ := hof.shape
          simp only [List.length_singleton] at el
          subst el
          clear hof hsd4 hg4 hm4 HFE HSDw5 HLw5
          go_wp2_with fail
          refine hK.out _ _ trivial (fun hHeld => ?_)
          clear hK K
          try simp only [Act.put, List.getElem_toArray, List.getElem_cons_zero, List.getElem_cons_succ, List.setIfInBounds_toArray, List.set_cons_succ, List.set_cons_zero]
          refine wpAnyH_take (i := 7) (v := .tuple #[.slice al 1 cl, .agg #[.int .i64 0, .int .i64 0]]) rfl (by kernel_rfl) (by kernel_rfl) (by kernel_rfl) (fun _ _ _ h => h) (Or.inl ⟨by rfl, fun W _ => by go_simp⟩) hHeld ?_
          simp only [Act.put, List.getElem_toArray, List.getElem_cons_zero, List.getElem_cons_succ, List.setIfInBounds_toArray, List.set_cons_succ, List.set_cons_zero]
          refine wpAnyH_take (i := 8) (v := .slice al 1 cl) rfl (by kernel_rfl) (by kernel_rfl) (by kernel_rfl) (fun _ _ _ h => h) (Or.inl ⟨by rfl, fun W _ => by go_simp⟩) hHeld ?_
          simp only [Act.put, List.getElem_toArray, List.getElem_cons_zero, List.getElem_cons_succ, List.setIfInBounds_toArray, List.set_cons_succ, List.set_cons_zero]
          refine wpAnyH_take (i := 9) (v := .agg #[.int .i64 0, .int .i64 0]) rfl (by kernel_rfl) (by kernel_rfl) (by kernel_rfl) (fun _ _ _ h => h) (Or.inl ⟨by rfl, fun W _ => by go_simp⟩) hHeld ?_
          simp only [Act.put, List.getElem_toArray, List.getElem_cons_zero, List.getElem_cons_succ, List.setIfInBounds_toArray, List.set_cons_succ, List.set_cons_zero]
          refine wpAnyH_take (i := 11) (v := .slice al 1 cl) rfl (by kernel_rfl) (by kernel_rfl) (by kernel_rfl) (fun _ _ _ h => h) (Or.inl ⟨by rfl, fun W _ => by go_simp⟩) hHeld ?_
          simp only [Act.put, List.getElem_toArray, List.getElem_cons_zero, List.getElem_cons_succ, List.setIfInBounds_toArray, List.set_cons_succ, List.set_cons_zero]
          refine wpAnyH_ready (rs := [12]) (by kernel_rfl) (by simp) ?_
          refine AllReadyH.cons rfl (fun K hK => ?_) AllReadyH.nil
          refine step_store_row (by rfl) 30 _ _ (by rfl) F [Value.int .i64 0, .int .i64 0] (by rfl) (by rfl) 30 _ HFw6.out faultSize rfl (fault_one _ _) ?_
          intro wz hwz
          refine hK.out _ _ trivial (fun hHeld => ?_)
          clear hK K
          try simp only [Act.put, List.getElem_toArray, List.getElem_cons_zero, List.getElem_cons_succ]
          refine wpAnyH_done (by kernel_rfl) ?_ _
          simp only [noPanic]
          clear hHeld
          have HFz := hid hwz.blk
          have HBz := hid (Below.of_gb HBw6.out hwz.grown (by have := HFl.out; omega))
          have HVz := hid (HVw6.out.far hwz.grown (fun e => own_blk HVw6.out.kb.blk HFw6.out (by decide) e.symm) (fun k e h9 => own_block HVw6.out.kb.own HFw6.out (by decide) (h9 ▸ e)))
          have HOz := hid (HOw6.out.gone hwz.grown HFw6.out (by decide) (by decide))
          clear hwz
          have HWa := hid (below_walk wz (.cells #[.int .u8 128, .int .u8 0] 5))
          have HSa := hid (src_two wz)
          have HWb := hid (below_walk (wz.alloc (.cells #[.int .u8 128, .int .u8 0] 5)) (.cells #[.slice (some ⟨wz.heap.size, 0, none⟩) 2 2] 22))
          have HLb := hid (lsts_one _ _ _ HSa.out)
          have HVb := hid ((HVz.out.below HWa.out).below HWb.out)
          have HOb := hid ((HOz.out.below HWa.out).below HWb.out)
          have HFb := hid (bel_keep HWb.out (bel_keep HWa.out HFz.out))
          have HBb := hid (below_then (below_then HBz.out HWa.out) HWb.out)
          have HVl := hid HVz.out.kb.lt
          have HVo := hid (fun k e => (World.ownsRow.lt HVz.out.kb.own k e).2)
          have HSz : Hid ((wz.alloc (.cells #[.int .u8 128, .int .u8 0] 5)).heap.size = wz.heap.size + 1) := hid (by simp)
          rw [HSz.out] at HLb
          obtain ⟨Z, HZe⟩ : ∃ n, Hid (wz.heap.size = n) := ⟨_, rfl⟩
          rw [HZe.out] at HLb HVb HOb HFb HBb HVl HVo
          go_wp2_with fail
          try rw [HZe.out]
          generalize (wz.alloc (.cells #[.int .u8 128, .int .u8 0] 5)).alloc (.cells #[.slice (some ⟨Z, 0, none⟩) 2 2] 22) = wb at HLb HVb HOb HFb HBb ⊢
          have HFE := hid (kfeed_any HVb.out rfl _ _ _ (fun W vd hg => HLb.out.gd hg (by show some (Z + 1) ≠ some b; have := HVl.out; simp; omega) (fun k e e2 => by have := HVo.out k e2; simp [Value.ownBlock] at e; omega) (fun j _ => by match j with | 0 => exact (by show some Z ≠ some b; have := HVl.out; simp; omega) | j + 1 => exact (by show nS.ownBlock ≠ some b; intro e; cases e)) (fun j k _ e e2 => by match j, e with | 0, e => (have := HVo.out k e2; simp [Value.ownBlock] at e; omega) | j + 1, e => (cases (show nS.ownBlock = some k from e)))) (by decide) (by decide) (by decide))
          rw [run_bad] at HFE
          refine HFE.out.mono ?_
          rintro e w7 ⟨vl7, v7, fs7, rfl, hof7, hsd7, hg7, hm7⟩
          have HB7 := hid (Below.trans HBb.out ((HVb.out.low hg7).mono HBW.out))
          have HO7 := hid (HOb.out.sd hg7 HVb.out)
          have HF7 := hid ((hg7.block F (hp_lt HFb.out) (own_blk HVb.out.kb.blk HFb.out (by decide)) (fun e => own_block HVb.out.kb.own HFb.out (by decide) e)).trans HFb.out)
          obtain ⟨al7, cl7, el7⟩ := hof7.shape
          subst el7
          clear hof7 hsd7 hg7 hm7 HFE
          have HW8 := hid (below_walk w7 (.cells [Value.int .i64 5, .int .i64 6].toArray 30))
          have HN8 := hid (hp_new w7 (.cells [Value.int .i64 5, .int .i64 6].toArray 30))
          have HB8 := hid (below_then HB7.out HW8.out)
          have HO8 := hid (HO7.out.below HW8.out)
          have HF8 := hid (bel_keep HW8.out HF7.out)
          go_upto_region 6 with (refine st_new (by rfl) 30 _ _ (by rfl) [Value.int .i64 5, .int .i64 6] (by rfl) (by rfl) 30 _ faultSize rfl (fault_one _ _) ?_)
          obtain ⟨Y, HYe⟩ : ∃ n, Hid (w7.heap.size = n) := ⟨_, rfl⟩
          rw [HYe.out] at HN8
          try rw [HYe.out]
          generalize w7.alloc (.cells [Value.int .i64 5, .int .i64 6].toArray 30) = w8 at HW8 HN8 HB8 HO8 HF8 ⊢
          obtain ⟨lg, lo, el, _, hrg, _⟩ := HO8.out.frs.at 0 (by simp)
          subst el
          have k0 : w8.cell? ⟨lg, lo, none⟩ = some (.int .i64 5) := by have := hrg 0 (.int .i64 5) rfl; simpa using this
          have f0 : w8.cell? ⟨F, 0, none⟩ = some (.int .i64 0) := by simp [World.cell?, HF8.out]
          have f1 : w8.cell? ⟨F, 1, none⟩ = some (.int .i64 0) := by simp [World.cell?, HF8.out]
          have g0 : w8.cell? ⟨Y, 0, none⟩ = some (.int .i64 5) := by simp [World.cell?, HN8.out]
          have g1 : w8.cell? ⟨Y, 1, none⟩ = some (.int .i64 6) := by simp [World.cell?, HN8.out]
          have n1 : ∀ W, (binOp .eql 30 (.agg #[.int .i64 0, .int .i64 0]) (.agg #[.int .i64 0, .int .i64 0])).run Tryz.prog W = .ok (.bool true) W := fun W => fault_eql 0 0 0 0 W
          have n2 : ∀ W, (binOp .eql 30 (.agg #[.int .i64 5, .int .i64 6]) (.agg #[.int .i64 5, .int .i64 6])).run Tryz.prog W = .ok (.bool true) W := fun W => fault_eql 5 6 5 6 W
          clear hrg
          go_wp2_with (first
            | (refine bd_row (by rfl) 30 #[] (by rfl) _ (by simp) _ built_fz ?_)
            | (refine bd_row (by rfl) 30 #[(0, .const (.int .i64 5)), (1, .const (.int .i64 6))] (by rfl) _ (by simp [Act.eval]) _ (built_ft _ _) ?_))
          go_ret
          exact ⟨rfl, HB8.out⟩
    · as_aux_lemma =>
        have HWF := hid (below_walk w2 (.cells #[.int .i64 0, .int .i64 0] 30))
        have HFw3 := hid (hp_new w2 (.cells #[.int .i64 0, .int .i64 0] 30))
        have HSDw3 := hid (HSDw2.out.below HWF.out)
        have HBw3 := hid (below_then HBw2.out HWF.out)
        have HAw3 := hid (HAw2.out.below HWF.out)
        refine step_alloc_row8 (by rfl) 30 (by rfl) _ zeroFault ?_
        refine hK.out _ _ trivial (fun hHeld => ?_)
        clear hK K
        try simp only [Act.put, List.getElem_toArray, List.getElem_cons_zero, List.getElem_cons_succ, List.setIfInBounds_toArray, List.set_cons_succ, List.set_cons_zero]
        obtain ⟨F, HFe⟩ : ∃ n, Hid (w2.heap.size = n) := ⟨_, rfl⟩
        have HFl := hid HBw2.out.size
        rw [HFe.out] at HFw3 HFl
        try rw [HFe.out]
        generalize w2.alloc (.cells #[.int .i64 0, .int .i64 0] 30) = w3 at *
        refine wpAnyH_ready (rs := [3]) (by kernel_rfl) (by simp) ?_
        refine AllReadyH.cons rfl (fun K hK => ?_) AllReadyH.nil
        go_simp
        refine (abye_any w3).mono ?_
        rintro e w4 ⟨v21, rfl, ho, hb⟩
        have HSv21 := hid (ho.src (by decide))
        have HLv21 := hid (show ∀ k, v21.ownBlock = some k → k ≠ b from fun k e => by have := (World.ownsRow.lt ho k e).1; have := HSDw3.out.kb.lt; omega)
        have HSDw4 := hid (HSDw3.out.below hb)
        have HBw4 := hid (below_then HBw3.out hb)
        have HFw4 := hid (bel_keep hb HFw3.out)
        have HAw4 := hid (HAw3.out.below hb)
        obtain ⟨av21, cv21, ev21⟩ := ho.shape
        rw [hl6] at ev21
        subst ev21
        clear ho hb
        go_wp2_with fail
        refine hK.out _ _ trivial (fun hHeld => ?_)
        clear hK K
        try simp only [Act.put, List.getElem_toArray, List.getElem_cons_zero, List.getElem_cons_succ, List.setIfInBounds_toArray, List.set_cons_succ, List.set_cons_zero]
        obtain ⟨vB, hB1, hBo, hB2⟩ := cut_endb HSv21.out 2 (by decide)
        have HCw4 := hid hB1
        have HBn := hid (show vB.ownBlock ≠ some b from fun e => HLv21.out b (hBo b e) rfl)
        refine wpAnyH_take (i := 4) (v := vB) rfl (by kernel_rfl) (by kernel_rfl) (by kernel_rfl) (fun _ _ _ h => h) (yields_slice (by rfl) 22 (.tmp 21) (some (.const (.int .i64 2))) none none (by rfl) vB (fun W => hB2 W)) hHeld ?_
        simp only [Act.put, List.getElem_toArray, List.getElem_cons_zero, List.getElem_cons_succ, List.setIfInBounds_toArray, List.set_cons_succ, List.set_cons_zero]
        refine wpAnyH_ready (rs := [5]) (by kernel_rfl) (by simp) ?_
        refine AllReadyH.cons rfl (fun K hK => ?_) AllReadyH.nil
        obtain ⟨aA, nA, cA, eA⟩ := src_named HAw4.out
        obtain ⟨aB, nB, cB, eB⟩ := src_named HCw4.out
        have HWA := hid (below_walk w4 (.cells #[vA, vB] 22))
        have HLw5 := hid (lsts_two w4 vA vB _ _ HAw4.out HCw4.out)
        have HSDw5 := hid (HSDw4.out.below HWA.out)
        have HBw5 := hid (below_then HBw4.out HWA.out)
        have HLB := hid (HSDw4.out.kb.lt)
        have HFw5 := hid (bel_keep HWA.out HFw4.out)
        clear hA1 hA2 hB1 hB2 hAo hBo
        subst eA eB
        go_simp
        refine hK.out _ _ trivial (fun hHeld => ?_)
        clear hK K
        try simp only [Act.put, List.getElem_toArray, List.getElem_cons_zero, List.getElem_cons_succ, List.setIfInBounds_toArray, List.set_cons_succ, List.set_cons_zero]
        obtain ⟨B3, HB3e⟩ : ∃ n, Hid (w4.heap.size = n) := ⟨_, rfl⟩
        rw [HB3e.out] at HLw5 HLB
        try rw [HB3e.out]
        generalize w4.alloc (.cells #[.slice aA nA cA, .slice aB nB cB] 22) = w5 at *
        refine wpAnyH_ready (rs := [6]) (by kernel_rfl) (by simp) ?_
        refine AllReadyH.cons rfl (fun K hK => ?_) AllReadyH.nil
        have HFE := hid (kfeed_any HSDw5.out rfl _ _ _ (fun W vd hg => HLw5.out.gd hg (by show some B3 ≠ some b; have := HLB.out; simp; omega) (fun k e e2 => by cases e2) (fun j _ => by match j with | 0 => exact HAn.out | 1 => exact HBn.out | j + 2 => exact (by show nS.ownBlock ≠ some b; intro e; cases e)) (fun j k _ e e2 => by cases e2)) (by decide) (by decide) (by decide))
        rw [run_bye] at HFE
        go_simp
        refine HFE.out.mono ?_
        rintro e w6 ⟨vl, v4, fs, rfl, hof, hsd4, hg4, hm4⟩
        obtain ⟨va, rfl⟩ := map_one hm4
        have HVw6 := hid (show Sd w6 b b v4 9 ⟨[], 6, 1, 0, 0, [6]⟩ from hsd4)
        have HBw6 := hid (Below.trans HBw5.out ((HSDw5.out.low hg4).mono HBW.out))
        have HOw6 := hid hof
        have HFw6 := hid ((hg4.block F (hp_lt HFw5.out) (own_blk HSDw5.out.kb.blk HFw5.out (by decide)) (fun e => by cases e)).trans HFw5.out)
        obtain ⟨al, cl, el⟩ := hof.shape
        simp only [List.length_singleton] at el
        subst el
        clear hof hsd4 hg4 hm4 HFE HSDw5 HLw5
        go_wp2_with fail
        refine hK.out _ _ trivial (fun hHeld => ?_)
        clear hK K
        try simp only [Act.put, List.getElem_toArray, List.getElem_cons_zero, List.getElem_cons_succ, List.setIfInBounds_toArray, List.set_cons_succ, List.set_cons_zero]
        refine wpAnyH_take (i := 7) (v := .tuple #[.slice al 1 cl, .agg #[.int .i64 0, .int .i64 0]]) rfl (by kernel_rfl) (by kernel_rfl) (by kernel_rfl) (fun _ _ _ h => h) (Or.inl ⟨by rfl, fun W _ => by go_simp⟩) hHeld ?_
        simp only [Act.put, List.getElem_toArray, List.getElem_cons_zero, List.getElem_cons_succ, List.setIfInBounds_toArray, List.set_cons_succ, List.set_cons_zero]
        refine wpAnyH_take (i := 8) (v := .slice al 1 cl) rfl (by kernel_rfl) (by kernel_rfl) (by kernel_rfl) (fun _ _ _ h => h) (Or.inl ⟨by rfl, fun W _ => by go_simp⟩) hHeld ?_
        simp only [Act.put, List.getElem_toArray, List.getElem_cons_zero, List.getElem_cons_succ, List.setIfInBounds_toArray, List.set_cons_succ, List.set_cons_zero]
        refine wpAnyH_take (i := 9) (v := .agg #[.int .i64 0, .int .i64 0]) rfl (by kernel_rfl) (by kernel_rfl) (by kernel_rfl) (fun _ _ _ h => h) (Or.inl ⟨by rfl, fun W _ => by go_simp⟩) hHeld ?_
        simp only [Act.put, List.getElem_toArray, List.getElem_cons_zero, List.getElem_cons_succ, List.setIfInBounds_toArray, List.set_cons_succ, List.set_cons_zero]
        refine wpAnyH_take (i := 11) (v := .slice al 1 cl) rfl (by kernel_rfl) (by kernel_rfl) (by kernel_rfl) (fun _ _ _ h => h) (Or.inl ⟨by rfl, fun W _ => by go_simp⟩) hHeld ?_
        simp only [Act.put, List.getElem_toArray, List.getElem_cons_zero, List.getElem_cons_succ, List.setIfInBounds_toArray, List.set_cons_succ, List.set_cons_zero]
        refine wpAnyH_ready (rs := [12]) (by kernel_rfl) (by simp) ?_
        refine AllReadyH.cons rfl (fun K hK => ?_) AllReadyH.nil
        refine step_store_row (by rfl) 30 _ _ (by rfl) F [Value.int .i64 0, .int .i64 0] (by rfl) (by rfl) 30 _ HFw6.out faultSize rfl (fault_one _ _) ?_
        intro wz hwz
        refine hK.out _ _ trivial (fun hHeld => ?_)
        clear hK K
        try simp only [Act.put, List.getElem_toArray, List.getElem_cons_zero, List.getElem_cons_succ]
        refine wpAnyH_done (by kernel_rfl) ?_ _
        simp only [noPanic]
        clear hHeld
        have HFz := hid hwz.blk
        have HBz := hid (Below.of_gb HBw6.out hwz.grown (by have := HFl.out; omega))
        have HVz := hid (HVw6.out.far hwz.grown (fun e => own_blk HVw6.out.kb.blk HFw6.out (by decide) e.symm) (fun k e h9 => own_block HVw6.out.kb.own HFw6.out (by decide) (h9 ▸ e)))
        have HOz := hid (HOw6.out.gone hwz.grown HFw6.out (by decide) (by decide))
        clear hwz
        have HWa := hid (below_walk wz (.cells #[.int .u8 128, .int .u8 0] 5))
        have HSa := hid (src_two wz)
        have HWb := hid (below_walk (wz.alloc (.cells #[.int .u8 128, .int .u8 0] 5)) (.cells #[.slice (some ⟨wz.heap.size, 0, none⟩) 2 2] 22))
        have HLb := hid (lsts_one _ _ _ HSa.out)
        have HVb := hid ((HVz.out.below HWa.out).below HWb.out)
        have HOb := hid ((HOz.out.below HWa.out).below HWb.out)
        have HFb := hid (bel_keep HWb.out (bel_keep HWa.out HFz.out))
        have HBb := hid (below_then (below_then HBz.out HWa.out) HWb.out)
        have HVl := hid HVz.out.kb.lt
        have HVo := hid (fun k e => (World.ownsRow.lt HVz.out.kb.own k e).2)
        have HSz : Hid ((wz.alloc (.cells #[.int .u8 128, .int .u8 0] 5)).heap.size = wz.heap.size + 1) := hid (by simp)
        rw [HSz.out] at HLb
        obtain ⟨Z, HZe⟩ : ∃ n, Hid (wz.heap.size = n) := ⟨_, rfl⟩
        rw [HZe.out] at HLb HVb HOb HFb HBb HVl HVo
        go_wp2_with fail
        try rw [HZe.out]
        generalize (wz.alloc (.cells #[.int .u8 128, .int .u8 0] 5)).alloc (.cells #[.slice (some ⟨Z, 0, none⟩) 2 2] 22) = wb at HLb HVb HOb HFb HBb ⊢
        have HFE := hid (kfeed_any HVb.out rfl _ _ _ (fun W vd hg => HLb.out.gd hg (by show some (Z + 1) ≠ some b; have := HVl.out; simp; omega) (fun k e e2 => by have := HVo.out k e2; simp [Value.ownBlock] at e; omega) (fun j _ => by match j with | 0 => exact (by show some Z ≠ some b; have := HVl.out; simp; omega) | j + 1 => exact (by show nS.ownBlock ≠ some b; intro e; cases e)) (fun j k _ e e2 => by match j, e with | 0, e => (have := HVo.out k e2; simp [Value.ownBlock] at e; omega) | j + 1, e => (cases (show nS.ownBlock = some k from e)))) (by decide) (by decide) (by decide))
        rw [run_bad] at HFE
        refine HFE.out.mono ?_
        rintro e w7 ⟨vl7, v7, fs7, rfl, hof7, hsd7, hg7, hm7⟩
        have HB7 := hid (Below.trans HBb.out ((HVb.out.low hg7).mono HBW.out))
        have HO7 := hid (HOb.out.sd hg7 HVb.out)
        have HF7 := hid ((hg7.block F (hp_lt HFb.out) (own_blk HVb.out.kb.blk HFb.out (by decide)) (fun e => own_block HVb.out.kb.own HFb.out (by decide) e)).trans HFb.out)
        obtain ⟨al7, cl7, el7⟩ := hof7.shape
        subst el7
        clear hof7 hsd7 hg7 hm7 HFE
        have HW8 := hid (below_walk w7 (.cells [Value.int .i64 5, .int .i64 6].toArray 30))
        have HN8 := hid (hp_new w7 (.cells [Value.int .i64 5, .int .i64 6].toArray 30))
        have HB8 := hid (below_then HB7.out HW8.out)
        have HO8 := hid (HO7.out.below HW8.out)
        have HF8 := hid (bel_keep HW8.out HF7.out)
        go_upto_region 6 with (refine st_new (by rfl) 30 _ _ (by rfl) [Value.int .i64 5, .int .i64 6] (by rfl) (by rfl) 30 _ faultSize rfl (fault_one _ _) ?_)
        obtain ⟨Y, HYe⟩ : ∃ n, Hid (w7.heap.size = n) := ⟨_, rfl⟩
        rw [HYe.out] at HN8
        try rw [HYe.out]
        generalize w7.alloc (.cells [Value.int .i64 5, .int .i64 6].toArray 30) = w8 at HW8 HN8 HB8 HO8 HF8 ⊢
        obtain ⟨lg, lo, el, _, hrg, _⟩ := HO8.out.frs.at 0 (by simp)
        subst el
        have k0 : w8.cell? ⟨lg, lo, none⟩ = some (.int .i64 5) := by have := hrg 0 (.int .i64 5) rfl; simpa using this
        have f0 : w8.cell? ⟨F, 0, none⟩ = some (.int .i64 0) := by simp [World.cell?, HF8.out]
        have f1 : w8.cell? ⟨F, 1, none⟩ = some (.int .i64 0) := by simp [World.cell?, HF8.out]
        have g0 : w8.cell? ⟨Y, 0, none⟩ = some (.int .i64 5) := by simp [World.cell?, HN8.out]
        have g1 : w8.cell? ⟨Y, 1, none⟩ = some (.int .i64 6) := by simp [World.cell?, HN8.out]
        have n1 : ∀ W, (binOp .eql 30 (.agg #[.int .i64 0, .int .i64 0]) (.agg #[.int .i64 0, .int .i64 0])).run Tryz.prog W = .ok (.bool true) W := fun W => fault_eql 0 0 0 0 W
        have n2 : ∀ W, (binOp .eql 30 (.agg #[.int .i64 5, .int .i64 6]) (.agg #[.int .i64 5, .int .i64 6])).run Tryz.prog W = .ok (.bool true) W := fun W => fault_eql 5 6 5 6 W
        clear hrg
        go_wp2_with (first
          | (refine bd_row (by rfl) 30 #[] (by rfl) _ (by simp) _ built_fz ?_)
          | (refine bd_row (by rfl) 30 #[(0, .const (.int .i64 5)), (1, .const (.int .i64 6))] (by rfl) _ (by simp [Act.eval]) _ (built_ft _ _) ?_))
        go_ret
        exact ⟨rfl, HB8.out⟩
  · as_aux_lemma =>
      have HWF := hid (below_walk x (.cells #[.int .i64 0, .int .i64 0] 30))
      have HFw2 := hid (hp_new x (.cells #[.int .i64 0, .int .i64 0] 30))
      have HSDw2 := hid (HSDx.out.below HWF.out)
      have HBw2 := hid (below_then HBx.out HWF.out)
      refine step_alloc_row8 (by rfl) 30 (by rfl) _ zeroFault ?_
      refine hK.out _ _ trivial (fun hHeld => ?_)
      clear hK K
      try simp only [Act.put, List.getElem_toArray, List.getElem_cons_zero, List.getElem_cons_succ, List.setIfInBounds_toArray, List.set_cons_succ, List.set_cons_zero]
      obtain ⟨F, HFe⟩ : ∃ n, Hid (x.heap.size = n) := ⟨_, rfl⟩
      have HFl := hid HBx.out.size
      rw [HFe.out] at HFw2 HFl
      try rw [HFe.out]
      generalize x.alloc (.cells #[.int .i64 0, .int .i64 0] 30) = w2 at *
      refine wpAnyH_ready (rs := [1]) (by kernel_rfl) (by simp) ?_
      refine AllReadyH.cons rfl (fun K hK => ?_) AllReadyH.nil
      go_simp
      refine (abye_any w2).mono ?_
      rintro e w3 ⟨v19, rfl, ho, hb⟩
      have HSv19 := hid (ho.src (by decide))
      have HLv19 := hid (show ∀ k, v19.ownBlock = some k → k ≠ b from fun k e => by have := (World.ownsRow.lt ho k e).1; have := HSDw2.out.kb.lt; omega)
      have HSDw3 := hid (HSDw2.out.below hb)
      have HBw3 := hid (below_then HBw2.out hb)
      have HFw3 := hid (bel_keep hb HFw2.out)
      obtain ⟨av19, cv19, ev19⟩ := ho.shape
      rw [hl6] at ev19
      subst ev19
      clear ho hb
      go_wp2_with fail
      refine hK.out _ _ trivial (fun hHeld => ?_)
      clear hK K
      try simp only [Act.put, List.getElem_toArray, List.getElem_cons_zero, List.getElem_cons_succ, List.setIfInBounds_toArray, List.set_cons_succ, List.set_cons_zero]
      obtain ⟨vA, hA1, hAo, hA2⟩ := cut_atb HSv19.out 2 (by decide)
      have HAw3 := hid hA1
      have HAn := hid (show vA.ownBlock ≠ some b from fun e => HLv19.out b (hAo b e) rfl)
      refine wpAnyH_take (i := 2) (v := vA) rfl (by kernel_rfl) (by kernel_rfl) (by kernel_rfl) (fun _ _ _ h => h) (yields_slice (by rfl) 22 (.tmp 19) none (some (.const (.int .i64 2))) none (by rfl) vA (fun W => hA2 W)) hHeld ?_
      simp only [Act.put, List.getElem_toArray, List.getElem_cons_zero, List.getElem_cons_succ, List.setIfInBounds_toArray, List.set_cons_succ, List.set_cons_zero]
      refine wpAnyH_ready (rs := [3]) (by kernel_rfl) (by simp) ?_
      refine AllReadyH.cons rfl (fun K hK => ?_) AllReadyH.nil
      go_simp
      refine (abye_any w3).mono ?_
      rintro e w4 ⟨v21, rfl, ho, hb⟩
      have HSv21 := hid (ho.src (by decide))
      have HLv21 := hid (show ∀ k, v21.ownBlock = some k → k ≠ b from fun k e => by have := (World.ownsRow.lt ho k e).1; have := HSDw3.out.kb.lt; omega)
      have HSDw4 := hid (HSDw3.out.below hb)
      have HBw4 := hid (below_then HBw3.out hb)
      have HFw4 := hid (bel_keep hb HFw3.out)
      have HAw4 := hid (HAw3.out.below hb)
      obtain ⟨av21, cv21, ev21⟩ := ho.shape
      rw [hl6] at ev21
      subst ev21
      clear ho hb
      go_wp2_with fail
      refine hK.out _ _ trivial (fun hHeld => ?_)
      clear hK K
      try simp only [Act.put, List.getElem_toArray, List.getElem_cons_zero, List.getElem_cons_succ, List.setIfInBounds_toArray, List.set_cons_succ, List.set_cons_zero]
      obtain ⟨vB, hB1, hBo, hB2⟩ := cut_endb HSv21.out 2 (by decide)
      have HCw4 := hid hB1
      have HBn := hid (show vB.ownBlock ≠ some b from fun e => HLv21.out b (hBo b e) rfl)
      refine wpAnyH_take (i := 4) (v := vB) rfl (by kernel_rfl) (by kernel_rfl) (by kernel_rfl) (fun _ _ _ h => h) (yields_slice (by rfl) 22 (.tmp 21) (some (.const (.int .i64 2))) none none (by rfl) vB (fun W => hB2 W)) hHeld ?_
      simp only [Act.put, List.getElem_toArray, List.getElem_cons_zero, List.getElem_cons_succ, List.setIfInBounds_toArray, List.set_cons_succ, List.set_cons_zero]
      refine wpAnyH_ready (rs := [5]) (by kernel_rfl) (by simp) ?_
      refine AllReadyH.cons rfl (fun K hK => ?_) AllReadyH.nil
      obtain ⟨aA, nA, cA, eA⟩ := src_named HAw4.out
      obtain ⟨aB, nB, cB, eB⟩ := src_named HCw4.out
      have HWA := hid (below_walk w4 (.cells #[vA, vB] 22))
      have HLw5 := hid (lsts_two w4 vA vB _ _ HAw4.out HCw4.out)
      have HSDw5 := hid (HSDw4.out.below HWA.out)
      have HBw5 := hid (below_then HBw4.out HWA.out)
      have HLB := hid (HSDw4.out.kb.lt)
      have HFw5 := hid (bel_keep HWA.out HFw4.out)
      clear hA1 hA2 hB1 hB2 hAo hBo
      subst eA eB
      go_simp
      refine hK.out _ _ trivial (fun hHeld => ?_)
      clear hK K
      try simp only [Act.put, List.getElem_toArray, List.getElem_cons_zero, List.getElem_cons_succ, List.setIfInBounds_toArray, List.set_cons_succ, List.set_cons_zero]
      obtain ⟨B3, HB3e⟩ : ∃ n, Hid (w4.heap.size = n) := ⟨_, rfl⟩
      rw [HB3e.out] at HLw5 HLB
      try rw [HB3e.out]
      generalize w4.alloc (.cells #[.slice aA nA cA, .slice aB nB cB] 22) = w5 at *
      refine wpAnyH_ready (rs := [6]) (by kernel_rfl) (by simp) ?_
      refine AllReadyH.cons rfl (fun K hK => ?_) AllReadyH.nil
      have HFE := hid (kfeed_any HSDw5.out rfl _ _ _ (fun W vd hg => HLw5.out.gd hg (by show some B3 ≠ some b; have := HLB.out; simp; omega) (fun k e e2 => by cases e2) (fun j _ => by match j with | 0 => exact HAn.out | 1 => exact HBn.out | j + 2 => exact (by show nS.ownBlock ≠ some b; intro e; cases e)) (fun j k _ e e2 => by cases e2)) (by decide) (by decide) (by decide))
      rw [run_bye] at HFE
      go_simp
      refine HFE.out.mono ?_
      rintro e w6 ⟨vl, v4, fs, rfl, hof, hsd4, hg4, hm4⟩
      obtain ⟨va, rfl⟩ := map_one hm4
      have HVw6 := hid (show Sd w6 b b v4 9 ⟨[], 6, 1, 0, 0, [6]⟩ from hsd4)
      have HBw6 := hid (Below.trans HBw5.out ((HSDw5.out.low hg4).mono HBW.out))
      have HOw6 := hid hof
      have HFw6 := hid ((hg4.block F (hp_lt HFw5.out) (own_blk HSDw5.out.kb.blk HFw5.out (by decide)) (fun e => by cases e)).trans HFw5.out)
      obtain ⟨al, cl, el⟩ := hof.shape
      simp only [List.length_singleton] at el
      subst el
      clear hof hsd4 hg4 hm4 HFE HSDw5 HLw5
      go_wp2_with fail
      refine hK.out _ _ trivial (fun hHeld => ?_)
      clear hK K
      try simp only [Act.put, List.getElem_toArray, List.getElem_cons_zero, List.getElem_cons_succ, List.setIfInBounds_toArray, List.set_cons_succ, List.set_cons_zero]
      refine wpAnyH_take (i := 7) (v := .tuple #[.slice al 1 cl, .agg #[.int .i64 0, .int .i64 0]]) rfl (by kernel_rfl) (by kernel_rfl) (by kernel_rfl) (fun _ _ _ h => h) (Or.inl ⟨by rfl, fun W _ => by go_simp⟩) hHeld ?_
      simp only [Act.put, List.getElem_toArray, List.getElem_cons_zero, List.getElem_cons_succ, List.setIfInBounds_toArray, List.set_cons_succ, List.set_cons_zero]
      refine wpAnyH_take (i := 8) (v := .slice al 1 cl) rfl (by kernel_rfl) (by kernel_rfl) (by kernel_rfl) (fun _ _ _ h => h) (Or.inl ⟨by rfl, fun W _ => by go_simp⟩) hHeld ?_
      simp only [Act.put, List.getElem_toArray, List.getElem_cons_zero, List.getElem_cons_succ, List.setIfInBounds_toArray, List.set_cons_succ, List.set_cons_zero]
      refine wpAnyH_take (i := 9) (v := .agg #[.int .i64 0, .int .i64 0]) rfl (by kernel_rfl) (by kernel_rfl) (by kernel_rfl) (fun _ _ _ h => h) (Or.inl ⟨by rfl, fun W _ => by go_simp⟩) hHeld ?_
      simp only [Act.put, List.getElem_toArray, List.getElem_cons_zero, List.getElem_cons_succ, List.setIfInBounds_toArray, List.set_cons_succ, List.set_cons_zero]
      refine wpAnyH_take (i := 11) (v := .slice al 1 cl) rfl (by kernel_rfl) (by kernel_rfl) (by kernel_rfl) (fun _ _ _ h => h) (Or.inl ⟨by rfl, fun W _ => by go_simp⟩) hHeld ?_
      simp only [Act.put, List.getElem_toArray, List.getElem_cons_zero, List.getElem_cons_succ, List.setIfInBounds_toArray, List.set_cons_succ, List.set_cons_zero]
      refine wpAnyH_ready (rs := [12]) (by kernel_rfl) (by simp) ?_
      refine AllReadyH.cons rfl (fun K hK => ?_) AllReadyH.nil
      refine step_store_row (by rfl) 30 _ _ (by rfl) F [Value.int .i64 0, .int .i64 0] (by rfl) (by rfl) 30 _ HFw6.out faultSize rfl (fault_one _ _) ?_
      intro wz hwz
      refine hK.out _ _ trivial (fun hHeld => ?_)
      clear hK K
      try simp only [Act.put, List.getElem_toArray, List.getElem_cons_zero, List.getElem_cons_succ]
      refine wpAnyH_done (by kernel_rfl) ?_ _
      simp only [noPanic]
      clear hHeld
      have HFz := hid hwz.blk
      have HBz := hid (Below.of_gb HBw6.out hwz.grown (by have := HFl.out; omega))
      have HVz := hid (HVw6.out.far hwz.grown (fun e => own_blk HVw6.out.kb.blk HFw6.out (by decide) e.symm) (fun k e h9 => own_block HVw6.out.kb.own HFw6.out (by decide) (h9 ▸ e)))
      have HOz := hid (HOw6.out.gone hwz.grown HFw6.out (by decide) (by decide))
      clear hwz
      have HWa := hid (below_walk wz (.cells #[.int .u8 128, .int .u8 0] 5))
      have HSa := hid (src_two wz)
      have HWb := hid (below_walk (wz.alloc (.cells #[.int .u8 128, .int .u8 0] 5)) (.cells #[.slice (some ⟨wz.heap.size, 0, none⟩) 2 2] 22))
      have HLb := hid (lsts_one _ _ _ HSa.out)
      have HVb := hid ((HVz.out.below HWa.out).below HWb.out)
      have HOb := hid ((HOz.out.below HWa.out).below HWb.out)
      have HFb := hid (bel_keep HWb.out (bel_keep HWa.out HFz.out))
      have HBb := hid (below_then (below_then HBz.out HWa.out) HWb.out)
      have HVl := hid HVz.out.kb.lt
      have HVo := hid (fun k e => (World.ownsRow.lt HVz.out.kb.own k e).2)
      have HSz : Hid ((wz.alloc (.cells #[.int .u8 128, .int .u8 0] 5)).heap.size = wz.heap.size + 1) := hid (by simp)
      rw [HSz.out] at HLb
      obtain ⟨Z, HZe⟩ : ∃ n, Hid (wz.heap.size = n) := ⟨_, rfl⟩
      rw [HZe.out] at HLb HVb HOb HFb HBb HVl HVo
      go_wp2_with fail
      try rw [HZe.out]
      generalize (wz.alloc (.cells #[.int .u8 128, .int .u8 0] 5)).alloc (.cells #[.slice (some ⟨Z, 0, none⟩) 2 2] 22) = wb at HLb HVb HOb HFb HBb ⊢
      have HFE := hid (kfeed_any HVb.out rfl _ _ _ (fun W vd hg => HLb.out.gd hg (by show some (Z + 1) ≠ some b; have := HVl.out; simp; omega) (fun k e e2 => by have := HVo.out k e2; simp [Value.ownBlock] at e; omega) (fun j _ => by match j with | 0 => exact (by show some Z ≠ some b; have := HVl.out; simp; omega) | j + 1 => exact (by show nS.ownBlock ≠ some b; intro e; cases e)) (fun j k _ e e2 => by match j, e with | 0, e => (have := HVo.out k e2; simp [Value.ownBlock] at e; omega) | j + 1, e => (cases (show nS.ownBlock = some k from e)))) (by decide) (by decide) (by decide))
      rw [run_bad] at HFE
      refine HFE.out.mono ?_
      rintro e w7 ⟨vl7, v7, fs7, rfl, hof7, hsd7, hg7, hm7⟩
      have HB7 := hid (Below.trans HBb.out ((HVb.out.low hg7).mono HBW.out))
      have HO7 := hid (HOb.out.sd hg7 HVb.out)
      have HF7 := hid ((hg7.block F (hp_lt HFb.out) (own_blk HVb.out.kb.blk HFb.out (by decide)) (fun e => own_block HVb.out.kb.own HFb.out (by decide) e)).trans HFb.out)
      obtain ⟨al7, cl7, el7⟩ := hof7.shape
      subst el7
      clear hof7 hsd7 hg7 hm7 HFE
      have HW8 := hid (below_walk w7 (.cells [Value.int .i64 5, .int .i64 6].toArray 30))
      have HN8 := hid (hp_new w7 (.cells [Value.int .i64 5, .int .i64 6].toArray 30))
      have HB8 := hid (below_then HB7.out HW8.out)
      have HO8 := hid (HO7.out.below HW8.out)
      have HF8 := hid (bel_keep HW8.out HF7.out)
      go_upto_region 6 with (refine st_new (by rfl) 30 _ _ (by rfl) [Value.int .i64 5, .int .i64 6] (by rfl) (by rfl) 30 _ faultSize rfl (fault_one _ _) ?_)
      obtain ⟨Y, HYe⟩ : ∃ n, Hid (w7.heap.size = n) := ⟨_, rfl⟩
      rw [HYe.out] at HN8
      try rw [HYe.out]
      generalize w7.alloc (.cells [Value.int .i64 5, .int .i64 6].toArray 30) = w8 at HW8 HN8 HB8 HO8 HF8 ⊢
      obtain ⟨lg, lo, el, _, hrg, _⟩ := HO8.out.frs.at 0 (by simp)
      subst el
      have k0 : w8.cell? ⟨lg, lo, none⟩ = some (.int .i64 5) := by have := hrg 0 (.int .i64 5) rfl; simpa using this
      have f0 : w8.cell? ⟨F, 0, none⟩ = some (.int .i64 0) := by simp [World.cell?, HF8.out]
      have f1 : w8.cell? ⟨F, 1, none⟩ = some (.int .i64 0) := by simp [World.cell?, HF8.out]
      have g0 : w8.cell? ⟨Y, 0, none⟩ = some (.int .i64 5) := by simp [World.cell?, HN8.out]
      have g1 : w8.cell? ⟨Y, 1, none⟩ = some (.int .i64 6) := by simp [World.cell?, HN8.out]
      have n1 : ∀ W, (binOp .eql 30 (.agg #[.int .i64 0, .int .i64 0]) (.agg #[.int .i64 0, .int .i64 0])).run Tryz.prog W = .ok (.bool true) W := fun W => fault_eql 0 0 0 0 W
      have n2 : ∀ W, (binOp .eql 30 (.agg #[.int .i64 5, .int .i64 6]) (.agg #[.int .i64 5, .int .i64 6])).run Tryz.prog W = .ok (.bool true) W := fun W => fault_eql 5 6 5 6 W
      clear hrg
      go_wp2_with (first
        | (refine bd_row (by rfl) 30 #[] (by rfl) _ (by simp) _ built_fz ?_)
        | (refine bd_row (by rfl) 30 #[(0, .const (.int .i64 5)), (1, .const (.int .i64 6))] (by rfl) _ (by simp [Act.eval]) _ (built_ft _ _) ?_))
      go_ret
      exact ⟨rfl, HB8.out⟩
end Go.Proofs.YtiibhccbbpgehabGreat
