/- Contracts and pure facts that the proof needs, joined. -/
import Derived.Test.YtlpengaclkidiaaGreatDoorG4
import Derived.Test.YtlpengaclkidiaaGreatDoorRows
import Derived.Test.YtlpengaclkidiaaGreatDoorG3
import Derived.ProofKit
import Derived.OpenShut
import Derived.Deep.Slices
import Derived.Deep.Strs
import Derived.ChangeSame
import Derived.SizedLaws
import Derived.JoinedCond
import Derived.LaidLaws
import Derived.Test.YtlpengaclkidiaaGreatDoorG1
import Derived.Lib.LaidU8
import Derived.Lib.LaidTab

/- ScanOwn answers true (written by yown.py). -/
namespace Go.Proofs.YtlpengaclkidiaaGreatDoor
open Go.RowKit

theorem gb_sets3 (w : World) (g o : Nat) (a b c : Value) : w.grownBy (w.setCells g o [a, b, c]) (some g) :=
  gb_trans (gb_trans (gb_set w ⟨g, o, none⟩ a) (gb_set _ ⟨g, o + 1, none⟩ b)) (gb_set _ ⟨g, o + 1 + 1, none⟩ c)
theorem Rw.sets3 {e : TypeId} {size base n g cap : Nat} {w : World} (h : Rw e size w base (.slice (some ⟨g, 0, none⟩) n cap) n) (o : Nat) (a b c : Value) : Rw e size (w.setCells g o [a, b, c]) base (.slice (some ⟨g, 0, none⟩) n cap) n :=
  ((h.set o a).set (o + 1) b).set (o + 1 + 1) c
/-- append onto such a row: what comes of it is not asked -/
theorem app_rwI {w : World} {ops : Array Oper} {rest : List Oper} {o : Oper} {a : Act} {Q : Exit → Act → World → Prop} (hgd : o.guard = none) (s x : Operand)
    (ho : o.op = .call { callee := .builtin .append, args := #[s, x], argTypes := #[22, 22] })
    (base : Nat) (v : Value) (n : Nat) (hs : a.eval s = v) (hown : Rw 25 3 w base v n) (g c : Nat) (M : List (List UInt8 × List UInt8 × Int)) (hx : a.eval x = .slice (some ⟨g, 0, none⟩) M.length c)
    (hsrc : ∀ j u, (iv M)[j]? = some u → w.cell? ⟨g, j, none⟩ = some u) (hlen : n + M.length ≤ 1000000000000) (hbase : base ≤ w.heap.size)
    (h : ∀ v' w', w.grownBy w' v.ownBlock → wpList Tryz.prog ops Q rest (a.put o.dst v') w') : wpList Tryz.prog ops Q (o :: rest) a w := by
  refine wpList_plain hgd fun K hK => ?_
  obtain ⟨i0, hi, hz0, hz1, hz2⟩ := info_parts Tryz.infoInc
  obtain ⟨xs, hx0⟩ := hown
  obtain ⟨v', w', hr, h1, h2, _⟩ := run_append_own (P := Tryz.prog) w base 22 o.type 25 i0 (.agg #[.string ⟨#[]⟩, .string ⟨#[]⟩, .int .i64 0]) 3 40 Tryz.underlying22 hi hz0 hz1 hz2 rfl (by decide) v n xs hx0 ⟨g, 0, none⟩ M.length c (iv M) (iv_len M) (fun j u hj => by rw [addr_add]; exact hsrc j u hj) (iv_one M) (by unfold maxLen; omega) (by omega) hbase
  unfold Oper.wp
  simp [execOp, ho, resolve, invoke, builtin, hs, hx, hr, Result.andThen]
  exact hK _ _ (h v' w' h2)
theorem app_rwS {w : World} {ops : Array Oper} {rest : List Oper} {o : Oper} {a : Act} {Q : Exit → Act → World → Prop} (hgd : o.guard = none) (s x : Operand)
    (ho : o.op = .call { callee := .builtin .append, args := #[s, x], argTypes := #[34, 34] })
    (base : Nat) (v : Value) (n : Nat) (hs : a.eval s = v) (hown : Rw 9 1 w base v n) (g c : Nat) (t : List UInt8) (hx : a.eval x = .slice (some ⟨g, 0, none⟩) 1 c)
    (hsrc : w.cell? ⟨g, 0, none⟩ = some (.string (mk t))) (hlen : n ≤ 1000000000) (hbase : base ≤ w.heap.size)
    (h : ∀ v' w', w.grownBy w' v.ownBlock → wpList Tryz.prog ops Q rest (a.put o.dst v') w') : wpList Tryz.prog ops Q (o :: rest) a w := by
  refine wpList_plain hgd fun K hK => ?_
  obtain ⟨i0, hi, hz0, hz1, hz2⟩ := info_parts Tryz.infoStr
  obtain ⟨xs, hx0⟩ := hown
  obtain ⟨v', w', hr, h1, h2, _⟩ := run_append_own (P := Tryz.prog) w base 34 o.type 9 i0 (.string ⟨#[]⟩) 1 16 Tryz.underlying34 hi hz0 hz1 hz2 rfl (by decide) v n xs hx0 ⟨g, 0, none⟩ 1 c [.string (mk t)] rfl (fun j u hj => by
    have : j = 0 := by
      rcases Nat.eq_zero_or_pos j with h | h
      · exact h
      · rw [List.getElem?_eq_none (by simp; omega)] at hj; cases hj
    subst this
    simp at hj
    subst hj
    exact hsrc) (by intro u hu; simp at hu; rw [hu]; rfl) (by unfold maxLen; omega) (by omega) hbase
  unfold Oper.wp
  simp [execOp, ho, resolve, invoke, builtin, hs, hx, hr, Result.andThen]
  exact hK _ _ (h v' w' h2)
theorem incs_two (w : World) : Incs (w.alloc (.cells #[.string (mk mkI.1), .string (mk mkI.2.1), .int .i64 (-1), .string (mk mkI.1), .string (mk mkI.2.1), .int .i64 (-1)] 25)) (.slice (some ⟨w.heap.size, 0, none⟩) 2 2) [mkI, mkI] :=
  Or.inr ⟨w.heap.size, 0, 2, rfl, by rw [hp_size]; omega, by simp, fun j hj => by
    have hj2 : j = 0 ∨ j = 1 := by simp at hj; omega
    have hh := hp_new w (.cells #[.string (mk mkI.1), .string (mk mkI.2.1), .int .i64 (-1), .string (mk mkI.1), .string (mk mkI.2.1), .int .i64 (-1)] 25)
    rcases hj2 with rfl | rfl
    · exact ⟨by rw [cell_of_row _ _ _ _ _ _ hh]; rfl, by rw [cell_of_row _ _ _ _ _ _ hh]; rfl, by rw [cell_of_row _ _ _ _ _ _ hh]; rfl⟩
    · exact ⟨by rw [cell_of_row _ _ _ _ _ _ hh]; rfl, by rw [cell_of_row _ _ _ _ _ _ hh]; rfl, by rw [cell_of_row _ _ _ _ _ _ hh]; rfl⟩⟩

theorem apart_hi {v : Value} {b : Nat} {row : Option Nat} (h : ∀ k, v.ownBlock = some k → b ≤ k) (hr : ∀ k, row = some k → k < b) : v.ownBlock = none ∨ v.ownBlock ≠ row := by
  cases e : v.ownBlock with
  | none => exact Or.inl rfl
  | some k => exact Or.inr (fun x => by have := hr k x.symm; have := h k e; omega)
theorem apart_lo {v : Value} {b : Nat} {row : Option Nat} (h : ∀ k, v.ownBlock = some k → k < b) (hr : ∀ k, row = some k → b ≤ k) : v.ownBlock = none ∨ v.ownBlock ≠ row := by
  cases e : v.ownBlock with
  | none => exact Or.inl rfl
  | some k => exact Or.inr (fun x => by have := hr k x.symm; have := h k e; omega)

set_option maxRecDepth 20000 in
set_option maxHeartbeats 8000000 in
theorem own13_any (w : World) (l m : List UInt8) (hm : m.length ≤ 1048576) (v : Value) (L : List (List UInt8 × List UInt8 × Int)) (hn : L.length ≤ 1048576) (hp : ∀ x ∈ L, x.1.length ≤ 1048576 ∧ x.2.1.length ≤ 1048576) (hT : Tabs w) (h : Incs w v L) :
    Calls Tryz.prog 3 #[.string (mk l), .string (mk m), v] w fun e w' => e = .returned (.bool true) ∧ Below w.heap.size w w' := by
  have HAL := hid (alive_any w hT)
  have HI := hid (fun W hT => incls_any l W hT)
  have HI2 := hid (fun W hT => incls_any l W hT)
  have HRI := hid (fun W => rincls_any l W)
  have hM0 := is_many l
  obtain ⟨e, HE1⟩ : ∃ e, Hid ((isP l).2.2.1 = e) := ⟨_, rfl⟩
  obtain ⟨g, HE2⟩ : ∃ e, Hid ((isP l).2.2.2 = e) := ⟨_, rfl⟩
  obtain ⟨hd, HE3⟩ : ∃ e, Hid ((isP l).2.1 = e) := ⟨_, rfl⟩
  obtain ⟨L0, HE4⟩ : ∃ e, Hid ((isP l).1 = e) := ⟨_, rfl⟩
  rw [HE1.out, HE2.out, HE4.out] at HI HI2
  rw [HE1.out, HE2.out, HE3.out, HE4.out] at HRI
  rw [HE4.out] at hM0
  have hlL := toI_len L0
  obtain ⟨P0, HP0⟩ : ∃ e, Hid (toI L0 = e) := ⟨_, rfl⟩
  rw [HP0.out] at HI HI2 HRI hlL
  have hP : P0.length ≤ 65536 := by omega
  have HSA := hid (fun W v1 v2 h1 h2 => rsameT P0 v1 v2 W h1 h2 (by omega))
  have HSL := hid (fun W v1 v2 h1 h2 => rsameT L v1 v2 W h1 h2 (by omega))
  have HAI := hid (fun v W h => aimed_any m hm v L hn (fun x hx => (hp x hx).1) W h)
  have HAI2 := HAI
  have HRA := hid (fun v W h => raimed_any m hm v L hn (fun x hx => (hp x hx).1) W h)
  have hal := ad_len m L
  obtain ⟨ts, HA0⟩ : ∃ e, Hid ((adP m L).1 = e) := ⟨_, rfl⟩
  obtain ⟨ae, HA1⟩ : ∃ e, Hid ((adP m L).2.1 = e) := ⟨_, rfl⟩
  obtain ⟨aa, HA2⟩ : ∃ e, Hid ((adP m L).2.2 = e) := ⟨_, rfl⟩
  rw [HA0.out, HA1.out, HA2.out] at HAI HAI2 HRA
  rw [HA0.out] at hal
  have HSS := hid (fun W v1 v2 h1 h2 => same_true v1 v2 ts W h1 h2 (by omega))
  have HNA := hid (fun v W h => names_any v L (by omega) (fun x hx => by have := (hp x hx).2; omega) W h)
  have HNA2 := HNA
  have HWI := hid (fun v W hT h => with_any l v L (by omega) (fun x hx => by have := hp x hx; omega) W hT h)
  obtain ⟨ws, HW1⟩ : ∃ e, Hid ((wiP l L).1 = e) := ⟨_, rfl⟩
  obtain ⟨we, HW2⟩ : ∃ e, Hid ((wiP l L).2 = e) := ⟨_, rfl⟩
  rw [HW1.out, HW2.out] at HWI
  have hnl : (nmL L).length = L.length := by unfold nmL; rw [List.length_map]
  have n3 : ∀ W, (binOp .eql 25 (.agg #[.string (mk mkI.1), .string (mk mkI.2.1), .int .i64 (-1)]) (.agg #[.string (mk mkI.1), .string (mk mkI.2.1), .int .i64 (-1)])).run Tryz.prog W = .ok (.bool true) W := fun W => by
    have := inc_eql (mk mkI.1) (mk mkI.1) (mk mkI.2.1) (mk mkI.2.1) (-1) (-1) W
    rw [show ((mk mkI.1).toList == (mk mkI.1).toList && (mk mkI.2.1).toList == (mk mkI.2.1).toList && (-1 : Int) == -1) = true by simp] at this
    exact this
  have HT := hid hT
  have HIN := hid h
  obtain ⟨ao, c, rfl⟩ := h.shape
  clear hT h hp hlL hM0
  go_enter Tryz.func3, Tryz.ntmps3
  go_upto_region 3 with (go_at_call 4; refine HAL.out.mono ?_; rintro r w1 ⟨rfl, hb⟩; have HB1 := hid hb; clear hb)
  go_upto_region 4 with fail
  have HB2 := hid (HB1.out.trans ((below_walk w1 (.cells #[.string (mk mkI.1), .string (mk mkI.2.1), .int .i64 (-1)] 25)).mono HB1.out.size))
  have HM2 := hid (hp_new w1 (.cells #[.string (mk mkI.1), .string (mk mkI.2.1), .int .i64 (-1)] 25))
  have HZ2 := hid (hp_size w1 (.cells #[.string (mk mkI.1), .string (mk mkI.2.1), .int .i64 (-1)] 25))
  change Code.wp _ _ _ _ (w1.alloc (.cells #[.string (mk mkI.1), .string (mk mkI.2.1), .int .i64 (-1)] 25))
  generalize w1.alloc (.cells #[.string (mk mkI.1), .string (mk mkI.2.1), .int .i64 (-1)] 25) = w2 at *
  obtain ⟨gm, HGM⟩ : ∃ g, Hid (w1.heap.size = g) := ⟨_, rfl⟩
  rw [HGM.out] at HM2 HZ2
  rw [HGM.out]
  have key : ∀ (v8 : Value) (w5 : World), OwnN w5 (gm + 1) v8 (L ++ [mkI, mkI]) → w5.heap[gm]? = some (.cells #[.string (mk mkI.1), .string (mk mkI.2.1), .int .i64 (-1)] 25 (0, 0)) → Below w.heap.size w w5 → Hid (∃ g8 cap8, v8 = .slice (some ⟨g8, 0, none⟩) (L.length + 2) cap8 ∧ L.length + 2 ≤ cap8 ∧ Kp w5 gm (gm + 1) w5.heap.size v8 (L ++ [mkI, mkI])) := fun v8 w5 ho hmk hb => by
    show ∃ g8 cap8, _
    have hl2 : (L ++ [mkI, mkI]).length = L.length + 2 := by simp
    have hk : Kp w5 gm (gm + 1) w5.heap.size v8 (L ++ [mkI, mkI]) := ⟨hmk, ho, by omega, fun k hk => (ho.lt k hk).2⟩
    rcases ho.2 with ⟨_, h0⟩ | ⟨g8, cap8, cur, hv, _, _, h1, _⟩
    · omega
    · rw [hl2] at hv h1
      exact ⟨g8, cap8, hv, h1, hk⟩
  refine wp_noPanic (wp_region_held_drew (S := fun W => W.heap[gm]? = some (.cells #[.string (mk mkI.1), .string (mk mkI.2.1), .int .i64 (-1)] 25 (0, 0))) (by kernel_rfl) (by exact HM2.out) ?_)
  intro hHeld
  refine wpAnyH_take (i := 0) (v := .slice ao L.length c) rfl (by kernel_rfl) (by kernel_rfl) (by kernel_rfl) (fun _ _ _ h => h) (Or.inl ⟨by rfl, fun W _ => by go_simp⟩) hHeld ?_
  simp only [Act.put, List.getElem_toArray, List.getElem_cons_zero, List.setIfInBounds_toArray, List.set_cons_succ, List.set_cons_zero]
  refine wpAnyH_take (i := 2) (v := .agg #[.string (mk mkI.1), .string (mk mkI.2.1), .int .i64 (-1)]) rfl (by kernel_rfl) (by kernel_rfl) (by kernel_rfl) (fun _ _ _ h => h) (yieldsIf_load_mid (by rfl) 25 (.tmp 7) rfl gm 0 rfl (icC mkI) _ (fun W hW => row_rng hW) Tryz.underlying25 rfl Tryz.infoInc1) hHeld ?_
  simp only [Act.put, List.getElem_toArray, List.getElem_cons_zero, List.getElem_cons_succ, List.setIfInBounds_toArray, List.set_cons_succ, List.set_cons_zero]
  refine wpAnyH_take (i := 3) (v := .agg #[.string (mk mkI.1), .string (mk mkI.2.1), .int .i64 (-1)]) rfl (by kernel_rfl) (by kernel_rfl) (by kernel_rfl) (fun _ _ _ h => h) (yieldsIf_load_mid (by rfl) 25 (.tmp 7) rfl gm 0 rfl (icC mkI) _ (fun W hW => row_rng hW) Tryz.underlying25 rfl Tryz.infoInc1) hHeld ?_
  simp only [Act.put, List.getElem_toArray, List.getElem_cons_zero, List.getElem_cons_succ, List.setIfInBounds_toArray, List.set_cons_succ, List.set_cons_zero]
  refine wpAnyH_ready (rs := [1, 4]) (by kernel_rfl) (by simp) ?_
  refine AllReadyH.cons rfl (fun K hK => ?_) (AllReadyH.cons rfl (fun K hK => ?_) AllReadyH.nil)
  · refine step_app_incs (by rfl) (.const (.slice none 0 0)) (.tmp 34) (by rfl) (gm + 1) _ [] (by rfl) (OwnN.nil _ _) _ L (by rfl) ((HIN.out.below HB2.out).below (Below.refl _ _).drew) (by simp; omega) (by show gm + 1 ≤ w2.heap.size; have := HZ2.out; omega) ?_
    intro v35 w3 ho3 hg3
    have HB3 := hid ((HB2.out.drew).grown hg3 HB2.out.size (fun k hk => by simp [Value.ownBlock] at hk))
    have HM3 := hid ((hg3.block gm (hp_lt HM2.out) (by simp [Value.ownBlock])).trans HM2.out)
    have HO3 : Hid (OwnN w3 (gm + 1) v35 L) := hid ho3
    have HS3 := hid (show gm + 1 ≤ w3.heap.size by have := hg3.size; have h5 : w2.drew.heap.size = w2.heap.size := rfl; have := HZ2.out; omega)
    obtain ⟨a35, c35, hv35⟩ := HO3.out.shape
    subst hv35
    clear ho3 hg3
    refine hK.out _ _ HM3.out (fun hHeld => ?_)
    clear hK K
    try simp only [Act.put, List.getElem_toArray, List.getElem_cons_zero, List.getElem_cons_succ, List.setIfInBounds_toArray, List.set_cons_succ, List.set_cons_zero]
    refine wpAnyH_ready (rs := [4]) (by kernel_rfl) (by simp) ?_
    refine AllReadyH.cons rfl (fun K hK => ?_) AllReadyH.nil
    go_simp
    have HBA := hid (below_walk w3 (.cells #[.string (mk mkI.1), .string (mk mkI.2.1), .int .i64 (-1), .string (mk mkI.1), .string (mk mkI.2.1), .int .i64 (-1)] 25))
    have HI4 := hid (incs_two w3)
    have HM4 := hid ((HBA.out.block gm (hp_lt HM3.out)).trans HM3.out)
    have HO4 := hid (HO3.out.below HBA.out)
    have HB4 := hid (HB3.out.trans (HBA.out.mono HB3.out.size))
    have HS4 := hid (show gm + 1 ≤ (w3.alloc (.cells #[.string (mk mkI.1), .string (mk mkI.2.1), .int .i64 (-1), .string (mk mkI.1), .string (mk mkI.2.1), .int .i64 (-1)] 25)).heap.size by rw [hp_size]; have := HS3.out; omega)
    refine hK.out _ _ HM4.out (fun hHeld => ?_)
    clear hK K
    try simp only [Act.put, List.getElem_toArray, List.getElem_cons_zero, List.getElem_cons_succ, List.setIfInBounds_toArray, List.set_cons_succ, List.set_cons_zero]
    generalize w3.alloc (.cells #[.string (mk mkI.1), .string (mk mkI.2.1), .int .i64 (-1), .string (mk mkI.1), .string (mk mkI.2.1), .int .i64 (-1)] 25) = w4 at *
    refine wpAnyH_ready (rs := [5]) (by kernel_rfl) (by simp) ?_
    refine AllReadyH.cons rfl (fun K hK => ?_) AllReadyH.nil
    refine step_app_incs (by rfl) (.tmp 35) (.tmp 38) (by rfl) (gm + 1) _ L (by rfl) HO4.out _ [mkI, mkI] (by rfl) HI4.out (by simp; omega) HS4.out ?_
    intro v8 w5 ho5 hg5
    have HM5 := hid ((hg5.block gm (hp_lt HM4.out) (fun e => by have := (HO4.out.lt gm e.symm).1; omega)).trans HM4.out)
    have HB5 := hid (HB4.out.grown hg5 HB4.out.size (fun k hk => by have := (HO4.out.lt k hk).1; have := HGM.out; have := HB1.out.size; omega))
    obtain ⟨g8, cap8, hv8, hcap8, hkp⟩ := (key v8 w5 ho5 HM5.out HB5.out).out
    subst hv8
    have HK5 := hid hkp
    clear ho5 hg5 hkp
    refine hK.out _ _ HM5.out (fun hHeld => ?_)
    clear hK K
    try simp only [Act.put, List.getElem_toArray, List.getElem_cons_zero, List.getElem_cons_succ, List.setIfInBounds_toArray, List.set_cons_succ, List.set_cons_zero]
    refine wpAnyH_take (i := 6) (v := .slice (some ⟨g8, 0, none⟩) (L.length + 2) cap8) rfl (by kernel_rfl) (by kernel_rfl) (by kernel_rfl) (fun _ _ _ h => h) (Or.inl ⟨by rfl, fun W _ => by go_simp⟩) hHeld ?_
    simp only [Act.put, List.getElem_toArray, List.getElem_cons_zero, List.getElem_cons_succ, List.setIfInBounds_toArray, List.set_cons_succ, List.set_cons_zero]
    refine wpAnyH_done (by kernel_rfl) ?_ _
    simp only [noPanic]
    clear hHeld
    have sl := fun W => sl_toI ⟨g8, 0, none⟩ (L.length + 2) cap8 L.length (by omega) W
    have hgm := hp_lt HM5.out
    obtain ⟨nA, HnA⟩ : ∃ n, Hid (w5.heap.size = n) := ⟨_, rfl⟩
    rw [HnA.out] at hgm HK5
    have HMI := hid (fun (wr : World) (h : Kp wr gm (gm + 1) nA (.slice (some ⟨g8, 0, none⟩) (L.length + 2) cap8) (L ++ [mkI, mkI])) => (h.room.incs).take (by simp))
    have hwA : w.heap.size ≤ nA := by have := HB5.out.size; have := HnA.out; omega
    go_upto_region 6 with fail
    clear sl
    go_upto_region 7 with (go_at_call 5; refine (HI.out _ (HT.out.below HB5.out)).mono ?_; rintro r w6 ⟨va, rfl, ho, hb⟩; have HOA := hid ho; have HB6 := hid hb; obtain ⟨sa, sca, hv⟩ := ho.shape; subst hv; clear ho hb)
    have HA6 := hid (below_walk w6 (.cells #[.int .i64 e, .int .i64 (g : Int)] 28))
    have HK6 := hid ((HK5.out.below HB6.out).below HA6.out)
    have HC6a := hid (HB5.out.trans (HB6.out.mono HB5.out.size))
    have HC6 := hid (HC6a.out.trans (HA6.out.mono HC6a.out.size))
    have HO6 := hid (HOA.out.below HA6.out)
    generalize w6.alloc (.cells #[.int .i64 e, .int .i64 (g : Int)] 28) = w7 at *
    rw [HnA.out] at HO6
    obtain ⟨nB, HnB⟩ : ∃ n, Hid (w7.heap.size = n) := ⟨_, rfl⟩
    have hAB7 : nA ≤ nB := by have := HB6.out.size; have := HA6.out.size; have := HnB.out; have := HnA.out; omega
    clear HA6 HC6a HB6 HOA
    have hva := HO6.out.lt
    rw [HnB.out] at hva
    go_upto_region 8 with (go_at_call 5; refine (HI2.out _ (HT.out.below HC6.out)).mono ?_; rintro r w8 ⟨vb, rfl, ho, hb⟩; have HOB := hid ho; have HB8 := hid hb; obtain ⟨sb, scb, hv⟩ := ho.shape; subst hv; clear ho hb)
    have HA8 := hid (below_walk w8 (.cells #[.int .i64 e, .int .i64 (g : Int)] 28))
    have HK8 := hid ((HK6.out.below HB8.out).below HA8.out)
    have HC8a := hid (HC6.out.trans (HB8.out.mono HC6.out.size))
    have HC8 := hid (HC8a.out.trans (HA8.out.mono HC8a.out.size))
    have HO8 := hid (HOB.out.below HA8.out)
    have HR8 : Hid (Rw 25 3 _ nA (.slice sa P0.length sca) P0.length) := hid ⟨_, (HO6.out.below HB8.out).below HA8.out⟩
    generalize w8.alloc (.cells #[.int .i64 e, .int .i64 (g : Int)] 28) = w9 at *
    rw [HnB.out] at HO8
    have hsz9 : nB ≤ w9.heap.size := by have := HB8.out.size; have := HA8.out.size; have := HnB.out; omega
    have hAB : nA ≤ nB := hAB7
    clear HA8 HC8a HB8 HOB HO6 HK6 HC6 HK5 HB5 HM5
    go_wp2
    go_loopw [56] (fun i wr => ∃ k : Nat, i = .int .i64 k ∧ k ≤ P0.length ∧ Hid (Rw 25 3 wr nA (.slice sa P0.length sca) P0.length) ∧ Hid (OwnN wr nB (.slice sb P0.length scb) P0) ∧ Hid (Kp wr gm (gm + 1) nA (.slice (some ⟨g8, 0, none⟩) (L.length + 2) cap8) (L ++ [mkI, mkI])) ∧ Hid (Below w.heap.size w wr) ∧ nB ≤ wr.heap.size) (fun i _ => P0.length - (intOf i).toNat)
    case atStart => exact ⟨0, rfl, Nat.zero_le _, HR8, HO8, HK8, HC8, hsz9⟩
    case round =>
      clear HR8 HO8 HK8 HC8 hsz9
      obtain ⟨k, rfl, hk, HR, HO, HK, HB, hsz⟩ := hrel
      by_cases hlt : k < P0.length
      · have q1 : (k : Int) < (P0.length : Int) := by omega
        obtain ⟨ga, ca, hv, _, _⟩ := HR.out.form (by omega)
        injection hv with e1 _ e3
        subst e1 e3
        have hga := hva ga rfl
        have HTH := hid (HR.out.there3 k hlt)
        have k0 := HK.out.c0
        have k1 := HK.out.c1
        have k2 := HK.out.c2
        have gb := gb_sets3 wr ga (k * 3) (.string (mk mkI.1)) (.string (mk mkI.2.1)) (.int .i64 (-1))
        have HR' := hid (HR.out.sets3 (k * 3) (.string (mk mkI.1)) (.string (mk mkI.2.1)) (.int .i64 (-1)))
        have HO' := hid (HO.out.kept gb (apart_hi (fun k hk => (HO.out.lt k hk).1) (fun k hk => by cases hk; exact hga.2)))
        have HK' := hid (HK.out.grown gb (fun k hk => by cases hk; exact hga.1) (by omega))
        have HB' := hid (HB.out.grown gb HB.out.size (fun k hk => by cases hk; have := hga.1; omega))
        have hsz' := Nat.le_trans hsz gb.size
        clear gb
        go_wp2_with (refine wpList_store_mid (by rfl) 25 (.tmp 62) (.tmp 61) (by rfl) ga (k * 3) [.string (mk mkI.1), .string (mk mkI.2.1), .int .i64 (-1)].toArray (by rfl) (by rfl) HTH.out (by exact Tryz.infoInc1) (all_oneCell_toArray (by simp [Value.oneCell'])) ?_)
        exact ⟨⟨k + 1, by simp, by omega, HR', HO', HK', HB', hsz'⟩, by simp [intOf]; omega⟩
      · have q1 : ¬ (k : Int) < (P0.length : Int) := by omega
        have k0 := HK.out.c0
        have k1 := HK.out.c1
        have k2 := HK.out.c2
        have HBa := hid (below_walk wr (.cells #[.string (mk mkI.1), .string (mk mkI.2.1), .int .i64 (-1)] 25))
        have HRa := hid (HR.out.below HBa.out)
        have HSa := hid (src_inc wr mkI)
        have hsa : nB ≤ (wr.alloc (.cells #[.string (mk mkI.1), .string (mk mkI.2.1), .int .i64 (-1)] 25)).heap.size := Nat.le_trans hsz HBa.out.size
        have HOa := hid (HO.out.below HBa.out)
        have HKa := hid (HK.out.below HBa.out)
        have HCa := hid (HB.out.trans (HBa.out.mono HB.out.size))
        clear HR HO HK HB
        go_upto_region 14 with (refine app_rwI (by rfl) (.tmp 64) (.tmp 66) (by rfl) nA _ P0.length (by rfl) HRa.out wr.heap.size 1 [mkI] (by rfl) HSa.out (by simp; omega) (by omega) ?_; intro v13 w10 hg10; have HG10 := hid hg10; clear hg10)
        have HO10 := hid (HOa.out.kept HG10.out (apart_hi (fun k hk => (HOa.out.lt k hk).1) (fun k hk => (hva k hk).2)))
        have HK10 := hid (HKa.out.grown HG10.out (fun k hk => (hva k hk).1) (by omega))
        have HC10 := hid (HCa.out.grown HG10.out HCa.out.size (fun k hk => by have := (hva k hk).1; omega))
        have hs10 := Nat.le_trans hsa HG10.out.size
        clear HOa HKa HCa HG10 HRa HSa HBa hsa k0 k1 k2 hsz
        go_upto_region 15 with (go_at_call 6; refine (HRI.out _).mono ?_; rintro r w11 ⟨vm, rfl, ho, hb⟩; have HM11 := hid ho; have HB11 := hid hb; obtain ⟨sm, scm, hv⟩ := ho.shape; subst hv; clear ho hb)
        have HO11 := hid (HO10.out.below HB11.out)
        have HK11 := hid (HK10.out.below HB11.out)
        have HC11 := hid (HC10.out.trans (HB11.out.mono HC10.out.size))
        have hs11 := Nat.le_trans hs10 HB11.out.size
        clear HO10 HK10 HC10 HB11 hs10
        go_upto_region 17 with (go_at_call 7; refine (HSA.out _ _ _ HO11.out.incs HM11.out.incs).mono ?_; rintro r w12 ⟨rfl, q, rfl⟩)
        have HK12 := hid (HK11.out.below (below_drewN (Below.refl _ _) q))
        have HC12 := hid (below_drewN HC11.out q)
        have hs12 : nB ≤ (w11.drewN q).heap.size := hs11
        generalize w11.drewN q = w12 at *
        clear HO11 HM11 HK11 HC11 hs11
        obtain ⟨b1, Hb1⟩ : ∃ n, Hid (w12.heap.size = n) := ⟨_, rfl⟩
        have hAb1 : nA ≤ b1 := by have := Hb1.out; omega
        -- Aimed, twice
        go_upto_region 18 with (go_at_call 8; refine (HAI.out _ _ (HMI.out _ HK12.out)).mono ?_; rintro r w13 ⟨vp, rfl, ho, hb⟩; have HP13 := hid ho; have HB13 := hid hb; obtain ⟨sp, scp, hv⟩ := ho.strs.shape; subst hv; clear ho hb)
        have HA13 := hid (below_walk w13 (.cells #[.int .i64 ae, .int .i64 aa] 28))
        have HP14 := hid (HP13.out.below HA13.out)
        have HK14 := hid ((HK12.out.below HB13.out).below HA13.out)
        have HC13 := hid (HC12.out.trans (HB13.out.mono HC12.out.size))
        have HC14 := hid (HC13.out.trans (HA13.out.mono HC13.out.size))
        have hs14 := Nat.le_trans HB13.out.size HA13.out.size
        generalize w13.alloc (.cells #[.int .i64 ae, .int .i64 aa] 28) = w14 at *
        rw [Hb1.out] at HP14 hs14
        obtain ⟨b2, Hb2⟩ : ∃ n, Hid (w14.heap.size = n) := ⟨_, rfl⟩
        have hvp := HP14.out.lt
        rw [Hb2.out] at hvp hs14
        clear HA13 HC13 HB13 HP13 HK12 HC12
        go_upto_region 19 with (go_at_call 8; refine (HAI2.out _ _ (HMI.out _ HK14.out)).mono ?_; rintro r w15 ⟨vq, rfl, ho, hb⟩; have HQ15 := hid ho; have HB15 := hid hb; obtain ⟨sq, scq, hv⟩ := ho.strs.shape; subst hv; clear ho hb)
        have HA15 := hid (below_walk w15 (.cells #[.int .i64 ae, .int .i64 aa] 28))
        have HP16 := hid ((HP14.out.below HB15.out).below HA15.out)
        have HQ16 := hid (HQ15.out.below HA15.out)
        have HK16 := hid ((HK14.out.below HB15.out).below HA15.out)
        have HC15 := hid (HC14.out.trans (HB15.out.mono HC14.out.size))
        have HC16 := hid (HC15.out.trans (HA15.out.mono HC15.out.size))
        have hs16 := Nat.le_trans HB15.out.size HA15.out.size
        generalize w15.alloc (.cells #[.int .i64 ae, .int .i64 aa] 28) = w16 at *
        rw [Hb2.out] at HQ16 hs16
        obtain ⟨b3, Hb3⟩ : ∃ n, Hid (w16.heap.size = n) := ⟨_, rfl⟩
        have hvq := HQ16.out.lt
        rw [Hb3.out] at hvq hs16
        clear HA15 HC15 HB15 HQ15 HK14 HC14 HP14
        -- Names, twice
        go_upto_region 20 with first
          | (go_at_call 9; with_reducible refine (HNA.out _ _ (HMI.out _ HK16.out)).mono ?_; rintro r w17 ⟨vn, rfl, ho, hb⟩; have HN17 := hid ho; have HB17 := hid hb; obtain ⟨sn, scn, hv⟩ := ho.strs.shape; rw [hnl] at hv; subst hv; have HK17 := hid (HK16.out.below hb); clear ho hb)
          | (go_at_call 9; with_reducible refine (HNA2.out _ _ (HMI.out _ HK17.out)).mono ?_; rintro r w18 ⟨vk, rfl, ho, hb⟩; have HO18 := hid ho; have HB18 := hid hb; obtain ⟨sk, sck, hv⟩ := ho.strs.shape; rw [hnl] at hv; subst hv; have HK18 := hid (HK17.out.below hb); clear ho hb)
        obtain ⟨b4, Hb4⟩ : ∃ n, Hid (w17.heap.size = n) := ⟨_, rfl⟩
        have hvn := HN17.out.lt
        have hs17 := HB17.out.size
        have hs18 := HB18.out.size
        rw [Hb3.out, Hb4.out] at hvn hs17
        rw [Hb4.out] at hs18
        have HC17 := hid (HC16.out.trans (HB17.out.mono HC16.out.size))
        have HC18 := hid (HC17.out.trans (HB18.out.mono HC17.out.size))
        have HP18 : Hid (Rw 9 1 w18 b1 (.slice sp ts.length scp) ts.length) := hid ⟨_, (HP16.out.below HB17.out).below HB18.out⟩
        have HQ18 := hid ((HQ16.out.below HB17.out).below HB18.out)
        have HN18 : Hid (Rw 9 1 w18 b3 (.slice sn L.length scn) L.length) := hid ⟨_, by have h9 := HN17.out.below HB18.out; rw [Hb3.out] at h9; unfold OwnS at h9; rw [hnl] at h9; exact h9⟩
        rw [Hb4.out] at HO18
        clear HP16 HQ16 HK16 HC16 HB17 HB18 HN17 HK17 HC17
        go_wp2
        go_loopw [97] (fun i wr => ∃ k : Nat, i = .int .i64 k ∧ k ≤ ts.length ∧ Hid (Rw 9 1 wr b1 (.slice sp ts.length scp) ts.length) ∧ Hid (OwnS wr b2 (.slice sq ts.length scq) ts) ∧ Hid (Rw 9 1 wr b3 (.slice sn L.length scn) L.length) ∧ Hid (OwnS wr b4 (.slice sk L.length sck) (nmL L)) ∧ Hid (Kp wr gm (gm + 1) nA (.slice (some ⟨g8, 0, none⟩) (L.length + 2) cap8) (L ++ [mkI, mkI])) ∧ Hid (Below w.heap.size w wr) ∧ b4 ≤ wr.heap.size) (fun i _ => ts.length - (intOf i).toNat)
        case atStart => exact ⟨0, rfl, Nat.zero_le _, HP18, HQ18, HN18, HO18, HK18, HC18, hs18⟩
        case round =>
          clear HP18 HQ18 HN18 HO18 HK18 HC18 hs18
          obtain ⟨k, rfl, hk, HP, HQ, HN, HO, HK, HB, hsz⟩ := hrel
          by_cases hlt : k < ts.length
          · have q1 : (k : Int) < (ts.length : Int) := by omega
            obtain ⟨gp, cp, hv, _, _⟩ := HP.out.form (by omega)
            injection hv with e1 _ e3
            subst e1 e3
            have hgp := hvp gp rfl
            obtain ⟨⟨u, hu⟩, hfz⟩ := HP.out.cell k (by omega)
            have gb : wr.grownBy (wr.setCell ⟨gp, k, none⟩ (.string ⟨#[120]⟩)) (some gp) := gb_set wr ⟨gp, k, none⟩ (.string ⟨#[120]⟩)
            have HP' := hid (HP.out.set k (.string ⟨#[120]⟩))
            have HQ' := hid (HQ.out.kept gb (apart_hi (b := b2) (fun k hk => (HQ.out.lt k hk).1) (fun k hk => by cases hk; exact hgp.2)))
            have HN' := hid (HN.out.kept gb (apart_hi (b := b2) (fun k hk => by have := (HN.out.lt k hk).1; omega) (fun k hk => by cases hk; exact hgp.2)))
            have HO' := hid (HO.out.kept gb (apart_hi (b := b2) (fun k hk => by have := (HO.out.lt k hk).1; omega) (fun k hk => by cases hk; exact hgp.2)))
            have HK' := hid (HK.out.grown gb (fun k hk => by cases hk; exact Nat.le_trans hAb1 hgp.1) (by omega))
            have HB' := hid (HB.out.grown gb HB.out.size (fun k hk => by cases hk; have := hgp.1; omega))
            have hsz' := Nat.le_trans hsz gb.size
            clear gb
            go_wp2
            exact ⟨⟨k + 1, by simp, by omega, HP', HQ', HN', HO', HK', HB', hsz'⟩, by simp [intOf]; omega⟩
          · have q1 : ¬ (k : Int) < (ts.length : Int) := by omega
            go_wp2
            obtain ⟨w19, hw19⟩ : ∃ W, W = wr := ⟨_, rfl⟩
            subst hw19
            go_loopw [106] (fun i wr => ∃ k : Nat, i = .int .i64 k ∧ k ≤ L.length ∧ Hid (Rw 9 1 wr b1 (.slice sp ts.length scp) ts.length) ∧ Hid (OwnS wr b2 (.slice sq ts.length scq) ts) ∧ Hid (Rw 9 1 wr b3 (.slice sn L.length scn) L.length) ∧ Hid (OwnS wr b4 (.slice sk L.length sck) (nmL L)) ∧ Hid (Kp wr gm (gm + 1) nA (.slice (some ⟨g8, 0, none⟩) (L.length + 2) cap8) (L ++ [mkI, mkI])) ∧ Hid (Below w.heap.size w wr) ∧ b4 ≤ wr.heap.size) (fun i _ => L.length - (intOf i).toNat)
            case atStart => exact ⟨0, rfl, Nat.zero_le _, HP, HQ, HN, HO, HK, HB, hsz⟩
            case round =>
              clear HP HQ HN HO HK HB hsz
              obtain ⟨j, rfl, hj, HP, HQ, HN, HO, HK, HB, hsz⟩ := hrel
              by_cases hjt : j < L.length
              · have q2 : (j : Int) < (L.length : Int) := by omega
                obtain ⟨gn, cn, hv, _, _⟩ := HN.out.form (by omega)
                injection hv with e1 _ e3
                subst e1 e3
                have hgn := hvn gn rfl
                obtain ⟨⟨u, hu⟩, hfz⟩ := HN.out.cell j (by omega)
                have gb : wr.grownBy (wr.setCell ⟨gn, j, none⟩ (.string ⟨#[121]⟩)) (some gn) := gb_set wr ⟨gn, j, none⟩ (.string ⟨#[121]⟩)
                have HN' := hid (HN.out.set j (.string ⟨#[121]⟩))
                have HP' := hid (HP.out.kept gb (apart_lo (b := b3) (fun k hk => by have := (hvp k hk).2; omega) (fun k hk => by cases hk; exact hgn.1)))
                have HQ' := hid (HQ.out.kept gb (apart_lo (b := b3) (fun k hk => (hvq k hk).2) (fun k hk => by cases hk; exact hgn.1)))
                have HO' := hid (HO.out.kept gb (apart_hi (b := b4) (fun k hk => (HO.out.lt k hk).1) (fun k hk => by cases hk; exact hgn.2)))
                have HK' := hid (HK.out.grown gb (fun k hk => by cases hk; have := hgn.1; omega) (by omega))
                have HB' := hid (HB.out.grown gb HB.out.size (fun k hk => by cases hk; have := hgn.1; omega))
                have hsz' := Nat.le_trans hsz gb.size
                clear gb
                go_wp2
                exact ⟨⟨j + 1, by simp, by omega, HP', HQ', HN', HO', HK', HB', hsz'⟩, by simp [intOf]; omega⟩
              · have q2 : ¬ (j : Int) < (L.length : Int) := by omega
                -- two appends
                have HBa := hid (below_walk wr (.cells #[.string ⟨#[122]⟩] 9))
                have HCz := hid (show (wr.alloc (.cells #[.string ⟨#[122]⟩] 9)).cell? ⟨wr.heap.size, 0, none⟩ = some (.string (mk [122])) by rw [cell_of_row _ _ _ _ _ _ (hp_new wr (.cells #[.string ⟨#[122]⟩] 9))]; rfl)
                have HPa := hid (HP.out.below HBa.out)
                have HQa := hid (HQ.out.below HBa.out)
                have HNa := hid (HN.out.below HBa.out)
                have HOa := hid (HO.out.below HBa.out)
                have HKa := hid (HK.out.below HBa.out)
                have HCa := hid (HB.out.trans (HBa.out.mono HB.out.size))
                have hsa := Nat.le_trans hsz HBa.out.size
                clear HP HQ HN HO HK HB
                go_upto_region 31 with (refine app_rwS (by rfl) (.tmp 113) (.tmp 114) (by rfl) b1 _ ts.length (by rfl) HPa.out wr.heap.size 1 [122] (by rfl) HCz.out (by omega) (by omega) ?_; intro v20 w20 hg; have HG := hid hg; clear hg)
                have HQ20 := hid (HQa.out.kept HG.out (apart_hi (b := b2) (fun k hk => (HQa.out.lt k hk).1) (fun k hk => (hvp k hk).2)))
                have HN20 := hid (HNa.out.kept HG.out (apart_hi (b := b2) (fun k hk => by have := (HNa.out.lt k hk).1; omega) (fun k hk => (hvp k hk).2)))
                have HO20 := hid (HOa.out.kept HG.out (apart_hi (b := b2) (fun k hk => by have := (HOa.out.lt k hk).1; omega) (fun k hk => (hvp k hk).2)))
                have HK20 := hid (HKa.out.grown HG.out (fun k hk => by have := (hvp k hk).1; omega) (by omega))
                have HC20 := hid (HCa.out.grown HG.out HCa.out.size (fun k hk => by have := (hvp k hk).1; omega))
                have hs20 := Nat.le_trans hsa HG.out.size
                clear HQa HNa HOa HKa HCa HPa HBa HCz HG hsa
                have HBa := hid (below_walk w20 (.cells #[.string ⟨#[122]⟩] 9))
                have HCz := hid (show (w20.alloc (.cells #[.string ⟨#[122]⟩] 9)).cell? ⟨w20.heap.size, 0, none⟩ = some (.string (mk [122])) by rw [cell_of_row _ _ _ _ _ _ (hp_new w20 (.cells #[.string ⟨#[122]⟩] 9))]; rfl)
                have HQa := hid (HQ20.out.below HBa.out)
                have HNa := hid (HN20.out.below HBa.out)
                have HOa := hid (HO20.out.below HBa.out)
                have HKa := hid (HK20.out.below HBa.out)
                have HCa := hid (HC20.out.trans (HBa.out.mono HC20.out.size))
                have hsa := Nat.le_trans hs20 HBa.out.size
                clear HQ20 HN20 HO20 HK20 HC20
                go_upto_region 32 with (refine app_rwS (by rfl) (.tmp 116) (.tmp 117) (by rfl) b3 _ L.length (by rfl) HNa.out w20.heap.size 1 [122] (by rfl) HCz.out (by omega) (by omega) ?_; intro v21 w21 hg; have HG := hid hg; clear hg)
                have HQ21 := hid (HQa.out.kept HG.out (apart_lo (b := b3) (fun k hk => (hvq k hk).2) (fun k hk => (hvn k hk).1)))
                have HO21 := hid (HOa.out.kept HG.out (apart_hi (b := b4) (fun k hk => (HOa.out.lt k hk).1) (fun k hk => (hvn k hk).2)))
                have HK21 := hid (HKa.out.grown HG.out (fun k hk => by have := (hvn k hk).1; omega) (by omega))
                have HC21 := hid (HCa.out.grown HG.out HCa.out.size (fun k hk => by have := (hvn k hk).1; omega))
                clear HQa HNa HOa HKa HCa HBa HCz HG hsa hs20 hsz
                go_upto_region 33 with (go_at_call 10; refine (HWI.out _ _ (HT.out.below HC21.out) (HMI.out _ HK21.out)).mono ?_; rintro r w22 ⟨rfl, hb⟩; have HB22 := hid hb; clear hb)
                have HQ22 := hid (HQ21.out.below HB22.out)
                have HO22 := hid (HO21.out.below HB22.out)
                have HK22 := hid (HK21.out.below HB22.out)
                have HC22 := hid (HC21.out.trans (HB22.out.mono HC21.out.size))
                clear HQ21 HO21 HK21 HC21 HB22
                go_upto_region 34 with (go_at_call 11; refine (HRA.out _ _ (HIN.out.below HC22.out)).mono ?_; rintro r w23 ⟨vw, rfl, ho, hb⟩; have HW23 := hid ho.strs; have HB23 := hid hb; obtain ⟨sw, scw, hv⟩ := ho.strs.shape; subst hv; clear ho hb)
                have HQ23 := hid (HQ22.out.below HB23.out).strs
                have HO23 := hid (HO22.out.below HB23.out).strs
                have HK23 := hid (HK22.out.below HB23.out)
                have HC23 := hid (HC22.out.trans (HB23.out.mono HC22.out.size))
                have HI23 := hid (HIN.out.below HC23.out)
                clear HQ22 HO22 HK22 HC22 HB23
                go_wp2
                go_loopw [131] (fun i wr => ∃ k q : Nat, i = .int .i64 k ∧ k ≤ L.length ∧ wr = w23.drewN q) (fun i _ => L.length - (intOf i).toNat)
                case atStart => exact ⟨0, 0, rfl, Nat.zero_le _, rfl⟩
                case round =>
                  obtain ⟨i, q, rfl, hi, rfl⟩ := hrel
                  by_cases hit : i < L.length
                  · have q3 : (i : Int) < (L.length : Int) := by omega
                    obtain ⟨g1, o1, hs1, u0⟩ := HO23.out.at i (by rw [hnl]; exact hit)
                    obtain ⟨g2, o2, hs2, _, _, y1, _⟩ := HI23.out.at i hit
                    subst hs1 hs2
                    have hnm : (nmL L).getD i [] = (L.getD i noI).2.1 := by
                      unfold nmL
                      rw [List.getD_eq_getElem?_getD, List.getD_eq_getElem?_getD, List.getElem?_map, List.getElem?_eq_getElem hit]
                      rfl
                    rw [hnm] at u0
                    obtain ⟨n, HNN⟩ : ∃ t, Hid ((L.getD i noI).2.1 = t) := ⟨_, rfl⟩
                    rw [HNN.out] at u0 y1
                    have f2 : ((mk n).toList == (mk n).toList) = true := by simp
                    clear hnm
                    go_wp2_with fail
                    go_quiet (fail)
                    go_wp2
                    exact ⟨⟨i + 1, _, by simp, by omega, rfl⟩, by simp [intOf]; omega⟩
                  · have q3 : ¬ (i : Int) < (L.length : Int) := by omega
                    have hi2 : i = L.length := by omega
                    subst hi2
                    have HBq : Hid (Below w23.heap.size w23 (w23.drewN q)) := hid (below_drewN (Below.refl _ _) q)
                    have HQ24 := hid (HQ23.out.below HBq.out)
                    have HW24 := hid (HW23.out.below HBq.out)
                    have HK24 := hid (HK23.out.below HBq.out)
                    have HI24 := hid (HI23.out.below HBq.out)
                    have HC24 := hid (below_drewN HC23.out q)
                    generalize w23.drewN q = w24 at *
                    clear HBq HQ23 HW23 HK23 HI23 HC23 HO23
                    have hroom := HK24.out.room.incs
                    have hg0 : (L ++ [mkI, mkI]).getD L.length noI = mkI := by rw [List.getD_eq_getElem?_getD, List.getElem?_append_right (by omega), Nat.sub_self]; rfl
                    have hg1 : (L ++ [mkI, mkI]).getD (L.length + 1) noI = mkI := by rw [List.getD_eq_getElem?_getD, List.getElem?_append_right (by omega), show L.length + 1 - L.length = 1 by omega]; rfl
                    obtain ⟨gx, ox, hx, _, r0, r1, r2⟩ := hroom.at L.length (by simp)
                    injection hx with hx
                    injection hx with hx1 hx2
                    subst hx1 hx2
                    obtain ⟨gy, oy, hy, _, r3, r4, r5⟩ := hroom.at (L.length + 1) (by simp)
                    injection hy with hy
                    injection hy with hy1 hy2
                    subst hy1 hy2
                    rw [hg0] at r0 r1 r2
                    rw [hg1] at r3 r4 r5
                    simp only [Nat.zero_add] at r0 r1 r2 r3 r4 r5
                    change _ = some (Value.int .i64 (-1)) at r2 r5
                    have k0 := HK24.out.c0
                    have k1 := HK24.out.c1
                    have k2 := HK24.out.c2
                    clear hroom hg0 hg1
                    have hw1 : IntKind.i64.wrap ((L.length : Int) + 1) = (L.length : Int) + 1 := by rw [IntKind.wrap_i64]; omega
                    go_wp2_with fail
                    have HMI24 := hid (HMI.out _ HK24.out)
                    have f0 : (L.length : Int) < ((L.length + 2 : Nat) : Int) := by omega
                    have f1 : (L.length : Int) < (L.length : Int) + 2 := by omega
                    have f2 : (L.length : Int) + 1 < ((L.length + 2 : Nat) : Int) := by omega
                    have f3 : (L.length : Int) + 1 < (L.length : Int) + 2 := by omega
                    have f4 : (0 : Int) ≤ (L.length : Int) + 1 := by omega
                    have f5 : ((L.length : Int) + 1).toNat = L.length + 1 := by omega
                    go_quiet (first
                      | (go_at_call 12; exact Calls.quiet_of (HSS.out _ _ _ (HQ24.out.below (below_drewN (Below.refl _ _) _)) (HW24.out.below (below_drewN (Below.refl _ _) _))))
                      | (go_at_call 7; exact Calls.quiet_of (HSL.out _ _ _ (HMI24.out.below (below_drewN (Below.refl _ _) _)) (HI24.out.below (below_drewN (Below.refl _ _) _)))))
                    go_wp2
                    go_ret
                    exact ⟨rfl, below_drewN HC24.out _⟩
  · go_simp
    have HBA : Hid (Below w2.heap.size w2.drew ((w2.alloc (.cells #[.string (mk mkI.1), .string (mk mkI.2.1), .int .i64 (-1), .string (mk mkI.1), .string (mk mkI.2.1), .int .i64 (-1)] 25)).drew)) := hid (below_walk w2.drew (.cells #[.string (mk mkI.1), .string (mk mkI.2.1), .int .i64 (-1), .string (mk mkI.1), .string (mk mkI.2.1), .int .i64 (-1)] 25))
    have HI3 : Hid (Incs ((w2.alloc (.cells #[.string (mk mkI.1), .string (mk mkI.2.1), .int .i64 (-1), .string (mk mkI.1), .string (mk mkI.2.1), .int .i64 (-1)] 25)).drew) (.slice (some ⟨w2.heap.size, 0, none⟩) 2 2) [mkI, mkI]) := hid (incs_two w2.drew)
    have HM3 := hid ((HBA.out.block gm (hp_lt HM2.out)).trans HM2.out)
    have HB3 := hid ((HB2.out.drew).trans (HBA.out.mono HB2.out.size))
    have HS3 := hid (show gm + 1 ≤ ((w2.alloc (.cells #[.string (mk mkI.1), .string (mk mkI.2.1), .int .i64 (-1), .string (mk mkI.1), .string (mk mkI.2.1), .int .i64 (-1)] 25)).drew).heap.size by show gm + 1 ≤ (w2.alloc (.cells #[.string (mk mkI.1), .string (mk mkI.2.1), .int .i64 (-1), .string (mk mkI.1), .string (mk mkI.2.1), .int .i64 (-1)] 25)).heap.size; rw [hp_size]; have := HZ2.out; omega)
    refine hK.out _ _ HM3.out (fun hHeld => ?_)
    clear hK K
    try simp only [Act.put, List.getElem_toArray, List.getElem_cons_zero, List.getElem_cons_succ, List.setIfInBounds_toArray, List.set_cons_succ, List.set_cons_zero]
    generalize (w2.alloc (.cells #[.string (mk mkI.1), .string (mk mkI.2.1), .int .i64 (-1), .string (mk mkI.1), .string (mk mkI.2.1), .int .i64 (-1)] 25)).drew = w3 at *
    refine wpAnyH_ready (rs := [1]) (by kernel_rfl) (by simp) ?_
    refine AllReadyH.cons rfl (fun K hK => ?_) AllReadyH.nil
    refine step_app_incs (by rfl) (.const (.slice none 0 0)) (.tmp 34) (by rfl) (gm + 1) _ [] (by rfl) (OwnN.nil _ _) _ L (by rfl) (HIN.out.below HB3.out) (by simp; omega) HS3.out ?_
    intro v35 w4 ho3 hg3
    have HG3 : Hid (Below w3.heap.size w3 w4) := ⟨hg3.os, hg3.tape, hg3.output, hg3.size, fun k hk => hg3.block k hk (by simp [Value.ownBlock])⟩
    have HB4 := hid (HB3.out.trans (HG3.out.mono HB3.out.size))
    have HM4 := hid ((HG3.out.block gm (hp_lt HM3.out)).trans HM3.out)
    have HO4 : Hid (OwnN w4 (gm + 1) v35 L) := hid ho3
    have HI4 := hid (HI3.out.below HG3.out)
    have HS4 := hid (Nat.le_trans HS3.out hg3.size)
    obtain ⟨a35, c35, hv35⟩ := HO4.out.shape
    subst hv35
    clear ho3 hg3
    refine hK.out _ _ HM4.out (fun hHeld => ?_)
    clear hK K
    try simp only [Act.put, List.getElem_toArray, List.getElem_cons_zero, List.getElem_cons_succ, List.setIfInBounds_toArray, List.set_cons_succ, List.set_cons_zero]
    refine wpAnyH_ready (rs := [5]) (by kernel_rfl) (by simp) ?_
    refine AllReadyH.cons rfl (fun K hK => ?_) AllReadyH.nil
    refine step_app_incs (by rfl) (.tmp 35) (.tmp 38) (by rfl) (gm + 1) _ L (by rfl) HO4.out _ [mkI, mkI] (by rfl) HI4.out (by simp; omega) HS4.out ?_
    intro v8 w5 ho5 hg5
    have HM5 := hid ((hg5.block gm (hp_lt HM4.out) (fun e => by have := (HO4.out.lt gm e.symm).1; omega)).trans HM4.out)
    have HB5 := hid (HB4.out.grown hg5 HB4.out.size (fun k hk => by have := (HO4.out.lt k hk).1; have := HGM.out; have := HB1.out.size; omega))
    obtain ⟨g8, cap8, hv8, hcap8, hkp⟩ := (key v8 w5 ho5 HM5.out HB5.out).out
    subst hv8
    have HK5 := hid hkp
    clear ho5 hg5 hkp
    refine hK.out _ _ HM5.out (fun hHeld => ?_)
    clear hK K
    try simp only [Act.put, List.getElem_toArray, List.getElem_cons_zero, List.getElem_cons_succ, List.setIfInBounds_toArray, List.set_cons_succ, List.set_cons_zero]
    refine wpAnyH_take (i := 6) (v := .slice (some ⟨g8, 0, none⟩) (L.length + 2) cap8) rfl (by kernel_rfl) (by kernel_rfl) (by kernel_rfl) (fun _ _ _ h => h) (Or.inl ⟨by rfl, fun W _ => by go_simp⟩) hHeld ?_
    simp only [Act.put, List.getElem_toArray, List.getElem_cons_zero, List.getElem_cons_succ, List.setIfInBounds_toArray, List.set_cons_succ, List.set_cons_zero]
    refine wpAnyH_done (by kernel_rfl) ?_ _
    simp only [noPanic]
    clear hHeld
    have sl := fun W => sl_toI ⟨g8, 0, none⟩ (L.length + 2) cap8 L.length (by omega) W
    have hgm := hp_lt HM5.out
    obtain ⟨nA, HnA⟩ : ∃ n, Hid (w5.heap.size = n) := ⟨_, rfl⟩
    rw [HnA.out] at hgm HK5
    have HMI := hid (fun (wr : World) (h : Kp wr gm (gm + 1) nA (.slice (some ⟨g8, 0, none⟩) (L.length + 2) cap8) (L ++ [mkI, mkI])) => (h.room.incs).take (by simp))
    have hwA : w.heap.size ≤ nA := by have := HB5.out.size; have := HnA.out; omega
    go_upto_region 6 with fail
    clear sl
    go_upto_region 7 with (go_at_call 5; refine (HI.out _ (HT.out.below HB5.out)).mono ?_; rintro r w6 ⟨va, rfl, ho, hb⟩; have HOA := hid ho; have HB6 := hid hb; obtain ⟨sa, sca, hv⟩ := ho.shape; subst hv; clear ho hb)
    have HA6 := hid (below_walk w6 (.cells #[.int .i64 e, .int .i64 (g : Int)] 28))
    have HK6 := hid ((HK5.out.below HB6.out).below HA6.out)
    have HC6a := hid (HB5.out.trans (HB6.out.mono HB5.out.size))
    have HC6 := hid (HC6a.out.trans (HA6.out.mono HC6a.out.size))
    have HO6 := hid (HOA.out.below HA6.out)
    generalize w6.alloc (.cells #[.int .i64 e, .int .i64 (g : Int)] 28) = w7 at *
    rw [HnA.out] at HO6
    obtain ⟨nB, HnB⟩ : ∃ n, Hid (w7.heap.size = n) := ⟨_, rfl⟩
    have hAB7 : nA ≤ nB := by have := HB6.out.size; have := HA6.out.size; have := HnB.out; have := HnA.out; omega
    clear HA6 HC6a HB6 HOA
    have hva := HO6.out.lt
    rw [HnB.out] at hva
    go_upto_region 8 with (go_at_call 5; refine (HI2.out _ (HT.out.below HC6.out)).mono ?_; rintro r w8 ⟨vb, rfl, ho, hb⟩; have HOB := hid ho; have HB8 := hid hb; obtain ⟨sb, scb, hv⟩ := ho.shape; subst hv; clear ho hb)
    have HA8 := hid (below_walk w8 (.cells #[.int .i64 e, .int .i64 (g : Int)] 28))
    have HK8 := hid ((HK6.out.below HB8.out).below HA8.out)
    have HC8a := hid (HC6.out.trans (HB8.out.mono HC6.out.size))
    have HC8 := hid (HC8a.out.trans (HA8.out.mono HC8a.out.size))
    have HO8 := hid (HOB.out.below HA8.out)
    have HR8 : Hid (Rw 25 3 _ nA (.slice sa P0.length sca) P0.length) := hid ⟨_, (HO6.out.below HB8.out).below HA8.out⟩
    generalize w8.alloc (.cells #[.int .i64 e, .int .i64 (g : Int)] 28) = w9 at *
    rw [HnB.out] at HO8
    have hsz9 : nB ≤ w9.heap.size := by have := HB8.out.size; have := HA8.out.size; have := HnB.out; omega
    have hAB : nA ≤ nB := hAB7
    clear HA8 HC8a HB8 HOB HO6 HK6 HC6 HK5 HB5 HM5
    go_wp2
    go_loopw [56] (fun i wr => ∃ k : Nat, i = .int .i64 k ∧ k ≤ P0.length ∧ Hid (Rw 25 3 wr nA (.slice sa P0.length sca) P0.length) ∧ Hid (OwnN wr nB (.slice sb P0.length scb) P0) ∧ Hid (Kp wr gm (gm + 1) nA (.slice (some ⟨g8, 0, none⟩) (L.length + 2) cap8) (L ++ [mkI, mkI])) ∧ Hid (Below w.heap.size w wr) ∧ nB ≤ wr.heap.size) (fun i _ => P0.length - (intOf i).toNat)
    case atStart => exact ⟨0, rfl, Nat.zero_le _, HR8, HO8, HK8, HC8, hsz9⟩
    case round =>
      clear HR8 HO8 HK8 HC8 hsz9
      obtain ⟨k, rfl, hk, HR, HO, HK, HB, hsz⟩ := hrel
      by_cases hlt : k < P0.length
      · have q1 : (k : Int) < (P0.length : Int) := by omega
        obtain ⟨ga, ca, hv, _, _⟩ := HR.out.form (by omega)
        injection hv with e1 _ e3
        subst e1 e3
        have hga := hva ga rfl
        have HTH := hid (HR.out.there3 k hlt)
        have k0 := HK.out.c0
        have k1 := HK.out.c1
        have k2 := HK.out.c2
        have gb := gb_sets3 wr ga (k * 3) (.string (mk mkI.1)) (.string (mk mkI.2.1)) (.int .i64 (-1))
        have HR' := hid (HR.out.sets3 (k * 3) (.string (mk mkI.1)) (.string (mk mkI.2.1)) (.int .i64 (-1)))
        have HO' := hid (HO.out.kept gb (apart_hi (fun k hk => (HO.out.lt k hk).1) (fun k hk => by cases hk; exact hga.2)))
        have HK' := hid (HK.out.grown gb (fun k hk => by cases hk; exact hga.1) (by omega))
        have HB' := hid (HB.out.grown gb HB.out.size (fun k hk => by cases hk; have := hga.1; omega))
        have hsz' := Nat.le_trans hsz gb.size
        clear gb
        go_wp2_with (refine wpList_store_mid (by rfl) 25 (.tmp 62) (.tmp 61) (by rfl) ga (k * 3) [.string (mk mkI.1), .string (mk mkI.2.1), .int .i64 (-1)].toArray (by rfl) (by rfl) HTH.out (by exact Tryz.infoInc1) (all_oneCell_toArray (by simp [Value.oneCell'])) ?_)
        exact ⟨⟨k + 1, by simp, by omega, HR', HO', HK', HB', hsz'⟩, by simp [intOf]; omega⟩
      · have q1 : ¬ (k : Int) < (P0.length : Int) := by omega
        have k0 := HK.out.c0
        have k1 := HK.out.c1
        have k2 := HK.out.c2
        have HBa := hid (below_walk wr (.cells #[.string (mk mkI.1), .string (mk mkI.2.1), .int .i64 (-1)] 25))
        have HRa := hid (HR.out.below HBa.out)
        have HSa := hid (src_inc wr mkI)
        have hsa : nB ≤ (wr.alloc (.cells #[.string (mk mkI.1), .string (mk mkI.2.1), .int .i64 (-1)] 25)).heap.size := Nat.le_trans hsz HBa.out.size
        have HOa := hid (HO.out.below HBa.out)
        have HKa := hid (HK.out.below HBa.out)
        have HCa := hid (HB.out.trans (HBa.out.mono HB.out.size))
        clear HR HO HK HB
        go_upto_region 14 with (refine app_rwI (by rfl) (.tmp 64) (.tmp 66) (by rfl) nA _ P0.length (by rfl) HRa.out wr.heap.size 1 [mkI] (by rfl) HSa.out (by simp; omega) (by omega) ?_; intro v13 w10 hg10; have HG10 := hid hg10; clear hg10)
        have HO10 := hid (HOa.out.kept HG10.out (apart_hi (fun k hk => (HOa.out.lt k hk).1) (fun k hk => (hva k hk).2)))
        have HK10 := hid (HKa.out.grown HG10.out (fun k hk => (hva k hk).1) (by omega))
        have HC10 := hid (HCa.out.grown HG10.out HCa.out.size (fun k hk => by have := (hva k hk).1; omega))
        have hs10 := Nat.le_trans hsa HG10.out.size
        clear HOa HKa HCa HG10 HRa HSa HBa hsa k0 k1 k2 hsz
        go_upto_region 15 with (go_at_call 6; refine (HRI.out _).mono ?_; rintro r w11 ⟨vm, rfl, ho, hb⟩; have HM11 := hid ho; have HB11 := hid hb; obtain ⟨sm, scm, hv⟩ := ho.shape; subst hv; clear ho hb)
        have HO11 := hid (HO10.out.below HB11.out)
        have HK11 := hid (HK10.out.below HB11.out)
        have HC11 := hid (HC10.out.trans (HB11.out.mono HC10.out.size))
        have hs11 := Nat.le_trans hs10 HB11.out.size
        clear HO10 HK10 HC10 HB11 hs10
        go_upto_region 17 with (go_at_call 7; refine (HSA.out _ _ _ HO11.out.incs HM11.out.incs).mono ?_; rintro r w12 ⟨rfl, q, rfl⟩)
        have HK12 := hid (HK11.out.below (below_drewN (Below.refl _ _) q))
        have HC12 := hid (below_drewN HC11.out q)
        have hs12 : nB ≤ (w11.drewN q).heap.size := hs11
        generalize w11.drewN q = w12 at *
        clear HO11 HM11 HK11 HC11 hs11
        obtain ⟨b1, Hb1⟩ : ∃ n, Hid (w12.heap.size = n) := ⟨_, rfl⟩
        have hAb1 : nA ≤ b1 := by have := Hb1.out; omega
        -- Aimed, twice
        go_upto_region 18 with (go_at_call 8; refine (HAI.out _ _ (HMI.out _ HK12.out)).mono ?_; rintro r w13 ⟨vp, rfl, ho, hb⟩; have HP13 := hid ho; have HB13 := hid hb; obtain ⟨sp, scp, hv⟩ := ho.strs.shape; subst hv; clear ho hb)
        have HA13 := hid (below_walk w13 (.cells #[.int .i64 ae, .int .i64 aa] 28))
        have HP14 := hid (HP13.out.below HA13.out)
        have HK14 := hid ((HK12.out.below HB13.out).below HA13.out)
        have HC13 := hid (HC12.out.trans (HB13.out.mono HC12.out.size))
        have HC14 := hid (HC13.out.trans (HA13.out.mono HC13.out.size))
        have hs14 := Nat.le_trans HB13.out.size HA13.out.size
        generalize w13.alloc (.cells #[.int .i64 ae, .int .i64 aa] 28) = w14 at *
        rw [Hb1.out] at HP14 hs14
        obtain ⟨b2, Hb2⟩ : ∃ n, Hid (w14.heap.size = n) := ⟨_, rfl⟩
        have hvp := HP14.out.lt
        rw [Hb2.out] at hvp hs14
        clear HA13 HC13 HB13 HP13 HK12 HC12
        go_upto_region 19 with (go_at_call 8; refine (HAI2.out _ _ (HMI.out _ HK14.out)).mono ?_; rintro r w15 ⟨vq, rfl, ho, hb⟩; have HQ15 := hid ho; have HB15 := hid hb; obtain ⟨sq, scq, hv⟩ := ho.strs.shape; subst hv; clear ho hb)
        have HA15 := hid (below_walk w15 (.cells #[.int .i64 ae, .int .i64 aa] 28))
        have HP16 := hid ((HP14.out.below HB15.out).below HA15.out)
        have HQ16 := hid (HQ15.out.below HA15.out)
        have HK16 := hid ((HK14.out.below HB15.out).below HA15.out)
        have HC15 := hid (HC14.out.trans (HB15.out.mono HC14.out.size))
        have HC16 := hid (HC15.out.trans (HA15.out.mono HC15.out.size))
        have hs16 := Nat.le_trans HB15.out.size HA15.out.size
        generalize w15.alloc (.cells #[.int .i64 ae, .int .i64 aa] 28) = w16 at *
        rw [Hb2.out] at HQ16 hs16
        obtain ⟨b3, Hb3⟩ : ∃ n, Hid (w16.heap.size = n) := ⟨_, rfl⟩
        have hvq := HQ16.out.lt
        rw [Hb3.out] at hvq hs16
        clear HA15 HC15 HB15 HQ15 HK14 HC14 HP14
        -- Names, twice
        go_upto_region 20 with first
          | (go_at_call 9; with_reducible refine (HNA.out _ _ (HMI.out _ HK16.out)).mono ?_; rintro r w17 ⟨vn, rfl, ho, hb⟩; have HN17 := hid ho; have HB17 := hid hb; obtain ⟨sn, scn, hv⟩ := ho.strs.shape; rw [hnl] at hv; subst hv; have HK17 := hid (HK16.out.below hb); clear ho hb)
          | (go_at_call 9; with_reducible refine (HNA2.out _ _ (HMI.out _ HK17.out)).mono ?_; rintro r w18 ⟨vk, rfl, ho, hb⟩; have HO18 := hid ho; have HB18 := hid hb; obtain ⟨sk, sck, hv⟩ := ho.strs.shape; rw [hnl] at hv; subst hv; have HK18 := hid (HK17.out.below hb); clear ho hb)
        obtain ⟨b4, Hb4⟩ : ∃ n, Hid (w17.heap.size = n) := ⟨_, rfl⟩
        have hvn := HN17.out.lt
        have hs17 := HB17.out.size
        have hs18 := HB18.out.size
        rw [Hb3.out, Hb4.out] at hvn hs17
        rw [Hb4.out] at hs18
        have HC17 := hid (HC16.out.trans (HB17.out.mono HC16.out.size))
        have HC18 := hid (HC17.out.trans (HB18.out.mono HC17.out.size))
        have HP18 : Hid (Rw 9 1 w18 b1 (.slice sp ts.length scp) ts.length) := hid ⟨_, (HP16.out.below HB17.out).below HB18.out⟩
        have HQ18 := hid ((HQ16.out.below HB17.out).below HB18.out)
        have HN18 : Hid (Rw 9 1 w18 b3 (.slice sn L.length scn) L.length) := hid ⟨_, by have h9 := HN17.out.below HB18.out; rw [Hb3.out] at h9; unfold OwnS at h9; rw [hnl] at h9; exact h9⟩
        rw [Hb4.out] at HO18
        clear HP16 HQ16 HK16 HC16 HB17 HB18 HN17 HK17 HC17
        go_wp2
        go_loopw [97] (fun i wr => ∃ k : Nat, i = .int .i64 k ∧ k ≤ ts.length ∧ Hid (Rw 9 1 wr b1 (.slice sp ts.length scp) ts.length) ∧ Hid (OwnS wr b2 (.slice sq ts.length scq) ts) ∧ Hid (Rw 9 1 wr b3 (.slice sn L.length scn) L.length) ∧ Hid (OwnS wr b4 (.slice sk L.length sck) (nmL L)) ∧ Hid (Kp wr gm (gm + 1) nA (.slice (some ⟨g8, 0, none⟩) (L.length + 2) cap8) (L ++ [mkI, mkI])) ∧ Hid (Below w.heap.size w wr) ∧ b4 ≤ wr.heap.size) (fun i _ => ts.length - (intOf i).toNat)
        case atStart => exact ⟨0, rfl, Nat.zero_le _, HP18, HQ18, HN18, HO18, HK18, HC18, hs18⟩
        case round =>
          clear HP18 HQ18 HN18 HO18 HK18 HC18 hs18
          obtain ⟨k, rfl, hk, HP, HQ, HN, HO, HK, HB, hsz⟩ := hrel
          by_cases hlt : k < ts.length
          · have q1 : (k : Int) < (ts.length : Int) := by omega
            obtain ⟨gp, cp, hv, _, _⟩ := HP.out.form (by omega)
            injection hv with e1 _ e3
            subst e1 e3
            have hgp := hvp gp rfl
            obtain ⟨⟨u, hu⟩, hfz⟩ := HP.out.cell k (by omega)
            have gb : wr.grownBy (wr.setCell ⟨gp, k, none⟩ (.string ⟨#[120]⟩)) (some gp) := gb_set wr ⟨gp, k, none⟩ (.string ⟨#[120]⟩)
            have HP' := hid (HP.out.set k (.string ⟨#[120]⟩))
            have HQ' := hid (HQ.out.kept gb (apart_hi (b := b2) (fun k hk => (HQ.out.lt k hk).1) (fun k hk => by cases hk; exact hgp.2)))
            have HN' := hid (HN.out.kept gb (apart_hi (b := b2) (fun k hk => by have := (HN.out.lt k hk).1; omega) (fun k hk => by cases hk; exact hgp.2)))
            have HO' := hid (HO.out.kept gb (apart_hi (b := b2) (fun k hk => by have := (HO.out.lt k hk).1; omega) (fun k hk => by cases hk; exact hgp.2)))
            have HK' := hid (HK.out.grown gb (fun k hk => by cases hk; exact Nat.le_trans hAb1 hgp.1) (by omega))
            have HB' := hid (HB.out.grown gb HB.out.size (fun k hk => by cases hk; have := hgp.1; omega))
            have hsz' := Nat.le_trans hsz gb.size
            clear gb
            go_wp2
            exact ⟨⟨k + 1, by simp, by omega, HP', HQ', HN', HO', HK', HB', hsz'⟩, by simp [intOf]; omega⟩
          · have q1 : ¬ (k : Int) < (ts.length : Int) := by omega
            go_wp2
            obtain ⟨w19, hw19⟩ : ∃ W, W = wr := ⟨_, rfl⟩
            subst hw19
            go_loopw [106] (fun i wr => ∃ k : Nat, i = .int .i64 k ∧ k ≤ L.length ∧ Hid (Rw 9 1 wr b1 (.slice sp ts.length scp) ts.length) ∧ Hid (OwnS wr b2 (.slice sq ts.length scq) ts) ∧ Hid (Rw 9 1 wr b3 (.slice sn L.length scn) L.length) ∧ Hid (OwnS wr b4 (.slice sk L.length sck) (nmL L)) ∧ Hid (Kp wr gm (gm + 1) nA (.slice (some ⟨g8, 0, none⟩) (L.length + 2) cap8) (L ++ [mkI, mkI])) ∧ Hid (Below w.heap.size w wr) ∧ b4 ≤ wr.heap.size) (fun i _ => L.length - (intOf i).toNat)
            case atStart => exact ⟨0, rfl, Nat.zero_le _, HP, HQ, HN, HO, HK, HB, hsz⟩
            case round =>
              clear HP HQ HN HO HK HB hsz
              obtain ⟨j, rfl, hj, HP, HQ, HN, HO, HK, HB, hsz⟩ := hrel
              by_cases hjt : j < L.length
              · have q2 : (j : Int) < (L.length : Int) := by omega
                obtain ⟨gn, cn, hv, _, _⟩ := HN.out.form (by omega)
                injection hv with e1 _ e3
                subst e1 e3
                have hgn := hvn gn rfl
                obtain ⟨⟨u, hu⟩, hfz⟩ := HN.out.cell j (by omega)
                have gb : wr.grownBy (wr.setCell ⟨gn, j, none⟩ (.string ⟨#[121]⟩)) (some gn) := gb_set wr ⟨gn, j, none⟩ (.string ⟨#[121]⟩)
                have HN' := hid (HN.out.set j (.string ⟨#[121]⟩))
                have HP' := hid (HP.out.kept gb (apart_lo (b := b3) (fun k hk => by have := (hvp k hk).2; omega) (fun k hk => by cases hk; exact hgn.1)))
                have HQ' := hid (HQ.out.kept gb (apart_lo (b := b3) (fun k hk => (hvq k hk).2) (fun k hk => by cases hk; exact hgn.1)))
                have HO' := hid (HO.out.kept gb (apart_hi (b := b4) (fun k hk => (HO.out.lt k hk).1) (fun k hk => by cases hk; exact hgn.2)))
                have HK' := hid (HK.out.grown gb (fun k hk => by cases hk; have := hgn.1; omega) (by omega))
                have HB' := hid (HB.out.grown gb HB.out.size (fun k hk => by cases hk; have := hgn.1; omega))
                have hsz' := Nat.le_trans hsz gb.size
                clear gb
                go_wp2
                exact ⟨⟨j + 1, by simp, by omega, HP', HQ', HN', HO', HK', HB', hsz'⟩, by simp [intOf]; omega⟩
              · have q2 : ¬ (j : Int) < (L.length : Int) := by omega
                -- two appends
                have HBa := hid (below_walk wr (.cells #[.string ⟨#[122]⟩] 9))
                have HCz := hid (show (wr.alloc (.cells #[.string ⟨#[122]⟩] 9)).cell? ⟨wr.heap.size, 0, none⟩ = some (.string (mk [122])) by rw [cell_of_row _ _ _ _ _ _ (hp_new wr (.cells #[.string ⟨#[122]⟩] 9))]; rfl)
                have HPa := hid (HP.out.below HBa.out)
                have HQa := hid (HQ.out.below HBa.out)
                have HNa := hid (HN.out.below HBa.out)
                have HOa := hid (HO.out.below HBa.out)
                have HKa := hid (HK.out.below HBa.out)
                have HCa := hid (HB.out.trans (HBa.out.mono HB.out.size))
                have hsa := Nat.le_trans hsz HBa.out.size
                clear HP HQ HN HO HK HB
                go_upto_region 31 with (refine app_rwS (by rfl) (.tmp 113) (.tmp 114) (by rfl) b1 _ ts.length (by rfl) HPa.out wr.heap.size 1 [122] (by rfl) HCz.out (by omega) (by omega) ?_; intro v20 w20 hg; have HG := hid hg; clear hg)
                have HQ20 := hid (HQa.out.kept HG.out (apart_hi (b := b2) (fun k hk => (HQa.out.lt k hk).1) (fun k hk => (hvp k hk).2)))
                have HN20 := hid (HNa.out.kept HG.out (apart_hi (b := b2) (fun k hk => by have := (HNa.out.lt k hk).1; omega) (fun k hk => (hvp k hk).2)))
                have HO20 := hid (HOa.out.kept HG.out (apart_hi (b := b2) (fun k hk => by have := (HOa.out.lt k hk).1; omega) (fun k hk => (hvp k hk).2)))
                have HK20 := hid (HKa.out.grown HG.out (fun k hk => by have := (hvp k hk).1; omega) (by omega))
                have HC20 := hid (HCa.out.grown HG.out HCa.out.size (fun k hk => by have := (hvp k hk).1; omega))
                have hs20 := Nat.le_trans hsa HG.out.size
                clear HQa HNa HOa HKa HCa HPa HBa HCz HG hsa
                have HBa := hid (below_walk w20 (.cells #[.string ⟨#[122]⟩] 9))
                have HCz := hid (show (w20.alloc (.cells #[.string ⟨#[122]⟩] 9)).cell? ⟨w20.heap.size, 0, none⟩ = some (.string (mk [122])) by rw [cell_of_row _ _ _ _ _ _ (hp_new w20 (.cells #[.string ⟨#[122]⟩] 9))]; rfl)
                have HQa := hid (HQ20.out.below HBa.out)
                have HNa := hid (HN20.out.below HBa.out)
                have HOa := hid (HO20.out.below HBa.out)
                have HKa := hid (HK20.out.below HBa.out)
                have HCa := hid (HC20.out.trans (HBa.out.mono HC20.out.size))
                have hsa := Nat.le_trans hs20 HBa.out.size
                clear HQ20 HN20 HO20 HK20 HC20
                go_upto_region 32 with (refine app_rwS (by rfl) (.tmp 116) (.tmp 117) (by rfl) b3 _ L.length (by rfl) HNa.out w20.heap.size 1 [122] (by rfl) HCz.out (by omega) (by omega) ?_; intro v21 w21 hg; have HG := hid hg; clear hg)
                have HQ21 := hid (HQa.out.kept HG.out (apart_lo (b := b3) (fun k hk => (hvq k hk).2) (fun k hk => (hvn k hk).1)))
                have HO21 := hid (HOa.out.kept HG.out (apart_hi (b := b4) (fun k hk => (HOa.out.lt k hk).1) (fun k hk => (hvn k hk).2)))
                have HK21 := hid (HKa.out.grown HG.out (fun k hk => by have := (hvn k hk).1; omega) (by omega))
                have HC21 := hid (HCa.out.grown HG.out HCa.out.size (fun k hk => by have := (hvn k hk).1; omega))
                clear HQa HNa HOa HKa HCa HBa HCz HG hsa hs20 hsz
                go_upto_region 33 with (go_at_call 10; refine (HWI.out _ _ (HT.out.below HC21.out) (HMI.out _ HK21.out)).mono ?_; rintro r w22 ⟨rfl, hb⟩; have HB22 := hid hb; clear hb)
                have HQ22 := hid (HQ21.out.below HB22.out)
                have HO22 := hid (HO21.out.below HB22.out)
                have HK22 := hid (HK21.out.below HB22.out)
                have HC22 := hid (HC21.out.trans (HB22.out.mono HC21.out.size))
                clear HQ21 HO21 HK21 HC21 HB22
                go_upto_region 34 with (go_at_call 11; refine (HRA.out _ _ (HIN.out.below HC22.out)).mono ?_; rintro r w23 ⟨vw, rfl, ho, hb⟩; have HW23 := hid ho.strs; have HB23 := hid hb; obtain ⟨sw, scw, hv⟩ := ho.strs.shape; subst hv; clear ho hb)
                have HQ23 := hid (HQ22.out.below HB23.out).strs
                have HO23 := hid (HO22.out.below HB23.out).strs
                have HK23 := hid (HK22.out.below HB23.out)
                have HC23 := hid (HC22.out.trans (HB23.out.mono HC22.out.size))
                have HI23 := hid (HIN.out.below HC23.out)
                clear HQ22 HO22 HK22 HC22 HB23
                go_wp2
                go_loopw [131] (fun i wr => ∃ k q : Nat, i = .int .i64 k ∧ k ≤ L.length ∧ wr = w23.drewN q) (fun i _ => L.length - (intOf i).toNat)
                case atStart => exact ⟨0, 0, rfl, Nat.zero_le _, rfl⟩
                case round =>
                  obtain ⟨i, q, rfl, hi, rfl⟩ := hrel
                  by_cases hit : i < L.length
                  · have q3 : (i : Int) < (L.length : Int) := by omega
                    obtain ⟨g1, o1, hs1, u0⟩ := HO23.out.at i (by rw [hnl]; exact hit)
                    obtain ⟨g2, o2, hs2, _, _, y1, _⟩ := HI23.out.at i hit
                    subst hs1 hs2
                    have hnm : (nmL L).getD i [] = (L.getD i noI).2.1 := by
                      unfold nmL
                      rw [List.getD_eq_getElem?_getD, List.getD_eq_getElem?_getD, List.getElem?_map, List.getElem?_eq_getElem hit]
                      rfl
                    rw [hnm] at u0
                    obtain ⟨n, HNN⟩ : ∃ t, Hid ((L.getD i noI).2.1 = t) := ⟨_, rfl⟩
                    rw [HNN.out] at u0 y1
                    have f2 : ((mk n).toList == (mk n).toList) = true := by simp
                    clear hnm
                    go_wp2_with fail
                    go_quiet (fail)
                    go_wp2
                    exact ⟨⟨i + 1, _, by simp, by omega, rfl⟩, by simp [intOf]; omega⟩
                  · have q3 : ¬ (i : Int) < (L.length : Int) := by omega
                    have hi2 : i = L.length := by omega
                    subst hi2
                    have HBq : Hid (Below w23.heap.size w23 (w23.drewN q)) := hid (below_drewN (Below.refl _ _) q)
                    have HQ24 := hid (HQ23.out.below HBq.out)
                    have HW24 := hid (HW23.out.below HBq.out)
                    have HK24 := hid (HK23.out.below HBq.out)
                    have HI24 := hid (HI23.out.below HBq.out)
                    have HC24 := hid (below_drewN HC23.out q)
                    generalize w23.drewN q = w24 at *
                    clear HBq HQ23 HW23 HK23 HI23 HC23 HO23
                    have hroom := HK24.out.room.incs
                    have hg0 : (L ++ [mkI, mkI]).getD L.length noI = mkI := by rw [List.getD_eq_getElem?_getD, List.getElem?_append_right (by omega), Nat.sub_self]; rfl
                    have hg1 : (L ++ [mkI, mkI]).getD (L.length + 1) noI = mkI := by rw [List.getD_eq_getElem?_getD, List.getElem?_append_right (by omega), show L.length + 1 - L.length = 1 by omega]; rfl
                    obtain ⟨gx, ox, hx, _, r0, r1, r2⟩ := hroom.at L.length (by simp)
                    injection hx with hx
                    injection hx with hx1 hx2
                    subst hx1 hx2
                    obtain ⟨gy, oy, hy, _, r3, r4, r5⟩ := hroom.at (L.length + 1) (by simp)
                    injection hy with hy
                    injection hy with hy1 hy2
                    subst hy1 hy2
                    rw [hg0] at r0 r1 r2
                    rw [hg1] at r3 r4 r5
                    simp only [Nat.zero_add] at r0 r1 r2 r3 r4 r5
                    change _ = some (Value.int .i64 (-1)) at r2 r5
                    have k0 := HK24.out.c0
                    have k1 := HK24.out.c1
                    have k2 := HK24.out.c2
                    clear hroom hg0 hg1
                    have hw1 : IntKind.i64.wrap ((L.length : Int) + 1) = (L.length : Int) + 1 := by rw [IntKind.wrap_i64]; omega
                    go_wp2_with fail
                    have HMI24 := hid (HMI.out _ HK24.out)
                    have f0 : (L.length : Int) < ((L.length + 2 : Nat) : Int) := by omega
                    have f1 : (L.length : Int) < (L.length : Int) + 2 := by omega
                    have f2 : (L.length : Int) + 1 < ((L.length + 2 : Nat) : Int) := by omega
                    have f3 : (L.length : Int) + 1 < (L.length : Int) + 2 := by omega
                    have f4 : (0 : Int) ≤ (L.length : Int) + 1 := by omega
                    have f5 : ((L.length : Int) + 1).toNat = L.length + 1 := by omega
                    go_quiet (first
                      | (go_at_call 12; exact Calls.quiet_of (HSS.out _ _ _ (HQ24.out.below (below_drewN (Below.refl _ _) _)) (HW24.out.below (below_drewN (Below.refl _ _) _))))
                      | (go_at_call 7; exact Calls.quiet_of (HSL.out _ _ _ (HMI24.out.below (below_drewN (Below.refl _ _) _)) (HI24.out.below (below_drewN (Below.refl _ _) _)))))
                    go_wp2
                    go_ret
                    exact ⟨rfl, below_drewN HC24.out _⟩

end Go.Proofs.YtlpengaclkidiaaGreatDoor

/- Includes out of their reading, in the full form. -/
namespace Go.Proofs.YtlpengaclkidiaaGreatDoor
open Go.ChangeShapes Go.WideShapes Go.ChangeAt Go.RowKit

theorem cellsInc : Tryz.prog.cellsOf 25 = 3 := by kernel_rfl
theorem cellsInt : Tryz.prog.cellsOf 3 = 1 := by kernel_rfl
theorem cellsStr : Tryz.prog.cellsOf 9 = 1 := by kernel_rfl
theorem bytesInc : Tryz.prog.bytesOf 25 = 40 := by kernel_rfl
theorem three_of {α : Type} {l : List α} (h : l.length = 3) : ∃ a b c, l = [a, b, c] := by
  match l, h with
  | [a, b, c], _ => exact ⟨a, b, c, rfl⟩
theorem addr_plain {w : World} {a : Addr} {v : Value} (h : w.cell? a = some v) : a = ⟨a.block, a.off, none⟩ := by
  obtain ⟨b, o, sp⟩ := a
  cases sp with
  | none => rfl
  | some s =>
    unfold World.cell? at h
    split at h <;> simp at h
theorem add_plain (b o j : Nat) : (⟨b, o, none⟩ : Addr).add j = ⟨b, o + j, none⟩ := by
  by_cases h : j = 0
  · subst h; simp [Addr.add]
  · simp [Addr.add, h]
theorem list_of {α : Type} {P : Nat → α → Prop} : ∀ {n : Nat}, (∀ i, i < n → ∃ x, P i x) → ∃ l : List α, l.length = n ∧ ∀ j x, l[j]? = some x → P j x
  | 0, _ => ⟨[], rfl, by intro j x h; simp at h⟩
  | n + 1, h => by
    obtain ⟨l, hl, hp⟩ := list_of (n := n) (fun i hi => h i (by omega))
    obtain ⟨x, hx⟩ := h n (by omega)
    refine ⟨l ++ [x], by simp [hl], fun j y hj => ?_⟩
    rcases Nat.lt_or_ge j n with hjn | hjn
    · rw [List.getElem?_append_left (by omega)] at hj
      exact hp j y hj
    · rw [List.getElem?_append_right (by omega)] at hj
      have : j - l.length = 0 := by
        rcases Nat.eq_zero_or_pos (j - l.length) with h0 | h0
        · exact h0
        · rw [List.getElem?_eq_none (by simp; omega)] at hj; cases hj
      rw [this] at hj
      simp at hj
      subst hj
      obtain rfl : j = n := by omega
      exact hx
theorem weightsAll_mem {H : Type} {P : Program} {e : TypeId} : ∀ {l : List (DataW H)} {d : DataW H}, d ∈ l → ∀ n ∈ d.weights P e, n ∈ DataW.weightsAll P e l
  | d' :: r, d, hd, n, hn => by
    simp only [DataW.weightsAll, List.mem_append]
    rcases List.mem_cons.1 hd with rfl | h
    · exact Or.inl hn
    · exact Or.inr (weightsAll_mem h n hn)


section
variable {H : Type} {enc : TypeId × Value → H} {W : World} {spare : Nat → Bool} {held : Bool}
theorem sized_at {ts : List TypeId} {ds : List (DataW H)} (h : ((DataW.weightsEach Tryz.prog ts ds).all fun x => decide (x ≤ reachBytes)) = true) {j : Nat} {t : TypeId} {d : DataW H} (ht : ts[j]? = some t) (hd : ds[j]? = some d) : ∀ x ∈ d.weights Tryz.prog t, x ≤ reachBytes :=
  fun x hx => of_decide_eq_true (List.all_eq_true.1 h _ (DataW.weights_mem_each ht hd x hx))

/-- one entry -/
theorem inc_w {fuel : Nat} {cs : List Value} {x : DataW H × List MemPlace} (h : DataW.trod enc Tryz.prog W 0 spare held fuel 25 cs = some x) (hk : ∀ n ∈ x.1.weights Tryz.prog 25, n ≤ reachBytes) :
    ∃ e : List UInt8 × List UInt8 × Int, cs = icC e ∧ e.1.length ≤ reachBytes ∧ e.2.1.length ≤ reachBytes := by
  obtain ⟨y0, y1, y2, n, hx, hl, t0, t1, t2⟩ := Go.Deep.trod_struct3 Tryz.underlying25 h
  rw [cellsInc] at hl
  obtain ⟨a, b, c, rfl⟩ := three_of hl
  simp only [cellsStr, cellsInt] at t0 t1 t2
  obtain ⟨s0, e0, f0, _⟩ := DataW.trod_string Tryz.underlying9 t0
  obtain ⟨s2, e1, f2, _⟩ := DataW.trod_string Tryz.underlying9 t1
  obtain ⟨K, e2, f1⟩ := DataW.trod_int Tryz.underlying3 t2
  simp at e0 e1 e2
  subst e0 e1 e2
  rw [hx, f0, f2] at hk
  refine ⟨(bl s0, bl s2, K), by unfold icC; rw [mk_bl, mk_bl], ?_, ?_⟩
  · refine hk _ ?_
    simp [DataW.weights, DataW.weightsEach, Tryz.underlying25, bl_eq]
  · refine hk _ ?_
    simp [DataW.weights, DataW.weightsEach, Tryz.underlying25, bl_eq]

set_option maxRecDepth 100000 in
theorem incs_w {ao : Option Addr} {n c : Nat} {d : DataW H} {pl : List MemPlace} (h : DataW.Trod enc Tryz.prog W 0 spare held 22 (.slice ao n c) d pl) (hk : ∀ x ∈ d.weights Tryz.prog 22, x ≤ reachBytes) :
    ∃ es : List (List UInt8 × List UInt8 × Int), Incs W (.slice ao n c) es ∧ (∀ x ∈ es, x.1.length ≤ 140737488355328 ∧ x.2.1.length ≤ 140737488355328) ∧ es.length ≤ 3518437208883 := by
  have hr : reachBytes < 2 ^ 47 := reachBytes_lt
  obtain ⟨fuel, hf⟩ := h
  rcases Go.Deep.open_slice Tryz.underlying22 hf with ⟨hcs, _⟩ | ⟨a, len, cap, m, n', D, Pl, hcs, _, hl, hm, hmm, hx, hel⟩
  · simp [Value.cells] at hcs
    obtain ⟨rfl, rfl, rfl⟩ := hcs
    exact ⟨[], Or.inl ⟨_, _, rfl, rfl, fun _ => rfl⟩, fun e h => (by cases h), by simp⟩
  · simp [Value.cells] at hcs
    obtain ⟨rfl, rfl, rfl⟩ := hcs
    have hlm : n ≤ m := by rw [hmm]; split <;> omega
    rw [cellsInc] at hel
    simp only [Prod.mk.injEq] at hx
    obtain ⟨rfl, _⟩ := hx
    have hn : n ≤ 3518437208883 := by
      have := hk (((List.range n).map D).length * Tryz.prog.bytesOf 25 + ((List.range (m - n)).map fun j => D (n + j)).length * Tryz.prog.bytesOf 25) (by simp [DataW.weights, Tryz.underlying22, Nat.add_mul])
      rw [bytesInc] at this
      simp at this
      omega
    have hw : ∀ i, i < n → ∀ x ∈ (D i).weights Tryz.prog 25, x ≤ reachBytes := fun i hi x hxm => hk x (by
      simp only [DataW.weights, Tryz.underlying22, List.mem_cons, List.mem_append]
      exact Or.inr (Or.inl (weightsAll_mem (List.mem_map.2 ⟨i, List.mem_range.2 hi, rfl⟩) x hxm)))
    obtain ⟨es, hes, hp⟩ := list_of (P := fun i (e : List UInt8 × List UInt8 × Int) => W.cell? (a.add (i * 3)) = some (.string (mk e.1)) ∧ W.cell? ((a.add (i * 3)).add 1) = some (.string (mk e.2.1)) ∧ W.cell? ((a.add (i * 3)).add 2) = some (.int .i64 e.2.2) ∧ e.1.length ≤ reachBytes ∧ e.2.1.length ≤ reachBytes) (n := n) (by
      intro i hi
      obtain ⟨cs', hc, ht⟩ := hel i (by omega)
      obtain ⟨e, rfl, hb⟩ := inc_w ht (hw i hi)
      have hh := World.cells?_some hc
      exact ⟨e, by simpa [Addr.add, icC] using hh.2.2 0 (by omega), by simpa [icC] using hh.2.2 1 (by omega), by simpa [icC] using hh.2.2 2 (by omega), hb⟩)
    refine ⟨es, ?_, ?_, by omega⟩
    · rcases Nat.eq_zero_or_pos n with rfl | hpos
      · exact Or.inl ⟨_, _, rfl, List.length_eq_zero_iff.1 hes, fun e => by cases e⟩
      · have hg : ∀ j, j < n → es[j]? = some (es.getD j noI) := fun j hj => by rw [List.getD_eq_getElem?_getD, List.getElem?_eq_getElem (show j < es.length by omega)]; rfl
        have h0 := (hp 0 _ (hg 0 hpos)).1
        have ha : a = ⟨a.block, a.off, none⟩ := addr_plain (v := .string (mk (es.getD 0 noI).1)) (by simpa [Addr.add] using h0)
        have hlt : a.block < W.heap.size := World.block_lt_of_cell? W a (u := .string (mk (es.getD 0 noI).1)) (by simpa [Addr.add] using h0)
        generalize a.block = g at ha hlt
        generalize a.off = o at ha
        subst ha
        refine Or.inr ⟨g, o, c, by rw [hes], hlt, by rw [hes]; exact hl, fun j hj => ?_⟩
        obtain ⟨c0, c1, c2, _⟩ := hp j _ (hg j (by omega))
        simp only [add_plain] at c0 c1 c2
        exact ⟨c0, c1, c2⟩
    · intro e he
      obtain ⟨j, hj, rfl⟩ := List.mem_iff_getElem.1 he
      have h1 := (hp j _ (List.getElem?_eq_getElem hj)).2.2.2
      omega
end

end Go.Proofs.YtlpengaclkidiaaGreatDoor

/- Rows of the second form whose tables are laid; includes out of their reading, by their bulk. -/
namespace Go.Proofs.YtlpengaclkidiaaGreatDoor
open Go.ChangeShapes Go.WideShapes Go.ChangeAt Go.RowKit

section
variable {H : Type} {enc : TypeId × Value → H}
theorem returns_cond_and {a : Assume} {C : Checked} {os : Os} {f : FuncId} {fn : Func} {s : OpenSpec} {k : (H : Type) → List (DataW H) → Bool} (hk : s.cond = some k) {F : Stop.Interp} {conds : List PathCond} {apart fresh handsOn again : Bool} {X : World → Array Value → Prop}
    (hX : ∀ (w w' : World) (args : Array Value), w.heap = w'.heap → X w args → X w' args)
    (own : ownKnob C.prog.godebug = none) (started : os.Started) (noInit : C.prog.inits.idxOf? f = none) (hfn : C.prog.funcs[f]? = some fn)
    (witness : ∃ (w : World) (tape : Tape) (i : Input), w.os = os ∧ (w.forCall tape i).Shaped C.prog ∧ i.vars = [] ∧ Input.okWide C.prog (w.forCall tape i) .any w.heap.size f i ∧
      ((s.pre enc C.prog fn conds apart (w.forCall tape i).memory i.args ∧ X (w.forCall tape i).memory i.args) ∧ sizedMet enc C.prog fn s apart (w.forCall tape i).memory i.args) ∧ a.holds C.prog (lone (Frame.enter C.prog f i.args .normal) [] (w.forCall tape i)))
    (contract : ∀ (W : World) (base : Nat) (args : Array Value) (ds gs : List (DataW H)) (before : List MemPlace),
      (∀ (j : Nat) t v, fn.params[j]? = some t → args[j]? = some v → Value.okWide C.prog W .any base t v) →
      DataW.Whole enc C.prog fn.params.toList s.vars apart W args.toList ds gs before →
      k H (ds ++ gs) = true → X W args →
      Calls C.prog f args W fun e W' => ∃ v, e = .returned v ∧ (s.at F).post enc C.prog fn apart fresh handsOn again W args v W') :
    ReturnsInHanded a C os f .any (fun w args => (s.pre enc C.prog fn conds apart w args ∧ X w args) ∧ sizedMet enc C.prog fn s apart w args) ((s.at F).post enc C.prog fn apart fresh handsOn again) := by
  refine returnsInHanded_of_calls own started noInit witness ?_
  intro w tape i _ _ _ hok hpre _
  obtain ⟨_, _, _, fn', hfn', _, _, _, _, hval⟩ := hok
  have e : fn' = fn := Option.some.inj (hfn'.symm.trans hfn)
  subst e
  obtain ⟨⟨hp, hx⟩, _⟩ := hpre
  obtain ⟨ds, gs, before, hw, _, hkk⟩ := (OpenSpec.pre_some hk conds apart _ _).1 hp
  have hw' := DataW.Whole.of_heap (w' := w.forCall tape i) (by rfl) hw
  refine (contract (w.forCall tape i) w.heap.size i.args ds gs before hval hw' hkk (hX _ _ _ (by rfl) hx)).mono fun e W' ⟨v, he, hp⟩ => ?_
  subst he
  exact ChangeSpec.post_blind hp

theorem witness_cond {C : Checked} {os : Os} {f : FuncId} {fn : Func} {s : OpenSpec} {k : (H : Type) → List (DataW H) → Bool} (hk : s.cond = some k) {conds : List PathCond} {apart : Bool} {X : World → Array Value → Prop} (modest : Bool) (w0 : World) (args : Array Value) (fuel : Nat) (hos : w0.os = os)
    (hsh : (w0.forCall (fun _ _ => 0) ⟨#[], args, []⟩).Shaped C.prog)
    (hok : Input.okWideB C.prog (w0.forCall (fun _ _ => 0) ⟨#[], args, []⟩) f ⟨#[], args, []⟩ = true)
    {x : List (DataW H) × List (DataW H) × List MemPlace} (hx : DataW.whole enc C.prog (w0.forCall (fun _ _ => 0) ⟨#[], args, []⟩).memory fn.params.toList s.vars apart args.toList fuel = some x)
    (hconds : conds.all (PathCond.test C.prog ⟨fn.params.toList, x.1, s.bare.plain.varTypes C.prog, x.2.1⟩) = true) (hkk : k H (x.1 ++ x.2.1) = true)
    (hsz : s.bare.sizedB enc C.prog fn apart (w0.forCall (fun _ _ => 0) ⟨#[], args, []⟩).memory args fuel = true)
    (hX : X (w0.forCall (fun _ _ => 0) ⟨#[], args, []⟩).memory args) :
    ∃ (w : World) (tape : Tape) (i : Input), w.os = os ∧ (w.forCall tape i).Shaped C.prog ∧ i.vars = [] ∧ Input.okWide C.prog (w.forCall tape i) .any w.heap.size f i ∧
      ((s.pre enc C.prog fn conds apart (w.forCall tape i).memory i.args ∧ X (w.forCall tape i).memory i.args) ∧ sizedMet enc C.prog fn s apart (w.forCall tape i).memory i.args) ∧ ({ modest := modest } : Assume).holds C.prog (lone (Frame.enter C.prog f i.args .normal) [] (w.forCall tape i)) :=
  ⟨w0, fun _ _ => 0, ⟨#[], args, []⟩, hos, hsh, (Input.okWide_of_okWideB (base := 0) hok).1, (Input.okWide_of_okWideB hok).2,
    ⟨⟨(OpenSpec.pre_some hk conds apart _ _).2 ⟨x.1, x.2.1, x.2.2, DataW.Whole_of_whole hx, hconds, hkk⟩, hX⟩, sizedMet_of_sizedB hsz⟩, by
    simp only [Assume.holds]
    exact ⟨by simp, by simp, fun _ => Modest.zero, by simp, by simp⟩⟩
end

section
variable {H : Type}
theorem bulk_pos (d : DataW H) : 1 ≤ Rows.uptoBulk d := by
  cases d with
  | lit l => cases l <;> simp [Rows.uptoBulk]
  | _ => simp [Rows.uptoBulk]
theorem bulk_mem {d : DataW H} : ∀ {l : List (DataW H)}, d ∈ l → Rows.uptoBulk d ≤ Rows.uptoBulkAll l
  | [], h => by cases h
  | x :: r, h => by
    simp only [Rows.uptoBulkAll]
    rcases List.mem_cons.1 h with rfl | h
    · omega
    · have := bulk_mem h; omega
theorem bulk_count : ∀ (l : List (DataW H)), l.length ≤ Rows.uptoBulkAll l
  | [] => by simp
  | x :: r => by
    have h1 := bulk_pos x
    have h2 := bulk_count r
    simp only [Rows.uptoBulkAll, List.length_cons]
    omega
theorem small {l : List (DataW H)} (hk : Rows.uptoSmall H l = true) : Rows.uptoBulkAll l ≤ 1048576 := of_decide_eq_true hk
end

section
variable {H : Type} {enc : TypeId × Value → H} {W : World} {spare : Nat → Bool} {held : Bool}
/-- one entry -/
theorem inc_b {fuel : Nat} {cs : List Value} {x : DataW H × List MemPlace} (h : DataW.trod enc Tryz.prog W 0 spare held fuel 25 cs = some x) :
    ∃ e : List UInt8 × List UInt8 × Int, cs = icC e ∧ e.1.length + e.2.1.length < Rows.uptoBulk x.1 := by
  obtain ⟨y0, y1, y2, n, hx, hl, t0, t1, t2⟩ := Go.Deep.trod_struct3 Tryz.underlying25 h
  rw [cellsInc] at hl
  obtain ⟨a, b, c, rfl⟩ := three_of hl
  simp only [cellsStr, cellsInt] at t0 t1 t2
  obtain ⟨s0, e0, f0, _⟩ := DataW.trod_string Tryz.underlying9 t0
  obtain ⟨s2, e1, f2, _⟩ := DataW.trod_string Tryz.underlying9 t1
  obtain ⟨K, e2, f1⟩ := DataW.trod_int Tryz.underlying3 t2
  simp at e0 e1 e2
  subst e0 e1 e2
  refine ⟨(bl s0, bl s2, K), by unfold icC; rw [mk_bl, mk_bl], ?_⟩
  rw [hx, f0, f2]
  have := bulk_pos y2.1
  simp only [Rows.uptoBulk, Rows.uptoBulkAll, bl_eq]
  omega

set_option maxRecDepth 100000 in
theorem incs_b {ao : Option Addr} {n c : Nat} {d : DataW H} {pl : List MemPlace} (h : DataW.Trod enc Tryz.prog W 0 spare held 22 (.slice ao n c) d pl) (hk : Rows.uptoBulk d ≤ 1048576) :
    ∃ es : List (List UInt8 × List UInt8 × Int), Incs W (.slice ao n c) es ∧ (∀ x ∈ es, x.1.length ≤ 1048576 ∧ x.2.1.length ≤ 1048576) ∧ es.length ≤ 1048576 := by
  obtain ⟨fuel, hf⟩ := h
  rcases Go.Deep.open_slice Tryz.underlying22 hf with ⟨hcs, _⟩ | ⟨a, len, cap, m, n', D, Pl, hcs, _, hl, hm, hmm, hx, hel⟩
  · simp [Value.cells] at hcs
    obtain ⟨rfl, rfl, rfl⟩ := hcs
    exact ⟨[], Or.inl ⟨_, _, rfl, rfl, fun _ => rfl⟩, fun e h => (by cases h), by simp⟩
  · simp [Value.cells] at hcs
    obtain ⟨rfl, rfl, rfl⟩ := hcs
    have hlm : n ≤ m := by rw [hmm]; split <;> omega
    rw [cellsInc] at hel
    simp only [Prod.mk.injEq] at hx
    have hbd : Rows.uptoBulkAll ((List.range n).map D) ≤ 1048576 := by rw [hx.1] at hk; simp only [Rows.uptoBulk] at hk; omega
    have hn : n ≤ 1048576 := by
      have := bulk_count ((List.range n).map D)
      simp at this
      omega
    obtain ⟨es, hes, hp⟩ := list_of (P := fun i (e : List UInt8 × List UInt8 × Int) => W.cell? (a.add (i * 3)) = some (.string (mk e.1)) ∧ W.cell? ((a.add (i * 3)).add 1) = some (.string (mk e.2.1)) ∧ W.cell? ((a.add (i * 3)).add 2) = some (.int .i64 e.2.2) ∧ e.1.length + e.2.1.length < Rows.uptoBulk (D i)) (n := n) (by
      intro i hi
      obtain ⟨cs', hc, ht⟩ := hel i (by omega)
      obtain ⟨e, rfl, hb⟩ := inc_b ht
      have hh := World.cells?_some hc
      exact ⟨e, by simpa [Addr.add, icC] using hh.2.2 0 (by omega), by simpa [icC] using hh.2.2 1 (by omega), by simpa [icC] using hh.2.2 2 (by omega), hb⟩)
    refine ⟨es, ?_, ?_, by omega⟩
    · rcases Nat.eq_zero_or_pos n with rfl | hpos
      · exact Or.inl ⟨_, _, rfl, List.length_eq_zero_iff.1 hes, fun e => by cases e⟩
      · have hg : ∀ j, j < n → es[j]? = some (es.getD j noI) := fun j hj => by rw [List.getD_eq_getElem?_getD, List.getElem?_eq_getElem (show j < es.length by omega)]; rfl
        have h0 := (hp 0 _ (hg 0 hpos)).1
        have ha : a = ⟨a.block, a.off, none⟩ := addr_plain (v := .string (mk (es.getD 0 noI).1)) (by simpa [Addr.add] using h0)
        have hlt : a.block < W.heap.size := World.block_lt_of_cell? W a (u := .string (mk (es.getD 0 noI).1)) (by simpa [Addr.add] using h0)
        generalize a.block = g at ha hlt
        generalize a.off = o at ha
        subst ha
        refine Or.inr ⟨g, o, c, by rw [hes], hlt, by rw [hes]; exact hl, fun j hj => ?_⟩
        obtain ⟨c0, c1, c2, _⟩ := hp j _ (hg j (by omega))
        simp only [add_plain] at c0 c1 c2
        exact ⟨c0, c1, c2⟩
    · intro e he
      obtain ⟨j, hj, rfl⟩ := List.mem_iff_getElem.1 he
      have h1 := (hp j _ (List.getElem?_eq_getElem hj)).2.2.2
      have h2 : Rows.uptoBulk (D j) ≤ 1048576 := Nat.le_trans (bulk_mem (List.mem_map.2 ⟨j, List.mem_range.2 (by omega), rfl⟩)) hbd
      omega
end

end Go.Proofs.YtlpengaclkidiaaGreatDoor

/- From what the rows list of the program's tables of texts to what the walks ask of the world. -/
namespace Go.Proofs.YtlpengaclkidiaaGreatDoor
open Go.RowKit

def strD {H : Type} (ts : List (List UInt8)) : DataW H := .agg (ts.map fun t => .lit (.string t))
theorem cells_of_strs {H : Type} {enc : TypeId × Value → H} {P : Program} {w : World} {base : Nat} {sp : Nat → Bool} {held : Bool} {fuel : Nat} {t e : TypeId} {n : Nat} {cs : List Value} {ts : List (List UInt8)} {p : List MemPlace}
    (ht : P.underlying t = some (.array n e)) (he : P.underlying e = some .string) (hce : P.cellsOf e = 1) (hct : P.cellsOf t = n)
    (h : DataW.trod enc P w base sp held fuel t cs = some (strD ts, p)) : cs = strV ts := by
  cases fuel with
  | zero => simp [DataW.trod] at h
  | succ fuel =>
    simp only [DataW.trod, ht, hce, hct, Nat.mul_one] at h
    split at h
    · rename_i hl
      obtain ⟨xs, hm, hx⟩ := Option.map_eq_some_iff.1 h
      have hxs : xs.map (·.1) = ts.map fun z => (DataW.lit (.string z) : DataW H) := by
        have := congrArg Prod.fst hx
        simpa [strD] using this
      have hxl : xs.length = n := by simpa using Lib.mapM_length hm
      have hzl : ts.length = n := by
        have := congrArg List.length hxs
        simp at this
        omega
      apply List.ext_getElem?
      intro i
      by_cases hi : i < n
      · obtain ⟨b, hb, hf⟩ := Lib.mapM_at hm i i (by simp [hi])
        obtain ⟨s, hc, rfl, _⟩ := DataW.trod_string he hf
        have h1 : cs[i]? = some (.string s) := by
          have := congrArg (·[0]?) hc
          simpa [List.getElem?_take, List.getElem?_drop] using this
        have h2 : (xs.map (·.1))[i]? = some (DataW.lit (.string s.data.toList) : DataW H) := by simp [hb]
        rw [hxs] at h2
        simp only [List.getElem?_map, Option.map_eq_some_iff, DataW.lit.injEq, Lit.string.injEq] at h2
        obtain ⟨z', hz', he'⟩ := h2
        rw [h1]
        simp only [strV, List.getElem?_map, hz', Option.map_some, Option.some.injEq, Value.string.injEq]
        rw [he', ← bl_eq, mk_bl]
      · rw [List.getElem?_eq_none (by omega), List.getElem?_eq_none (by rw [strV_length]; omega)]
    · cases h
theorem strs_of_reads {P : Program} {w : World} {name : String} {d : DataW Unit} (hr : Lib.VarReads P w name d) (ts : List (List UInt8)) (g0 : Nat) (t e : TypeId) (n : Nat) (hg : P.globalNamed name = some g0) (hty : (P.globals[g0]?).map (·.type) = some t)
    (ht : P.underlying t = some (.array n e)) (he : P.underlying e = some .string) (hce : P.cellsOf e = 1) (hct : P.cellsOf t = n) (hd : d = strD ts) : w.rangeAt g0 0 (strV ts) ∧ g0 < w.heap.size := by
  obtain ⟨g, t', cs, fuel, p, h1, h2, h3, h4⟩ := hr
  obtain rfl : g0 = g := by rw [hg] at h1; exact Option.some.inj h1
  obtain rfl : t = t' := by rw [hty] at h2; exact Option.some.inj h2
  subst hd
  have hcs := cells_of_strs ht he hce hct h4
  unfold World.var? at h3
  rw [hg] at h3
  simp only [Option.bind_some] at h3
  cases hb : w.heap[g0]? with
  | none => rw [hb] at h3; cases h3
  | some o =>
    rw [hb] at h3
    refine ⟨?_, hp_lt hb⟩
    intro j v hv
    rw [Nat.zero_add]
    cases o with
    | cells C ty fr =>
      simp only [Option.some.injEq] at h3
      subst h3
      rw [cell_of_row w g0 j _ _ _ hb]
      have : C.toList[j]? = some v := by rw [hcs]; exact hv
      simpa using this
    | _ => cases h3

end Go.Proofs.YtlpengaclkidiaaGreatDoor
