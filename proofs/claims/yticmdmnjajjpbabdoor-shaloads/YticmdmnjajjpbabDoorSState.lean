/- State, of a hash that is made or plain. -/
import Derived.Test.YticmdmnjajjpbabDoorSClone
import Derived.Test.YticmdmnjajjpbabDoorSRefN
namespace Go.Proofs.YticmdmnjajjpbabDoor
open Go.RowKit

theorem field_rest (b : Nat) (w : World) : (Instr.fieldAt 74 (.pointer (some ⟨b, 0, none⟩)) 1).run Tryd.prog w = .ok (.pointer (some ⟨b, 8, none⟩)) w := by go_simp
theorem slice_all (b : Nat) : ∀ W, (Instr.sliceAt 72 (.pointer (some ⟨b, 8, none⟩)) none none none).run Tryd.prog W = .ok (.slice (some ⟨b, 8, none⟩) 64 64) W := by
  intro W
  go_simp
theorem field_agg0 (cs : Array Value) (W : World) : (Instr.field 74 (.agg cs) 0).run Tryd.prog W = .ok (.agg (cs.extract 0 8)) W := by kernel_rfl
theorem hcells_words (H R : List Int) (n : Int) (m : Bool) (h : H.length = 8) : (hcells H R n m).toArray.extract 0 8 = (u32V H).toArray := by
  have e : (u32V H).length = 8 := by rw [u32V_length, h]
  rw [List.extract_toArray]
  simp only [List.extract, List.drop_zero, Nat.sub_zero, hcells]
  rw [List.take_append_of_le_length (by omega), List.take_of_length_le (by omega)]
theorem state_built (a b c d e f g i : Int) (ao : Option Addr) (n k : Nat) (N : Int) : Tryd.prog.built 27 [(0, .agg (u32V [a, b, c, d, e, f, g, i]).toArray), (1, .slice ao n k), (2, .int .u64 N)] = some (scells [a, b, c, d, e, f, g, i] (.slice ao n k) N).toArray := by kernel_rfl
theorem state_built' (H : List Int) (h : H.length = 8) (ao : Option Addr) (n k : Nat) (N : Int) : Tryd.prog.built 27 [(0, .agg (u32V H).toArray), (1, .slice ao n k), (2, .int .u64 N)] = some (scells H (.slice ao n k) N).toArray := by
  obtain ⟨a, b, c, d, e, f, g, i, rfl⟩ := eight_of h
  exact state_built a b c d e f g i ao n k N
theorem Hb.whole {w : World} {b : Nat} {H R : List Int} {n : Int} {m : Bool} (h : Hb w b H R n m) : w.rangeAt b 0 (hcells H R n m) := fun j v hv => by
  rw [Nat.zero_add, cell_of_row _ _ j _ _ _ h.blk]
  simpa using hv

theorem OwnB.block {w : World} {base g n : Nat} {bs : List UInt8} (h : OwnB w base (.slice (some ⟨g, 0, none⟩) n n) bs) (hn : n = bs.length) : w.heap[g]? = some (.cells (bytesV bs).toArray 5 (0, 0)) := by
  obtain ⟨h1, ⟨h2, _⟩ | ⟨g', cap', cur, hv, hb, hh, h3, h4, h5, h6⟩⟩ := h
  · simp at h2
  · simp only [Value.slice.injEq, Option.some.injEq, Addr.mk.injEq, and_true] at hv
    obtain ⟨rfl, _, rfl⟩ := hv
    rw [hh]
    have e : cur = (bytesV bs).toArray := by
      apply Array.ext'
      rw [← h6, List.take_of_length_le (by simp only [Array.length_toList]; omega)]
    rw [e]
theorem OwnB.made {w : World} {g base : Nat} {bs : List UInt8} (hb : w.heap[g]? = some (.cells (bytesV bs).toArray 5 (0, 0))) (hl : bs.length ≤ 1099511627776) (hg : base ≤ g) (n : Nat) (hn : n = bs.length) :
    OwnB w base (.slice (some ⟨g, 0, none⟩) n n) bs := by
  subst hn
  refine ⟨by simp [bytesV], Or.inr ⟨g, bs.length, (bytesV bs).toArray, rfl, hg, hb, Nat.le_refl _, by unfold maxLen; omega, ?_, ?_⟩⟩
  · simp [bytesV]
  · rw [Nat.mul_one, ← bytesV_length bs, List.take_length]

/-- a composite literal, in a region that draws its order -/
theorem yields_build {P : Program} {ops : Array Oper} {S : World → Prop} {o : Oper} {a : Act} (hw : Region.wanted o (yielded ops a.tmps) = true) (t : TypeId) (parts : Array (Nat × Operand)) (ho : o.op = .build t parts)
    (vs : List (Nat × Value)) (hvs : (parts.map fun (i, x) => (i, a.eval x)).toList = vs) (cs : Array Value) (hb : P.built t vs = some cs) : YieldsIf P ops S o (.agg cs) a :=
  .inl ⟨hw, fun w _ => by
    unfold execOp
    simp only [ho, Sem.run_bind, run_build w t (parts.map fun (i, x) => (i, a.eval x)) cs (by rw [hvs]; exact hb), Sem.run_pure, Result.andThen_ok]⟩

/-- a store of a row, as one step -/
theorem step_store_row {P : Program} {ops : Array Oper} {o : Oper} {a : Act} {w : World} {K : Act → World → Prop} {Q : Exit → Act → World → Prop} {E : Prop} (hgd : o.guard = none) (ty : TypeId) (x y : Operand) (ho : o.op = .store ty x y)
    (g : Nat) (cs : List Value) (hx : a.eval x = .pointer (some ⟨g, 0, none⟩)) (hy : a.eval y = .agg cs.toArray)
    (t : TypeId) (old : Array Value) (hg : w.heap[g]? = some (.cells old t (0, 0))) (hi : (P.info? ty).map (·.size) = some cs.length) (hold : old.size = cs.length) (h1 : ∀ v ∈ cs, v.oneCell' = true)
    (h : ∀ w', RowSet w w' g cs t → K (a.put o.dst undef) w') : if Region.wanted o (yielded ops a.tmps) = true then Oper.wp P o a w K Q else E := by
  rw [if_pos (by simp [Region.wanted, hgd])]
  exact wp_store_row ty x y ho g cs.toArray hx hy t old hg (by rw [List.size_toArray]; exact hi) (by rw [List.size_toArray]; exact hold) (by simpa using h1) (h _ (rowSet w g cs t old hg))

set_option maxRecDepth 100000 in
set_option maxHeartbeats 2000000 in
theorem state_any (w : World) (b : Nat) (H : List Int) (buf : List UInt8) (N : Nat) (hT : Tabs w) (hs : Hg w b H buf N) :
    Calls Tryd.prog 30 #[.pointer (some ⟨b, 0, none⟩)] w fun e w' => ∃ vb, e = .returned (.agg (scells H vb N).toArray) ∧ OwnB w' w.heap.size vb buf ∧ Below w.heap.size w w' := by
  obtain ⟨z, sz⟩ := zero_of_info (P := Tryd.prog) (t := 27) (v := .agg z10.toArray) (n := 10) (by kernel_rfl)
  have HZ := hid sz
  clear sz
  have HB0 := hid (below_walk w (.cells z10.toArray 27))
  have HR0 := hid (hp_new w (.cells z10.toArray 27))
  have HT := hid (hT.below HB0.out)
  obtain ⟨H0, R0, m, hb, e1, e2, e3⟩ := hs.ex
  have HB := hid (hb.below HB0.out)
  have HE1 := hid e1
  have HE2 := hid e2
  have HE3 := hid e3
  have HLN := hid hs.len
  obtain ⟨K, HK⟩ : ∃ K, Hid (K = N % 64) := ⟨_, rfl⟩
  have hK64 : K < 64 := by rw [HK.out]; omega
  have hrem : ((N : Nat) : Int).tmod 64 = (K : Int) := by rw [HK.out]; rfl
  have HBL := hid (show buf.length = K by rw [HK.out]; exact hs.len)
  have HHL := hid (show H.length = 8 by rw [← e1]; unfold begunH; split; exact hb.hl; exact Hs_length)
  have HPL := hid (show (pad64 buf).length = 64 from pad64_length _ (by have := hs.len; omega))
  have HSRC := hid (show ∀ (j : Nat) (v : Value), (bytesV buf)[j]? = some v → (u8V R0)[j]? = some v from by
    intro j v hv
    cases m with
    | true =>
      have e2' : R0 = pad64 buf := e2
      rw [e2', pad64, u8V_append, u8V_ints, List.getElem?_append_left (List.getElem?_eq_some_iff.1 hv).1]
      exact hv
    | false =>
      have hN0 : (0 : Int) = N := e3
      have : buf = [] := List.eq_nil_of_length_eq_zero (by rw [hs.len]; omega)
      rw [this] at hv
      simp [bytesV] at hv)
  have cn := HB.out.cn
  clear hb e1 e2 e3 hs hT
  go_enter Tryd.func30, Tryd.ntmps30
  go_upto_region 1 with fail
  generalize w.alloc (.cells z10.toArray 27) = wv at HB0 HR0 HT HB cn ⊢
  go_wp2_with (at_make; refine make_len rfl _ _ rfl _ _ _ _ K K rfl rfl ?c1 ?c2 ?c3 ?c4 ?_)
  case c1 => first | rfl | omega
  case c2 => first | rfl | omega
  case c3 => omega
  case c4 => omega
  intro w1 ho1 hb1
  have HBK := hid (OwnB.block ho1 (by simp))
  have HB1 := hid (HB.out.below hb1)
  have HBel1 := hid hb1
  clear ho1 hb1 cn
  obtain ⟨g, HG⟩ : ∃ g, Hid (g = wv.heap.size) := ⟨_, rfl⟩
  rw [← HG.out] at HBK ⊢
  have hfr := field_rest b
  have hsl := slice_all b
  have HSR1 := hid (fun (j : Nat) (v : Value) (hv : (bytesV buf)[j]? = some v) => (by
    rw [Addr.add_mid]
    exact HB1.out.rest j v (HSRC.out j v hv) : w1.cell? ((⟨b, 8, none⟩ : Addr).add j) = some v))
  have HU1 := hid (show (Tryd.prog.info? 5).map (·.size) = some 1 by kernel_rfl)
  have HNL := hid (show (bytesV buf).length = Nat.min 64 K by rw [bytesV_length, HBL.out]; show K = min 64 K; omega)
  have HFT := hid (show 0 + (bytesV buf).length ≤ (bytesV (List.replicate K 0)).length by rw [bytesV_length, bytesV_length, HBL.out]; simp)
  have HSPL := hid (show splice (bytesV (List.replicate K 0)) 0 (bytesV buf) = bytesV buf by
    simp only [splice, List.take_zero, List.nil_append, Nat.zero_add]
    rw [List.drop_eq_nil_of_le (by rw [bytesV_length, bytesV_length, HBL.out]; simp), List.append_nil])
  have HGE := hid (show wv.heap.size ≤ g by rw [HG.out]; exact Nat.le_refl _)
  go_wp2_with (refine wpList_copy_splice (by rfl) (.tmp 13) (.tmp 17) 24 24 (by rfl) 5 Tryd.underlying24 HU1.out (some ⟨g, 0, none⟩) (some ⟨b, 8, none⟩) K K 64 64 (by rfl) (by rfl) g 0 (bytesV (List.replicate K 0)) 5 HBK.out (bytesV buf) HNL.out (fun _ => ⟨rfl, _, rfl, HSR1.out⟩) HFT.out (bytesV_one _) wv.heap.size wv HBel1.out HGE.out ?_)
  intro w2 hblk hb2
  rw [HSPL.out] at hblk
  have HBK2 := hid hblk.out
  have HB2 := hid (HB.out.below hb2)
  have HT2 := hid (HT.out.below hb2)
  have HBel2 := hid (HB0.out.trans (hb2.mono HB0.out.size))
  have HR2 := hid ((hb2.block w.heap.size (hp_lt HR0.out)).trans HR0.out)
  have HGG := hid (show w.heap.size < g by have := hp_lt HR0.out; rw [HG.out]; exact this)
  clear hblk hb2 HSR1 HBK HB1 HBel1 HNL HFT HSPL HGE HSRC HB HT HR0 hsl hfr
  go_upto_region 5 with fail
  have hu : Tryd.prog.underlying 74 = some _ := Tryd.underlying74
  have HSZ : Hid ((Tryd.prog.info? 74).map (·.size) = some (hcells H0 R0 N m).length) := by rw [hcells_length _ _ _ _ HB2.out.hl HB2.out.rl]; exact hid Tryd.sizeHash
  refine wp_noPanic (wp_region_held_drew (S := fun W => Hb W b H0 R0 N m) (by kernel_rfl) (HB2.out.drewN 1) ?_)
  intro hHeld
  refine wpAnyH_take (i := 0) (v := .pointer (some ⟨b, 0, none⟩)) rfl (by kernel_rfl) (by kernel_rfl) (by kernel_rfl) (fun _ _ _ h => h) (Or.inl ⟨by rfl, fun W _ => by go_simp⟩) hHeld ?_
  simp only [Act.put, List.getElem_toArray, List.getElem_cons_zero, List.setIfInBounds_toArray, List.set_cons_succ, List.set_cons_zero]
  refine wpAnyH_take (i := 1) (v := .pointer (some ⟨b, 0, none⟩)) rfl (by kernel_rfl) (by kernel_rfl) (by kernel_rfl) (fun _ _ _ h => h) (Or.inl ⟨by rfl, fun W _ => by go_simp⟩) hHeld ?_
  simp only [Act.put, List.getElem_toArray, List.getElem_cons_zero, List.getElem_cons_succ, List.setIfInBounds_toArray, List.set_cons_succ, List.set_cons_zero]
  refine wpAnyH_take (i := 2) (v := .agg (hcells H0 R0 N m).toArray) rfl (by kernel_rfl) (by kernel_rfl) (by kernel_rfl) (fun _ _ _ h => h) (yieldsIf_load_mid (by rfl) 74 (.tmp 20) rfl b 0 rfl (hcells H0 R0 N m) _ (fun W hW => Hb.whole hW) hu rfl HSZ.out) hHeld ?_
  simp only [Act.put, List.getElem_toArray, List.getElem_cons_zero, List.getElem_cons_succ, List.setIfInBounds_toArray, List.set_cons_succ, List.set_cons_zero]
  refine wpAnyH_take (i := 5) (v := .slice (some ⟨g, 0, none⟩) K K) rfl (by kernel_rfl) (by kernel_rfl) (by kernel_rfl) (fun _ _ _ h => h) (Or.inl ⟨by rfl, fun W _ => by go_simp⟩) hHeld ?_
  simp only [Act.put, List.getElem_toArray, List.getElem_cons_zero, List.getElem_cons_succ, List.setIfInBounds_toArray, List.set_cons_succ, List.set_cons_zero]
  refine wpAnyH_take (i := 6) (v := .pointer (some ⟨b, 0, none⟩)) rfl (by kernel_rfl) (by kernel_rfl) (by kernel_rfl) (fun _ _ _ h => h) (Or.inl ⟨by rfl, fun W _ => by go_simp⟩) hHeld ?_
  simp only [Act.put, List.getElem_toArray, List.getElem_cons_zero, List.getElem_cons_succ, List.setIfInBounds_toArray, List.set_cons_succ, List.set_cons_zero]
  refine wpAnyH_take (i := 7) (v := .pointer (some ⟨b, 0, none⟩)) rfl (by kernel_rfl) (by kernel_rfl) (by kernel_rfl) (fun _ _ _ h => h) (Or.inl ⟨by rfl, fun W _ => by go_simp⟩) hHeld ?_
  simp only [Act.put, List.getElem_toArray, List.getElem_cons_zero, List.getElem_cons_succ, List.setIfInBounds_toArray, List.set_cons_succ, List.set_cons_zero]
  refine wpAnyH_take (i := 8) (v := .pointer (some ⟨b, 72, none⟩)) rfl (by kernel_rfl) (by kernel_rfl) (by kernel_rfl) (fun _ _ _ h => h) (Or.inl ⟨by rfl, fun W _ => by go_simp⟩) hHeld ?_
  simp only [Act.put, List.getElem_toArray, List.getElem_cons_zero, List.getElem_cons_succ, List.setIfInBounds_toArray, List.set_cons_succ, List.set_cons_zero]
  refine wpAnyH_take (i := 9) (v := .int .u64 N) rfl (by kernel_rfl) (by kernel_rfl) (by kernel_rfl) (fun _ _ _ h => h) (Or.inl ⟨by rfl, fun W hW => by have cn := Hb.cn hW; clear hW; go_simp⟩) hHeld ?_
  simp only [Act.put, List.getElem_toArray, List.getElem_cons_zero, List.getElem_cons_succ, List.setIfInBounds_toArray, List.set_cons_succ, List.set_cons_zero]
  refine wpAnyH_ready (rs := [3]) (by kernel_rfl) (by simp) ?_
  refine AllReadyH.cons rfl (fun K' hK' => ?_) AllReadyH.nil
  go_simp
  refine (begun_any _ H0 R0 N m HB2.out.hl HB2.out.rl (HT2.out.below (show Below w2.heap.size w2 w2.drew from ⟨rfl, rfl, rfl, Nat.le_refl _, fun _ _ => rfl⟩))).mono ?_
  rintro e w3 ⟨rfl, hb3⟩
  rw [HE1.out, HE2.out, HE3.out]
  have hb3' : Below w2.heap.size w2 w3 := ⟨hb3.os, hb3.tape, hb3.output, hb3.size, hb3.block⟩
  have HB3 := hid (HB2.out.below hb3')
  have HBK3 := hid ((hb3'.block g (hp_lt HBK2.out)).trans HBK2.out)
  have HR3 := hid ((hb3'.block w.heap.size (hp_lt HR2.out)).trans HR2.out)
  have HBel3 := hid (HBel2.out.trans (hb3'.mono HBel2.out.size))
  clear hb3 hb3'
  go_wp2_with fail
  refine hK'.out _ _ HB3.out (fun hHeld => ?_)
  clear hK' K'
  have hfa : ∀ W, (Instr.field 74 (.agg (hcells H (pad64 buf) N true).toArray) 0).run Tryd.prog W = .ok (.agg (u32V H).toArray) W := fun W => by rw [field_agg0, hcells_words _ _ _ _ HHL.out]
  refine wpAnyH_take (i := 4) (v := .agg (u32V H).toArray) rfl (by kernel_rfl) (by kernel_rfl) (by kernel_rfl) (fun _ _ _ h => h) (Or.inl ⟨by rfl, fun W _ => by go_simp⟩) hHeld ?_
  simp only [Act.put, List.getElem_toArray, List.getElem_cons_zero, List.getElem_cons_succ, List.setIfInBounds_toArray, List.set_cons_succ, List.set_cons_zero]
  refine wpAnyH_take (i := 10) (v := .agg (scells H (.slice (some ⟨g, 0, none⟩) K K) N).toArray) rfl (by kernel_rfl) (by kernel_rfl) (by kernel_rfl) (fun _ _ _ h => h) (yields_build (by rfl) 27 #[(0, .tmp 23), (1, .tmp 24), (2, .tmp 28)] (by rfl) [(0, .agg (u32V H).toArray), (1, .slice (some ⟨g, 0, none⟩) K K), (2, .int .u64 N)] (by simp [Act.eval]) _ (state_built' H HHL.out (some ⟨g, 0, none⟩) K K N)) hHeld ?_
  simp only [Act.put, List.getElem_toArray, List.getElem_cons_zero, List.getElem_cons_succ, List.setIfInBounds_toArray, List.set_cons_succ, List.set_cons_zero]
  refine wpAnyH_ready (rs := [11]) (by kernel_rfl) (by simp) ?_
  refine AllReadyH.cons rfl (fun K' hK' => ?_) AllReadyH.nil
  have HSZ2 : Hid ((Tryd.prog.info? 27).map (·.size) = some (scells H (.slice (some ⟨g, 0, none⟩) K K) N).length) := by rw [scells_length _ _ _ HHL.out]; exact HZ
  refine step_store_row (by rfl) 27 (.tmp 2) (.tmp 29) (by rfl) w.heap.size (scells H (.slice (some ⟨g, 0, none⟩) K K) N) (by rfl) (by rfl) 27 _ HR3.out HSZ2.out (by rw [List.size_toArray, scells_length _ _ _ HHL.out]; rfl) (scells_one _ _ _ rfl) ?_
  intro w4 hw4
  have HW := hid hw4
  have HB4 := hid (show Below w.heap.size w w4 from HBel3.out.grown hw4.grown HBel3.out.size (by intro k hk; cases hk; exact Nat.le_refl _))
  have HBK4 := hid ((hw4.grown.block g (hp_lt HBK3.out) (by have := HGG.out; simp only [ne_eq, Option.some.injEq]; omega)).trans HBK3.out)
  have hne : w.heap.size ≠ b := by
    intro e
    have h1 := HB3.out.blk
    rw [← e, HR3.out] at h1
    injection h1 with h1
    injection h1 with h1 h2
    cases h2
  have HB5 := hid (HB3.out.grown hw4.grown (by simpa using hne))
  clear hw4
  refine hK'.out _ _ HB5.out (fun hHeld => ?_)
  clear hK' K'
  refine wpAnyH_done (by kernel_rfl) ?_ _
  simp only [noPanic]
  clear hHeld
  go_wp2_with fail
  refine ret_row 2 27 rfl w.heap.size rfl _ 27 HW.out.blk _ Tryd.underlying27 rfl HSZ2.out rfl ⟨_, rfl, ?_, HB4.out⟩
  exact OwnB.made HBK4.out (by rw [HBL.out]; omega) (Nat.le_of_lt HGG.out) K HBL.out.symm

end Go.Proofs.YticmdmnjajjpbabDoor
