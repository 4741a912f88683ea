/- Contracts and pure facts that the proof needs, joined. -/
import Derived.Test.YtjjajfipfeigiabDoorG4
import Derived.BigQuiet
import Derived.Laws.StructEq
import Derived.Deep.Cut
import Derived.Test.YtjjajfipfeigiabDoorG1
import Derived.Lib.LaidU8
import Derived.Lib.LaidTab

/- What parse.Module and parse.Expr answer (written by ztop.py). -/
namespace Go.Proofs.YtjjajfipfeigiabDoor
open Go.RowKit

/-- what Expr and Module answer -/
def TopOut {α : Type} (l : List UInt8) (fuel : Int) (T : Nat → World → Value → α → Prop) (z : Array Value) (r : Except Ft (α × Nat)) (w : World) (e : Ending) (w' : World) : Prop :=
  Below w.heap.size w w' ∧ match finP l fuel r with
    | .error f => e = .returned (.tuple #[.agg z, .agg #[.int .i64 f.1, .int .i64 (f.2.1 : Int)]])
    | .ok (a, _) => ∃ v, e = .returned (.tuple #[v, .agg #[.int .i64 0, .int .i64 0]]) ∧ T w.heap.size w' v a
theorem tz_keepB {W W' : World} {B : Nat} {v : Value} {m : Md} (h : tMd B W v m) (hk : ∀ k, B ≤ k → k < W.heap.size → W'.heap[k]? = W.heap[k]?) (hs : W.heap.size ≤ W'.heap.size) : tMd B W' v m := by
  obtain ⟨iv, cv, fv, is, cs, fs, h1, h2, l1, l2, l3⟩ := h
  exact ⟨iv, cv, fv, is, cs, fs, h1, h2, l1.keep kI_ok (fun k hq hl => ⟨hk k hq hl, hq⟩) hs, l2.keep kC_ok (fun k hq hl => ⟨hk k hq hl, hq⟩) hs, l3.keep kF_ok (fun k hq hl => ⟨hk k hq hl, hq⟩) hs⟩
theorem al2_a (w : World) (o o2 : Obj) : ((w.alloc o).alloc o2).heap[w.heap.size]? = some o := by
  rw [hp_old _ _ _ (by rw [hp_size]; omega)]; exact hp_new w o
theorem al2_b (w : World) (o o2 : Obj) : ((w.alloc o).alloc o2).heap[w.heap.size + 1]? = some o2 := by
  have := hp_new (w.alloc o) o2
  rwa [hp_size] at this
theorem results_cc {fn : Func} {p q : Tmp} {ty ty2 : TypeId} (h : fn.results = #[.cell p ty, .cell q ty2]) (tmps : Array Value) (P : Program) (w : World) :
    (results fn tmps).run P w = ((asAddr (tmps.getD p undef)).run P w).andThen fun a w₁ => ((loadVar ty a).run P w₁).andThen fun v w₂ => ((asAddr (tmps.getD q undef)).run P w₂).andThen fun a2 w₃ => ((loadVar ty2 a2).run P w₃).andThen fun v2 w₄ => .ok (.tuple #[v, v2]) w₄ := by
  simp only [results, h]
  simp [Sem.run_bind, Result.andThen]
theorem ret_ccT {P : Program} {fn : Func} {R : Ending → World → Prop} {a : Act} {w : World} (p q : Tmp) (ty ty2 : TypeId) (h : fn.results = #[.cell p ty, .cell q ty2]) (g : Nat) (hp : a.tmps.getD p undef = .pointer (some ⟨g, 0, none⟩)) (g2 : Nat) (hq : a.tmps.getD q undef = .pointer (some ⟨g2, 0, none⟩))
    (cs : List Value) (t : TypeId) (hb : w.heap[g]? = some (.cells cs.toArray t (0, 0))) (d : TypeDesc) (hu : P.underlying ty = some d) (hd : d.isRow = true) (hi : (P.info? ty).map (·.size) = some cs.length)
    (cs2 : List Value) (t2 : TypeId) (hb2 : w.heap[g2]? = some (.cells cs2.toArray t2 (0, 0))) (d2 : TypeDesc) (hu2 : P.underlying ty2 = some d2) (hd2 : d2.isRow = true) (hi2 : (P.info? ty2).map (·.size) = some cs2.length)
    (hdf : a.defers = []) (hR : R (.returned (.tuple #[.agg cs.toArray, .agg cs2.toArray])) w) : bodyPost P fn R .ret a w := by
  refine bodyPost_ret (v := .tuple #[.agg cs.toArray, .agg cs2.toArray]) ?_ hdf hR
  rw [results_cc h, hp, hq]
  have h1 := run_loadVar_mid (P := P) w g 0 ty cs d (fun j v hv => by rw [Nat.zero_add, cell_of_row w g j cs.toArray t (0, 0) hb]; simpa using hv) hu hd hi
  have h2 := run_loadVar_mid (P := P) w g2 0 ty2 cs2 d2 (fun j v hv => by rw [Nat.zero_add, cell_of_row w g2 j cs2.toArray t2 (0, 0) hb2]; simpa using hv) hu2 hd2 hi2
  simp [asAddr, h1, h2]

theorem rdModule_out {l : List UInt8} {fuel : Int} {r : Except Ft (Md × Nat)} {w w3 : World} {e : Ending} (h : RdOut l fuel (fun w => tMd w) #[.slice none 0 0, .slice none 0 0, .slice none 0 0] r w e w3) : ∃ (c0 c1 c2 : Value) (n x y : Int), e = .returned (.tuple #[.agg #[c0, c1, c2], .int .i64 n, .agg #[.int .i64 x, .int .i64 y]]) ∧ (∀ u ∈ [c0, c1, c2], u.oneCell' = true) ∧
    ∀ (W' : World) (B : Nat), B ≤ w.heap.size → (∀ k, w.heap.size ≤ k → k < w3.heap.size → W'.heap[k]? = w3.heap[k]?) → w3.heap.size ≤ W'.heap.size → match finP l fuel r with
      | .error f => Ending.returned (.tuple #[.agg #[c0, c1, c2], .agg #[.int .i64 x, .int .i64 y]]) = .returned (.tuple #[.agg #[.slice none 0 0, .slice none 0 0, .slice none 0 0], .agg #[.int .i64 f.1, .int .i64 (f.2.1 : Int)]])
      | .ok (a, _) => ∃ v, Ending.returned (.tuple #[.agg #[c0, c1, c2], .agg #[.int .i64 x, .int .i64 y]]) = .returned (.tuple #[v, .agg #[.int .i64 0, .int .i64 0]]) ∧ tMd B W' v a := by
  obtain ⟨_, h⟩ := h
  cases hf : finP l fuel r with
  | error f =>
    rw [hf] at h
    exact ⟨_, _, _, (f.2.2 : Int), f.1, (f.2.1 : Int), h, (by intro v hv; simp at hv; rcases hv with rfl | rfl | rfl <;> rfl), fun _ _ _ _ _ => rfl⟩
  | ok q =>
    obtain ⟨a, j⟩ := q
    rw [hf] at h
    obtain ⟨v, rfl, hT⟩ := h
    obtain ⟨iv, cv, fv, is, cs, fs, rfl, h2⟩ := hT
    exact ⟨_, _, _, j, 0, 0, rfl, lsd3_one h2.2.1.one h2.2.2.1.one h2.2.2.2.one, fun W' B hB hk hs => ⟨_, rfl, tz_low (tz_keepB ⟨iv, cv, fv, is, cs, fs, rfl, h2⟩ hk hs) hB⟩⟩

set_option maxRecDepth 20000 in
set_option maxHeartbeats 2000000 in
theorem pmodule_any (l : List UInt8) (hl : l.length ≤ 140737488355328) (fuel : Int) (r : Except Ft (Md × Nat)) (w : World) (hT : TabZ w)
    (hform : ∀ (b : Nat) (W : World) (u : Tok), Sz W b l fuel 0 0 u → Calls Tryd.prog 14 #[.pointer (some ⟨b, 0, none⟩)] W (Out l fuel b 0 (tMd W.heap.size) W (aft l fuel r))) :
    Calls Tryd.prog 6 #[.string (mk l), .int .i64 fuel] w (TopOut l fuel (fun w => tMd w) #[.slice none 0 0, .slice none 0 0, .slice none 0 0] r w) := by
  obtain ⟨B, HB⟩ : ∃ B, Hid (w.heap.size = B) := ⟨_, rfl⟩
  have hb1 := below_walk w (.cells #[.slice none 0 0, .slice none 0 0, .slice none 0 0] 26)
  have hs1 := hp_size w (.cells #[.slice none 0 0, .slice none 0 0, .slice none 0 0] 26)
  have hb2 := below_walk (w.alloc (.cells #[.slice none 0 0, .slice none 0 0, .slice none 0 0] 26)) (.cells #[.int .i64 0, .int .i64 0] 29)
  have hs2 := hp_size (w.alloc (.cells #[.slice none 0 0, .slice none 0 0, .slice none 0 0] 26)) (.cells #[.int .i64 0, .int .i64 0] 29)
  have HN0 := hid ((hb2.block w.heap.size (by rw [hs1]; omega)).trans (hp_new w (.cells #[.slice none 0 0, .slice none 0 0, .slice none 0 0] 26)))
  have HN1 := hid (hp_new (w.alloc (.cells #[.slice none 0 0, .slice none 0 0, .slice none 0 0] 26)) (.cells #[.int .i64 0, .int .i64 0] 29))
  have HB2 := hid (hb1.trans (hb2.mono (by rw [hs1]; omega)))
  have HZ2 := hid (hs2.trans (by rw [hs1]))
  rw [hs1] at HN1
  have HC := hid (readModule_any l hl fuel r ((w.alloc (.cells #[.slice none 0 0, .slice none 0 0, .slice none 0 0] 26)).alloc (.cells #[.int .i64 0, .int .i64 0] 29)) (hT.below HB2.out) (fun W u hz => hform _ W u hz))
  clear hb1 hb2 hs1 hs2 hform hT
  rw [HB.out] at HN0 HN1 HZ2
  go_enter Tryd.func6, Tryd.ntmps6
  go_upto_region 1 with (first | (refine al_row rfl 26 rfl #[.slice none 0 0, .slice none 0 0, .slice none 0 0] Tryd.zeroModule ?_) | fail)
  rw [HB.out]
  generalize (w.alloc (.cells #[.slice none 0 0, .slice none 0 0, .slice none 0 0] 26)).alloc (.cells #[.int .i64 0, .int .i64 0] 29) = w2 at *
  try simp only [Act.put, List.setIfInBounds_toArray, List.set_cons_succ, List.set_cons_zero]
  go_upto_region 2 with (first
    | (go_at_call 13; refine HC.out.mono ?_; intro e w3 hO; obtain ⟨c0, c1, c2, n, x, y, rfl, hone, hres⟩ := rdModule_out hO; have HB3 := hid hO.1; have HONE := hid hone; have HRES := hid hres; clear hO hone hres)
    | (refine al_row rfl 26 rfl #[.slice none 0 0, .slice none 0 0, .slice none 0 0] Tryd.zeroModule ?_)
    | (refine st_row rfl 26 (.tmp 6) (.tmp 13) rfl _ [c0, c1, c2] rfl rfl 26 #[.slice none 0 0, .slice none 0 0, .slice none 0 0] (by first | exact al2_a w3 _ _ | exact al2_b w3 _ _) Tryd.rowModule rfl HONE.out ?_; intro w5 hs5; have HS5 := hid hs5; clear hs5)
    | (refine st_row rfl 29 (.tmp 8) (.tmp 15) rfl _ [.int .i64 x, .int .i64 y] rfl rfl 29 #[.int .i64 0, .int .i64 0] ((HS5.out.grown.block _ (by rw [hp_size, hp_size]; omega) (by simp)).trans (al2_b w3 _ _)) (by kernel_rfl) rfl (by intro v hv; simp at hv; rcases hv with rfl | rfl <;> rfl) ?_; intro w6 hs6; have HS6 := hid hs6; clear hs6))
  try simp only [Act.put]
  have hsz : B + 1 + 1 ≤ w3.heap.size := by have := HB3.out.size; have := HZ2.out; omega
  have hb4 : Below w3.heap.size w3 ((w3.alloc (.cells #[.slice none 0 0, .slice none 0 0, .slice none 0 0] 26)).alloc (.cells #[.int .i64 0, .int .i64 0] 29)) := (below_walk w3 _).alloc (by rw [hp_size]; omega) _
  have hb5 := hb4.trans (gbz_below HS5.out.grown (Nat.le_refl _) hb4.size)
  have hb6 := hb5.trans (gbz_below HS6.out.grown (by omega) hb5.size)
  have HL0 := hid ((hb6.block B (by omega)).trans ((HB3.out.block B (by have := HZ2.out; omega)).trans HN0.out))
  have HL1 := hid ((hb6.block (B + 1) (by omega)).trans ((HB3.out.block (B + 1) (by have := HZ2.out; omega)).trans HN1.out))
  have HG0 := hid ((HS6.out.grown.block _ (hp_lt HS5.out.blk) (by simp)).trans HS5.out.blk)
  have HG1 := hid HS6.out.blk
  have HBE : Hid (Below B w w6) := hid (((HB.out ▸ HB2.out).trans (HB3.out.mono (by have := HZ2.out; omega))).trans (hb6.mono (by omega)))
  have HB6 := hid hb6
  clear hb4 hb5 hb6 HS5 HS6 HC HN0 HN1 HB2
  have HR2 : Hid (w2.heap.size = B + 1 + 1) := hid (HZ2.out.trans rfl)
  obtain ⟨g, HGG⟩ : ∃ g, Hid (w3.heap.size = g) := ⟨_, rfl⟩
  rw [HGG.out] at HG0 HG1 hsz ⊢
  refine wp_noPanic (wp_region_held_drew (S := fun W => W.heap[g]? = some (.cells #[c0, c1, c2] 26 (0, 0)) ∧ W.heap[g + 1]? = some (.cells #[.int .i64 x, .int .i64 y] 29 (0, 0))) (by kernel_rfl) ⟨HG0.out, HG1.out⟩ ?_)
  intro hHeld
  refine wpAnyH_take (i := 0) (v := .agg #[c0, c1, c2]) rfl (by kernel_rfl) (by kernel_rfl) (by kernel_rfl) (fun _ _ _ h => h) (yieldsIf_load_mid (by rfl) 26 (.tmp 6) rfl g 0 rfl [c0, c1, c2] _ (fun W hW k v hv => by rw [Nat.zero_add, cell_of_row _ _ _ _ _ _ hW.1]; simpa using hv) Tryd.underlying26 rfl Tryd.rowModule) hHeld ?_
  simp only [Act.put, List.getElem_toArray, List.getElem_cons_zero, List.setIfInBounds_toArray, List.set_cons_succ, List.set_cons_zero]
  refine wpAnyH_take (i := 1) (v := .agg #[.int .i64 x, .int .i64 y]) rfl (by kernel_rfl) (by kernel_rfl) (by kernel_rfl) (fun _ _ _ h => h) (yieldsIf_load_mid (by rfl) 29 (.tmp 8) rfl (g + 1) 0 rfl [.int .i64 x, .int .i64 y] _ (fun W hW k v hv => by rw [Nat.zero_add, cell_of_row _ _ _ _ _ _ hW.2]; simpa using hv) Tryd.underlying29 rfl (by kernel_rfl)) hHeld ?_
  simp only [Act.put, List.getElem_toArray, List.getElem_cons_zero, List.getElem_cons_succ, List.setIfInBounds_toArray, List.set_cons_succ, List.set_cons_zero]
  refine wpAnyH_ready (rs := [2]) (by kernel_rfl) (by simp) ?_
  refine AllReadyH.cons rfl (fun K hK => ?_) AllReadyH.nil
  refine step_store_row rfl 26 (.tmp 4) (.tmp 16) rfl B [c0, c1, c2] rfl rfl 26 #[.slice none 0 0, .slice none 0 0, .slice none 0 0] (by exact HL0.out) Tryd.rowModule rfl HONE.out ?_
  intro w7 hs7
  have hg7 : w6.grownBy w7 (some B) := gb_trans (below_gb (show Below w6.heap.size w6 w6.drew from (Below.refl _ _).drew) (some B)) hs7.grown
  have k0 := (hg7.block g (hp_lt HG0.out) (by simp <;> omega)).trans HG0.out
  have k1 := (hg7.block (g + 1) (hp_lt HG1.out) (by simp <;> omega)).trans HG1.out
  have K0 := hid hs7.blk
  have K1 := hid ((hg7.block (B + 1) (hp_lt HL1.out) (by simp)).trans HL1.out)
  have HG7 := hid hg7
  refine hK.out _ _ ⟨k0, k1⟩ (fun hHeld => ?_)
  clear hK K hs7 hg7
  try simp only [Act.put]
  refine wpAnyH_ready (rs := [3]) (by kernel_rfl) (by simp) ?_
  refine AllReadyH.cons rfl (fun K hK => ?_) AllReadyH.nil
  refine step_store_row rfl 29 (.tmp 5) (.tmp 17) rfl (B + 1) [.int .i64 x, .int .i64 y] rfl rfl 29 _ K1.out (by kernel_rfl) rfl (by intro v hv; simp at hv; rcases hv with rfl | rfl <;> rfl) ?_
  intro w8 hs8
  have Q0 := hid ((hs8.grown.block B (hp_lt K0.out) (by simp)).trans K0.out)
  have Q1 := hid hs8.blk
  have HG8 := hid hs8.grown
  refine hK.out _ _ ⟨(hs8.grown.block g (hp_lt k0) (by simp <;> omega)).trans k0, (hs8.grown.block (g + 1) (hp_lt k1) (by simp <;> omega)).trans k1⟩ (fun hHeld => ?_)
  clear hK K hs8 k0 k1
  refine wpAnyH_done (by kernel_rfl) ?_ _
  simp only [noPanic]
  clear hHeld
  have HLAST : Hid (TopOut l fuel (fun w => tMd w) #[.slice none 0 0, .slice none 0 0, .slice none 0 0] r w (.returned (.tuple #[.agg #[c0, c1, c2], .agg #[.int .i64 x, .int .i64 y]])) w8) := by
    have h6 := HB6.out.size
    have h7 := HG7.out.size
    have h8 := HG8.out.size
    refine hid ⟨?_, ?_⟩
    · rw [HB.out]
      exact (HBE.out.trans (gbz_below HG7.out (Nat.le_refl _) (by have := HGG.out; omega))).trans (gbz_below HG8.out (by omega) (by have := HGG.out; omega))
    · have hq := HRES.out w8 w.heap.size (by rw [HR2.out, HB.out]; omega) (fun k hk hl => by
        rw [HR2.out] at hk
        rw [HG8.out.block k (by omega) (by simp; omega), HG7.out.block k (by omega) (by simp; omega)]
        exact HB6.out.block k hl) (by omega)
      generalize finP l fuel r = q at hq ⊢
      cases q with
      | error f => exact hq
      | ok q => exact hq
  go_wp2_with fail
  exact ret_ccT 4 5 26 29 Tryd.results6 B rfl (B + 1) rfl [c0, c1, c2] 26 Q0.out _ Tryd.underlying26 rfl Tryd.rowModule [.int .i64 x, .int .i64 y] 29 Q1.out _ Tryd.underlying29 rfl (by kernel_rfl) rfl HLAST.out

theorem rdExpr_out {l : List UInt8} {fuel : Int} {r : Except Ft (Ex × Nat)} {w w3 : World} {e : Ending} (h : RdOut l fuel (fun w => tE w) zX r w e w3) : ∃ (c0 c1 c2 c3 c4 c5 c6 c7 c8 c9 : Value) (n x y : Int), e = .returned (.tuple #[.agg #[c0, c1, c2, c3, c4, c5, c6, c7, c8, c9], .int .i64 n, .agg #[.int .i64 x, .int .i64 y]]) ∧ (∀ u ∈ [c0, c1, c2, c3, c4, c5, c6, c7, c8, c9], u.oneCell' = true) ∧
    ∀ (W' : World) (B : Nat), B ≤ w.heap.size → (∀ k, w.heap.size ≤ k → k < w3.heap.size → W'.heap[k]? = w3.heap[k]?) → w3.heap.size ≤ W'.heap.size → match finP l fuel r with
      | .error f => Ending.returned (.tuple #[.agg #[c0, c1, c2, c3, c4, c5, c6, c7, c8, c9], .agg #[.int .i64 x, .int .i64 y]]) = .returned (.tuple #[.agg zX, .agg #[.int .i64 f.1, .int .i64 (f.2.1 : Int)]])
      | .ok (a, _) => ∃ v, Ending.returned (.tuple #[.agg #[c0, c1, c2, c3, c4, c5, c6, c7, c8, c9], .agg #[.int .i64 x, .int .i64 y]]) = .returned (.tuple #[v, .agg #[.int .i64 0, .int .i64 0]]) ∧ tE B W' v a := by
  obtain ⟨_, h⟩ := h
  cases hf : finP l fuel r with
  | error f =>
    rw [hf] at h
    exact ⟨_, _, _, _, _, _, _, _, _, _, (f.2.2 : Int), f.1, (f.2.1 : Int), h, (by intro v hv; simp at hv; rcases hv with rfl | rfl | rfl | rfl | rfl | rfl | rfl <;> rfl), fun _ _ _ _ _ => rfl⟩
  | ok q =>
    obtain ⟨a, j⟩ := q
    rw [hf] at h
    obtain ⟨v, rfl, hT⟩ := h
    obtain ⟨kv, d, rfl, h2⟩ := hT
    exact ⟨_, _, _, _, _, _, _, _, _, _, j, 0, 0, rfl, exC_one a kv h2.cell, fun W' B hB hk hs => ⟨_, rfl, kv, d, rfl, (h2.keep (fun k hq hl => ⟨hk k hq hl, hq⟩) hs).lw hB⟩⟩

set_option maxRecDepth 20000 in
set_option maxHeartbeats 2000000 in
theorem pexpr_any (l : List UInt8) (hl : l.length ≤ 140737488355328) (fuel : Int) (r : Except Ft (Ex × Nat)) (w : World) (hT : TabZ w)
    (hform : ∀ (b : Nat) (W : World) (u : Tok), Sz W b l fuel 0 0 u → Calls Tryd.prog 18 #[.pointer (some ⟨b, 0, none⟩)] W (Out l fuel b 0 (tE W.heap.size) W (aft l fuel r))) :
    Calls Tryd.prog 10 #[.string (mk l), .int .i64 fuel] w (TopOut l fuel (fun w => tE w) zX r w) := by
  obtain ⟨B, HB⟩ : ∃ B, Hid (w.heap.size = B) := ⟨_, rfl⟩
  have hb1 := below_walk w (.cells zX 49)
  have hs1 := hp_size w (.cells zX 49)
  have hb2 := below_walk (w.alloc (.cells zX 49)) (.cells #[.int .i64 0, .int .i64 0] 29)
  have hs2 := hp_size (w.alloc (.cells zX 49)) (.cells #[.int .i64 0, .int .i64 0] 29)
  have HN0 := hid ((hb2.block w.heap.size (by rw [hs1]; omega)).trans (hp_new w (.cells zX 49)))
  have HN1 := hid (hp_new (w.alloc (.cells zX 49)) (.cells #[.int .i64 0, .int .i64 0] 29))
  have HB2 := hid (hb1.trans (hb2.mono (by rw [hs1]; omega)))
  have HZ2 := hid (hs2.trans (by rw [hs1]))
  rw [hs1] at HN1
  have HC := hid (readExpr_any l hl fuel r ((w.alloc (.cells zX 49)).alloc (.cells #[.int .i64 0, .int .i64 0] 29)) (hT.below HB2.out) (fun W u hz => hform _ W u hz))
  clear hb1 hb2 hs1 hs2 hform hT
  rw [HB.out] at HN0 HN1 HZ2
  go_enter Tryd.func10, Tryd.ntmps10
  go_upto_region 1 with (first | (refine al_row rfl 49 rfl zX Tryd.zeroExpr ?_) | fail)
  rw [HB.out]
  generalize (w.alloc (.cells zX 49)).alloc (.cells #[.int .i64 0, .int .i64 0] 29) = w2 at *
  try simp only [Act.put, List.setIfInBounds_toArray, List.set_cons_succ, List.set_cons_zero]
  go_upto_region 2 with (first
    | (go_at_call 17; refine HC.out.mono ?_; intro e w3 hO; obtain ⟨c0, c1, c2, c3, c4, c5, c6, c7, c8, c9, n, x, y, rfl, hone, hres⟩ := rdExpr_out hO; have HB3 := hid hO.1; have HONE := hid hone; have HRES := hid hres; clear hO hone hres)
    | (refine al_row rfl 49 rfl zX Tryd.zeroExpr ?_)
    | (refine st_row rfl 49 (.tmp 6) (.tmp 13) rfl _ [c0, c1, c2, c3, c4, c5, c6, c7, c8, c9] rfl rfl 49 zX (by first | exact al2_a w3 _ _ | exact al2_b w3 _ _) Tryd.rowExpr rfl HONE.out ?_; intro w5 hs5; have HS5 := hid hs5; clear hs5)
    | (refine st_row rfl 29 (.tmp 8) (.tmp 15) rfl _ [.int .i64 x, .int .i64 y] rfl rfl 29 #[.int .i64 0, .int .i64 0] ((HS5.out.grown.block _ (by rw [hp_size, hp_size]; omega) (by simp)).trans (al2_b w3 _ _)) (by kernel_rfl) rfl (by intro v hv; simp at hv; rcases hv with rfl | rfl <;> rfl) ?_; intro w6 hs6; have HS6 := hid hs6; clear hs6))
  try simp only [Act.put]
  have hsz : B + 1 + 1 ≤ w3.heap.size := by have := HB3.out.size; have := HZ2.out; omega
  have hb4 : Below w3.heap.size w3 ((w3.alloc (.cells zX 49)).alloc (.cells #[.int .i64 0, .int .i64 0] 29)) := (below_walk w3 _).alloc (by rw [hp_size]; omega) _
  have hb5 := hb4.trans (gbz_below HS5.out.grown (Nat.le_refl _) hb4.size)
  have hb6 := hb5.trans (gbz_below HS6.out.grown (by omega) hb5.size)
  have HL0 := hid ((hb6.block B (by omega)).trans ((HB3.out.block B (by have := HZ2.out; omega)).trans HN0.out))
  have HL1 := hid ((hb6.block (B + 1) (by omega)).trans ((HB3.out.block (B + 1) (by have := HZ2.out; omega)).trans HN1.out))
  have HG0 := hid ((HS6.out.grown.block _ (hp_lt HS5.out.blk) (by simp)).trans HS5.out.blk)
  have HG1 := hid HS6.out.blk
  have HBE : Hid (Below B w w6) := hid (((HB.out ▸ HB2.out).trans (HB3.out.mono (by have := HZ2.out; omega))).trans (hb6.mono (by omega)))
  have HB6 := hid hb6
  clear hb4 hb5 hb6 HS5 HS6 HC HN0 HN1 HB2
  have HR2 : Hid (w2.heap.size = B + 1 + 1) := hid (HZ2.out.trans rfl)
  obtain ⟨g, HGG⟩ : ∃ g, Hid (w3.heap.size = g) := ⟨_, rfl⟩
  rw [HGG.out] at HG0 HG1 hsz ⊢
  refine wp_noPanic (wp_region_held_drew (S := fun W => W.heap[g]? = some (.cells #[c0, c1, c2, c3, c4, c5, c6, c7, c8, c9] 49 (0, 0)) ∧ W.heap[g + 1]? = some (.cells #[.int .i64 x, .int .i64 y] 29 (0, 0))) (by kernel_rfl) ⟨HG0.out, HG1.out⟩ ?_)
  intro hHeld
  refine wpAnyH_take (i := 0) (v := .agg #[c0, c1, c2, c3, c4, c5, c6, c7, c8, c9]) rfl (by kernel_rfl) (by kernel_rfl) (by kernel_rfl) (fun _ _ _ h => h) (yieldsIf_load_mid (by rfl) 49 (.tmp 6) rfl g 0 rfl [c0, c1, c2, c3, c4, c5, c6, c7, c8, c9] _ (fun W hW k v hv => by rw [Nat.zero_add, cell_of_row _ _ _ _ _ _ hW.1]; simpa using hv) Tryd.underlying49 rfl Tryd.rowExpr) hHeld ?_
  simp only [Act.put, List.getElem_toArray, List.getElem_cons_zero, List.setIfInBounds_toArray, List.set_cons_succ, List.set_cons_zero]
  refine wpAnyH_take (i := 1) (v := .agg #[.int .i64 x, .int .i64 y]) rfl (by kernel_rfl) (by kernel_rfl) (by kernel_rfl) (fun _ _ _ h => h) (yieldsIf_load_mid (by rfl) 29 (.tmp 8) rfl (g + 1) 0 rfl [.int .i64 x, .int .i64 y] _ (fun W hW k v hv => by rw [Nat.zero_add, cell_of_row _ _ _ _ _ _ hW.2]; simpa using hv) Tryd.underlying29 rfl (by kernel_rfl)) hHeld ?_
  simp only [Act.put, List.getElem_toArray, List.getElem_cons_zero, List.getElem_cons_succ, List.setIfInBounds_toArray, List.set_cons_succ, List.set_cons_zero]
  refine wpAnyH_ready (rs := [2]) (by kernel_rfl) (by simp) ?_
  refine AllReadyH.cons rfl (fun K hK => ?_) AllReadyH.nil
  refine step_store_row rfl 49 (.tmp 4) (.tmp 16) rfl B [c0, c1, c2, c3, c4, c5, c6, c7, c8, c9] rfl rfl 49 zX (by exact HL0.out) Tryd.rowExpr rfl HONE.out ?_
  intro w7 hs7
  have hg7 : w6.grownBy w7 (some B) := gb_trans (below_gb (show Below w6.heap.size w6 w6.drew from (Below.refl _ _).drew) (some B)) hs7.grown
  have k0 := (hg7.block g (hp_lt HG0.out) (by simp <;> omega)).trans HG0.out
  have k1 := (hg7.block (g + 1) (hp_lt HG1.out) (by simp <;> omega)).trans HG1.out
  have K0 := hid hs7.blk
  have K1 := hid ((hg7.block (B + 1) (hp_lt HL1.out) (by simp)).trans HL1.out)
  have HG7 := hid hg7
  refine hK.out _ _ ⟨k0, k1⟩ (fun hHeld => ?_)
  clear hK K hs7 hg7
  try simp only [Act.put]
  refine wpAnyH_ready (rs := [3]) (by kernel_rfl) (by simp) ?_
  refine AllReadyH.cons rfl (fun K hK => ?_) AllReadyH.nil
  refine step_store_row rfl 29 (.tmp 5) (.tmp 17) rfl (B + 1) [.int .i64 x, .int .i64 y] rfl rfl 29 _ K1.out (by kernel_rfl) rfl (by intro v hv; simp at hv; rcases hv with rfl | rfl <;> rfl) ?_
  intro w8 hs8
  have Q0 := hid ((hs8.grown.block B (hp_lt K0.out) (by simp)).trans K0.out)
  have Q1 := hid hs8.blk
  have HG8 := hid hs8.grown
  refine hK.out _ _ ⟨(hs8.grown.block g (hp_lt k0) (by simp <;> omega)).trans k0, (hs8.grown.block (g + 1) (hp_lt k1) (by simp <;> omega)).trans k1⟩ (fun hHeld => ?_)
  clear hK K hs8 k0 k1
  refine wpAnyH_done (by kernel_rfl) ?_ _
  simp only [noPanic]
  clear hHeld
  have HLAST : Hid (TopOut l fuel (fun w => tE w) zX r w (.returned (.tuple #[.agg #[c0, c1, c2, c3, c4, c5, c6, c7, c8, c9], .agg #[.int .i64 x, .int .i64 y]])) w8) := by
    have h6 := HB6.out.size
    have h7 := HG7.out.size
    have h8 := HG8.out.size
    refine hid ⟨?_, ?_⟩
    · rw [HB.out]
      exact (HBE.out.trans (gbz_below HG7.out (Nat.le_refl _) (by have := HGG.out; omega))).trans (gbz_below HG8.out (by omega) (by have := HGG.out; omega))
    · have hq := HRES.out w8 w.heap.size (by rw [HR2.out, HB.out]; omega) (fun k hk hl => by
        rw [HR2.out] at hk
        rw [HG8.out.block k (by omega) (by simp; omega), HG7.out.block k (by omega) (by simp; omega)]
        exact HB6.out.block k hl) (by omega)
      generalize finP l fuel r = q at hq ⊢
      cases q with
      | error f => exact hq
      | ok q => exact hq
  go_wp2_with fail
  exact ret_ccT 4 5 49 29 Tryd.results10 B rfl (B + 1) rfl [c0, c1, c2, c3, c4, c5, c6, c7, c8, c9] 49 Q0.out _ Tryd.underlying49 rfl Tryd.rowExpr [.int .i64 x, .int .i64 y] 29 Q1.out _ Tryd.underlying29 rfl (by kernel_rfl) rfl HLAST.out

end Go.Proofs.YtjjajfipfeigiabDoor

/- The two sources of awake, read. -/
namespace Go.Proofs.YtjjajfipfeigiabDoor
open Go.RowKit

/-- const c = 1 + 2; -/
def awS : List UInt8 := [99, 111, 110, 115, 116, 32, 99, 32, 61, 32, 49, 32, 43, 32, 50, 59]
/-- const c = 1 +; -/
def awT : List UInt8 := [99, 111, 110, 115, 116, 32, 99, 32, 61, 32, 49, 32, 43, 59]
def awC : Bool := match finP awS 9 (modP (srcP awS 9) 40) with
  | .ok (m, _) => m.incs.length == 0 && m.cns.length == 1
  | .error _ => false
theorem aw_c : awC = true := by decide +kernel
theorem aw_t : finP awT 9 (modP (srcP awT 9) 40) = .error (140, 13, 6) := by kernel_rfl

end Go.Proofs.YtjjajfipfeigiabDoor

/- A region that draws its order, whose operations read, and whose callees may make memory: walked once. -/
namespace Go.Proofs.YtjjajfipfeigiabDoor
open Go.RowKit

/-- a world in which all that was there is as it was -/
structure Bel (w : World) where
  out : World
  bel : Below w.heap.size w out
theorem bel_some (w : World) : Nonempty (Bel w) := ⟨⟨w, Below.refl _ _⟩⟩
theorem wp_region_quiet_bel {P : Program} {id : Nat} {Q : Exit → Act → World → Prop} {a : Act} {w : World} {l : List Oper} (hm : P.follows .mixedOrders = true) (hB : Region.lexB .any l.toArray = true)
    (h : wpQuiet P l.toArray (fun w' => ∃ p : Bel w, w' = p.out) (fun a' => ∀ w', (∃ p : Bel w, w' = p.out) → Q .normal a' w') l a) : (Code.region id l.toArray true).wp P Q a w :=
  wp_region_quiet (C := fun w' => ∃ p : Bel w, w' = p.out) hm hB ⟨⟨{ w with drawn := w.drawn + 1 }, ⟨rfl, rfl, rfl, Nat.le_refl _, fun _ _ => rfl⟩⟩, rfl⟩ (by simpa using h)
theorem Bel.cell {w : World} (p : Bel w) {b o : Nat} {v : Value} (h : w.cell? ⟨b, o, none⟩ = some v) (hb : b < w.heap.size) : p.out.cell? ⟨b, o, none⟩ = some v := (p.bel.cell (p := ⟨b, o, none⟩) hb).trans h
/-- a callee's contract, met in a world of the class -/
theorem bel_of {P : Program} {f : FuncId} {args : Array Value} {w : World} {p : Bel w} {v : Value}
    (h : Calls P f args p.out fun e w' => e = .returned v ∧ Below p.out.heap.size p.out w') : Calls P f args p.out fun e w'' => e = .returned v ∧ ∃ p' : Bel w, w'' = p'.out :=
  h.mono fun _ w' ⟨he, hb⟩ => ⟨he, ⟨w', p.bel.trans (hb.mono p.bel.size)⟩, rfl⟩
theorem bel_drew {P : Program} {f : FuncId} {args : Array Value} {w : World} {p : Bel w} {v : Value}
    (h : Calls P f args p.out fun e w' => e = .returned v ∧ ∃ n, w' = p.out.drewN n) : Calls P f args p.out fun e w'' => e = .returned v ∧ ∃ p' : Bel w, w'' = p'.out :=
  h.mono fun _ w' ⟨he, n, hw⟩ => ⟨he, ⟨w', by rw [hw]; exact ⟨p.bel.os, p.bel.tape, p.bel.output, p.bel.size, p.bel.block⟩⟩, rfl⟩
theorem bel_same {P : Program} {f : FuncId} {args : Array Value} {w : World} {p : Bel w} {v : Value}
    (h : Calls P f args p.out fun e w' => e = .returned v ∧ w' = p.out) : Calls P f args p.out fun e w'' => e = .returned v ∧ ∃ p' : Bel w, w'' = p'.out :=
  h.mono fun _ _ ⟨he, hw⟩ => ⟨he, p, hw⟩

theorem quiet_ld {P : Program} {a : Act} {o : Oper} {C : World → Prop} {K : Act → Prop} (ty : TypeId) (x : Operand) (ho : o.op = .load ty x) (b off : Nat) (hx : a.eval x = .pointer (some ⟨b, off, none⟩)) (cs : List Value) (d : TypeDesc) (hc : ∀ w, C w → w.rangeAt b off cs)
    (hu : P.underlying ty = some d) (hd : d.isRow = true) (hi : (P.info? ty).map (·.size) = some cs.length) (hk : K (a.put o.dst (.agg cs.toArray))) : o.quiet P a C K :=
  ⟨_, fun w hw => by
    unfold Oper.quietAt execOp
    simp only [ho, hx, Instr.loadAt, Instr.sureAddr, Sem.run_bind, Sem.run_pure, Result.andThen_ok, run_loadVar_mid w b off ty cs d (hc w hw) hu hd hi]
    exact ⟨rfl, rfl⟩, hk⟩
theorem Bel.range {w : World} {b off : Nat} {cs : List Value} (h : w.rangeAt b off cs) (hb : b < w.heap.size) : ∀ w', (∃ p : Bel w, w' = p.out) → w'.rangeAt b off cs := by
  rintro w' ⟨p, rfl⟩ j v hv
  exact p.cell (h j v hv) hb
theorem range_row {w : World} {b : Nat} {cs : List Value} {t : TypeId} (h : w.heap[b]? = some (.cells cs.toArray t (0, 0))) : w.rangeAt b 0 cs := fun j v hv => by
  rw [Nat.zero_add, cell_of_row w b j cs.toArray t (0, 0) h]
  simpa using hv

end Go.Proofs.YtjjajfipfeigiabDoor

/- What must come, comes. -/
namespace Go.Proofs.YtjjajfipfeigiabDoor
open Go.RowKit

theorem no_if {l : List UInt8} (fuel : Int) (h : ∀ t ∈ (tokL l).1, txA l t ≠ [105, 110, 99, 108, 117, 100, 101] ∧ txA l t ≠ [102, 117, 110, 99]) : NoIF l fuel := by
  intro i t ht
  unfold lkP at ht
  cases hq : (tokL l).1[i]? with
  | none => rw [hq] at ht; cases ht
  | some u =>
    rw [hq] at ht
    have hm : u ∈ (tokL l).1 := List.mem_of_getElem? hq
    by_cases hc : u.1 ≠ 0 ∧ fuel ≤ (i : Int)
    · simp only [if_pos hc] at ht; cases ht
    · simp only [if_neg hc] at ht
      injection ht with ht
      exact ht ▸ h u hm
theorem no_s : NoIF awS 9 := no_if 9 (by decide +kernel)
theorem no_t : NoIF awT 9 := no_if 9 (by decide +kernel)
def isOut {α : Type} (r : Except Ft α) : Bool := match r with
  | .error f => f == outF
  | .ok _ => false
theorem not_out {α : Type} {r : Except Ft α} (h : isOut r = false) : r ≠ .error outF := by
  rintro rfl
  simp [isOut] at h
theorem out_s : modP (srcP awS 9) 40 ≠ .error outF := not_out (by decide +kernel)
theorem out_t : modP (srcP awT 9) 40 ≠ .error outF := not_out (by decide +kernel)
def opOf (r : Except Ft (Md × Nat)) : Bool := match r with
  | .error _ => false
  | .ok (m, _) => m.cns.map (fun c => c.ex.op) == [9]
theorem op_s : opOf (finP awS 9 (modP (srcP awS 9) 40)) = true := by decide +kernel

theorem mod_t (w : World) (hT : TabZ w) : Calls Tryd.prog 6 #[.string (mk awT), .int .i64 9] w (fun e w' => Below w.heap.size w w' ∧ e = .returned (.tuple #[.agg #[.slice none 0 0, .slice none 0 0, .slice none 0 0], .agg #[.int .i64 140, .int .i64 13]])) := by
  refine (pmodule_any awT (by decide) 9 (modP (srcP awT 9) 40) w hT (fun b W u hz => modC_any (by decide) no_t W hz out_t)).mono ?_
  rintro e w' ⟨h1, h2⟩
  rw [aw_t] at h2
  exact ⟨h1, h2⟩
theorem mod_s (w : World) (hT : TabZ w) : Calls Tryd.prog 6 #[.string (mk awS), .int .i64 9] w (fun e w' => Below w.heap.size w w' ∧ ∃ iv cv fv c, e = .returned (.tuple #[.agg #[iv, cv, fv], .agg #[.int .i64 0, .int .i64 0]]) ∧ (∀ u ∈ [iv, cv, fv], u.oneCell' = true) ∧ Lsd kC (fun g => w.heap.size ≤ g) w' cv [c] ∧ c.1.ex.op = 9) := by
  refine (pmodule_any awS (by decide) 9 (modP (srcP awS 9) 40) w hT (fun b W u hz => modC_any (by decide) no_s W hz out_s)).mono ?_
  rintro e w' ⟨h1, h2⟩
  have h3 := op_s
  generalize finP awS 9 (modP (srcP awS 9) 40) = q at h2 h3
  cases q with
  | error f => cases h3
  | ok q =>
    obtain ⟨m, j⟩ := q
    obtain ⟨v, rfl, iv, cv, fv, is, cs, fs, rfl, rfl, l1, l2, l3⟩ := h2
    have h4 : ((cs.map (·.1)).map (fun c => c.ex.op)) = [9] := by simpa [opOf] using h3
    obtain ⟨c, rfl, h5⟩ : ∃ c, cs = [c] ∧ c.1.ex.op = 9 := by
      cases cs with
      | nil => simp at h4
      | cons c cs => cases cs with
        | nil => exact ⟨c, rfl, by simpa using h4⟩
        | cons d cs => simp at h4
    exact ⟨h1, iv, cv, fv, c, rfl, lsd3_one l1.one l2.one l3.one, l2, h5⟩

theorem flt_run (a b x y : Int) (w : World) : (Op.equalIn 10000 29 (.agg #[.int .i64 a, .int .i64 b]) (.agg #[.int .i64 x, .int .i64 y])).run Tryd.prog w = .ok (a == x && b == y) w := by
  have hS : Tryd.prog.underlying 29 = some (.struct (Tryd.prog.fieldsOf 29)) := by kernel_rfl
  have hp : Tryd.prog.stoodInHeld 29 = false := by kernel_rfl
  have u3 := Tryd.underlying3
  have a3 := Tryd.isAgg3
  have z3 := Tryd.sizeOf3
  have u9 := Tryd.underlying27
  have a9 := Tryd.isAgg27
  have z9 := Tryd.sizeOf27
  rw [show (10000 : Nat) = 9999 + 1 from rfl, run_equalIn_agg w 9999 29 _ _ hS hp]
  simp only [Program.fieldsOf, Tryd.underlying29]
  go_simp
  by_cases h1 : a = x <;> by_cases h2 : b = y <;> simp [h1, h2]
theorem flt_eql (a b x y : Int) (w : World) : (binOp .eql 29 (.agg #[.int .i64 a, .int .i64 b]) (.agg #[.int .i64 x, .int .i64 y])).run Tryd.prog w = .ok (.bool (decide ((a, b) = (x, y)))) w := by
  rw [run_eql_struct, flt_run]
  have : (a == x && b == y) = decide ((a, b) = (x, y)) := by
    rw [Bool.eq_iff_iff]
    simp
  rw [this]
  rfl
theorem none_any (w : World) : Calls Tryd.prog 11 #[] w (fun e w' => e = .returned (.agg #[.int .i64 0, .int .i64 0]) ∧ Below w.heap.size w w') := by
  go_enter Tryd.func11, Tryd.ntmps11
  go_wp2
  exact ret_row 0 29 Tryd.results11 w.heap.size rfl [.int .i64 0, .int .i64 0] 29 (hp_new w _) _ Tryd.underlying29 rfl (by kernel_rfl) rfl ⟨rfl, below_walk w _⟩
theorem al2_bel (w : World) (o o2 : Obj) : Below w.heap.size w ((w.alloc o).alloc o2) := (below_walk w o).alloc (by rw [hp_size]; omega) o2
theorem st2_bel {w w1 w2 : World} {o o2 : Obj} {g g2 : Nat} (h1 : ((w.alloc o).alloc o2).grownBy w1 (some g)) (h2 : w1.grownBy w2 (some g2)) (hg : w.heap.size ≤ g) (hg2 : w.heap.size ≤ g2) : Below w.heap.size w w2 := by
  have a := al2_bel w o o2
  have b := a.trans (gbz_below h1 hg a.size)
  exact b.trans (gbz_below h2 hg2 b.size)

set_option maxRecDepth 20000 in
set_option maxHeartbeats 2000000 in
theorem awake_any (w : World) (hT : TabZ w) : Calls Tryd.prog 8 #[] w (fun e w' => Below w.heap.size w w' ∧ e = .returned (.bool true)) := by
  have HC1 := hid (fun (w1 : World) h => mod_s w1 h)
  have HC2 := hid (fun (w1 : World) h => mod_t w1 h)
  go_enter Tryd.func8, Tryd.ntmps8
  have HT := hid hT
  clear hT
  go_upto_region 2 with (first
    | (go_at_call 6; refine (HC1.out _ HT.out).mono ?_; rintro e w1 ⟨hb, iv, cv, fv, c, rfl, ho, hl, h9⟩; have HB1 := hid hb; have HO := hid ho; have HL := hid hl; have H9 := hid h9; clear hb ho hl h9)
    | (refine al_row rfl 26 rfl #[.slice none 0 0, .slice none 0 0, .slice none 0 0] Tryd.zeroModule ?_)
    | (refine st_row rfl 26 (.tmp 1) (.tmp 7) rfl _ [iv, cv, fv] rfl rfl 26 #[.slice none 0 0, .slice none 0 0, .slice none 0 0] (by exact al2_a w1 _ _) Tryd.rowModule rfl HO.out ?_; intro w2 hs; have HS2 := hid hs; clear hs)
    | (refine st_row rfl 29 (.tmp 2) (.tmp 8) rfl _ [.int .i64 0, .int .i64 0] rfl rfl 29 #[.int .i64 0, .int .i64 0] ((HS2.out.grown.block _ (by rw [hp_size, hp_size]; omega) (by simp)).trans (al2_b w1 _ _)) (by kernel_rfl) rfl (by intro v hv; simp at hv; rcases hv with rfl | rfl <;> rfl) ?_; intro w3 hs; have HS3 := hid hs; clear hs))
  try simp only [Act.put]
  have hb3 := st2_bel HS2.out.grown HS3.out.grown (Nat.le_refl _) (by omega)
  have HM := hid ((HS3.out.grown.block _ (hp_lt HS2.out.blk) (by simp)).trans HS2.out.blk)
  have HF := hid HS3.out.blk
  have HBE : Hid (Below w.heap.size w w3) := hid (HB1.out.trans (hb3.mono HB1.out.size))
  have HL3 : Hid (Lsd kC (fun g => w.heap.size ≤ g) w3 cv [c]) := hid (HL.out.keep kC_ok (fun k hq hl => ⟨hb3.block k hl, hq⟩) hb3.size)
  clear hb3 HS2 HS3 HL HB1 HO HC1
  generalize w1.heap.size = g at *
  go_upto_region 3 with (first
    | (go_at_call 6; refine (HC2.out _ (HT.out.below HBE.out)).mono ?_; rintro e w4 ⟨hb, rfl⟩; have HB4 := hid hb; clear hb)
    | (refine al_row rfl 26 rfl #[.slice none 0 0, .slice none 0 0, .slice none 0 0] Tryd.zeroModule ?_)
    | (refine st_row rfl 26 (.tmp 3) (.tmp 11) rfl _ [.slice none 0 0, .slice none 0 0, .slice none 0 0] rfl rfl 26 #[.slice none 0 0, .slice none 0 0, .slice none 0 0] (by exact al2_a w4 _ _) Tryd.rowModule rfl (by intro v hv; simp at hv; rw [hv]; rfl) ?_; intro w5 hs; have HS5 := hid hs; clear hs)
    | (refine st_row rfl 29 (.tmp 4) (.tmp 12) rfl _ [.int .i64 140, .int .i64 13] rfl rfl 29 #[.int .i64 0, .int .i64 0] ((HS5.out.grown.block _ (by rw [hp_size, hp_size]; omega) (by simp)).trans (al2_b w4 _ _)) (by kernel_rfl) rfl (by intro v hv; simp at hv; rcases hv with rfl | rfl <;> rfl) ?_; intro w6 hs; have HS6 := hid hs; clear hs))
  try simp only [Act.put]
  have hb6 := st2_bel HS5.out.grown HS6.out.grown (Nat.le_refl _) (by omega)
  have hb7 := HB4.out.trans (hb6.mono HB4.out.size)
  have m1 := (hb7.block _ (hp_lt HM.out)).trans HM.out
  have m2 := (hb7.block _ (hp_lt HF.out)).trans HF.out
  have m3 := HS6.out.blk
  have HBL : Hid (Below w.heap.size w w6) := hid (HBE.out.trans (hb7.mono HBE.out.size))
  have hl6 : Lsd kC (fun g => w.heap.size ≤ g) w6 cv [c] := HL3.out.keep kC_ok (fun k hq hl => ⟨hb7.block k hl, hq⟩) hb7.size
  clear hb6 hb7 HS5 HS6 HM HF HBE HL3 HB4 HC2
  generalize w4.heap.size = g4 at *
  obtain ⟨gc, oc, cc, rfl, _, hgc, hr⟩ : ∃ gc oc cc, cv = .slice (some ⟨gc, oc, none⟩) 1 cc ∧ w.heap.size ≤ gc ∧ gc < w6.heap.size ∧ ∀ j x, [c][j]? = some x → w6.rangeAt gc (oc + kC.size * j) (kC.cells x) ∧ kC.good (fun g => w.heap.size ≤ g) w6 x := by
    rcases hl6 with ⟨h, _⟩ | h
    · cases h
    · exact h
  have r0 := (hr 0 c rfl).1
  have e8' : w6.cell? ⟨gc, oc + 11, none⟩ = some (.int .i64 9) := by
    have := r0 11 (.int .i64 (c.1.ex.op : Int)) rfl
    rw [H9.out] at this
    exact this
  have m10' : w6.cell? ⟨g, 1, none⟩ = some (.slice (some ⟨gc, oc, none⟩) 1 cc) := by rw [cell_of_row _ _ _ _ _ _ m1]; rfl
  have e8 := fun p : Bel w6 => p.cell e8' hgc
  have m10 := fun p : Bel w6 => p.cell m10' (hp_lt m1)
  have R2 := hid (Bel.range (range_row (cs := [.int .i64 0, .int .i64 0]) m2) (hp_lt m2))
  have R3 := hid (Bel.range (range_row (cs := [.int .i64 140, .int .i64 13]) m3) (hp_lt m3))
  have ib : Nonempty (Bel w6) := bel_some w6
  clear hr hl6 r0 e8' m10' hgc m1 m2 m3
  have n1 : ∀ W, (binOp .eql 29 (.agg #[.int .i64 0, .int .i64 0]) (.agg #[.int .i64 0, .int .i64 0])).run Tryd.prog W = .ok (.bool true) W := fun W => flt_eql 0 0 0 0 W
  have n2 : ∀ W, (binOp .eql 29 (.agg #[.int .i64 140, .int .i64 13]) (.agg #[.int .i64 140, .int .i64 13])).run Tryd.prog W = .ok (.bool true) W := fun W => flt_eql 140 13 140 13 W
  refine wp_region_quiet_bel (by kernel_rfl) (by kernel_rfl) ?_
  go_big_quiet_want
  refine quiet_ld 29 (.tmp 2) rfl (g + 1) 0 rfl [.int .i64 0, .int .i64 0] _ R2.out Tryd.underlying29 rfl (by kernel_rfl) ?_
  simp only [Act.put, List.setIfInBounds_toArray, List.set_cons_succ, List.set_cons_zero]
  go_big_quiet_on
  repeat go_big_quiet_step (first | (go_at_call 11; exact bel_of (none_any _)))
  go_big_quiet_want
  refine quiet_ld 29 (.tmp 4) rfl (g4 + 1) 0 rfl [.int .i64 140, .int .i64 13] _ R3.out Tryd.underlying29 rfl (by kernel_rfl) ?_
  simp only [Act.put, List.setIfInBounds_toArray, List.set_cons_succ, List.set_cons_zero]
  go_big_quiet_on
  repeat go_big_quiet_step (fail)
  refine wpQuiet_nil ?_
  rintro w7 ⟨⟨w7', hb7⟩, hw7⟩
  obtain rfl : w7 = w7' := hw7
  have HB7 := hid (HBL.out.trans (hb7.mono HBL.out.size))
  clear hb7 ib
  go_wp2
  go_ret
  exact ⟨HB7.out, rfl⟩

end Go.Proofs.YtjjajfipfeigiabDoor

/- x op y op z, read: the five lines of operators, one with another. -/
namespace Go.Proofs.YtjjajfipfeigiabDoor
open Go.RowKit

/-- one operator of each line -/
def leB : Nat → List UInt8
  | 0 => [124, 124]
  | 1 => [38, 38]
  | 2 => [60]
  | 3 => [43]
  | _ => [42]
def leS (i k : Nat) : List UInt8 := [120, 32] ++ leB i ++ [32, 121, 32] ++ leB k ++ [32, 122]
def leR (i k : Nat) : Except Ft (Ex × Nat) := expF (srcP (leS i k) 9) 60 0 0 0
def leC (i k : Nat) : Bool := match finP (leS i k) 9 (leR i k) with
  | .error f => i == 2 && k == 2 && f.1 == 140 && f.2.1 == 6
  | .ok (a, _) => !(i == 2 && k == 2) && match a.kids with
    | [x, y] => if i < k then a.pl == 2 && x.nm == [120] && y.kids.length == 2 else a.pl == 5 + (leB i).length && y.nm == [122] && x.kids.length == 2
    | _ => false
theorem le_all : ∀ i < 5, ∀ k < 5, leC i k = true := by decide +kernel
theorem le_out : ∀ i < 5, ∀ k < 5, isOut (leR i k) = false := by decide +kernel

theorem le_any {i k : Nat} (hi : i < 5) (hk : k < 5) (w : World) (hT : TabZ w) : Calls Tryd.prog 10 #[.string (mk (leS i k)), .int .i64 9] w (TopOut (leS i k) 9 (fun w => tE w) zX (leR i k) w) :=
  pexpr_any (leS i k) (by have : ∀ i < 5, ∀ k < 5, (leS i k).length ≤ 140737488355328 := by decide
                          exact this i hi k hk) 9 (leR i k) w hT (fun _ W _ hz => expr_any (by decide) W hz (not_out (le_out i hi k hk)))

end Go.Proofs.YtjjajfipfeigiabDoor

/- ParseLeft (written by zleft.py). -/
namespace Go.Proofs.YtjjajfipfeigiabDoor
open Go.RowKit

theorem mk_addZ (l m : List UInt8) : mk l ++ mk m = mk (l ++ m) := by
  unfold mk
  apply ByteArray.ext
  simp [ByteArray.data_append]
theorem str_addZ (l m : List UInt8) (h : l.length + m.length ≤ 9223372036854775807) (W : World) : (Op.stringOp .add (mk l) (mk m)).run Tryd.prog W = .ok (.string (mk (l ++ m))) W := by
  have hs : ¬ ((((mk l).size + (mk m).size : Nat) : Int) > IntKind.i64.max) := by
    rw [mk_size, mk_size, show IntKind.i64.max = 9223372036854775807 from rfl]
    omega
  simp only [Op.stringOp]
  rw [if_neg hs, mk_addZ]
  rfl
theorem leB_len (i : Nat) : (leB i).length ≤ 2 := by unfold leB; split <;> simp
theorem zeroFlt : ∀ w, (zeroValue 29).run Tryd.prog w = .ok (.agg #[.int .i64 0, .int .i64 0]) w := fun w => by
  have h : (Tryd.prog.info? 29).map (fun i => i.zero) = some (some (.agg #[.int .i64 0, .int .i64 0])) := by kernel_rfl
  cases hi : Tryd.prog.info? 29 with
  | none => rw [hi] at h; cases h
  | some i =>
    rw [hi] at h
    simp only [Option.map_some, Option.some.injEq] at h
    simp [zeroValue, typeInfo, hi, h]

/-- the trees that are told, cell by cell: in a world W, in blocks from B to C -/
def LeK (i k B C : Nat) (W : World) (cs : List Value) : Prop := ∃ (gk ok ck : Nat) (nx ny : List UInt8) (ax ay : Option Addr) (lx ly cx cy pl : Nat), cs[1]? = some (.int .i64 (pl : Int)) ∧ cs[9]? = some (.slice (some ⟨gk, ok, none⟩) 2 ck) ∧ B ≤ gk ∧ gk < C ∧
  W.cell? ⟨gk, ok + 3, none⟩ = some (.string (mk nx)) ∧ W.cell? ⟨gk, ok + 9, none⟩ = some (.slice ax lx cx) ∧ W.cell? ⟨gk, ok + 10 + 3, none⟩ = some (.string (mk ny)) ∧ W.cell? ⟨gk, ok + 10 + 9, none⟩ = some (.slice ay ly cy) ∧
  (i < k → pl = 2 ∧ nx = [120] ∧ ly = 2) ∧ (¬ i < k → pl = 5 + (leB i).length ∧ ny = [122] ∧ lx = 2)
theorem LeK.keep {i k B C : Nat} {W W' : World} {cs : List Value} (h : LeK i k B C W cs) (hb : ∀ q, B ≤ q → q < C → W'.heap[q]? = W.heap[q]?) : LeK i k B C W' cs := by
  obtain ⟨gk, ok, ck, nx, ny, ax, ay, lx, ly, cx, cy, pl, h1, h2, h3, h4, h5, h6, h7, h8, h9⟩ := h
  have e : ∀ o, W'.cell? ⟨gk, o, none⟩ = W.cell? ⟨gk, o, none⟩ := fun o => World.cell?_of_block (hb gk h3 h4)
  exact ⟨gk, ok, ck, nx, ny, ax, ay, lx, ly, cx, cy, pl, h1, h2, h3, h4, (e _).trans h5, (e _).trans h6, (e _).trans h7, (e _).trans h8, h9⟩
/-- what Expr answers of the source: one cell each -/
def LeV (i k B C : Nat) (W : World) (cs : List Value) (fx fy : Int) : Prop := (∀ u ∈ cs, u.oneCell' = true) ∧ cs.length = 10 ∧ ((i = 2 ∧ k = 2 ∧ fx = 140 ∧ fy = 6) ∨ (¬ (i = 2 ∧ k = 2) ∧ fx = 0 ∧ fy = 0 ∧ LeK i k B C W cs))
theorem LeV.keep {i k B C : Nat} {W W' : World} {cs : List Value} {fx fy : Int} (h : LeV i k B C W cs fx fy) (hb : ∀ q, B ≤ q → q < C → W'.heap[q]? = W.heap[q]?) : LeV i k B C W' cs fx fy :=
  ⟨h.1, h.2.1, h.2.2.imp id (fun h => ⟨h.1, h.2.1, h.2.2.1, h.2.2.2.keep hb⟩)⟩
theorem exs_shape {P : Nat → Prop} {w : World} {d : Nat} {kv : Value} {ks : List Ex} (h : ExS P w d kv ks) : ∃ a c, kv = .slice a ks.length c := by
  cases d with
  | zero => obtain ⟨rfl, a, c, rfl⟩ := h; exact ⟨a, c, rfl⟩
  | succ d =>
    rcases h with ⟨rfl, a, c, rfl⟩ | ⟨g, o, c, rfl, _⟩
    · exact ⟨a, c, rfl⟩
    · exact ⟨_, c, rfl⟩
theorem le_kids {i k B : Nat} {w : World} {a : Ex} {kv : Value} {d : Nat} (h : ExS (fun g => B ≤ g) w d kv a.kids) (h2 : ∃ x y, a.kids = [x, y] ∧ (i < k → a.pl = 2 ∧ x.nm = [120] ∧ y.kids.length = 2) ∧ (¬ i < k → a.pl = 5 + (leB i).length ∧ y.nm = [122] ∧ x.kids.length = 2)) : LeK i k B w.heap.size w (exC a kv) := by
  obtain ⟨x, y, hk, h3, h4⟩ := h2
  rw [hk] at h
  cases d with
  | zero => exact absurd h.1 (by simp)
  | succ d =>
    rcases h with ⟨h, _⟩ | ⟨g, o, c, rfl, hg, hl, hc⟩
    · cases h
    · obtain ⟨kx, hx, ex⟩ := hc 0 x rfl
      obtain ⟨ky, hy, ey⟩ := hc 1 y rfl
      obtain ⟨ax, cx, rfl⟩ := exs_shape ex
      obtain ⟨ay, cy, rfl⟩ := exs_shape ey
      refine ⟨g, o, c, x.nm, y.nm, ax, ay, x.kids.length, y.kids.length, cx, cy, a.pl, rfl, rfl, hg, hl, hx 3 _ rfl, hx 9 _ rfl, hy 3 _ rfl, hy 9 _ rfl, h3, h4⟩
theorem le_call {i k : Nat} (hi : i < 5) (hk : k < 5) (w : World) (hT : TabZ w) : Calls Tryd.prog 10 #[.string (mk (leS i k)), .int .i64 9] w fun e w' => Below w.heap.size w w' ∧ ∃ (cs : List Value) (fx fy : Int), e = .returned (.tuple #[.agg cs.toArray, .agg #[.int .i64 fx, .int .i64 fy]]) ∧ LeV i k w.heap.size w'.heap.size w' cs fx fy := by
  refine (le_any hi hk w hT).mono ?_
  rintro e w' ⟨h1, h2⟩
  refine ⟨h1, ?_⟩
  have h3 := le_all i hi k hk
  unfold leC at h3
  generalize finP (leS i k) 9 (leR i k) = q at h2 h3
  cases q with
  | error f =>
    simp only [Bool.and_eq_true, beq_iff_eq] at h3
    refine ⟨zX.toList, f.1, (f.2.1 : Int), h2, ?_, rfl, Or.inl ⟨h3.1.1.1, h3.1.1.2, h3.1.2, by omega⟩⟩
    intro v hv
    simp [zX] at hv
    rcases hv with rfl | rfl | rfl | rfl | rfl | rfl | rfl <;> rfl
  | ok q =>
    obtain ⟨a, j⟩ := q
    obtain ⟨v, rfl, kv, d, rfl, h4⟩ := h2
    simp only [Bool.and_eq_true, Bool.not_eq_true', Bool.and_eq_false_iff, beq_eq_false_iff_ne] at h3
    refine ⟨exC a kv, 0, 0, rfl, exC_one a kv h4.cell, exC_length a kv, Or.inr ⟨by omega, rfl, rfl, le_kids h4 ?_⟩⟩
    have h5 := h3.2
    match hkk : a.kids, h5 with
    | [x, y], h5 =>
      dsimp only at h5
      refine ⟨x, y, rfl, fun h => ?_, fun h => ?_⟩
      · rw [if_pos h] at h5
        simpa [and_assoc] using h5
      · rw [if_neg h] at h5
        simpa [and_assoc] using h5

/-- both stored -/
def LeO (i k : Nat) (w wx : World) (ge gf : Nat) : Prop := Below w.heap.size w wx ∧ ∃ (cs : List Value) (fx fy : Int) (B C : Nat), wx.heap[ge]? = some (.cells cs.toArray 49 (0, 0)) ∧ wx.heap[gf]? = some (.cells #[.int .i64 fx, .int .i64 fy] 29 (0, 0)) ∧ C ≤ wx.heap.size ∧ LeV i k B C wx cs fx fy
theorem leO_mk {i k B C ge gf : Nat} {w Wc W W1 W2 : World} {cs : List Value} {fx fy : Int} (h0 : Below w.heap.size w W) (hC : C ≤ W.heap.size) (hv : LeV i k B C Wc cs fx fy) (hq : ∀ q, B ≤ q → q < C → W.heap[q]? = Wc.heap[q]?) (h1 : RowSet W W1 ge cs 49) (h2 : RowSet W1 W2 gf [.int .i64 fx, .int .i64 fy] 29) (hne : ge ≠ gf)
    (he : w.heap.size ≤ ge) (hf : w.heap.size ≤ gf) (hge : ge < B ∨ C ≤ ge) (hgf : gf < B ∨ C ≤ gf) : LeO i k w W2 ge gf := by
  have s1 := h1.grown.size
  have s2 := h2.grown.size
  have b1 : Below w.heap.size w W1 := h0.trans ⟨h1.grown.os, h1.grown.tape, h1.grown.output, h1.grown.size, fun q hq => h1.grown.block q (Nat.lt_of_lt_of_le hq h0.size) (by simp; omega)⟩
  have b2 : Below w.heap.size w W2 := b1.trans ⟨h2.grown.os, h2.grown.tape, h2.grown.output, h2.grown.size, fun q hq => h2.grown.block q (Nat.lt_of_lt_of_le hq b1.size) (by simp; omega)⟩
  exact ⟨b2, cs, fx, fy, B, C, (h2.grown.block ge (hp_lt h1.blk) (by simp; omega)).trans h1.blk, h2.blk, by omega, hv.keep (fun q q1 q2 => by
    rw [h2.grown.block q (by omega) (by simp; omega), h1.grown.block q (by omega) (by simp; omega)]
    exact hq q q1 q2)⟩

theorem awake_q (w : World) (hT : TabZ w) : Calls Tryd.prog 8 #[] w fun e w' => e = .returned (.bool true) ∧ Below w.heap.size w w' :=
  (awake_any w hT).mono fun _ _ h => ⟨h.2, h.1⟩

set_option maxRecDepth 100000 in
set_option maxHeartbeats 8000000 in
theorem lawLeft_any (w : World) (a b : Int) (ha : 0 ≤ a ∧ a ≤ 255) (hb : 0 ≤ b ∧ b ≤ 255) (hT : TabZ w) :
    Calls Tryd.prog 5 #[.int .u8 a, .int .u8 b] w fun e w' => e = .returned (.bool true) ∧ Below w.heap.size w w' := by
  obtain ⟨i, hi, hia⟩ : ∃ i : Nat, i < 5 ∧ a.tmod 5 = (i : Int) := ⟨(a.tmod 5).toNat, by have := Int.tmod_lt_of_pos a (show (0 : Int) < 5 by omega); have := Int.tmod_nonneg 5 ha.1; omega, by have := Int.tmod_nonneg 5 ha.1; omega⟩
  obtain ⟨k, hk, hkb⟩ : ∃ k : Nat, k < 5 ∧ b.tmod 5 = (k : Int) := ⟨(b.tmod 5).toNat, by have := Int.tmod_lt_of_pos b (show (0 : Int) < 5 by omega); have := Int.tmod_nonneg 5 hb.1; omega, by have := Int.tmod_nonneg 5 hb.1; omega⟩
  have a0 := ha.1
  have a1 := ha.2
  have b0 := hb.1
  have b1 := hb.2
  have HT := hid hT
  have HC := hid (fun W hW => le_call hi hk W hW)
  clear ha hb hT
  go_enter Tryd.func5, Tryd.ntmps5
  go_upto_region 2 with fail
  have HB1 := hid (below_walk w (.cells #[.string ⟨#[124, 124]⟩, .string ⟨#[38, 38]⟩, .string ⟨#[60]⟩, .string ⟨#[43]⟩, .string ⟨#[42]⟩] 9))
  have HN1 := hid (hp_new w (.cells #[.string ⟨#[124, 124]⟩, .string ⟨#[38, 38]⟩, .string ⟨#[60]⟩, .string ⟨#[43]⟩, .string ⟨#[42]⟩] 9))
  generalize w.alloc (.cells #[.string ⟨#[124, 124]⟩, .string ⟨#[38, 38]⟩, .string ⟨#[60]⟩, .string ⟨#[43]⟩, .string ⟨#[42]⟩] 9) = w1 at HB1 HN1 ⊢
  obtain ⟨gb, HGB⟩ : ∃ gb, Hid (w.heap.size = gb) := ⟨_, hid rfl⟩
  rw [HGB.out] at HN1 ⊢
  have HT1 := hid (HT.out.below HB1.out)
  have HGL : Hid (gb < w1.heap.size) := hid (hp_lt HN1.out)
  have HTB : Hid (∀ j, j < 5 → w1.cell? ⟨gb, j, none⟩ = some (.string (mk (leB j)))) := hid (fun j hj => by
    rw [cell_of_row _ _ _ _ _ _ HN1.out]
    match j, hj with
    | 0, _ => rfl
    | 1, _ => rfl
    | 2, _ => rfl
    | 3, _ => rfl
    | 4, _ => rfl)
  have HTI := hid (HTB.out i hi)
  have HTK := hid (HTB.out k hk)
  go_upto_region 3 with fail
  have hi5 : (i : Int) < 5 := by omega
  have hk5 : (k : Int) < 5 := by omega
  go_cut [8, 9] from 18 (fun s8 s9 wx => ∃ ge gf, s8 = .pointer (some ⟨ge, 0, none⟩) ∧ s9 = .pointer (some ⟨gf, 0, none⟩) ∧ LeO i k w wx ge gf ∧ ∀ j, j < 5 → wx.cell? ⟨gb, j, none⟩ = some (.string (mk (leB j))))
  case first =>
    as_aux_lemma =>
      have hl1 := leB_len i
      have hl2 := leB_len k
      obtain ⟨A1, E1⟩ : ∃ A1, Hid ([120, 32] ++ leB i = A1) := ⟨_, hid rfl⟩
      obtain ⟨A2, E2⟩ : ∃ A2, Hid (A1 ++ [32, 121, 32] = A2) := ⟨_, hid rfl⟩
      obtain ⟨A3, E3⟩ : ∃ A3, Hid (A2 ++ leB k = A3) := ⟨_, hid rfl⟩
      have HA1 : Hid (∀ W, (Op.stringOp .add ⟨#[120, 32]⟩ (mk (leB i))).run Tryd.prog W = .ok (.string (mk A1)) W) := hid (by have := str_addZ [120, 32] (leB i) (by simp; omega); rw [E1.out] at this; exact this)
      have HA2 : Hid (∀ W, (Op.stringOp .add (mk A1) ⟨#[32, 121, 32]⟩).run Tryd.prog W = .ok (.string (mk A2)) W) := hid (by have := str_addZ A1 [32, 121, 32] (by rw [← E1.out]; simp; omega); rw [E2.out] at this; exact this)
      have HA3 : Hid (∀ W, (Op.stringOp .add (mk A2) (mk (leB k))).run Tryd.prog W = .ok (.string (mk A3)) W) := hid (by have := str_addZ A2 (leB k) (by rw [← E2.out, ← E1.out]; simp; omega); rw [E3.out] at this; exact this)
      have HA4 : Hid (∀ W, (Op.stringOp .add (mk A3) ⟨#[32, 122]⟩).run Tryd.prog W = .ok (.string (mk (leS i k))) W) := hid (by have := str_addZ A3 [32, 122] (by rw [← E3.out, ← E2.out, ← E1.out]; simp; omega); rw [← E3.out, ← E2.out, ← E1.out] at this; exact (by rw [← E3.out, ← E2.out, ← E1.out]; exact this))
      refine wp_noPanic (wp_region_held_drew (S := fun W => Below w1.heap.size w1 W) (by kernel_rfl) (show Below w1.heap.size w1 w1.drew from (Below.refl _ _).drew) ?_)
      intro hHeld
      refine wpAnyH_take (i := 0) (v := .slice (some ⟨gb, 0, none⟩) 5 5) rfl (by kernel_rfl) (by kernel_rfl) (by kernel_rfl) (fun _ _ _ h => h) (Or.inl ⟨by rfl, fun W _ => by go_simp⟩) hHeld ?_
      simp only [Act.put, List.getElem_toArray, List.getElem_cons_zero, List.setIfInBounds_toArray, List.set_cons_succ, List.set_cons_zero]
      refine wpAnyH_take (i := 1) (v := .int .i64 (i : Int)) rfl (by kernel_rfl) (by kernel_rfl) (by kernel_rfl) (fun _ _ _ h => h) (Or.inl ⟨by rfl, fun W _ => by go_simp⟩) hHeld ?_
      simp only [Act.put, List.getElem_toArray, List.getElem_cons_zero, List.getElem_cons_succ, List.setIfInBounds_toArray, List.set_cons_succ, List.set_cons_zero]
      refine wpAnyH_take (i := 2) (v := .pointer (some ⟨gb, i, none⟩)) rfl (by kernel_rfl) (by kernel_rfl) (by kernel_rfl) (fun _ _ _ h => h) (Or.inl ⟨by rfl, fun W _ => by have hfact := hi5; go_simp; first | done | simp [hfact]⟩) hHeld ?_
      simp only [Act.put, List.getElem_toArray, List.getElem_cons_zero, List.getElem_cons_succ, List.setIfInBounds_toArray, List.set_cons_succ, List.set_cons_zero]
      refine wpAnyH_take (i := 3) (v := .string (mk (leB i))) rfl (by kernel_rfl) (by kernel_rfl) (by kernel_rfl) (fun _ _ _ h => h) (Or.inl ⟨by rfl, fun W hW => by have hcell := (hW.cell (p := ⟨gb, i, none⟩) HGL.out).trans HTI.out; clear hW; go_simp⟩) hHeld ?_
      simp only [Act.put, List.getElem_toArray, List.getElem_cons_zero, List.getElem_cons_succ, List.setIfInBounds_toArray, List.set_cons_succ, List.set_cons_zero]
      refine wpAnyH_take (i := 4) (v := .string (mk A1)) rfl (by kernel_rfl) (by kernel_rfl) (by kernel_rfl) (fun _ _ _ h => h) (Or.inl ⟨by rfl, fun W _ => by have hfact := HA1.out W; go_simp; first | done | simp [hfact]⟩) hHeld ?_
      simp only [Act.put, List.getElem_toArray, List.getElem_cons_zero, List.getElem_cons_succ, List.setIfInBounds_toArray, List.set_cons_succ, List.set_cons_zero]
      refine wpAnyH_take (i := 5) (v := .string (mk A2)) rfl (by kernel_rfl) (by kernel_rfl) (by kernel_rfl) (fun _ _ _ h => h) (Or.inl ⟨by rfl, fun W _ => by have hfact := HA2.out W; go_simp; first | done | simp [hfact]⟩) hHeld ?_
      simp only [Act.put, List.getElem_toArray, List.getElem_cons_zero, List.getElem_cons_succ, List.setIfInBounds_toArray, List.set_cons_succ, List.set_cons_zero]
      refine wpAnyH_take (i := 6) (v := .slice (some ⟨gb, 0, none⟩) 5 5) rfl (by kernel_rfl) (by kernel_rfl) (by kernel_rfl) (fun _ _ _ h => h) (Or.inl ⟨by rfl, fun W _ => by go_simp⟩) hHeld ?_
      simp only [Act.put, List.getElem_toArray, List.getElem_cons_zero, List.getElem_cons_succ, List.setIfInBounds_toArray, List.set_cons_succ, List.set_cons_zero]
      refine wpAnyH_take (i := 7) (v := .int .i64 (k : Int)) rfl (by kernel_rfl) (by kernel_rfl) (by kernel_rfl) (fun _ _ _ h => h) (Or.inl ⟨by rfl, fun W _ => by go_simp⟩) hHeld ?_
      simp only [Act.put, List.getElem_toArray, List.getElem_cons_zero, List.getElem_cons_succ, List.setIfInBounds_toArray, List.set_cons_succ, List.set_cons_zero]
      refine wpAnyH_take (i := 8) (v := .pointer (some ⟨gb, k, none⟩)) rfl (by kernel_rfl) (by kernel_rfl) (by kernel_rfl) (fun _ _ _ h => h) (Or.inl ⟨by rfl, fun W _ => by have hfact := hk5; go_simp; first | done | simp [hfact]⟩) hHeld ?_
      simp only [Act.put, List.getElem_toArray, List.getElem_cons_zero, List.getElem_cons_succ, List.setIfInBounds_toArray, List.set_cons_succ, List.set_cons_zero]
      refine wpAnyH_take (i := 9) (v := .string (mk (leB k))) rfl (by kernel_rfl) (by kernel_rfl) (by kernel_rfl) (fun _ _ _ h => h) (Or.inl ⟨by rfl, fun W hW => by have hcell := (hW.cell (p := ⟨gb, k, none⟩) HGL.out).trans HTK.out; clear hW; go_simp⟩) hHeld ?_
      simp only [Act.put, List.getElem_toArray, List.getElem_cons_zero, List.getElem_cons_succ, List.setIfInBounds_toArray, List.set_cons_succ, List.set_cons_zero]
      refine wpAnyH_take (i := 10) (v := .string (mk A3)) rfl (by kernel_rfl) (by kernel_rfl) (by kernel_rfl) (fun _ _ _ h => h) (Or.inl ⟨by rfl, fun W _ => by have hfact := HA3.out W; go_simp; first | done | simp [hfact]⟩) hHeld ?_
      simp only [Act.put, List.getElem_toArray, List.getElem_cons_zero, List.getElem_cons_succ, List.setIfInBounds_toArray, List.set_cons_succ, List.set_cons_zero]
      refine wpAnyH_take (i := 11) (v := .string (mk (leS i k))) rfl (by kernel_rfl) (by kernel_rfl) (by kernel_rfl) (fun _ _ _ h => h) (Or.inl ⟨by rfl, fun W _ => by have hfact := HA4.out W; go_simp; first | done | simp [hfact]⟩) hHeld ?_
      simp only [Act.put, List.getElem_toArray, List.getElem_cons_zero, List.getElem_cons_succ, List.setIfInBounds_toArray, List.set_cons_succ, List.set_cons_zero]
      generalize w1.drew = X at hHeld ⊢
      have HX0 := hid hHeld
      refine wpAnyH_ready (rs := [12, 16, 17]) (by kernel_rfl) (by simp) ?_
      refine AllReadyH.cons rfl (fun K hK => ?_) (AllReadyH.cons rfl (fun K hK => ?_) (AllReadyH.cons rfl (fun K hK => ?_) AllReadyH.nil))
      · go_simp
        refine (HC.out X (HT1.out.below hHeld)).mono ?_
        rintro e Wc ⟨bc, cs, fx, fy, rfl, hv⟩
        have HB12 := hid bc
        have HV := hid hv
        clear hv bc
        go_wp2_with fail
        refine hK.out _ _ (hHeld.trans (HB12.out.mono hHeld.size)) (fun hHeld2 => ?_)
        clear hK K hHeld
        have hHeld := hHeld2
        clear hHeld2
        try simp only [Act.put, List.getElem_toArray, List.getElem_cons_zero, List.getElem_cons_succ, List.setIfInBounds_toArray, List.set_cons_succ, List.set_cons_zero]
        refine wpAnyH_take (i := 13) (v := .tuple #[.agg cs.toArray, .agg #[.int .i64 fx, .int .i64 fy]]) rfl (by kernel_rfl) (by kernel_rfl) (by kernel_rfl) (fun _ _ _ h => h) (Or.inl ⟨by rfl, fun W _ => by go_simp⟩) hHeld ?_
        simp only [Act.put, List.getElem_toArray, List.getElem_cons_zero, List.getElem_cons_succ, List.setIfInBounds_toArray, List.set_cons_succ, List.set_cons_zero]
        refine wpAnyH_take (i := 14) (v := .agg cs.toArray) rfl (by kernel_rfl) (by kernel_rfl) (by kernel_rfl) (fun _ _ _ h => h) (Or.inl ⟨by rfl, fun W _ => by go_simp⟩) hHeld ?_
        simp only [Act.put, List.getElem_toArray, List.getElem_cons_zero, List.getElem_cons_succ, List.setIfInBounds_toArray, List.set_cons_succ, List.set_cons_zero]
        refine wpAnyH_take (i := 15) (v := .agg #[.int .i64 fx, .int .i64 fy]) rfl (by kernel_rfl) (by kernel_rfl) (by kernel_rfl) (fun _ _ _ h => h) (Or.inl ⟨by rfl, fun W _ => by go_simp⟩) hHeld ?_
        simp only [Act.put, List.getElem_toArray, List.getElem_cons_zero, List.getElem_cons_succ, List.setIfInBounds_toArray, List.set_cons_succ, List.set_cons_zero]
        refine wpAnyH_ready (rs := [16, 17]) (by kernel_rfl) (by simp) ?_
        refine AllReadyH.cons rfl (fun K hK => ?_) (AllReadyH.cons rfl (fun K hK => ?_) AllReadyH.nil)
        · refine step_alloc_row rfl 49 rfl _ Tryd.zeroExpr ?_
          refine hK.out _ _ (hHeld.alloc hHeld.size (.cells zX 49)) (fun hHeld2 => ?_)
          clear hK K hHeld
          have hHeld := hHeld2
          clear hHeld2
          try simp only [Act.put, List.getElem_toArray, List.getElem_cons_zero, List.getElem_cons_succ, List.setIfInBounds_toArray, List.set_cons_succ, List.set_cons_zero]
          have HN16 := hid (hp_new Wc (.cells zX 49))
          have HB16 := hid (below_walk Wc (.cells zX 49))
          have HZ16 := hid (hp_size Wc (.cells zX 49))
          generalize Wc.alloc (.cells zX 49) = We at hHeld HN16 HB16 HZ16 ⊢
          obtain ⟨ge, HG16⟩ : ∃ ge, Hid (Wc.heap.size = ge) := ⟨_, hid rfl⟩
          rw [HG16.out] at HN16 HZ16 ⊢
          refine wpAnyH_ready (rs := [17]) (by kernel_rfl) (by simp) ?_
          refine AllReadyH.cons rfl (fun K hK => ?_) AllReadyH.nil
          · refine step_alloc_row rfl 29 rfl _ zeroFlt ?_
            refine hK.out _ _ (hHeld.alloc hHeld.size (.cells #[.int .i64 0, .int .i64 0] 29)) (fun hHeld2 => ?_)
            clear hK K hHeld
            have hHeld := hHeld2
            clear hHeld2
            try simp only [Act.put, List.getElem_toArray, List.getElem_cons_zero, List.getElem_cons_succ, List.setIfInBounds_toArray, List.set_cons_succ, List.set_cons_zero]
            have HN17 := hid (hp_new We (.cells #[.int .i64 0, .int .i64 0] 29))
            have HB17 := hid (below_walk We (.cells #[.int .i64 0, .int .i64 0] 29))
            have HZ17 := hid (hp_size We (.cells #[.int .i64 0, .int .i64 0] 29))
            generalize We.alloc (.cells #[.int .i64 0, .int .i64 0] 29) = Wf at hHeld HN17 HB17 HZ17 ⊢
            obtain ⟨gf, HG17⟩ : ∃ gf, Hid (We.heap.size = gf) := ⟨_, hid rfl⟩
            rw [HG17.out] at HN17 HZ17 ⊢
            have y0 := hHeld.size
            have yx := HX0.out.size
            have y12 := HB12.out.size
            have y16 := HB16.out.size
            have y17 := HB17.out.size
            have z16 := HZ16.out
            have v16 := HG16.out
            have z17 := HZ17.out
            have v17 := HG17.out
            have HE := hid ((HB17.out.block _ (hp_lt HN16.out)).trans HN16.out)
            have HF := hid HN17.out
            have HQ : Hid (∀ q, X.heap.size ≤ q → q < Wc.heap.size → Wf.heap[q]? = Wc.heap[q]?) := hid (fun q q1 q2 => (HB17.out.block q (by omega)).trans ((HB16.out.block q (by omega))))
            refine wpAnyH_ready (rs := [18]) (by kernel_rfl) (by simp) ?_
            refine AllReadyH.cons rfl (fun K hK => ?_) AllReadyH.nil
            refine step_store_row rfl 49 (.tmp 8) (.tmp 32) rfl ge cs rfl rfl 49 zX HE.out (by rw [HV.out.2.1]; exact Tryd.rowExpr) (by rw [HV.out.2.1]; rfl) HV.out.1 ?_
            intro Wa hsa
            refine hK.out _ _ (hHeld.trans ⟨hsa.grown.os, hsa.grown.tape, hsa.grown.output, hsa.grown.size, fun q hq => hsa.grown.block q (Nat.lt_of_lt_of_le hq hHeld.size) (by simp; omega)⟩) (fun hHeld2 => ?_)
            clear hK K
            try simp only [Act.put]
            refine wpAnyH_ready (rs := [19]) (by kernel_rfl) (by simp) ?_
            refine AllReadyH.cons rfl (fun K hK => ?_) AllReadyH.nil
            refine step_store_row rfl 29 (.tmp 9) (.tmp 33) rfl gf [.int .i64 fx, .int .i64 fy] rfl rfl 29 #[.int .i64 0, .int .i64 0] ((hsa.grown.block gf (hp_lt HF.out) (by simp; omega)).trans HF.out) (by kernel_rfl) rfl (by intro v hv; simp at hv; rcases hv with rfl | rfl <;> rfl) ?_
            intro Wb hsb
            refine hK.out _ _ (hHeld2.trans ⟨hsb.grown.os, hsb.grown.tape, hsb.grown.output, hsb.grown.size, fun q hq => hsb.grown.block q (Nat.lt_of_lt_of_le hq hHeld2.size) (by simp; omega)⟩) (fun hHeld3 => ?_)
            clear hK K
            try simp only [Act.put]
            refine wpAnyH_done (by kernel_rfl) ?_ _
            simp only [noPanic]
            have HLAST : Hid (LeO i k w Wb ge gf) := hid (leO_mk (HB1.out.trans (hHeld.mono HB1.out.size)) (by omega) HV.out HQ.out hsa hsb (by omega) (by have := HB1.out.size; omega) (by have := HB1.out.size; omega) (by omega) (by omega))
            have HLT := hid (fun j (hj : j < 5) => (hHeld3.cell (p := ⟨gb, j, none⟩) HGL.out).trans (HTB.out j hj))
            clear hHeld hHeld2 hHeld3 y0 yx y12 y16 y17 z16 z17 v16 v17
            go_wp2
            go_meet
            case rel => exact ⟨ge, gf, rfl, rfl, HLAST.out, HLT.out⟩
        · refine step_alloc_row rfl 29 rfl _ zeroFlt ?_
          refine hK.out _ _ (hHeld.alloc hHeld.size (.cells #[.int .i64 0, .int .i64 0] 29)) (fun hHeld2 => ?_)
          clear hK K hHeld
          have hHeld := hHeld2
          clear hHeld2
          try simp only [Act.put, List.getElem_toArray, List.getElem_cons_zero, List.getElem_cons_succ, List.setIfInBounds_toArray, List.set_cons_succ, List.set_cons_zero]
          have HN17 := hid (hp_new Wc (.cells #[.int .i64 0, .int .i64 0] 29))
          have HB17 := hid (below_walk Wc (.cells #[.int .i64 0, .int .i64 0] 29))
          have HZ17 := hid (hp_size Wc (.cells #[.int .i64 0, .int .i64 0] 29))
          generalize Wc.alloc (.cells #[.int .i64 0, .int .i64 0] 29) = Wf at hHeld HN17 HB17 HZ17 ⊢
          obtain ⟨gf, HG17⟩ : ∃ gf, Hid (Wc.heap.size = gf) := ⟨_, hid rfl⟩
          rw [HG17.out] at HN17 HZ17 ⊢
          refine wpAnyH_ready (rs := [16]) (by kernel_rfl) (by simp) ?_
          refine AllReadyH.cons rfl (fun K hK => ?_) AllReadyH.nil
          · refine step_alloc_row rfl 49 rfl _ Tryd.zeroExpr ?_
            refine hK.out _ _ (hHeld.alloc hHeld.size (.cells zX 49)) (fun hHeld2 => ?_)
            clear hK K hHeld
            have hHeld := hHeld2
            clear hHeld2
            try simp only [Act.put, List.getElem_toArray, List.getElem_cons_zero, List.getElem_cons_succ, List.setIfInBounds_toArray, List.set_cons_succ, List.set_cons_zero]
            have HN16 := hid (hp_new Wf (.cells zX 49))
            have HB16 := hid (below_walk Wf (.cells zX 49))
            have HZ16 := hid (hp_size Wf (.cells zX 49))
            generalize Wf.alloc (.cells zX 49) = We at hHeld HN16 HB16 HZ16 ⊢
            obtain ⟨ge, HG16⟩ : ∃ ge, Hid (Wf.heap.size = ge) := ⟨_, hid rfl⟩
            rw [HG16.out] at HN16 HZ16 ⊢
            have y0 := hHeld.size
            have yx := HX0.out.size
            have y12 := HB12.out.size
            have y17 := HB17.out.size
            have y16 := HB16.out.size
            have z16 := HZ16.out
            have v16 := HG16.out
            have z17 := HZ17.out
            have v17 := HG17.out
            have HE := hid HN16.out
            have HF := hid ((HB16.out.block _ (hp_lt HN17.out)).trans HN17.out)
            have HQ : Hid (∀ q, X.heap.size ≤ q → q < Wc.heap.size → We.heap[q]? = Wc.heap[q]?) := hid (fun q q1 q2 => (HB16.out.block q (by omega)).trans ((HB17.out.block q (by omega))))
            refine wpAnyH_ready (rs := [18]) (by kernel_rfl) (by simp) ?_
            refine AllReadyH.cons rfl (fun K hK => ?_) AllReadyH.nil
            refine step_store_row rfl 49 (.tmp 8) (.tmp 32) rfl ge cs rfl rfl 49 zX HE.out (by rw [HV.out.2.1]; exact Tryd.rowExpr) (by rw [HV.out.2.1]; rfl) HV.out.1 ?_
            intro Wa hsa
            refine hK.out _ _ (hHeld.trans ⟨hsa.grown.os, hsa.grown.tape, hsa.grown.output, hsa.grown.size, fun q hq => hsa.grown.block q (Nat.lt_of_lt_of_le hq hHeld.size) (by simp; omega)⟩) (fun hHeld2 => ?_)
            clear hK K
            try simp only [Act.put]
            refine wpAnyH_ready (rs := [19]) (by kernel_rfl) (by simp) ?_
            refine AllReadyH.cons rfl (fun K hK => ?_) AllReadyH.nil
            refine step_store_row rfl 29 (.tmp 9) (.tmp 33) rfl gf [.int .i64 fx, .int .i64 fy] rfl rfl 29 #[.int .i64 0, .int .i64 0] ((hsa.grown.block gf (hp_lt HF.out) (by simp; omega)).trans HF.out) (by kernel_rfl) rfl (by intro v hv; simp at hv; rcases hv with rfl | rfl <;> rfl) ?_
            intro Wb hsb
            refine hK.out _ _ (hHeld2.trans ⟨hsb.grown.os, hsb.grown.tape, hsb.grown.output, hsb.grown.size, fun q hq => hsb.grown.block q (Nat.lt_of_lt_of_le hq hHeld2.size) (by simp; omega)⟩) (fun hHeld3 => ?_)
            clear hK K
            try simp only [Act.put]
            refine wpAnyH_done (by kernel_rfl) ?_ _
            simp only [noPanic]
            have HLAST : Hid (LeO i k w Wb ge gf) := hid (leO_mk (HB1.out.trans (hHeld.mono HB1.out.size)) (by omega) HV.out HQ.out hsa hsb (by omega) (by have := HB1.out.size; omega) (by have := HB1.out.size; omega) (by omega) (by omega))
            have HLT := hid (fun j (hj : j < 5) => (hHeld3.cell (p := ⟨gb, j, none⟩) HGL.out).trans (HTB.out j hj))
            clear hHeld hHeld2 hHeld3 y0 yx y12 y16 y17 z16 z17 v16 v17
            go_wp2
            go_meet
            case rel => exact ⟨ge, gf, rfl, rfl, HLAST.out, HLT.out⟩
      · refine step_alloc_row rfl 49 rfl _ Tryd.zeroExpr ?_
        refine hK.out _ _ (hHeld.alloc hHeld.size (.cells zX 49)) (fun hHeld2 => ?_)
        clear hK K hHeld
        have hHeld := hHeld2
        clear hHeld2
        try simp only [Act.put, List.getElem_toArray, List.getElem_cons_zero, List.getElem_cons_succ, List.setIfInBounds_toArray, List.set_cons_succ, List.set_cons_zero]
        have HN16 := hid (hp_new X (.cells zX 49))
        have HB16 := hid (below_walk X (.cells zX 49))
        have HZ16 := hid (hp_size X (.cells zX 49))
        generalize X.alloc (.cells zX 49) = We at hHeld HN16 HB16 HZ16 ⊢
        obtain ⟨ge, HG16⟩ : ∃ ge, Hid (X.heap.size = ge) := ⟨_, hid rfl⟩
        rw [HG16.out] at HN16 HZ16 ⊢
        refine wpAnyH_ready (rs := [12, 17]) (by kernel_rfl) (by simp) ?_
        refine AllReadyH.cons rfl (fun K hK => ?_) (AllReadyH.cons rfl (fun K hK => ?_) AllReadyH.nil)
        · go_simp
          refine (HC.out We (HT1.out.below hHeld)).mono ?_
          rintro e Wc ⟨bc, cs, fx, fy, rfl, hv⟩
          have HB12 := hid bc
          have HV := hid hv
          clear hv bc
          go_wp2_with fail
          refine hK.out _ _ (hHeld.trans (HB12.out.mono hHeld.size)) (fun hHeld2 => ?_)
          clear hK K hHeld
          have hHeld := hHeld2
          clear hHeld2
          try simp only [Act.put, List.getElem_toArray, List.getElem_cons_zero, List.getElem_cons_succ, List.setIfInBounds_toArray, List.set_cons_succ, List.set_cons_zero]
          refine wpAnyH_take (i := 13) (v := .tuple #[.agg cs.toArray, .agg #[.int .i64 fx, .int .i64 fy]]) rfl (by kernel_rfl) (by kernel_rfl) (by kernel_rfl) (fun _ _ _ h => h) (Or.inl ⟨by rfl, fun W _ => by go_simp⟩) hHeld ?_
          simp only [Act.put, List.getElem_toArray, List.getElem_cons_zero, List.getElem_cons_succ, List.setIfInBounds_toArray, List.set_cons_succ, List.set_cons_zero]
          refine wpAnyH_take (i := 14) (v := .agg cs.toArray) rfl (by kernel_rfl) (by kernel_rfl) (by kernel_rfl) (fun _ _ _ h => h) (Or.inl ⟨by rfl, fun W _ => by go_simp⟩) hHeld ?_
          simp only [Act.put, List.getElem_toArray, List.getElem_cons_zero, List.getElem_cons_succ, List.setIfInBounds_toArray, List.set_cons_succ, List.set_cons_zero]
          refine wpAnyH_take (i := 15) (v := .agg #[.int .i64 fx, .int .i64 fy]) rfl (by kernel_rfl) (by kernel_rfl) (by kernel_rfl) (fun _ _ _ h => h) (Or.inl ⟨by rfl, fun W _ => by go_simp⟩) hHeld ?_
          simp only [Act.put, List.getElem_toArray, List.getElem_cons_zero, List.getElem_cons_succ, List.setIfInBounds_toArray, List.set_cons_succ, List.set_cons_zero]
          refine wpAnyH_ready (rs := [17]) (by kernel_rfl) (by simp) ?_
          refine AllReadyH.cons rfl (fun K hK => ?_) AllReadyH.nil
          · refine step_alloc_row rfl 29 rfl _ zeroFlt ?_
            refine hK.out _ _ (hHeld.alloc hHeld.size (.cells #[.int .i64 0, .int .i64 0] 29)) (fun hHeld2 => ?_)
            clear hK K hHeld
            have hHeld := hHeld2
            clear hHeld2
            try simp only [Act.put, List.getElem_toArray, List.getElem_cons_zero, List.getElem_cons_succ, List.setIfInBounds_toArray, List.set_cons_succ, List.set_cons_zero]
            have HN17 := hid (hp_new Wc (.cells #[.int .i64 0, .int .i64 0] 29))
            have HB17 := hid (below_walk Wc (.cells #[.int .i64 0, .int .i64 0] 29))
            have HZ17 := hid (hp_size Wc (.cells #[.int .i64 0, .int .i64 0] 29))
            generalize Wc.alloc (.cells #[.int .i64 0, .int .i64 0] 29) = Wf at hHeld HN17 HB17 HZ17 ⊢
            obtain ⟨gf, HG17⟩ : ∃ gf, Hid (Wc.heap.size = gf) := ⟨_, hid rfl⟩
            rw [HG17.out] at HN17 HZ17 ⊢
            have y0 := hHeld.size
            have yx := HX0.out.size
            have y16 := HB16.out.size
            have y12 := HB12.out.size
            have y17 := HB17.out.size
            have z16 := HZ16.out
            have v16 := HG16.out
            have z17 := HZ17.out
            have v17 := HG17.out
            have HE := hid ((HB17.out.block _ (hp_lt ((HB12.out.block _ (hp_lt HN16.out)).trans HN16.out))).trans ((HB12.out.block _ (hp_lt HN16.out)).trans HN16.out))
            have HF := hid HN17.out
            have HQ : Hid (∀ q, We.heap.size ≤ q → q < Wc.heap.size → Wf.heap[q]? = Wc.heap[q]?) := hid (fun q q1 q2 => (HB17.out.block q (by omega)))
            refine wpAnyH_ready (rs := [18]) (by kernel_rfl) (by simp) ?_
            refine AllReadyH.cons rfl (fun K hK => ?_) AllReadyH.nil
            refine step_store_row rfl 49 (.tmp 8) (.tmp 32) rfl ge cs rfl rfl 49 zX HE.out (by rw [HV.out.2.1]; exact Tryd.rowExpr) (by rw [HV.out.2.1]; rfl) HV.out.1 ?_
            intro Wa hsa
            refine hK.out _ _ (hHeld.trans ⟨hsa.grown.os, hsa.grown.tape, hsa.grown.output, hsa.grown.size, fun q hq => hsa.grown.block q (Nat.lt_of_lt_of_le hq hHeld.size) (by simp; omega)⟩) (fun hHeld2 => ?_)
            clear hK K
            try simp only [Act.put]
            refine wpAnyH_ready (rs := [19]) (by kernel_rfl) (by simp) ?_
            refine AllReadyH.cons rfl (fun K hK => ?_) AllReadyH.nil
            refine step_store_row rfl 29 (.tmp 9) (.tmp 33) rfl gf [.int .i64 fx, .int .i64 fy] rfl rfl 29 #[.int .i64 0, .int .i64 0] ((hsa.grown.block gf (hp_lt HF.out) (by simp; omega)).trans HF.out) (by kernel_rfl) rfl (by intro v hv; simp at hv; rcases hv with rfl | rfl <;> rfl) ?_
            intro Wb hsb
            refine hK.out _ _ (hHeld2.trans ⟨hsb.grown.os, hsb.grown.tape, hsb.grown.output, hsb.grown.size, fun q hq => hsb.grown.block q (Nat.lt_of_lt_of_le hq hHeld2.size) (by simp; omega)⟩) (fun hHeld3 => ?_)
            clear hK K
            try simp only [Act.put]
            refine wpAnyH_done (by kernel_rfl) ?_ _
            simp only [noPanic]
            have HLAST : Hid (LeO i k w Wb ge gf) := hid (leO_mk (HB1.out.trans (hHeld.mono HB1.out.size)) (by omega) HV.out HQ.out hsa hsb (by omega) (by have := HB1.out.size; omega) (by have := HB1.out.size; omega) (by omega) (by omega))
            have HLT := hid (fun j (hj : j < 5) => (hHeld3.cell (p := ⟨gb, j, none⟩) HGL.out).trans (HTB.out j hj))
            clear hHeld hHeld2 hHeld3 y0 yx y12 y16 y17 z16 z17 v16 v17
            go_wp2
            go_meet
            case rel => exact ⟨ge, gf, rfl, rfl, HLAST.out, HLT.out⟩
        · refine step_alloc_row rfl 29 rfl _ zeroFlt ?_
          refine hK.out _ _ (hHeld.alloc hHeld.size (.cells #[.int .i64 0, .int .i64 0] 29)) (fun hHeld2 => ?_)
          clear hK K hHeld
          have hHeld := hHeld2
          clear hHeld2
          try simp only [Act.put, List.getElem_toArray, List.getElem_cons_zero, List.getElem_cons_succ, List.setIfInBounds_toArray, List.set_cons_succ, List.set_cons_zero]
          have HN17 := hid (hp_new We (.cells #[.int .i64 0, .int .i64 0] 29))
          have HB17 := hid (below_walk We (.cells #[.int .i64 0, .int .i64 0] 29))
          have HZ17 := hid (hp_size We (.cells #[.int .i64 0, .int .i64 0] 29))
          generalize We.alloc (.cells #[.int .i64 0, .int .i64 0] 29) = Wf at hHeld HN17 HB17 HZ17 ⊢
          obtain ⟨gf, HG17⟩ : ∃ gf, Hid (We.heap.size = gf) := ⟨_, hid rfl⟩
          rw [HG17.out] at HN17 HZ17 ⊢
          refine wpAnyH_ready (rs := [12]) (by kernel_rfl) (by simp) ?_
          refine AllReadyH.cons rfl (fun K hK => ?_) AllReadyH.nil
          · go_simp
            refine (HC.out Wf (HT1.out.below hHeld)).mono ?_
            rintro e Wc ⟨bc, cs, fx, fy, rfl, hv⟩
            have HB12 := hid bc
            have HV := hid hv
            clear hv bc
            go_wp2_with fail
            refine hK.out _ _ (hHeld.trans (HB12.out.mono hHeld.size)) (fun hHeld2 => ?_)
            clear hK K hHeld
            have hHeld := hHeld2
            clear hHeld2
            try simp only [Act.put, List.getElem_toArray, List.getElem_cons_zero, List.getElem_cons_succ, List.setIfInBounds_toArray, List.set_cons_succ, List.set_cons_zero]
            refine wpAnyH_take (i := 13) (v := .tuple #[.agg cs.toArray, .agg #[.int .i64 fx, .int .i64 fy]]) rfl (by kernel_rfl) (by kernel_rfl) (by kernel_rfl) (fun _ _ _ h => h) (Or.inl ⟨by rfl, fun W _ => by go_simp⟩) hHeld ?_
            simp only [Act.put, List.getElem_toArray, List.getElem_cons_zero, List.getElem_cons_succ, List.setIfInBounds_toArray, List.set_cons_succ, List.set_cons_zero]
            refine wpAnyH_take (i := 14) (v := .agg cs.toArray) rfl (by kernel_rfl) (by kernel_rfl) (by kernel_rfl) (fun _ _ _ h => h) (Or.inl ⟨by rfl, fun W _ => by go_simp⟩) hHeld ?_
            simp only [Act.put, List.getElem_toArray, List.getElem_cons_zero, List.getElem_cons_succ, List.setIfInBounds_toArray, List.set_cons_succ, List.set_cons_zero]
            refine wpAnyH_take (i := 15) (v := .agg #[.int .i64 fx, .int .i64 fy]) rfl (by kernel_rfl) (by kernel_rfl) (by kernel_rfl) (fun _ _ _ h => h) (Or.inl ⟨by rfl, fun W _ => by go_simp⟩) hHeld ?_
            simp only [Act.put, List.getElem_toArray, List.getElem_cons_zero, List.getElem_cons_succ, List.setIfInBounds_toArray, List.set_cons_succ, List.set_cons_zero]
            have y0 := hHeld.size
            have yx := HX0.out.size
            have y16 := HB16.out.size
            have y17 := HB17.out.size
            have y12 := HB12.out.size
            have z16 := HZ16.out
            have v16 := HG16.out
            have z17 := HZ17.out
            have v17 := HG17.out
            have HE := hid ((HB12.out.block _ (hp_lt ((HB17.out.block _ (hp_lt HN16.out)).trans HN16.out))).trans ((HB17.out.block _ (hp_lt HN16.out)).trans HN16.out))
            have HF := hid ((HB12.out.block _ (hp_lt HN17.out)).trans HN17.out)
            have HQ : Hid (∀ q, Wf.heap.size ≤ q → q < Wc.heap.size → Wc.heap[q]? = Wc.heap[q]?) := hid (fun q q1 q2 => rfl)
            refine wpAnyH_ready (rs := [18]) (by kernel_rfl) (by simp) ?_
            refine AllReadyH.cons rfl (fun K hK => ?_) AllReadyH.nil
            refine step_store_row rfl 49 (.tmp 8) (.tmp 32) rfl ge cs rfl rfl 49 zX HE.out (by rw [HV.out.2.1]; exact Tryd.rowExpr) (by rw [HV.out.2.1]; rfl) HV.out.1 ?_
            intro Wa hsa
            refine hK.out _ _ (hHeld.trans ⟨hsa.grown.os, hsa.grown.tape, hsa.grown.output, hsa.grown.size, fun q hq => hsa.grown.block q (Nat.lt_of_lt_of_le hq hHeld.size) (by simp; omega)⟩) (fun hHeld2 => ?_)
            clear hK K
            try simp only [Act.put]
            refine wpAnyH_ready (rs := [19]) (by kernel_rfl) (by simp) ?_
            refine AllReadyH.cons rfl (fun K hK => ?_) AllReadyH.nil
            refine step_store_row rfl 29 (.tmp 9) (.tmp 33) rfl gf [.int .i64 fx, .int .i64 fy] rfl rfl 29 #[.int .i64 0, .int .i64 0] ((hsa.grown.block gf (hp_lt HF.out) (by simp; omega)).trans HF.out) (by kernel_rfl) rfl (by intro v hv; simp at hv; rcases hv with rfl | rfl <;> rfl) ?_
            intro Wb hsb
            refine hK.out _ _ (hHeld2.trans ⟨hsb.grown.os, hsb.grown.tape, hsb.grown.output, hsb.grown.size, fun q hq => hsb.grown.block q (Nat.lt_of_lt_of_le hq hHeld2.size) (by simp; omega)⟩) (fun hHeld3 => ?_)
            clear hK K
            try simp only [Act.put]
            refine wpAnyH_done (by kernel_rfl) ?_ _
            simp only [noPanic]
            have HLAST : Hid (LeO i k w Wb ge gf) := hid (leO_mk (HB1.out.trans (hHeld.mono HB1.out.size)) (by omega) HV.out HQ.out hsa hsb (by omega) (by have := HB1.out.size; omega) (by have := HB1.out.size; omega) (by omega) (by omega))
            have HLT := hid (fun j (hj : j < 5) => (hHeld3.cell (p := ⟨gb, j, none⟩) HGL.out).trans (HTB.out j hj))
            clear hHeld hHeld2 hHeld3 y0 yx y12 y16 y17 z16 z17 v16 v17
            go_wp2
            go_meet
            case rel => exact ⟨ge, gf, rfl, rfl, HLAST.out, HLT.out⟩
      · refine step_alloc_row rfl 29 rfl _ zeroFlt ?_
        refine hK.out _ _ (hHeld.alloc hHeld.size (.cells #[.int .i64 0, .int .i64 0] 29)) (fun hHeld2 => ?_)
        clear hK K hHeld
        have hHeld := hHeld2
        clear hHeld2
        try simp only [Act.put, List.getElem_toArray, List.getElem_cons_zero, List.getElem_cons_succ, List.setIfInBounds_toArray, List.set_cons_succ, List.set_cons_zero]
        have HN17 := hid (hp_new X (.cells #[.int .i64 0, .int .i64 0] 29))
        have HB17 := hid (below_walk X (.cells #[.int .i64 0, .int .i64 0] 29))
        have HZ17 := hid (hp_size X (.cells #[.int .i64 0, .int .i64 0] 29))
        generalize X.alloc (.cells #[.int .i64 0, .int .i64 0] 29) = Wf at hHeld HN17 HB17 HZ17 ⊢
        obtain ⟨gf, HG17⟩ : ∃ gf, Hid (X.heap.size = gf) := ⟨_, hid rfl⟩
        rw [HG17.out] at HN17 HZ17 ⊢
        refine wpAnyH_ready (rs := [12, 16]) (by kernel_rfl) (by simp) ?_
        refine AllReadyH.cons rfl (fun K hK => ?_) (AllReadyH.cons rfl (fun K hK => ?_) AllReadyH.nil)
        · go_simp
          refine (HC.out Wf (HT1.out.below hHeld)).mono ?_
          rintro e Wc ⟨bc, cs, fx, fy, rfl, hv⟩
          have HB12 := hid bc
          have HV := hid hv
          clear hv bc
          go_wp2_with fail
          refine hK.out _ _ (hHeld.trans (HB12.out.mono hHeld.size)) (fun hHeld2 => ?_)
          clear hK K hHeld
          have hHeld := hHeld2
          clear hHeld2
          try simp only [Act.put, List.getElem_toArray, List.getElem_cons_zero, List.getElem_cons_succ, List.setIfInBounds_toArray, List.set_cons_succ, List.set_cons_zero]
          refine wpAnyH_take (i := 13) (v := .tuple #[.agg cs.toArray, .agg #[.int .i64 fx, .int .i64 fy]]) rfl (by kernel_rfl) (by kernel_rfl) (by kernel_rfl) (fun _ _ _ h => h) (Or.inl ⟨by rfl, fun W _ => by go_simp⟩) hHeld ?_
          simp only [Act.put, List.getElem_toArray, List.getElem_cons_zero, List.getElem_cons_succ, List.setIfInBounds_toArray, List.set_cons_succ, List.set_cons_zero]
          refine wpAnyH_take (i := 14) (v := .agg cs.toArray) rfl (by kernel_rfl) (by kernel_rfl) (by kernel_rfl) (fun _ _ _ h => h) (Or.inl ⟨by rfl, fun W _ => by go_simp⟩) hHeld ?_
          simp only [Act.put, List.getElem_toArray, List.getElem_cons_zero, List.getElem_cons_succ, List.setIfInBounds_toArray, List.set_cons_succ, List.set_cons_zero]
          refine wpAnyH_take (i := 15) (v := .agg #[.int .i64 fx, .int .i64 fy]) rfl (by kernel_rfl) (by kernel_rfl) (by kernel_rfl) (fun _ _ _ h => h) (Or.inl ⟨by rfl, fun W _ => by go_simp⟩) hHeld ?_
          simp only [Act.put, List.getElem_toArray, List.getElem_cons_zero, List.getElem_cons_succ, List.setIfInBounds_toArray, List.set_cons_succ, List.set_cons_zero]
          refine wpAnyH_ready (rs := [16]) (by kernel_rfl) (by simp) ?_
          refine AllReadyH.cons rfl (fun K hK => ?_) AllReadyH.nil
          · refine step_alloc_row rfl 49 rfl _ Tryd.zeroExpr ?_
            refine hK.out _ _ (hHeld.alloc hHeld.size (.cells zX 49)) (fun hHeld2 => ?_)
            clear hK K hHeld
            have hHeld := hHeld2
            clear hHeld2
            try simp only [Act.put, List.getElem_toArray, List.getElem_cons_zero, List.getElem_cons_succ, List.setIfInBounds_toArray, List.set_cons_succ, List.set_cons_zero]
            have HN16 := hid (hp_new Wc (.cells zX 49))
            have HB16 := hid (below_walk Wc (.cells zX 49))
            have HZ16 := hid (hp_size Wc (.cells zX 49))
            generalize Wc.alloc (.cells zX 49) = We at hHeld HN16 HB16 HZ16 ⊢
            obtain ⟨ge, HG16⟩ : ∃ ge, Hid (Wc.heap.size = ge) := ⟨_, hid rfl⟩
            rw [HG16.out] at HN16 HZ16 ⊢
            have y0 := hHeld.size
            have yx := HX0.out.size
            have y17 := HB17.out.size
            have y12 := HB12.out.size
            have y16 := HB16.out.size
            have z16 := HZ16.out
            have v16 := HG16.out
            have z17 := HZ17.out
            have v17 := HG17.out
            have HE := hid HN16.out
            have HF := hid ((HB16.out.block _ (hp_lt ((HB12.out.block _ (hp_lt HN17.out)).trans HN17.out))).trans ((HB12.out.block _ (hp_lt HN17.out)).trans HN17.out))
            have HQ : Hid (∀ q, Wf.heap.size ≤ q → q < Wc.heap.size → We.heap[q]? = Wc.heap[q]?) := hid (fun q q1 q2 => (HB16.out.block q (by omega)))
            refine wpAnyH_ready (rs := [18]) (by kernel_rfl) (by simp) ?_
            refine AllReadyH.cons rfl (fun K hK => ?_) AllReadyH.nil
            refine step_store_row rfl 49 (.tmp 8) (.tmp 32) rfl ge cs rfl rfl 49 zX HE.out (by rw [HV.out.2.1]; exact Tryd.rowExpr) (by rw [HV.out.2.1]; rfl) HV.out.1 ?_
            intro Wa hsa
            refine hK.out _ _ (hHeld.trans ⟨hsa.grown.os, hsa.grown.tape, hsa.grown.output, hsa.grown.size, fun q hq => hsa.grown.block q (Nat.lt_of_lt_of_le hq hHeld.size) (by simp; omega)⟩) (fun hHeld2 => ?_)
            clear hK K
            try simp only [Act.put]
            refine wpAnyH_ready (rs := [19]) (by kernel_rfl) (by simp) ?_
            refine AllReadyH.cons rfl (fun K hK => ?_) AllReadyH.nil
            refine step_store_row rfl 29 (.tmp 9) (.tmp 33) rfl gf [.int .i64 fx, .int .i64 fy] rfl rfl 29 #[.int .i64 0, .int .i64 0] ((hsa.grown.block gf (hp_lt HF.out) (by simp; omega)).trans HF.out) (by kernel_rfl) rfl (by intro v hv; simp at hv; rcases hv with rfl | rfl <;> rfl) ?_
            intro Wb hsb
            refine hK.out _ _ (hHeld2.trans ⟨hsb.grown.os, hsb.grown.tape, hsb.grown.output, hsb.grown.size, fun q hq => hsb.grown.block q (Nat.lt_of_lt_of_le hq hHeld2.size) (by simp; omega)⟩) (fun hHeld3 => ?_)
            clear hK K
            try simp only [Act.put]
            refine wpAnyH_done (by kernel_rfl) ?_ _
            simp only [noPanic]
            have HLAST : Hid (LeO i k w Wb ge gf) := hid (leO_mk (HB1.out.trans (hHeld.mono HB1.out.size)) (by omega) HV.out HQ.out hsa hsb (by omega) (by have := HB1.out.size; omega) (by have := HB1.out.size; omega) (by omega) (by omega))
            have HLT := hid (fun j (hj : j < 5) => (hHeld3.cell (p := ⟨gb, j, none⟩) HGL.out).trans (HTB.out j hj))
            clear hHeld hHeld2 hHeld3 y0 yx y12 y16 y17 z16 z17 v16 v17
            go_wp2
            go_meet
            case rel => exact ⟨ge, gf, rfl, rfl, HLAST.out, HLT.out⟩
        · refine step_alloc_row rfl 49 rfl _ Tryd.zeroExpr ?_
          refine hK.out _ _ (hHeld.alloc hHeld.size (.cells zX 49)) (fun hHeld2 => ?_)
          clear hK K hHeld
          have hHeld := hHeld2
          clear hHeld2
          try simp only [Act.put, List.getElem_toArray, List.getElem_cons_zero, List.getElem_cons_succ, List.setIfInBounds_toArray, List.set_cons_succ, List.set_cons_zero]
          have HN16 := hid (hp_new Wf (.cells zX 49))
          have HB16 := hid (below_walk Wf (.cells zX 49))
          have HZ16 := hid (hp_size Wf (.cells zX 49))
          generalize Wf.alloc (.cells zX 49) = We at hHeld HN16 HB16 HZ16 ⊢
          obtain ⟨ge, HG16⟩ : ∃ ge, Hid (Wf.heap.size = ge) := ⟨_, hid rfl⟩
          rw [HG16.out] at HN16 HZ16 ⊢
          refine wpAnyH_ready (rs := [12]) (by kernel_rfl) (by simp) ?_
          refine AllReadyH.cons rfl (fun K hK => ?_) AllReadyH.nil
          · go_simp
            refine (HC.out We (HT1.out.below hHeld)).mono ?_
            rintro e Wc ⟨bc, cs, fx, fy, rfl, hv⟩
            have HB12 := hid bc
            have HV := hid hv
            clear hv bc
            go_wp2_with fail
            refine hK.out _ _ (hHeld.trans (HB12.out.mono hHeld.size)) (fun hHeld2 => ?_)
            clear hK K hHeld
            have hHeld := hHeld2
            clear hHeld2
            try simp only [Act.put, List.getElem_toArray, List.getElem_cons_zero, List.getElem_cons_succ, List.setIfInBounds_toArray, List.set_cons_succ, List.set_cons_zero]
            refine wpAnyH_take (i := 13) (v := .tuple #[.agg cs.toArray, .agg #[.int .i64 fx, .int .i64 fy]]) rfl (by kernel_rfl) (by kernel_rfl) (by kernel_rfl) (fun _ _ _ h => h) (Or.inl ⟨by rfl, fun W _ => by go_simp⟩) hHeld ?_
            simp only [Act.put, List.getElem_toArray, List.getElem_cons_zero, List.getElem_cons_succ, List.setIfInBounds_toArray, List.set_cons_succ, List.set_cons_zero]
            refine wpAnyH_take (i := 14) (v := .agg cs.toArray) rfl (by kernel_rfl) (by kernel_rfl) (by kernel_rfl) (fun _ _ _ h => h) (Or.inl ⟨by rfl, fun W _ => by go_simp⟩) hHeld ?_
            simp only [Act.put, List.getElem_toArray, List.getElem_cons_zero, List.getElem_cons_succ, List.setIfInBounds_toArray, List.set_cons_succ, List.set_cons_zero]
            refine wpAnyH_take (i := 15) (v := .agg #[.int .i64 fx, .int .i64 fy]) rfl (by kernel_rfl) (by kernel_rfl) (by kernel_rfl) (fun _ _ _ h => h) (Or.inl ⟨by rfl, fun W _ => by go_simp⟩) hHeld ?_
            simp only [Act.put, List.getElem_toArray, List.getElem_cons_zero, List.getElem_cons_succ, List.setIfInBounds_toArray, List.set_cons_succ, List.set_cons_zero]
            have y0 := hHeld.size
            have yx := HX0.out.size
            have y17 := HB17.out.size
            have y16 := HB16.out.size
            have y12 := HB12.out.size
            have z16 := HZ16.out
            have v16 := HG16.out
            have z17 := HZ17.out
            have v17 := HG17.out
            have HE := hid ((HB12.out.block _ (hp_lt HN16.out)).trans HN16.out)
            have HF := hid ((HB12.out.block _ (hp_lt ((HB16.out.block _ (hp_lt HN17.out)).trans HN17.out))).trans ((HB16.out.block _ (hp_lt HN17.out)).trans HN17.out))
            have HQ : Hid (∀ q, We.heap.size ≤ q → q < Wc.heap.size → Wc.heap[q]? = Wc.heap[q]?) := hid (fun q q1 q2 => rfl)
            refine wpAnyH_ready (rs := [18]) (by kernel_rfl) (by simp) ?_
            refine AllReadyH.cons rfl (fun K hK => ?_) AllReadyH.nil
            refine step_store_row rfl 49 (.tmp 8) (.tmp 32) rfl ge cs rfl rfl 49 zX HE.out (by rw [HV.out.2.1]; exact Tryd.rowExpr) (by rw [HV.out.2.1]; rfl) HV.out.1 ?_
            intro Wa hsa
            refine hK.out _ _ (hHeld.trans ⟨hsa.grown.os, hsa.grown.tape, hsa.grown.output, hsa.grown.size, fun q hq => hsa.grown.block q (Nat.lt_of_lt_of_le hq hHeld.size) (by simp; omega)⟩) (fun hHeld2 => ?_)
            clear hK K
            try simp only [Act.put]
            refine wpAnyH_ready (rs := [19]) (by kernel_rfl) (by simp) ?_
            refine AllReadyH.cons rfl (fun K hK => ?_) AllReadyH.nil
            refine step_store_row rfl 29 (.tmp 9) (.tmp 33) rfl gf [.int .i64 fx, .int .i64 fy] rfl rfl 29 #[.int .i64 0, .int .i64 0] ((hsa.grown.block gf (hp_lt HF.out) (by simp; omega)).trans HF.out) (by kernel_rfl) rfl (by intro v hv; simp at hv; rcases hv with rfl | rfl <;> rfl) ?_
            intro Wb hsb
            refine hK.out _ _ (hHeld2.trans ⟨hsb.grown.os, hsb.grown.tape, hsb.grown.output, hsb.grown.size, fun q hq => hsb.grown.block q (Nat.lt_of_lt_of_le hq hHeld2.size) (by simp; omega)⟩) (fun hHeld3 => ?_)
            clear hK K
            try simp only [Act.put]
            refine wpAnyH_done (by kernel_rfl) ?_ _
            simp only [noPanic]
            have HLAST : Hid (LeO i k w Wb ge gf) := hid (leO_mk (HB1.out.trans (hHeld.mono HB1.out.size)) (by omega) HV.out HQ.out hsa hsb (by omega) (by have := HB1.out.size; omega) (by have := HB1.out.size; omega) (by omega) (by omega))
            have HLT := hid (fun j (hj : j < 5) => (hHeld3.cell (p := ⟨gb, j, none⟩) HGL.out).trans (HTB.out j hj))
            clear hHeld hHeld2 hHeld3 y0 yx y12 y16 y17 z16 z17 v16 v17
            go_wp2
            go_meet
            case rel => exact ⟨ge, gf, rfl, rfl, HLAST.out, HLT.out⟩
  case rest =>
    obtain ⟨ge, gf, rfl, rfl, hO, hTX⟩ := hcut
    have HTBX := hid hTX
    clear hTX
    obtain ⟨hbx, cs, fx, fy, B, C, hge, hgf, hC, hone, hlen, hv⟩ := hO
    have HBX := hid hbx
    have HTX := hid (HT.out.below hbx)
    have HWX := hid (HB1.out.size)
    have HGLX : Hid (Below w.heap.size w wc) := hid hbx
    clear hbx
    rcases hv with ⟨rfl, rfl, rfl, rfl⟩ | ⟨hne, rfl, rfl, hkk⟩
    · as_aux_lemma =>
        have HGF := hid hgf
        have n1 : ∀ W, (binOp .eql 29 (.agg #[.int .i64 140, .int .i64 6]) (.agg #[.int .i64 140, .int .i64 6])).run Tryd.prog W = .ok (.bool true) W := fun W => flt_eql 140 6 140 6 W
        clear hge hgf hC hone hlen HC HTI HTK HTB
        go_wp2_with (first
          | (refine ld_row rfl 29 (.tmp 9) rfl gf rfl [.int .i64 140, .int .i64 6] 29 HGF.out _ Tryd.underlying29 rfl (by kernel_rfl) ?_))
        refine (awake_q wc HTX.out).mono ?_
        rintro e w5 ⟨rfl, hb5⟩
        have HB5 := hid (HBX.out.trans (hb5.mono HBX.out.size))
        clear hb5
        go_wp2
        go_ret
        exact ⟨rfl, HB5.out⟩
    · obtain ⟨gk, ok, ck, nx, ny, ax, ay, lx, ly, cx, cy, pl, h1, h2, h3, h4, h5, h6, h7, h8, h9, h10⟩ := hkk
      have c1' : wc.cell? ⟨ge, 1, none⟩ = some (.int .i64 (pl : Int)) := (cell_of_row _ _ _ _ _ _ hge).trans (by simpa using h1)
      have c9' : wc.cell? ⟨ge, 9, none⟩ = some (.slice (some ⟨gk, ok, none⟩) 2 ck) := (cell_of_row _ _ _ _ _ _ hge).trans (by simpa using h2)
      have hgl := hp_lt hge
      have hkl : gk < wc.heap.size := Nat.lt_of_lt_of_le h4 hC
      have R2 := hid (Bel.range (range_row (cs := [.int .i64 0, .int .i64 0]) hgf) (hp_lt hgf))
      have n1 : ∀ W, (binOp .eql 29 (.agg #[.int .i64 0, .int .i64 0]) (.agg #[.int .i64 0, .int .i64 0])).run Tryd.prog W = .ok (.bool true) W := fun W => flt_eql 0 0 0 0 W
      have e9 := fun p : Bel wc => p.cell c9' hgl
      have HTP : Hid (∀ p : Bel wc, TabZ p.out) := hid (fun p => HTX.out.below p.bel)
      have ib : Nonempty (Bel wc) := bel_some wc
      have HNE : Hid (¬ (i = 2 ∧ k = 2)) := hid hne
      clear hge hgf hC h1 h2 h3 h4 hone hlen c9' HC hne
      by_cases hik : i < k
      · obtain ⟨rfl, rfl, rfl⟩ := h9 hik
        have e1 := fun p : Bel wc => p.cell c1' hgl
        have e5 : ∀ p : Bel wc, p.out.cell? ⟨gk, ok + 3, none⟩ = some (.string ⟨#[120]⟩) := fun p => p.cell h5 hkl
        have e8 := fun p : Bel wc => p.cell h8 hkl
        have hiki : (i : Int) < (k : Int) := by omega
        have hi2 : ¬ ((i : Int) = 2 ∧ (k : Int) = 2) := fun h => HNE.out (by omega)
        clear h5 h6 h7 h8 h9 h10 c1' HTI HTK HTB
        have hz : ¬ (i : Int) = 2 ∨ ((i : Int) = 2 ∧ ¬ (k : Int) = 2) := by omega
        rcases hz with hz | ⟨hz, hz2⟩
        all_goals as_aux_lemma =>
          go_upto_region 8 with fail
          refine wp_region_quiet_bel (by kernel_rfl) (by kernel_rfl) ?_
          go_big_quiet_want
          refine quiet_ld 29 (.tmp 9) rfl gf 0 rfl [.int .i64 0, .int .i64 0] _ R2.out Tryd.underlying29 rfl (by kernel_rfl) ?_
          simp only [Act.put, List.setIfInBounds_toArray, List.set_cons_succ, List.set_cons_zero]
          go_big_quiet_on
          repeat go_big_quiet_step (first | (go_at_call 11; exact bel_of (none_any _)) | (go_at_call 8; exact bel_of (awake_q _ (HTP.out _))))
          refine wpQuiet_nil ?_
          rintro w7 ⟨⟨w7', hb7⟩, hw7⟩
          obtain rfl : w7 = w7' := hw7
          have HB7 := hid (HBX.out.trans (hb7.mono HBX.out.size))
          clear hb7 ib
          go_wp2
          go_ret
          exact ⟨rfl, HB7.out⟩
      · obtain ⟨hpl, rfl, rfl⟩ := h10 hik
        have hli := leB_len i
        have hszi := mk_size (leB i)
        have h0 := HTBX.out i hi
        have hti := fun p : Bel wc => p.cell h0 (World.block_lt_of_cell? wc _ h0)
        have hp2 : ((5 + (leB i).length : Nat) : Int) = 4 + ((leB i).length : Int) + 1 := by omega
        rw [hpl, hp2] at c1'
        have e1 := fun p : Bel wc => p.cell c1' hgl
        have e5 := fun p : Bel wc => p.cell h6 hkl
        have e8 : ∀ p : Bel wc, p.out.cell? ⟨gk, ok + 10 + 3, none⟩ = some (.string ⟨#[122]⟩) := fun p => p.cell h7 hkl
        have hiki : ¬ (i : Int) < (k : Int) := by omega
        have hw1 : IntKind.i64.wrap (4 + ((leB i).length : Int)) = 4 + ((leB i).length : Int) := by rw [IntKind.wrap_i64]; omega
        have hw2 : IntKind.i64.wrap (4 + ((leB i).length : Int) + 1) = 4 + ((leB i).length : Int) + 1 := by rw [IntKind.wrap_i64]; omega
        have hz : ¬ (i : Int) = 2 ∨ ((i : Int) = 2 ∧ ¬ (k : Int) = 2) := by have := HNE.out; omega
        generalize leB i = TI at hli hszi hti hw1 hw2 e1
        generalize TI.length = L at hli hszi e1 hw1 hw2
        clear h5 h6 h7 h8 h9 h10 c1' HTI HTK HTB HTBX h0 hpl hp2
        rcases hz with hz | ⟨hz, hz2⟩
        · as_aux_lemma =>
            go_upto_region 9 with fail
            refine wp_region_quiet_bel (by kernel_rfl) (by kernel_rfl) ?_
            go_big_quiet_want
            refine quiet_ld 29 (.tmp 9) rfl gf 0 rfl [.int .i64 0, .int .i64 0] _ R2.out Tryd.underlying29 rfl (by kernel_rfl) ?_
            simp only [Act.put, List.setIfInBounds_toArray, List.set_cons_succ, List.set_cons_zero]
            go_big_quiet_on
            repeat go_big_quiet_step (first | (go_at_call 11; exact bel_of (none_any _)) | (go_at_call 8; exact bel_of (awake_q _ (HTP.out _))))
            refine wpQuiet_nil ?_
            rintro w7 ⟨⟨w7', hb7⟩, hw7⟩
            obtain rfl : w7 = w7' := hw7
            have HB7 := hid (HBX.out.trans (hb7.mono HBX.out.size))
            clear hb7 ib
            go_wp2
            go_ret
            exact ⟨rfl, HB7.out⟩
        · have h2 : i = 2 := by omega
          subst h2
          clear hz
          as_aux_lemma =>
            go_upto_region 9 with fail
            refine wp_region_quiet_bel (by kernel_rfl) (by kernel_rfl) ?_
            go_big_quiet_want
            refine quiet_ld 29 (.tmp 9) rfl gf 0 rfl [.int .i64 0, .int .i64 0] _ R2.out Tryd.underlying29 rfl (by kernel_rfl) ?_
            simp only [Act.put, List.setIfInBounds_toArray, List.set_cons_succ, List.set_cons_zero]
            go_big_quiet_on
            repeat go_big_quiet_step (first | (go_at_call 11; exact bel_of (none_any _)) | (go_at_call 8; exact bel_of (awake_q _ (HTP.out _))))
            refine wpQuiet_nil ?_
            rintro w7 ⟨⟨w7', hb7⟩, hw7⟩
            obtain rfl : w7 = w7' := hw7
            have HB7 := hid (HBX.out.trans (hb7.mono HBX.out.size))
            clear hb7 ib
            go_wp2
            go_ret
            exact ⟨rfl, HB7.out⟩

end Go.Proofs.YtjjajfipfeigiabDoor

/- From what the rows list of the program's tables of texts to what the walks ask of the world. -/
namespace Go.Proofs.YtjjajfipfeigiabDoor
open Go.RowKit

def strD {H : Type} (ts : List (List UInt8)) : DataW H := .agg (ts.map fun t => .lit (.string t))
theorem cells_of_strs {H : Type} {enc : TypeId × Value → H} {P : Program} {w : World} {base : Nat} {sp : Nat → Bool} {held : Bool} {fuel : Nat} {t e : TypeId} {n : Nat} {cs : List Value} {ts : List (List UInt8)} {p : List MemPlace}
    (ht : P.underlying t = some (.array n e)) (he : P.underlying e = some .string) (hce : P.cellsOf e = 1) (hct : P.cellsOf t = n)
    (h : DataW.trod enc P w base sp held fuel t cs = some (strD ts, p)) : cs = strV ts := by
  cases fuel with
  | zero => simp [DataW.trod] at h
  | succ fuel =>
    simp only [DataW.trod, ht, hce, hct, Nat.mul_one] at h
    split at h
    · rename_i hl
      obtain ⟨xs, hm, hx⟩ := Option.map_eq_some_iff.1 h
      have hxs : xs.map (·.1) = ts.map fun z => (DataW.lit (.string z) : DataW H) := by
        have := congrArg Prod.fst hx
        simpa [strD] using this
      have hxl : xs.length = n := by simpa using Lib.mapM_length hm
      have hzl : ts.length = n := by
        have := congrArg List.length hxs
        simp at this
        omega
      apply List.ext_getElem?
      intro i
      by_cases hi : i < n
      · obtain ⟨b, hb, hf⟩ := Lib.mapM_at hm i i (by simp [hi])
        obtain ⟨s, hc, rfl, _⟩ := DataW.trod_string he hf
        have h1 : cs[i]? = some (.string s) := by
          have := congrArg (·[0]?) hc
          simpa [List.getElem?_take, List.getElem?_drop] using this
        have h2 : (xs.map (·.1))[i]? = some (DataW.lit (.string s.data.toList) : DataW H) := by simp [hb]
        rw [hxs] at h2
        simp only [List.getElem?_map, Option.map_eq_some_iff, DataW.lit.injEq, Lit.string.injEq] at h2
        obtain ⟨z', hz', he'⟩ := h2
        rw [h1]
        simp only [strV, List.getElem?_map, hz', Option.map_some, Option.some.injEq, Value.string.injEq]
        rw [he', ← bl_eq, mk_bl]
      · rw [List.getElem?_eq_none (by omega), List.getElem?_eq_none (by rw [strV_length]; omega)]
    · cases h
theorem strs_of_reads {P : Program} {w : World} {name : String} {d : DataW Unit} (hr : Lib.VarReads P w name d) (ts : List (List UInt8)) (g0 : Nat) (t e : TypeId) (n : Nat) (hg : P.globalNamed name = some g0) (hty : (P.globals[g0]?).map (·.type) = some t)
    (ht : P.underlying t = some (.array n e)) (he : P.underlying e = some .string) (hce : P.cellsOf e = 1) (hct : P.cellsOf t = n) (hd : d = strD ts) : w.rangeAt g0 0 (strV ts) ∧ g0 < w.heap.size := by
  obtain ⟨g, t', cs, fuel, p, h1, h2, h3, h4⟩ := hr
  obtain rfl : g0 = g := by rw [hg] at h1; exact Option.some.inj h1
  obtain rfl : t = t' := by rw [hty] at h2; exact Option.some.inj h2
  subst hd
  have hcs := cells_of_strs ht he hce hct h4
  unfold World.var? at h3
  rw [hg] at h3
  simp only [Option.bind_some] at h3
  cases hb : w.heap[g0]? with
  | none => rw [hb] at h3; cases h3
  | some o =>
    rw [hb] at h3
    refine ⟨?_, hp_lt hb⟩
    intro j v hv
    rw [Nat.zero_add]
    cases o with
    | cells C ty fr =>
      simp only [Option.some.injEq] at h3
      subst h3
      rw [cell_of_row w g0 j _ _ _ hb]
      have : C.toList[j]? = some v := by rw [hcs]; exact hv
      simpa using this
    | _ => cases h3

end Go.Proofs.YtjjajfipfeigiabDoor
