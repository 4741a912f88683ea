/- Contracts and pure facts that the proof needs, joined. -/
import Derived.Test.YtjhnbihohjimmaaG1

/- The document's New. -/
namespace Go.Proofs.Ytjhnbihohjimmaa
open Go.RowKit

theorem results_cell2 {fn : Func} {p q : Tmp} {ty : TypeId} (h : fn.results = #[.cell p ty, .tmp q]) (tmps : Array Value) (P : Program) (w : World) :
    (results fn tmps).run P w = ((asAddr (tmps.getD p undef)).run P w).andThen fun a w₁ => ((loadVar ty a).run P w₁).andThen fun v w₂ => .ok (.tuple #[v, tmps.getD q undef]) w₂ := by
  simp only [results, h]
  simp [Sem.run_bind, Result.andThen]
/-- the answer is a whole row that lies in a variable, and a number -/
theorem ret_row2 {P : Program} {fn : Func} {R : Ending → World → Prop} {a : Act} {w : World} (p q : Tmp) (ty : TypeId) (h : fn.results = #[.cell p ty, .tmp q]) (g : Nat) (hp : a.tmps.getD p undef = .pointer (some ⟨g, 0, none⟩))
    (cs : List Value) (t : TypeId) (hb : w.heap[g]? = some (.cells cs.toArray t (0, 0))) (d : TypeDesc) (hu : P.underlying ty = some d) (hd : d.isRow = true) (hi : (P.info? ty).map (·.size) = some cs.length)
    (v : Value) (hq : a.tmps.getD q undef = v) (hdf : a.defers = []) (hR : R (.returned (.tuple #[.agg cs.toArray, v])) w) : bodyPost P fn R .ret a w := by
  refine bodyPost_ret (v := .tuple #[.agg cs.toArray, v]) ?_ hdf hR
  rw [results_cell2 h, hp, hq]
  have := run_loadVar_mid (P := P) w g 0 ty cs d (fun j v hv => by rw [Nat.zero_add, cell_of_row w g j cs.toArray t (0, 0) hb]; simpa using hv) hu hd hi
  simp [asAddr, this]

def rz (room : Int) : List Value := [.int .i64 room, .slice none 0 0, .bool false, .int .i64 0, .int .i64 0, .int .i64 0, .int .i64 0]
theorem rz_one (room : Int) : ∀ v ∈ rz room, v.oneCell' = true := by
  intro v hv
  simp only [rz, List.mem_cons, List.not_mem_nil, or_false] at hv
  rcases hv with rfl | rfl | rfl | rfl | rfl | rfl | rfl <;> rfl
theorem built_r0 : Try.prog.built 31 [] = some (rz 0).toArray := by kernel_rfl
theorem built_r1 (r : Int) : Try.prog.built 31 [(0, .int .i64 r)] = some (rz r).toArray := by kernel_rfl

set_option maxRecDepth 100000 in
set_option maxHeartbeats 1000000 in
theorem rnew_bad (w : World) (r : Int) (hr : r < 1 ∨ 4194304 < r) :
    Calls Try.prog 10 #[.int .i64 r] w fun e w' => e = .returned (.tuple #[.agg (rz 0).toArray, .int .i64 90]) ∧ Below w.heap.size w w' := by
  obtain ⟨z, s⟩ := zero_of_info (P := Try.prog) (t := 31) (v := .agg (rz 0).toArray) (n := 7) (by kernel_rfl)
  have HS := hid s
  have HR := hid (hp_new w (.cells (rz 0).toArray 31))
  have HB := hid (below_walk w (.cells (rz 0).toArray 31))
  clear s
  rcases hr with h | h
  all_goals
    try have h2 : ¬ r < 1 := by omega
    go_enter Try.func10, Try.ntmps10
    go_upto_region 2 with (refine al_row rfl 31 rfl _ z ?_)
    generalize w.alloc (.cells (rz 0).toArray 31) = w1 at HR HB ⊢
    refine wp_region_list ?_
    show wpList _ _ _ (_ :: _) _ _
    refine bd_row (by rfl) 31 _ (by rfl) [] (by simp) _ built_r0 ?_
    refine st_row (by rfl) 31 (.tmp 2) (.tmp 10) (by rfl) w.heap.size (rz 0) (by rfl) (by rfl) 31 _ HR.out HS.out rfl (rz_one _) ?_
    intro w6 hw6
    have HW := hid hw6
    clear hw6
    go_wp2
    refine ret_row2 2 3 31 rfl w.heap.size rfl _ 31 HW.out.blk _ Try.underlying31 rfl HS.out _ rfl rfl ⟨rfl, ?_⟩
    exact HB.out.grown HW.out.grown HB.out.size (by intro k hk; cases hk; exact Nat.le_refl _)

set_option maxRecDepth 100000 in
set_option maxHeartbeats 1000000 in
theorem rnew_ok (w : World) (room : Nat) (h1 : 1 ≤ room) (h2 : room ≤ 4194304) :
    Calls Try.prog 10 #[.int .i64 (room : Int)] w fun e w' => e = .returned (.tuple #[.agg (rz room).toArray, .int .i64 0]) ∧ Below w.heap.size w w' := by
  obtain ⟨z, s⟩ := zero_of_info (P := Try.prog) (t := 31) (v := .agg (rz 0).toArray) (n := 7) (by kernel_rfl)
  have HS := hid s
  have HR := hid (hp_new w (.cells (rz 0).toArray 31))
  have HB := hid (below_walk w (.cells (rz 0).toArray 31))
  have h3 : ¬ room < 1 := by omega
  have h4 : ¬ 4194304 < room := by omega
  clear s h1 h2
  go_enter Try.func10, Try.ntmps10
  go_upto_region 3 with (refine al_row rfl 31 rfl _ z ?_)
  generalize w.alloc (.cells (rz 0).toArray 31) = w1 at HR HB ⊢
  go_wp2_with (first
    | (refine bd_row rfl 31 _ rfl [(0, .int .i64 (room : Int))] (by simp [Act.eval, Act.put]) _ (built_r1 room) ?_)
    | (refine st_row rfl 31 (.tmp 2) (.tmp 12) rfl w.heap.size (rz room) rfl rfl 31 _ HR.out HS.out rfl (rz_one _) ?_; intro w6 hw6; have HW := hid hw6; clear hw6))
  refine ret_row2 2 3 31 rfl w.heap.size rfl _ 31 HW.out.blk _ Try.underlying31 rfl HS.out _ rfl rfl ⟨rfl, ?_⟩
  exact HB.out.grown HW.out.grown HB.out.size (by intro k hk; cases hk; exact Nat.le_refl _)

theorem rnew_rb (w : World) (base room : Nat) (hb : base ≤ w.heap.size) (h1 : 1 ≤ room) (h2 : room ≤ 4194304) :
    Rb (w.alloc (.cells (rz room).toArray 31)) base w.heap.size (.slice none 0 0) room [] false 0 0 0 0 :=
  ⟨hb, hp_new _ _, Hel.nil _ _, (by intro e; cases e), h1, h2, by simp⟩

end Go.Proofs.Ytjhnbihohjimmaa

/- DuctPlays. -/
namespace Go.Proofs.Ytjhnbihohjimmaa
open Go.RowKit

set_option maxRecDepth 100000 in
set_option maxHeartbeats 4000000 in
theorem lawPlays_any (w : World) (r : Int) (v : Value) (n : Nat) (hv : Acts w v n) :
    Calls Try.prog 3 #[.int .i64 r, v] w fun e w' => e = .returned (.bool true) ∧ Below w.heap.size w w' := by
  have hn := hv.len
  obtain ⟨ao, cv, rfl⟩ := hv.shape
  have HV := hid hv
  clear hv
  obtain ⟨zr, sr⟩ := zero_of_info (P := Try.prog) (t := 31) (v := .agg (rz 0).toArray) (n := 7) (by kernel_rfl)
  have HSR := hid sr
  clear sr
  by_cases hr : r < 1 ∨ 4194304 < r
  · have HR := hid hr
    clear hr
    go_enter Try.func3, Try.ntmps3
    go_wp2_with fail
    refine (new_bad w r HR.out).mono ?_
    rintro e w1 ⟨rfl, hw1⟩
    subst hw1
    go_wp2_with fail
    refine (rnew_bad _ r HR.out).mono ?_
    rintro e w2 ⟨rfl, hb2⟩
    have HB2 := hid hb2
    clear hb2
    have HB3 := hid (HB2.out.alloc HB2.out.size (.cells (rz 0).toArray 31))
    go_upto_region 3 with (refine al_row rfl 31 rfl _ zr ?_; refine st_new rfl 31 (.tmp 7) (.tmp 19) rfl (rz 0) rfl rfl _ _ HSR.out rfl (rz_one _) ?_)
    try simp only [Act.put, List.setIfInBounds_toArray, List.set_cons_succ, List.set_cons_zero]
    generalize w2.alloc (.cells (rz 0).toArray 31) = w3 at HB3 ⊢
    go_wp2_with fail
    refine (alive_any _).mono ?_
    rintro e w4 ⟨rfl, hb4⟩
    go_wp2
    go_ret
    exact ⟨rfl, HB3.out.trans (hb4.mono HB3.out.size)⟩
  obtain ⟨room, rfl⟩ : ∃ R : Nat, r = (R : Int) := ⟨r.toNat, by omega⟩
  have h1 : 1 ≤ room := by omega
  have h2 : room ≤ 4194304 := by omega
  clear hr
  have H1 := hid h1
  have H2 := hid h2
  clear h1 h2
  go_enter Try.func3, Try.ntmps3
  go_wp2_with fail
  refine (new_ok w room H1.out H2.out).mono ?_
  rintro e w1 ⟨rfl, hd1, hb1⟩
  have HD1 := hid hd1
  have HB1 := hid hb1
  clear hd1 hb1
  go_wp2_with fail
  refine (rnew_ok w1 room H1.out H2.out).mono ?_
  rintro e w2 ⟨rfl, hb2⟩
  have HB2 := hid (HB1.out.trans (hb2.mono HB1.out.size))
  have HD2 := hid (HD1.out.below hb2)
  clear hb2
  have HB3 := hid (HB2.out.alloc HB2.out.size (.cells (rz room).toArray 31))
  have HU3 := hid (show Duo (w2.alloc (.cells (rz room).toArray 31)) w.heap.size w.heap.size (.slice none 0 0) w2.heap.size (.slice none 0 0) room [] false 0 0 0 0 from
    ⟨HD2.out.below (below_walk _ _), rnew_rb w2 w.heap.size room HB2.out.size H1.out H2.out, (by have := HD2.out.lt; omega), (by intro e; cases e), (by intro e; cases e), (by intro k e; cases e)⟩)
  go_upto_region 3 with (refine al_row rfl 31 rfl _ zr ?_; refine st_new rfl 31 (.tmp 7) (.tmp 19) rfl (rz room) rfl rfl _ _ HSR.out rfl (rz_one _) ?_)
  try simp only [Act.put, List.setIfInBounds_toArray, List.set_cons_succ, List.set_cons_zero]
  generalize w2.alloc (.cells (rz room).toArray 31) = w3 at HB3 HU3 ⊢
  generalize w2.heap.size = b2 at HU3 ⊢
  go_wp2_with fail
  refine (alive_any _).mono ?_
  rintro e w4 ⟨rfl, hb4⟩
  have HB4 := hid (HB3.out.trans (hb4.mono HB3.out.size))
  have HU4 := hid (HU3.out.below hb4)
  clear hb4 HB3 HU3 HB2 HD2 HB1 HD1 zr HSR
  go_wp2
  go_loopw [39] (fun vi wr => ∃ (j : Nat) (vd u : Value) (bs : List UInt8) (sh : Bool) (ci co ct cl : Int), j ≤ n ∧ vi = .int .i64 j ∧ Hid (Duo wr w.heap.size w.heap.size vd b2 u room bs sh ci co ct cl) ∧ Hid (Below w.heap.size w wr)) (fun vi _ => n - (intOf vi).toNat)
  case atStart => exact ⟨0, _, _, [], false, 0, 0, 0, 0, by omega, rfl, HU4, HB4⟩
  case round =>
    obtain ⟨j, vd, u, bs, sh, ci, co, ct, cl, hj, rfl, HU, HB⟩ := hrel
    by_cases hlt : j < n
    · obtain ⟨g, o, rfl, k, a, b, vp, pss, hrg, hps, hpl, hv1⟩ := HV.out.at j hlt
      have HRG := hid (hrg _ HB.out)
      have HPS := hid hps
      obtain ⟨z, s⟩ := zero_of_info (P := Try.prog) (t := 37) (v := .agg #[.int .i64 0, .slice none 0 0, .int .i64 0, .int .i64 0]) (n := 4) (by kernel_rfl)
      have HS := hid s
      have HV1 := hid hv1
      clear hrg hps s hv1
      go_upto_region 10 with (first
        | (refine wpList_load_mid rfl 37 (.tmp 41) rfl g (o + j * 4) rfl [.int .i64 k, vp, .int .i64 a, .int .i64 b] _ HRG.out Try.underlying37 rfl HS.out ?_)
        | (refine al_row rfl 37 rfl _ z ?_; refine st_new rfl 37 (.tmp 10) (.tmp 42) rfl [.int .i64 k, vp, .int .i64 a, .int .i64 b] rfl rfl _ _ HS.out rfl HV1.out ?_))
      try simp only [Act.put, List.setIfInBounds_toArray, List.set_cons_succ, List.set_cons_zero]
      have HB2 := hid (HB.out.alloc HB.out.size (.cells [.int .i64 k, vp, .int .i64 a, .int .i64 b].toArray 37))
      have HU2 := hid (HU.out.below (below_walk wr (.cells [.int .i64 k, vp, .int .i64 a, .int .i64 b].toArray 37)))
      have HN2 := hid (hp_new wr (.cells [.int .i64 k, vp, .int .i64 a, .int .i64 b].toArray 37))
      have HXN := hid (show w.heap.size < wr.heap.size ∧ b2 < wr.heap.size ∧ (∀ k, vd.ownBlock = some k → k < wr.heap.size) ∧ (∀ k, u.ownBlock = some k → k < wr.heap.size) from ⟨HU.out.d.lt, HU.out.r.lt, fun k e => (HU.out.d.own.lt k e).2, fun k e => (HU.out.r.own.lt k e).2⟩)
      have d0 := row_cell HN2.out 0 (by simp)
      have d1 := row_cell HN2.out 1 (by simp)
      have d2 := row_cell HN2.out 2 (by simp)
      have d3 := row_cell HN2.out 3 (by simp)
      simp only [List.getElem_cons_zero, List.getElem_cons_succ] at d0 d1 d2 d3
      generalize wr.alloc (.cells [.int .i64 k, vp, .int .i64 a, .int .i64 b].toArray 37) = w2 at HB2 HU2 HN2 d0 d1 d2 d3 ⊢
      generalize wr.heap.size = bx at HN2 HXN d0 d1 d2 d3 ⊢
      have HW2 := hid (show Below w.heap.size w w2.drew from HB2.out.drew)
      have HU2' := hid (show Duo w2.drew w.heap.size w.heap.size vd b2 u room bs sh ci co ct cl from HU2.out.drewN 1)
      have HDO := hid (does_any HU2'.out k a b vp pss (HV1.out vp (by simp)) hpl (fun W hW => HPS.out W (HW2.out.trans hW)))
      clear z HRG HU HB
      go_region_with (first
        | (go_at_call 12; refine HDO.out.mono ?_; rintro e w5 ⟨rfl, v5, u5, bs5, sh5, ci5, co5, ct5, cl5, hu5, hf5⟩; have HU5 := hid hu5; have HB5 := hid (HW2.out.trans (hf5.low HU2'.out)); have g1 := hu5.r.c1; obtain ⟨a5, c5, rfl⟩ := hu5.r.own.shape; obtain ⟨RM, HRM⟩ : ∃ RM, Hid (RM = roomP sh5 room bs5.length) := ⟨_, rfl⟩; have HR1 := hid (fun q => room_any (hu5.d.drewN q)); have HR2 := hid (fun q => rroom_any (hu5.r.drewN q)); rw [← HRM.out] at HR1 HR2; clear hu5 hf5)
        | (go_at_call 13; refine (len_any HU5.out.d).mono ?_; rintro e w6 ⟨rfl, hw6⟩; subst hw6)
        | (go_at_call 14; refine (HR1.out 0).mono ?_; rintro e w6 ⟨rfl, q6, hw6⟩; subst hw6)
        | (go_at_call 15; refine (HR2.out q6).mono ?_; rintro e w7 ⟨rfl, q7, hw7⟩; subst hw7))
      all_goals
        go_wp2
        exact ⟨⟨j + 1, _, _, bs5, sh5, ci5, co5, ct5, cl5, hlt, by simp, HU5.out.below ⟨rfl, rfl, rfl, Nat.le_refl _, fun _ _ => rfl⟩, HB5.out.trans ⟨rfl, rfl, rfl, Nat.le_refl _, fun _ _ => rfl⟩⟩, by simp [intOf]; omega⟩
    · obtain rfl : j = n := by omega
      obtain ⟨au, cu, rfl⟩ := HU.out.r.own.shape
      have HK := hid (show ∀ W, Duo W w.heap.size w.heap.size vd b2 (.slice au bs.length cu) room bs sh ci co ct cl → W.cell? ⟨b2, 1, none⟩ = some (.slice au bs.length cu) ∧ W.cell? ⟨b2, 3, none⟩ = some (.int .i64 ci) ∧ W.cell? ⟨b2, 4, none⟩ = some (.int .i64 co) ∧ W.cell? ⟨b2, 5, none⟩ = some (.int .i64 ct) ∧ W.cell? ⟨b2, 6, none⟩ = some (.int .i64 cl) from fun W h => ⟨h.r.c1, h.r.c3, h.r.c4, h.r.c5, h.r.c6⟩)
      have f1 := HK.out _ HU.out
      obtain ⟨RM, HRM⟩ : ∃ RM, Hid (RM = roomP sh room bs.length) := ⟨_, rfl⟩
      obtain ⟨DN, HDN⟩ : ∃ DN, Hid (DN = (sh && ((bs.length : Int) == 0))) := ⟨_, rfl⟩
      have HU1 := hid (fun q => HU.out.drewN q)
      have HR1 := hid (fun q => room_any (HU1.out q).d)
      have HR2 := hid (fun q => rroom_any (HU1.out q).r)
      have HC1 := hid (fun q => count_any (HU1.out q).d)
      rw [← HRM.out] at HR1 HR2
      go_upto_region 13 with fail
      go_region_held3 (fun W => W.cell? ⟨b2, 1, none⟩ = some (.slice au bs.length cu) ∧ W.cell? ⟨b2, 3, none⟩ = some (.int .i64 ci) ∧ W.cell? ⟨b2, 4, none⟩ = some (.int .i64 co) ∧ W.cell? ⟨b2, 5, none⟩ = some (.int .i64 ct) ∧ W.cell? ⟨b2, 6, none⟩ = some (.int .i64 cl)) (first | exact f1 | exact f8 | go_keep) (first
        | (go_at_call 13; refine (len_any (HU1.out 1).d).mono ?_; rintro e w6 ⟨rfl, hw6⟩; subst hw6)
        | (go_at_call 14; refine (HR1.out 1).mono ?_; rintro e w6 ⟨rfl, q6, hw6⟩; subst hw6)
        | (go_at_call 15; refine (HR2.out (1 + q6)).mono ?_; rintro e w7 ⟨rfl, q7, hw7⟩; subst hw7)
        | (go_at_call 16; refine (HC1.out (1 + q6 + q7)).mono ?_; rintro e w8 ⟨rfl, hb8⟩; have HU8 := hid ((HU1.out (1 + q6 + q7)).below hb8); have HB8 := hid (HB.out.trans (Below.mono (show Below wr.heap.size wr w8 from ⟨hb8.os, hb8.tape, hb8.output, hb8.size, hb8.block⟩) HB.out.size)); have f8 := HK.out _ HU8.out; have HD1 := hid (done_any HU8.out.d); have HD2 := hid (rdone_any HU8.out.r); rw [← HDN.out] at HD1 HD2; clear hb8)
        | (go_at_call 17; refine HD1.out.mono ?_; rintro e w6 ⟨rfl, hw6⟩; subst hw6)
        | (go_at_call 18; refine HD2.out.mono ?_; rintro e w6 ⟨rfl, hw6⟩; subst hw6))
      all_goals
        go_wp2
        go_ret
        exact ⟨rfl, HB8.out⟩

end Go.Proofs.Ytjhnbihohjimmaa
