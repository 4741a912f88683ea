/- Contracts and pure facts that the proof needs, joined. -/
import Derived.Test.YtiibhccbbpgehaaGreatG9

/- StreamSplits answers true. -/
namespace Go.Proofs.YtiibhccbbpgehaaGreat
open Go.RowKit Go.BigFrame

theorem owni_at {w : World} {base n c : Nat} {ao : Option Addr} {l : List Nat} (h : OwnI w base (.slice ao n c) l) (k : Nat) (hk : k < l.length) : ∃ g, ao = some ⟨g, 0, none⟩ ∧ g < w.heap.size ∧ w.cell? ⟨g, k, none⟩ = some (.int .i64 ((l.getD k 0 : Nat) : Int)) := by
  rcases h.2 with ⟨e, h0⟩ | ⟨g, cap, cur, e, _, hh, _⟩
  · omega
  · injection e with e1 e2 e3
    subst e1
    refine ⟨g, rfl, hp_lt hh, ?_⟩
    have := World.ownsRow.cells h (g := g) rfl k (.int .i64 ((l.getD k 0 : Nat) : Int)) (by simp [intsV8, List.getD_eq_getElem?_getD, hk])
    rwa [addr_add] at this

set_option maxRecDepth 100000 in
set_option maxHeartbeats 8000000 in
theorem lawSplits_any (v : Value) (bs : List UInt8) (w : World) (hs : Src w v bs) (hbl : bs.length ≤ 1048576) :
    Calls Tryz.prog 5 #[v] w fun e w' => e = .returned (.bool true) ∧ Below w.heap.size w w' := by
  have HS := hid hs
  obtain ⟨av, cv, rfl⟩ := src_shape hs
  have HFW := hid (run_few (M := 2097152) (q := nev) bs (zS, [], 0))
  have HZW := hid (run_szs (M := 2097152) (q := nev) bs (zS, [], 0) rfl (fun f hf => by cases hf)).1
  have hsl := hs.1
  clear hs
  have HW0 := hid (below_walk w (.cells #[] 5))
  have HE0 := hid (show OwnB (w.alloc (.cells #[] 5)) w.heap.size (.slice (some ⟨w.heap.size, 0, none⟩) 0 0) [] from World.ownsRow_lit w #[] 0 (Nat.le_refl _) (by decide) rfl)
  have HS0 := hid (HS.out.below HW0.out)
  have HZ0 := hid HW0.out.size
  go_enter Tryz.func5, Tryz.ntmps5
  go_wp2_with (first | (at_builtin; refine app_bytes (by rfl) _ _ rfl w.heap.size _ [] rfl HE0.out _ _ rfl HS0.out (by simp; omega) HZ0.out ?_))
  intro v2 w2 ho2 hg2 hp2
  try rw [List.nil_append] at ho2
  have HO2 := hid (show OwnB w2 w.heap.size v2 bs from ho2)
  have HQ2 := hid (Below.of_gbo HW0.out hg2 (fun k e => (World.ownsRow.lt HE0.out k e).1))
  have HX2 := hid (HO2.out.src (by omega))
  obtain ⟨a2, c2, e2⟩ := ho2.shape
  subst e2
  clear ho2 hg2 hp2 HE0 HS0 HW0 HZ0
  have HA1 := hid (psplit8_any (.slice a2 bs.length c2) bs w2 HX2.out (by omega))
  have HA2 := hid (fun W (h : Below w2.heap.size w2 W) => psizes8_any (.slice a2 bs.length c2) bs W (HX2.out.below h) (by omega))
  have HA3 := hid (fun W (h : Below w.heap.size w W) => rsplit8_any (.slice av bs.length cv) bs W (HS.out.below h) (by omega))
  obtain ⟨a, HA⟩ : ∃ a, Hid (runP 2097152 nev (zS, [], 0) bs = a) := ⟨_, rfl⟩
  obtain ⟨Y, HYY⟩ : ∃ a9, Hid ((stopP a.1).1 = a9) := ⟨_, rfl⟩
  obtain ⟨TT, HTT⟩ : ∃ a9, Hid ((stopP a.1).2 = a9) := ⟨_, rfl⟩
  obtain ⟨ZL, HZL⟩ : ∃ l, Hid (a.1.szs = l) := ⟨_, rfl⟩
  rw [HA.out, HYY.out, HTT.out] at HA1 HA2 HA3
  rw [HA.out] at HFW HZW
  rw [HZL.out] at HA2 HA3 HZW
  -- l, f
  go_wp2_with fail
  refine HA1.out.mono ?_
  rintro e w3 ⟨vl, fs, rfl, hof, hm, hb3⟩
  have HW4 := hid (below_walk w3 (.cells [Value.int .i64 Y, .int .i64 TT].toArray 33))
  have HF4 := hid (hp_new w3 (.cells [Value.int .i64 Y, .int .i64 TT].toArray 33))
  have HB4 := hid (below_then hb3 HW4.out)
  have HOF4 := hid (hof.below HW4.out)
  have HM1 := hid hm
  obtain ⟨al, cl, el⟩ := hof.shape
  subst el
  clear hof hm hb3 HA1
  go_upto_region 3 with (refine st_new (by rfl) 33 _ _ (by rfl) [Value.int .i64 Y, .int .i64 TT] (by rfl) (by rfl) 33 _ faultSize rfl (fault_one _ _) ?_)
  obtain ⟨F1, HF1e⟩ : ∃ n, Hid (w3.heap.size = n) := ⟨_, rfl⟩
  rw [HF1e.out] at HF4 ⊢
  generalize w3.alloc (.cells [Value.int .i64 Y, .int .i64 TT].toArray 33) = w4 at HW4 HF4 HB4 HOF4 ⊢
  have HA2w := hid (HA2.out w4 HB4.out)
  clear HA2
  -- n, g
  go_wp2_with fail
  refine HA2w.out.mono ?_
  rintro e w5 ⟨vn, rfl, hoi, hb5⟩
  have HW6 := hid (below_walk w5 (.cells [Value.int .i64 Y, .int .i64 TT].toArray 33))
  have HG6 := hid (hp_new w5 (.cells [Value.int .i64 Y, .int .i64 TT].toArray 33))
  have HB46 := hid (below_then hb5 HW6.out)
  have HF6 := hid (bel_keep HB46.out HF4.out)
  have HB6 := hid (below_then HB4.out HB46.out)
  have HOF6 := hid (HOF4.out.below HB46.out)
  have HI6 := hid (show OwnI _ w4.heap.size vn ZL from own_below hoi HW6.out)
  obtain ⟨an, cn, en⟩ := hoi.shape
  subst en
  clear hoi hb5 HA2w HF4 HB4 HOF4
  go_upto_region 4 with (refine st_new (by rfl) 33 _ _ (by rfl) [Value.int .i64 Y, .int .i64 TT] (by rfl) (by rfl) 33 _ faultSize rfl (fault_one _ _) ?_)
  obtain ⟨F2, HF2e⟩ : ∃ n, Hid (w5.heap.size = n) := ⟨_, rfl⟩
  rw [HF2e.out] at HG6 ⊢
  generalize w5.alloc (.cells [Value.int .i64 Y, .int .i64 TT].toArray 33) = w6 at HW6 HG6 HB46 HF6 HB6 HOF6 HI6 ⊢
  have HA3w := hid (HA3.out w6 (below_then HQ2.out HB6.out))
  clear HA3
  -- m, k, h
  go_wp2_with fail
  refine HA3w.out.mono ?_
  rintro e w7 ⟨vm, vk, gs, rfl, hof7, hm7, hoi7, hb7⟩
  have HW8 := hid (below_walk w7 (.cells [Value.int .i64 Y, .int .i64 TT].toArray 33))
  have HH8 := hid (hp_new w7 (.cells [Value.int .i64 Y, .int .i64 TT].toArray 33))
  have HB68 := hid (below_then hb7 HW8.out)
  have HF8 := hid (bel_keep HB68.out HF6.out)
  have HG8 := hid (bel_keep HB68.out HG6.out)
  have HB8 := hid (below_then HB6.out HB68.out)
  have HQ8 := hid (below_then HQ2.out HB8.out)
  have HOF8 := hid (HOF6.out.below HB68.out)
  have HI8 := hid (show OwnI _ w4.heap.size (.slice an ZL.length cn) ZL from own_below HI6.out HB68.out)
  have HM8 := hid (hof7.below HW8.out)
  have HK8 := hid (show OwnI _ w6.heap.size vk ZL from own_below hoi7 HW8.out)
  have HMM := hid (show fs.map (·.1) = gs.map (·.1) by rw [HM1.out, hm7])
  obtain ⟨am, nm, cm, em⟩ : ∃ a n c, vm = .slice a n c := by obtain ⟨a, c, e⟩ := hof7.shape; exact ⟨_, _, _, e⟩
  obtain ⟨ak, ck, ek⟩ := hoi7.shape
  subst em ek
  clear hof7 hm7 hoi7 hb7 HA3w HF6 HG6 HB6 HOF6 HI6
  go_upto_region 5 with (refine st_new (by rfl) 33 _ _ (by rfl) [Value.int .i64 Y, .int .i64 TT] (by rfl) (by rfl) 33 _ faultSize rfl (fault_one _ _) ?_)
  obtain ⟨F3, HF3e⟩ : ∃ n, Hid (w7.heap.size = n) := ⟨_, rfl⟩
  rw [HF3e.out] at HH8 ⊢
  generalize w7.alloc (.cells [Value.int .i64 Y, .int .i64 TT].toArray 33) = w8 at HW8 HH8 HB68 HF8 HG8 HB8 HQ8 HOF8 HI8 HM8 HK8 ⊢
  have HFL := hid (show fs.length ≤ 140737488355327 by have h1 := HFW.out; rw [← HM1.out, List.length_map] at h1; simp at h1; omega)
  have HZZ := hid (show ZL.length ≤ 1048576 by have h1 := HFW.out; rw [HZW.out, List.length_map]; simp at h1; omega)
  have HSA := hid (rsl_any _ _ fs gs w8 HOF8.out.frs HM8.out.frs HMM.out HFL.out)
  have f0 : w8.cell? ⟨F1, 0, none⟩ = some (.int .i64 Y) := by simp [World.cell?, HF8.out]
  have f1 : w8.cell? ⟨F1, 1, none⟩ = some (.int .i64 TT) := by simp [World.cell?, HF8.out]
  have g0 : w8.cell? ⟨F2, 0, none⟩ = some (.int .i64 Y) := by simp [World.cell?, HG8.out]
  have g1 : w8.cell? ⟨F2, 1, none⟩ = some (.int .i64 TT) := by simp [World.cell?, HG8.out]
  have h0 : w8.cell? ⟨F3, 0, none⟩ = some (.int .i64 Y) := by simp [World.cell?, HH8.out]
  have h1 : w8.cell? ⟨F3, 1, none⟩ = some (.int .i64 TT) := by simp [World.cell?, HH8.out]
  have n1 : ∀ W, (binOp .neq 33 (.agg #[.int .i64 Y, .int .i64 TT]) (.agg #[.int .i64 Y, .int .i64 TT])).run Tryz.prog W = .ok (.bool false) W := fun W => by rw [fault_neq]; simp
  go_wp2_with fail
  refine HSA.out.mono ?_
  rintro e w9 ⟨rfl, hb9⟩
  have HQ9 := hid (below_then HQ8.out hb9)
  have HI9 := hid (show OwnI w9 w4.heap.size (.slice an ZL.length cn) ZL from own_below HI8.out hb9)
  have HK9 := hid (show OwnI w9 w6.heap.size (.slice ak ZL.length ck) ZL from own_below HK8.out hb9)
  have ks1 := run_str (HX2.out.below (below_then HB8.out hb9))
  have ks2 := run_str (HS.out.below HQ9.out)
  clear hb9 HSA f0 f1 g0 g1 h0 h1 n1
  go_wp2
  clear ks1 ks2
  go_loopw [11] (fun vi wr => ∃ k : Nat, k ≤ ZL.length ∧ vi = .int .i64 k ∧ Hid (Below w9.heap.size w9 wr)) (fun vi _ => ZL.length - (intOf vi).toNat)
  case atStart => exact ⟨0, by omega, rfl, Below.refl _ _⟩
  case round =>
    obtain ⟨k, hk, rfl, HQ⟩ := hrel
    by_cases hlt : k < ZL.length
    · as_aux_lemma =>
        have hki : (k : Int) < (ZL.length : Int) := by omega
        obtain ⟨g1, rfl, hl1, hc1⟩ := owni_at HI9.out k hlt
        obtain ⟨g2, rfl, hl2, hc2⟩ := owni_at HK9.out k hlt
        have hkw : IntKind.i64.wrap ((k : Int) + 1) = (k : Int) + 1 := by rw [IntKind.wrap_i64]; have := HZZ.out; omega
        obtain ⟨N, HN⟩ : ∃ n, Hid (ZL.getD k 0 = n) := ⟨_, rfl⟩
        rw [HN.out] at hc1 hc2
        have HT9 := hid trivial
        have HL1 := hid (show g1 < wr.heap.size from Nat.lt_of_lt_of_le hl1 HQ.out.size)
        have HL2 := hid (show g2 < wr.heap.size from Nat.lt_of_lt_of_le hl2 HQ.out.size)
        have HC1 := hid ((HQ.out.cell (p := ⟨g1, k, none⟩) hl1).trans hc1)
        have HC2 := hid ((HQ.out.cell (p := ⟨g2, k, none⟩) hl2).trans hc2)
        clear hc1 hc2 hl1 hl2
        go_upto_region 10 with fail
        refine wp_noPanic (wp_region_held_drew (S := fun W => Below wr.heap.size wr W) (by kernel_rfl) (bel_drw wr 1) ?_)
        intro hHeld
        refine wpAnyH_take (i := 0) (v := .slice (some ⟨g1, 0, none⟩) ZL.length cn) rfl (by kernel_rfl) (by kernel_rfl) (by kernel_rfl) (fun _ _ _ h => h) (Or.inl ⟨by rfl, fun W _ => by go_simp⟩) hHeld ?_
        simp only [Act.put, List.getElem_toArray, List.getElem_cons_zero, List.setIfInBounds_toArray, List.set_cons_succ, List.set_cons_zero]
        refine wpAnyH_take (i := 1) (v := .int .i64 (k : Int)) rfl (by kernel_rfl) (by kernel_rfl) (by kernel_rfl) (fun _ _ _ h => h) (Or.inl ⟨by rfl, fun W _ => by go_simp⟩) hHeld ?_
        simp only [Act.put, List.getElem_toArray, List.getElem_cons_zero, List.getElem_cons_succ, List.setIfInBounds_toArray, List.set_cons_succ, List.set_cons_zero]
        refine wpAnyH_take (i := 2) (v := .pointer (some ⟨g1, k, none⟩)) rfl (by kernel_rfl) (by kernel_rfl) (by kernel_rfl) (fun _ _ _ h => h) (Or.inl ⟨by rfl, fun W _ => by have hfact := hki; go_simp; first | done | simp [hfact]⟩) hHeld ?_
        simp only [Act.put, List.getElem_toArray, List.getElem_cons_zero, List.getElem_cons_succ, List.setIfInBounds_toArray, List.set_cons_succ, List.set_cons_zero]
        refine wpAnyH_take (i := 3) (v := .int .i64 (N : Int)) rfl (by kernel_rfl) (by kernel_rfl) (by kernel_rfl) (fun _ _ _ h => h) (Or.inl ⟨by rfl, fun W hW => by have hcell := (hW.cell (p := ⟨g1, k, none⟩) HL1.out).trans HC1.out; clear hW; go_simp⟩) hHeld ?_
        simp only [Act.put, List.getElem_toArray, List.getElem_cons_zero, List.getElem_cons_succ, List.setIfInBounds_toArray, List.set_cons_succ, List.set_cons_zero]
        refine wpAnyH_take (i := 4) (v := .slice (some ⟨g2, 0, none⟩) ZL.length ck) rfl (by kernel_rfl) (by kernel_rfl) (by kernel_rfl) (fun _ _ _ h => h) (Or.inl ⟨by rfl, fun W _ => by go_simp⟩) hHeld ?_
        simp only [Act.put, List.getElem_toArray, List.getElem_cons_zero, List.getElem_cons_succ, List.setIfInBounds_toArray, List.set_cons_succ, List.set_cons_zero]
        refine wpAnyH_take (i := 5) (v := .int .i64 (k : Int)) rfl (by kernel_rfl) (by kernel_rfl) (by kernel_rfl) (fun _ _ _ h => h) (Or.inl ⟨by rfl, fun W _ => by go_simp⟩) hHeld ?_
        simp only [Act.put, List.getElem_toArray, List.getElem_cons_zero, List.getElem_cons_succ, List.setIfInBounds_toArray, List.set_cons_succ, List.set_cons_zero]
        refine wpAnyH_take (i := 6) (v := .pointer (some ⟨g2, k, none⟩)) rfl (by kernel_rfl) (by kernel_rfl) (by kernel_rfl) (fun _ _ _ h => h) (Or.inl ⟨by rfl, fun W _ => by have hfact := hki; go_simp; first | done | simp [hfact]⟩) hHeld ?_
        simp only [Act.put, List.getElem_toArray, List.getElem_cons_zero, List.getElem_cons_succ, List.setIfInBounds_toArray, List.set_cons_succ, List.set_cons_zero]
        refine wpAnyH_take (i := 7) (v := .int .i64 (N : Int)) rfl (by kernel_rfl) (by kernel_rfl) (by kernel_rfl) (fun _ _ _ h => h) (Or.inl ⟨by rfl, fun W hW => by have hcell := (hW.cell (p := ⟨g2, k, none⟩) HL2.out).trans HC2.out; clear hW; go_simp⟩) hHeld ?_
        simp only [Act.put, List.getElem_toArray, List.getElem_cons_zero, List.getElem_cons_succ, List.setIfInBounds_toArray, List.set_cons_succ, List.set_cons_zero]
        refine wpAnyH_take (i := 8) (v := .bool false) rfl (by kernel_rfl) (by kernel_rfl) (by kernel_rfl) (fun _ _ _ h => h) (Or.inl ⟨by rfl, fun W _ => by have hfact := HT9.out; go_simp; first | done | simp [hfact]⟩) hHeld ?_
        simp only [Act.put, List.getElem_toArray, List.getElem_cons_zero, List.getElem_cons_succ, List.setIfInBounds_toArray, List.set_cons_succ, List.set_cons_zero]
        have HD := hid (bel_drw wr 1)
        have HQ9 := hid (below_then HQ.out HD.out)
        obtain ⟨wq, HWX⟩ : ∃ x, Hid (wr.drewN 1 = x) := ⟨_, rfl⟩
        have HWYq := hid (show wr.drew = wq from HWX.out)
        rw [HWX.out] at HQ9
        rw [HWYq.out]
        clear hHeld HD
        refine wpAnyH_done (by kernel_rfl) ?_ _
        simp only [noPanic]
        go_wp2
        exact ⟨⟨k + 1, hlt, by simp, HQ9.out⟩, by simp [intOf]; omega⟩
    · obtain rfl : k = ZL.length := by omega
      as_aux_lemma =>
        go_wp2_with fail
        refine (awake8_any wr).mono ?_
        rintro e wz ⟨rfl, hbz⟩
        have HB9 := hid (below_then HQ9.out (below_then HQ.out hbz))
        clear hbz
        go_wp2
        go_ret
        exact ⟨rfl, HB9.out⟩
end Go.Proofs.YtiibhccbbpgehaaGreat
