/- ShaFull answers true. -/
import Derived.Test.YticmdmnjajjpbabDoorSAwake
import Derived.Test.YticmdmnjajjpbabDoorSSame
import Derived.Test.YticmdmnjajjpbabDoorSLoad2
import Derived.Test.YticmdmnjajjpbabDoorSLong
import Derived.Test.YticmdmnjajjpbabDoorSPreB
import Derived.Test.YticmdmnjajjpbabDoorSLawOf
namespace Go.Proofs.YticmdmnjajjpbabDoor
open Go.RowKit

theorem Lists.lt' {X : Nat → Prop} {w : World} {v : Value} {pss : List (List UInt8)} (h : Lists X w v pss) : Lists (· < w.heap.size) w v pss := by
  rcases h with h | ⟨g, o, c, hv, hlt, hX, hc⟩
  · exact Or.inl h
  · refine Or.inr ⟨g, o, c, hv, hlt, hlt, fun j hj => ?_⟩
    obtain ⟨u, h1, h2, h3⟩ := hc j hj
    refine ⟨u, h1, h2, fun k hp hk => ?_⟩
    obtain ⟨_, ⟨rfl, _⟩ | ⟨ad, cap, rfl, _, _, hlt2, _⟩⟩ := h2
    · cases hk
    · simp only [Value.ownBlock, Option.some.injEq] at hk
      rw [← hk]
      exact hlt2 hp
theorem full_built (N : Int) : Tryd.prog.built 27 [(2, .int .u64 N)] = some (scells (zeros 8) (.slice none 0 0) N).toArray := by kernel_rfl
theorem Sb.whole {w : World} {b : Nat} {H : List Int} {vb : Value} {N : Int} (h : Sb w b H vb N) : w.rangeAt b 0 (scells H vb N) := fun j v hv => by
  rw [Nat.zero_add, cell_of_row _ _ j _ _ _ h.blk]
  simpa using hv
theorem row_rng {w : World} {b : Nat} {cs : List Value} {T : TypeId} (h : w.heap[b]? = some (.cells cs.toArray T (0, 0))) : w.rangeAt b 0 cs := fun j v hv => by
  rw [Nat.zero_add, cell_of_row w b j _ _ _ h]
  simpa using hv

/-- a state, a digest and a hash, each in its block -/
structure Fu (s d b : Nat) (vb : Value) (buf : List UInt8) (N : Nat) (D : List Value) (H' : List Int) (buf' : List UInt8) (N' : Nat) (w : World) : Prop where
  sb : Sb w s (zeros 8) vb N
  dg : w.heap[d]? = some (.cells D.toArray 53 (0, 0))
  hs : Hst w b H' buf' N'
  src : Src w vb buf
theorem Fu.below {s d b : Nat} {vb : Value} {buf : List UInt8} {N : Nat} {D : List Value} {H' : List Int} {buf' : List UInt8} {N' : Nat} {w w' : World} (h : Fu s d b vb buf N D H' buf' N' w) (hb : Below w.heap.size w w') : Fu s d b vb buf N D H' buf' N' w' :=
  ⟨h.sb.below hb, (hb.block d (hp_lt h.dg)).trans h.dg, h.hs.below hb, h.src.below hb⟩
theorem below_drew (w : World) : Below w.heap.size w w.drew := ⟨rfl, rfl, rfl, Nat.le_refl _, fun _ _ => rfl⟩

set_option maxRecDepth 100000 in
set_option maxHeartbeats 4000000 in
theorem full_any (X : Nat → Prop) (w : World) (back : Nat) (ao : Option Addr) (n c : Nat) (pss : List (List UInt8)) (hT : Tabs w) (hbk : back ≤ 255) (hv : Lists X w (.slice ao n c) pss) (hn : pss.length ≤ 1048576) (hN : (fl pss).length ≤ 1048576) :
    Calls Tryd.prog 7 #[.int .u8 back, .slice ao n c] w fun e w' => e = .returned (.bool true) ∧ Below w.heap.size w w' := by
  have HT := hid hT
  have HV := hid hv.lt'
  obtain ⟨a1, c1, hv1⟩ := lists_shape hv
  obtain ⟨rfl, rfl, rfl⟩ : ao = a1 ∧ n = pss.length ∧ c = c1 := by injection hv1 with h1 h2 h3; exact ⟨h1, h2, h3⟩
  obtain ⟨N, HN⟩ : ∃ N, Hid (N = 2305843009213693951 - back) := ⟨_, rfl⟩
  have hNe : N + back = 2305843009213693951 := by rw [HN.out]; omega
  obtain ⟨K, HK⟩ : ∃ K, Hid (K = N % 64) := ⟨_, rfl⟩
  have hK64 : K < 64 := by rw [HK.out]; omega
  have hrem : ((N : Nat) : Int).tmod 64 = (K : Int) := by rw [HK.out]; rfl
  have HNN := hid hN
  have HN1 := hid hn
  obtain ⟨z, sz⟩ := zero_of_info (P := Tryd.prog) (t := 27) (v := .agg z10.toArray) (n := 10) (by kernel_rfl)
  have HZ := hid z
  have HSZ : Hid ((Tryd.prog.info? 27).map (·.size) = some (scells (zeros 8) (.slice none 0 0) N).length) := hid sz
  clear z hT hv hv1 hn hN
  go_enter Tryd.func7, Tryd.ntmps7
  go_upto_region 2 with (first
    | (refine bd_row (by rfl) 27 #[(2, .tmp 14)] (by rfl) _ (by simp [Act.eval]) _ (full_built _) ?_)
    | (refine al_row (by rfl) 27 (by rfl) _ HZ.out ?_; rw [show (2305843009213693951 - (back : Int)) = ((N : Nat) : Int) by omega]; refine st_new (by rfl) 27 (.tmp 5) (.tmp 15) (by rfl) (scells (zeros 8) (.slice none 0 0) N) (by rfl) (by rfl) _ _ HSZ.out (by rfl) (scells_one _ _ _ rfl) ?_))
  have HS0 := hid (⟨hp_new w _, rfl⟩ : Sb (w.alloc (.cells (scells (zeros 8) (.slice none 0 0) N).toArray 27)) w.heap.size (zeros 8) (.slice none 0 0) N)
  have HB0 := hid (below_walk w (.cells (scells (zeros 8) (.slice none 0 0) N).toArray 27))
  generalize w.alloc (.cells (scells (zeros 8) (.slice none 0 0) N).toArray 27) = w0 at HS0 HB0 ⊢
  have c9 := HS0.out.c9
  go_wp2_with (at_make; refine make_len rfl _ _ rfl _ _ _ _ K K rfl rfl ?c1 ?c2 ?c3 ?c4 ?_)
  case c1 => first | rfl | omega
  case c2 => first | rfl | omega
  case c3 => omega
  case c4 => omega
  intro w1 ho1 hb1
  have HBK1 := hid (OwnB.block ho1 (by simp))
  have HS1 := hid (HS0.out.below hb1)
  have HB1 := hid (HB0.out.trans (hb1.mono HB0.out.size))
  have HGE := hid (show w.heap.size < w0.heap.size from hp_lt HS0.out.blk)
  clear ho1 hb1 c9
  obtain ⟨g, HG⟩ : ∃ g, Hid (g = w0.heap.size) := ⟨_, rfl⟩
  rw [← HG.out] at HBK1 HGE ⊢
  clear HG HS0 HB0
  have c8 := HS1.out.c8
  have f8 := HS1.out.fz 8
  go_upto_region 3 with fail
  have HS2 := hid (HS1.out.set8 (.slice (some ⟨g, 0, none⟩) K K))
  have hgs := gb_set w1 ⟨w.heap.size, 8, none⟩ (.slice (some ⟨g, 0, none⟩) K K)
  have HB2 := hid (HB1.out.grown hgs HB1.out.size (by intro k hk; cases hk; exact Nat.le_refl _))
  have HBK2 := hid ((hp_set w1 g w.heap.size 8 (.slice (some ⟨g, 0, none⟩) K K) (by have := HGE.out; omega)).trans HBK1.out)
  clear hgs c8 f8 HS1 HB1 HBK1
  generalize w1.setCell ⟨w.heap.size, 8, none⟩ (.slice (some ⟨g, 0, none⟩) K K) = w2 at HS2 HB2 HBK2 ⊢
  obtain ⟨buf, HBF⟩ : ∃ buf : List UInt8, Hid (buf = List.replicate K 0) := ⟨_, rfl⟩
  rw [← HBF.out] at HBK2
  have HBL := hid (show buf.length = K by rw [HBF.out]; simp)
  have HSR2 := hid ((OwnB.made HBK2.out (by rw [HBL.out]; omega) (Nat.zero_le g) K HBL.out.symm).src (by rw [HBL.out]; omega))
  obtain ⟨vb, HVB⟩ : ∃ vb, Hid (vb = Value.slice (some ⟨g, 0, none⟩) K K) := ⟨_, rfl⟩
  rw [← HVB.out] at HS2 HSR2
  have HSZ2 : Hid ((Tryd.prog.info? 27).map (·.size) = some (scells (zeros 8) vb N).length) := hid sz
  clear sz HSZ
  refine wp_region_list ?_
  show wpList _ _ _ (_ :: _) _ _
  refine ld_row (by rfl) 27 (.tmp 5) (by rfl) w.heap.size (by rfl) _ 27 HS2.out.blk _ Tryd.underlying27 rfl HSZ2.out ?_
  go_wp2_with fail
  refine (load_ok w2 (zeros 8) vb buf N rfl (by omega) (by rw [HBL.out, HK.out]) HSR2.out (HT.out.below HB2.out)).mono ?_
  rintro e w3 ⟨rfl, hst, hb3⟩
  have HH3 := hid hst
  have HS3 := hid (HS2.out.below hb3)
  have HR3 := hid (HSR2.out.below hb3)
  have HB3 := hid (HB2.out.trans (hb3.mono HB2.out.size))
  have HBB := hid (show w.heap.size < w2.heap.size + 1 by have := HB2.out.size; omega)
  have HSB := hid (show w.heap.size ≠ w2.heap.size + 1 by have := HB2.out.size; omega)
  have HGB := hid (show g ≠ w2.heap.size + 1 by have := hp_lt HBK2.out; omega)
  clear hst hb3
  obtain ⟨b, HBE⟩ : ∃ b, Hid (b = w2.heap.size + 1) := ⟨_, rfl⟩
  rw [← HBE.out] at HH3 HBB HSB HGB ⊢
  clear HBE
  go_wp2_with fail
  refine (sum_any w3 b (zeros 8) buf N (HT.out.below HB3.out) HH3.out.hg (by omega)).mono ?_
  rintro e w4 ⟨rfl, hb4⟩
  have HH4 := hid (HH3.out.below hb4)
  have HS4 := hid (HS3.out.below hb4)
  have HR4 := hid (HR3.out.below hb4)
  have HB4 := hid (HB3.out.trans (hb4.mono HB3.out.size))
  clear hb4 HH3 HS3 HR3 HB3 HS2 HB2 HBK2 HSR2
  obtain ⟨z41, s41⟩ := zero_of_info (P := Tryd.prog) (t := 53) (v := .agg (u8V (zeros 32)).toArray) (n := 32) (by kernel_rfl)
  have HZD := hid z41
  have HSD : Hid ((Tryd.prog.info? 53).map (·.size) = some (u8V (sumP (zeros 8) buf N)).length) := by rw [u8V_length, sumP_length]; exact hid s41
  have HDL := hid (show (u8V (sumP (zeros 8) buf N)).length = (u8V (zeros 32)).length by rw [u8V_length, u8V_length, sumP_length, zeros_length])
  have HDO := hid (u8V_one (sumP (zeros 8) buf N))
  have eqd := of_eq (sumP (zeros 8) buf N) (sumP_length _ _ _)
  obtain ⟨D, HD⟩ : ∃ D, Hid (D = u8V (sumP (zeros 8) buf N)) := ⟨_, rfl⟩
  rw [← HD.out] at HSD HDL HDO eqd ⊢
  clear z41 s41
  rename_i Kx hKx
  refine hKx _ _ ?_
  clear hKx
  refine al_row (by rfl) 53 (by rfl) _ HZD.out ?_
  refine st_new (by rfl) 53 (.tmp 8) (.tmp 33) (by rfl) D (by rfl) (by rfl) _ _ HSD.out (by rw [List.size_toArray, HDL.out]) HDO.out ?_
  have hbw := below_walk w4 (.cells D.toArray 53)
  have HF5 := hid (⟨HS4.out.below hbw, hp_new w4 (.cells D.toArray 53), HH4.out.below hbw, HR4.out.below hbw⟩ : Fu w.heap.size w4.heap.size b vb buf N D (zeros 8) buf N (w4.alloc (.cells D.toArray 53)))
  have HB5 := hid (HB4.out.trans (hbw.mono HB4.out.size))
  have HDB := hid (show w4.heap.size ≠ b by have := HH4.out.lt; omega)
  clear hbw HS4 HH4 HR4 HB4
  generalize w4.alloc (.cells D.toArray 53) = w5 at HF5 HB5 ⊢
  obtain ⟨d, HDE⟩ : ∃ d, Hid (d = w4.heap.size) := ⟨_, rfl⟩
  rw [← HDE.out] at HF5 HDB ⊢
  clear HDE
  have HV5 := hid (HV.out.below HB5.out)
  go_wp2
  go_loop [9, 10] (fun s i => ∃ k S : Nat, k ≤ pss.length ∧ i = .int .i64 k ∧ s = .int .i64 S ∧ Hid (S = (fl (pss.take k)).length)) (fun _ i => pss.length - (intOf i).toNat)
  case atStart => exact ⟨0, 0, by omega, rfl, rfl, rfl⟩
  case round =>
    obtain ⟨k, S, hk, rfl, rfl, HSS⟩ := hrel
    have hpl : pss.length ≤ 1048576 := HN1.out
    have hS : S ≤ 1048576 := by have h1 := HSS.out; have h2 := fl_le pss k; have h3 := HNN.out; omega
    by_cases hlt : k < pss.length
    · obtain ⟨ga, oa, rfl, _, ab, cu, hcell, _⟩ := lists_at HV5.out k hlt
      have q1 : (k : Int) < (pss.length : Int) := by omega
      have hl1 := fl_length pss k hlt
      have hl2 := fl_le pss (k + 1)
      obtain ⟨L, HL⟩ : ∃ L, Hid (L = (pss.getD k []).length) := ⟨_, rfl⟩
      rw [← HL.out] at hcell hl1
      have hLb : L ≤ 1048576 := by have h3 := HNN.out; omega
      have HNX := hid (show S + L = (fl (pss.take (k + 1))).length by rw [hl1, HSS.out])
      clear hl1 hl2
      go_wp2
      exact ⟨⟨k + 1, S + L, by omega, by simp, by simp, HNX⟩, by simp [intOf]; omega⟩
    · obtain rfl : k = pss.length := by omega
      have q1 : ¬ (pss.length : Int) < (pss.length : Int) := by omega
      have HSF := hid (show S = (fl pss).length by rw [HSS.out, fl_all])
      by_cases hfit : back < S
      · have q2 : (back : Int) < (S : Int) := by omega
        go_wp2_with (go_at_call 19; refine (write_long _ w5 b (zeros 8) buf N _ pss HF5.out.hs.hg HV5.out (by have := HN1.out; omega) (by omega) (by have := HSF.out; omega)).mono ?_; rintro e w' ⟨rfl, hw⟩; subst w')
        have HF6 := hid (HF5.out.below (below_drew w5))
        have HQ6 := hid (show Below w.heap.size w w5.drew from ⟨HB5.out.os, HB5.out.tape, HB5.out.output, HB5.out.size, HB5.out.block⟩)
        refine wp_noPanic (wp_region_held_drew (S := Fu w.heap.size d b vb buf N D (zeros 8) buf N) (by kernel_rfl) HF6.out ?_)
        intro hHeld
        refine wpAnyH_take (i := 0) (v := (.int .i64 21)) rfl (by kernel_rfl) (by kernel_rfl) (by kernel_rfl) (fun _ _ _ h => h) (Or.inl ⟨by rfl, fun W _ => by go_simp⟩) hHeld ?_
        simp only [Act.put, List.getElem_toArray, List.getElem_cons_zero, List.setIfInBounds_toArray, List.set_cons_succ, List.set_cons_zero]
        refine wpAnyH_take (i := 1) (v := (.bool true)) rfl (by kernel_rfl) (by kernel_rfl) (by kernel_rfl) (fun _ _ _ h => h) (Or.inl ⟨by rfl, fun W _ => by go_simp⟩) hHeld ?_
        simp only [Act.put, List.getElem_toArray, List.getElem_cons_zero, List.getElem_cons_succ, List.setIfInBounds_toArray, List.set_cons_succ, List.set_cons_zero]
        refine wpAnyH_take (i := 2) (v := (.bool true)) rfl (by kernel_rfl) (by kernel_rfl) (by kernel_rfl) (fun _ _ _ h => h) (Or.inl ⟨by rfl, fun W _ => by go_simp⟩) hHeld ?_
        simp only [Act.put, List.getElem_toArray, List.getElem_cons_zero, List.getElem_cons_succ, List.setIfInBounds_toArray, List.set_cons_succ, List.set_cons_zero]
        refine wpAnyH_take (i := 3) (v := (.pointer (some ⟨b, 0, none⟩))) rfl (by kernel_rfl) (by kernel_rfl) (by kernel_rfl) (fun _ _ _ h => h) (Or.inl ⟨by rfl, fun W _ => by go_simp⟩) hHeld ?_
        simp only [Act.put, List.getElem_toArray, List.getElem_cons_zero, List.getElem_cons_succ, List.setIfInBounds_toArray, List.set_cons_succ, List.set_cons_zero]
        refine wpAnyH_take (i := 5) (v := (.pointer (some ⟨w.heap.size, 9, none⟩))) rfl (by kernel_rfl) (by kernel_rfl) (by kernel_rfl) (fun _ _ _ h => h) (Or.inl ⟨by rfl, fun W _ => by go_simp⟩) hHeld ?_
        simp only [Act.put, List.getElem_toArray, List.getElem_cons_zero, List.getElem_cons_succ, List.setIfInBounds_toArray, List.set_cons_succ, List.set_cons_zero]
        refine wpAnyH_take (i := 6) (v := (.int .u64 N)) rfl (by kernel_rfl) (by kernel_rfl) (by kernel_rfl) (fun _ _ _ h => h) (Or.inl ⟨by rfl, fun W hW => by have hcell := hW.sb.c9; clear hW; go_simp⟩) hHeld ?_
        simp only [Act.put, List.getElem_toArray, List.getElem_cons_zero, List.getElem_cons_succ, List.setIfInBounds_toArray, List.set_cons_succ, List.set_cons_zero]
        refine wpAnyH_ready (rs := [4]) (by kernel_rfl) (by simp) ?_
        refine AllReadyH.cons rfl (fun K hK => ?_) AllReadyH.nil
        go_simp
        refine (len_any _ b _ _ _ _ HF6.out.hs.hb).mono ?_
        rintro e v0 ⟨rfl, h0⟩
        subst h0
        go_wp2_with fail
        refine hK.out _ _ HF6.out (fun hHeld => ?_)
        clear hK K
        refine wpAnyH_take (i := 7) (v := (.bool true)) rfl (by kernel_rfl) (by kernel_rfl) (by kernel_rfl) (fun _ _ _ h => h) (Or.inl ⟨by rfl, fun W _ => by go_simp⟩) hHeld ?_
        simp only [Act.put, List.getElem_toArray, List.getElem_cons_zero, List.getElem_cons_succ, List.setIfInBounds_toArray, List.set_cons_succ, List.set_cons_zero]
        refine wpAnyH_take (i := 8) (v := (.bool true)) rfl (by kernel_rfl) (by kernel_rfl) (by kernel_rfl) (fun _ _ _ h => h) (Or.inl ⟨by rfl, fun W _ => by go_simp⟩) hHeld ?_
        simp only [Act.put, List.getElem_toArray, List.getElem_cons_zero, List.getElem_cons_succ, List.setIfInBounds_toArray, List.set_cons_succ, List.set_cons_zero]
        refine wpAnyH_take (i := 9) (v := (.bool true)) rfl (by kernel_rfl) (by kernel_rfl) (by kernel_rfl) (fun _ _ _ h => h) (Or.inl ⟨by rfl, fun W _ => by go_simp⟩) hHeld ?_
        simp only [Act.put, List.getElem_toArray, List.getElem_cons_zero, List.getElem_cons_succ, List.setIfInBounds_toArray, List.set_cons_succ, List.set_cons_zero]
        refine wpAnyH_take (i := 10) (v := (.pointer (some ⟨b, 0, none⟩))) rfl (by kernel_rfl) (by kernel_rfl) (by kernel_rfl) (fun _ _ _ h => h) (Or.inl ⟨by rfl, fun W _ => by go_simp⟩) hHeld ?_
        simp only [Act.put, List.getElem_toArray, List.getElem_cons_zero, List.getElem_cons_succ, List.setIfInBounds_toArray, List.set_cons_succ, List.set_cons_zero]
        refine wpAnyH_take (i := 12) (v := (.agg D.toArray)) rfl (by kernel_rfl) (by kernel_rfl) (by kernel_rfl) (fun _ _ _ h => h) (yieldsIf_load_mid (by rfl) 53 (.tmp 8) rfl d 0 rfl D _ (fun W hW => row_rng hW.dg) Tryd.underlying53 rfl HSD.out) hHeld ?_
        simp only [Act.put, List.getElem_toArray, List.getElem_cons_zero, List.getElem_cons_succ, List.setIfInBounds_toArray, List.set_cons_succ, List.set_cons_zero]
        refine wpAnyH_ready (rs := [11]) (by kernel_rfl) (by simp) ?_
        refine AllReadyH.cons rfl (fun K hK => ?_) AllReadyH.nil
        go_simp
        refine (sum_any _ b (zeros 8) buf N (HT.out.below HQ6.out) HF6.out.hs.hg (by omega)).mono ?_
        rintro e v1 ⟨rfl, hb⟩
        rw [← HD.out]
        have HF7 := hid (HF6.out.below hb)
        have HQ7 := hid (HQ6.out.trans (hb.mono HQ6.out.size))
        clear hb
        go_wp2_with fail
        refine hK.out _ _ HF7.out (fun hHeld => ?_)
        clear hK K
        refine wpAnyH_take (i := 13) (v := (.bool true)) rfl (by kernel_rfl) (by kernel_rfl) (by kernel_rfl) (fun _ _ _ h => h) (Or.inl ⟨by rfl, fun W _ => by have hfact := eqd; go_simp; first | done | simp [hfact]⟩) hHeld ?_
        simp only [Act.put, List.getElem_toArray, List.getElem_cons_zero, List.getElem_cons_succ, List.setIfInBounds_toArray, List.set_cons_succ, List.set_cons_zero]
        refine wpAnyH_take (i := 14) (v := (.bool true)) rfl (by kernel_rfl) (by kernel_rfl) (by kernel_rfl) (fun _ _ _ h => h) (Or.inl ⟨by rfl, fun W _ => by go_simp⟩) hHeld ?_
        simp only [Act.put, List.getElem_toArray, List.getElem_cons_zero, List.getElem_cons_succ, List.setIfInBounds_toArray, List.set_cons_succ, List.set_cons_zero]
        refine wpAnyH_take (i := 15) (v := (.bool true)) rfl (by kernel_rfl) (by kernel_rfl) (by kernel_rfl) (fun _ _ _ h => h) (Or.inl ⟨by rfl, fun W _ => by go_simp⟩) hHeld ?_
        simp only [Act.put, List.getElem_toArray, List.getElem_cons_zero, List.getElem_cons_succ, List.setIfInBounds_toArray, List.set_cons_succ, List.set_cons_zero]
        refine wpAnyH_take (i := 16) (v := (.pointer (some ⟨b, 0, none⟩))) rfl (by kernel_rfl) (by kernel_rfl) (by kernel_rfl) (fun _ _ _ h => h) (Or.inl ⟨by rfl, fun W _ => by go_simp⟩) hHeld ?_
        simp only [Act.put, List.getElem_toArray, List.getElem_cons_zero, List.getElem_cons_succ, List.setIfInBounds_toArray, List.set_cons_succ, List.set_cons_zero]
        refine wpAnyH_take (i := 18) (v := (.agg (scells (zeros 8) vb N).toArray)) rfl (by kernel_rfl) (by kernel_rfl) (by kernel_rfl) (fun _ _ _ h => h) (yieldsIf_load_mid (by rfl) 27 (.tmp 5) rfl w.heap.size 0 rfl (scells (zeros 8) vb N) _ (fun W hW => Sb.whole hW.sb) Tryd.underlying27 rfl HSZ2.out) hHeld ?_
        simp only [Act.put, List.getElem_toArray, List.getElem_cons_zero, List.getElem_cons_succ, List.setIfInBounds_toArray, List.set_cons_succ, List.set_cons_zero]
        refine wpAnyH_ready (rs := [17]) (by kernel_rfl) (by simp) ?_
        refine AllReadyH.cons rfl (fun K hK => ?_) AllReadyH.nil
        go_simp
        refine (state_any _ b (zeros 8) buf N (HT.out.below HQ7.out) HF7.out.hs.hg).mono ?_
        rintro e v2 ⟨vs, rfl, hos, hb⟩
        have HF8 := hid (HF7.out.below hb)
        have HQ8 := hid (HQ7.out.trans (hb.mono HQ7.out.size))
        have HO8 := hid (hos.src (by rw [HBL.out]; omega))
        clear hb hos
        go_wp2_with fail
        refine hK.out _ _ HF8.out (fun hHeld => ?_)
        clear hK K
        refine wpAnyH_ready (rs := [19]) (by kernel_rfl) (by simp) ?_
        refine AllReadyH.cons rfl (fun K hK => ?_) AllReadyH.nil
        go_simp
        refine (same_state _ (zeros 8) N vs vb buf rfl HO8.out HF8.out.src).mono ?_
        rintro e v3 ⟨rfl, hb⟩
        have HF9 := hid (HF8.out.below hb)
        have HQ9 := hid (HQ8.out.trans (hb.mono HQ8.out.size))
        clear hb
        go_wp2_with fail
        refine hK.out _ _ HF9.out (fun hHeld => ?_)
        clear hK K
        refine wpAnyH_take (i := 20) (v := (.bool true)) rfl (by kernel_rfl) (by kernel_rfl) (by kernel_rfl) (fun _ _ _ h => h) (Or.inl ⟨by rfl, fun W _ => by go_simp⟩) hHeld ?_
        simp only [Act.put, List.getElem_toArray, List.getElem_cons_zero, List.getElem_cons_succ, List.setIfInBounds_toArray, List.set_cons_succ, List.set_cons_zero]
        refine wpAnyH_take (i := 21) (v := (.bool true)) rfl (by kernel_rfl) (by kernel_rfl) (by kernel_rfl) (fun _ _ _ h => h) (Or.inl ⟨by rfl, fun W _ => by go_simp⟩) hHeld ?_
        simp only [Act.put, List.getElem_toArray, List.getElem_cons_zero, List.getElem_cons_succ, List.setIfInBounds_toArray, List.set_cons_succ, List.set_cons_zero]
        refine wpAnyH_ready (rs := [22]) (by kernel_rfl) (by simp) ?_
        refine AllReadyH.cons rfl (fun K hK => ?_) AllReadyH.nil
        go_simp
        refine (awake_any _ (HT.out.below HQ9.out)).mono ?_
        rintro e v4 ⟨rfl, hb⟩
        have HF10 := hid (HF9.out.below hb)
        have HQ10 := hid (HQ9.out.trans (hb.mono HQ9.out.size))
        clear hb
        go_wp2_with fail
        refine hK.out _ _ HF10.out (fun hHeld => ?_)
        clear hK K
        refine wpAnyH_take (i := 23) (v := (.bool true)) rfl (by kernel_rfl) (by kernel_rfl) (by kernel_rfl) (fun _ _ _ h => h) (Or.inl ⟨by rfl, fun W _ => by go_simp⟩) hHeld ?_
        simp only [Act.put, List.getElem_toArray, List.getElem_cons_zero, List.getElem_cons_succ, List.setIfInBounds_toArray, List.set_cons_succ, List.set_cons_zero]
        refine wpAnyH_take (i := 24) (v := (.bool true)) rfl (by kernel_rfl) (by kernel_rfl) (by kernel_rfl) (fun _ _ _ h => h) (Or.inl ⟨by rfl, fun W _ => by go_simp⟩) hHeld ?_
        simp only [Act.put, List.getElem_toArray, List.getElem_cons_zero, List.getElem_cons_succ, List.setIfInBounds_toArray, List.set_cons_succ, List.set_cons_zero]
        refine wpAnyH_done (by kernel_rfl) ?_ _
        simp only [noPanic]
        clear hHeld
        go_wp2_with fail
        go_ret
        exact ⟨rfl, HQ10.out⟩
      · have q2 : ¬ (back : Int) < (S : Int) := by omega
        obtain ⟨M, HM⟩ : ∃ M, Hid (M = N + S) := ⟨_, rfl⟩
        have hwr : IntKind.u64.wrap ((N : Int) + (S : Int)) = (M : Int) := by rw [IntKind.wrap_u64, HM.out]; omega
        have hws : IntKind.u64.wrap (S : Int) = (S : Int) := by rw [IntKind.wrap_u64]; omega
        go_wp2_with fail
        refine (write_ok w5 b (zeros 8) buf N _ pss (HT.out.below HB5.out) HF5.out.hs.hg (HV5.out.imp (fun k hk => by have := HBB.out; omega)) (by have := HN1.out; omega) (by have := HSF.out; omega)).mono ?_
        rintro e w6 ⟨rfl, hst, _, hg⟩
        rw [← HSF.out, ← HM.out] at hst
        have HF6 := hid (⟨HF5.out.sb.grown hg (by simpa using Ne.symm HSB.out), (hg.block d (hp_lt HF5.out.dg) (by simpa using HDB.out)).trans HF5.out.dg, hst, HF5.out.src.grown2 hg (fun _ => by rw [HVB.out]; simpa [Value.ownBlock] using HGB.out)⟩ : Fu w.heap.size d b vb buf N D _ _ M w6)
        have HB6 := hid (HB5.out.grown hg HB5.out.size (by intro k hk; cases hk; exact Nat.le_of_lt HBB.out))
        clear hst hg
        obtain ⟨H2, HH2⟩ : ∃ H2, Hid (H2 = (absorb (zeros 8, buf) (fl pss)).1) := ⟨_, rfl⟩
        obtain ⟨B2, HB2'⟩ : ∃ B2, Hid (B2 = (absorb (zeros 8, buf) (fl pss)).2) := ⟨_, rfl⟩
        rw [← HH2.out, ← HB2'.out] at HF6
        go_upto_region 15 with fail
        have HF7 := hid (HF6.out.below (below_drew w6))
        have HQ7 := hid (show Below w.heap.size w w6.drew from ⟨HB6.out.os, HB6.out.tape, HB6.out.output, HB6.out.size, HB6.out.block⟩)
        refine wp_noPanic (wp_region_held_drew (S := Fu w.heap.size d b vb buf N D H2 B2 M) (by kernel_rfl) HF7.out ?_)
        intro hHeld
        refine wpAnyH_take (i := 0) (v := (.int .i64 0)) rfl (by kernel_rfl) (by kernel_rfl) (by kernel_rfl) (fun _ _ _ h => h) (Or.inl ⟨by rfl, fun W _ => by go_simp⟩) hHeld ?_
        simp only [Act.put, List.getElem_toArray, List.getElem_cons_zero, List.setIfInBounds_toArray, List.set_cons_succ, List.set_cons_zero]
        refine wpAnyH_take (i := 1) (v := (.bool true)) rfl (by kernel_rfl) (by kernel_rfl) (by kernel_rfl) (fun _ _ _ h => h) (Or.inl ⟨by rfl, fun W _ => by go_simp⟩) hHeld ?_
        simp only [Act.put, List.getElem_toArray, List.getElem_cons_zero, List.getElem_cons_succ, List.setIfInBounds_toArray, List.set_cons_succ, List.set_cons_zero]
        refine wpAnyH_take (i := 2) (v := (.bool true)) rfl (by kernel_rfl) (by kernel_rfl) (by kernel_rfl) (fun _ _ _ h => h) (Or.inl ⟨by rfl, fun W _ => by go_simp⟩) hHeld ?_
        simp only [Act.put, List.getElem_toArray, List.getElem_cons_zero, List.getElem_cons_succ, List.setIfInBounds_toArray, List.set_cons_succ, List.set_cons_zero]
        refine wpAnyH_take (i := 3) (v := (.pointer (some ⟨b, 0, none⟩))) rfl (by kernel_rfl) (by kernel_rfl) (by kernel_rfl) (fun _ _ _ h => h) (Or.inl ⟨by rfl, fun W _ => by go_simp⟩) hHeld ?_
        simp only [Act.put, List.getElem_toArray, List.getElem_cons_zero, List.getElem_cons_succ, List.setIfInBounds_toArray, List.set_cons_succ, List.set_cons_zero]
        refine wpAnyH_take (i := 5) (v := (.pointer (some ⟨w.heap.size, 9, none⟩))) rfl (by kernel_rfl) (by kernel_rfl) (by kernel_rfl) (fun _ _ _ h => h) (Or.inl ⟨by rfl, fun W _ => by go_simp⟩) hHeld ?_
        simp only [Act.put, List.getElem_toArray, List.getElem_cons_zero, List.getElem_cons_succ, List.setIfInBounds_toArray, List.set_cons_succ, List.set_cons_zero]
        refine wpAnyH_take (i := 6) (v := (.int .u64 N)) rfl (by kernel_rfl) (by kernel_rfl) (by kernel_rfl) (fun _ _ _ h => h) (Or.inl ⟨by rfl, fun W hW => by have hcell := hW.sb.c9; clear hW; go_simp⟩) hHeld ?_
        simp only [Act.put, List.getElem_toArray, List.getElem_cons_zero, List.getElem_cons_succ, List.setIfInBounds_toArray, List.set_cons_succ, List.set_cons_zero]
        refine wpAnyH_take (i := 7) (v := (.int .i64 S)) rfl (by kernel_rfl) (by kernel_rfl) (by kernel_rfl) (fun _ _ _ h => h) (Or.inl ⟨by rfl, fun W _ => by go_simp⟩) hHeld ?_
        simp only [Act.put, List.getElem_toArray, List.getElem_cons_zero, List.getElem_cons_succ, List.setIfInBounds_toArray, List.set_cons_succ, List.set_cons_zero]
        refine wpAnyH_take (i := 8) (v := (.int .u64 S)) rfl (by kernel_rfl) (by kernel_rfl) (by kernel_rfl) (fun _ _ _ h => h) (Or.inl ⟨by rfl, fun W _ => by go_simp⟩) hHeld ?_
        simp only [Act.put, List.getElem_toArray, List.getElem_cons_zero, List.getElem_cons_succ, List.setIfInBounds_toArray, List.set_cons_succ, List.set_cons_zero]
        refine wpAnyH_take (i := 9) (v := (.int .u64 M)) rfl (by kernel_rfl) (by kernel_rfl) (by kernel_rfl) (fun _ _ _ h => h) (Or.inl ⟨by rfl, fun W _ => by go_simp⟩) hHeld ?_
        simp only [Act.put, List.getElem_toArray, List.getElem_cons_zero, List.getElem_cons_succ, List.setIfInBounds_toArray, List.set_cons_succ, List.set_cons_zero]
        refine wpAnyH_ready (rs := [4]) (by kernel_rfl) (by simp) ?_
        refine AllReadyH.cons rfl (fun K hK => ?_) AllReadyH.nil
        go_simp
        refine (len_any _ b _ _ _ _ HF7.out.hs.hb).mono ?_
        rintro e v0 ⟨rfl, h0⟩
        subst h0
        go_wp2_with fail
        refine hK.out _ _ HF7.out (fun hHeld => ?_)
        clear hK K
        refine wpAnyH_take (i := 10) (v := (.bool true)) rfl (by kernel_rfl) (by kernel_rfl) (by kernel_rfl) (fun _ _ _ h => h) (Or.inl ⟨by rfl, fun W _ => by go_simp⟩) hHeld ?_
        simp only [Act.put, List.getElem_toArray, List.getElem_cons_zero, List.getElem_cons_succ, List.setIfInBounds_toArray, List.set_cons_succ, List.set_cons_zero]
        refine wpAnyH_take (i := 11) (v := (.bool true)) rfl (by kernel_rfl) (by kernel_rfl) (by kernel_rfl) (fun _ _ _ h => h) (Or.inl ⟨by rfl, fun W _ => by go_simp⟩) hHeld ?_
        simp only [Act.put, List.getElem_toArray, List.getElem_cons_zero, List.getElem_cons_succ, List.setIfInBounds_toArray, List.set_cons_succ, List.set_cons_zero]
        refine wpAnyH_take (i := 12) (v := (.bool true)) rfl (by kernel_rfl) (by kernel_rfl) (by kernel_rfl) (fun _ _ _ h => h) (Or.inl ⟨by rfl, fun W _ => by go_simp⟩) hHeld ?_
        simp only [Act.put, List.getElem_toArray, List.getElem_cons_zero, List.getElem_cons_succ, List.setIfInBounds_toArray, List.set_cons_succ, List.set_cons_zero]
        refine wpAnyH_ready (rs := [13]) (by kernel_rfl) (by simp) ?_
        refine AllReadyH.cons rfl (fun K hK => ?_) AllReadyH.nil
        go_simp
        refine (awake_any _ (HT.out.below HQ7.out)).mono ?_
        rintro e v1 ⟨rfl, hb⟩
        have HF8 := hid (HF7.out.below hb)
        have HQ8 := hid (HQ7.out.trans (hb.mono HQ7.out.size))
        clear hb
        go_wp2_with fail
        refine hK.out _ _ HF8.out (fun hHeld => ?_)
        clear hK K
        refine wpAnyH_take (i := 14) (v := (.bool true)) rfl (by kernel_rfl) (by kernel_rfl) (by kernel_rfl) (fun _ _ _ h => h) (Or.inl ⟨by rfl, fun W _ => by go_simp⟩) hHeld ?_
        simp only [Act.put, List.getElem_toArray, List.getElem_cons_zero, List.getElem_cons_succ, List.setIfInBounds_toArray, List.set_cons_succ, List.set_cons_zero]
        refine wpAnyH_take (i := 15) (v := (.bool true)) rfl (by kernel_rfl) (by kernel_rfl) (by kernel_rfl) (fun _ _ _ h => h) (Or.inl ⟨by rfl, fun W _ => by go_simp⟩) hHeld ?_
        simp only [Act.put, List.getElem_toArray, List.getElem_cons_zero, List.getElem_cons_succ, List.setIfInBounds_toArray, List.set_cons_succ, List.set_cons_zero]
        refine wpAnyH_done (by kernel_rfl) ?_ _
        simp only [noPanic]
        clear hHeld
        go_wp2_with fail
        go_ret
        exact ⟨rfl, HQ8.out⟩

end Go.Proofs.YticmdmnjajjpbabDoor
