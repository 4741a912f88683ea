/- The document's Compress. -/
import Derived.Test.YticmdmnjajjpbabDoorSComp
import Derived.StillTailTactics
namespace Go.Proofs.YticmdmnjajjpbabDoor
open Go.RowKit

/-- the document's table -/
def TabR (w : World) : Prop := w.rangeAt 2 0 (u32V Ks)
theorem TabR.below {w w' : World} (h : TabR w) (hb : Below w.heap.size w w') : TabR w' := range_below h hb

/-- four new blocks -/
theorem hp_four (w : World) (o p q r : Obj) : ((((w.alloc o).alloc p).alloc q).alloc r).heap[w.heap.size]? = some o ∧ ((((w.alloc o).alloc p).alloc q).alloc r).heap[w.heap.size + 1]? = some p ∧ ((((w.alloc o).alloc p).alloc q).alloc r).heap[w.heap.size + 1 + 1]? = some q ∧ ((((w.alloc o).alloc p).alloc q).alloc r).heap[w.heap.size + 1 + 1 + 1]? = some r := by
  obtain ⟨h1, h2, h3⟩ := hp_three w o p q
  refine ⟨?_, ?_, ?_, ?_⟩
  · rw [hp_old _ _ _ (hp_lt h1), h1]
  · rw [hp_old _ _ _ (hp_lt h2), h2]
  · rw [hp_old _ _ _ (hp_lt h3), h3]
  · have := hp_new (((w.alloc o).alloc p).alloc q) r
    rwa [hp_size, hp_size, hp_size] at this

/-- while the document's Compress goes on -/
structure RSp (w : World) (H B : List Int) (wr : World) (ws : List Int) : Prop where
  b0 : wr.heap[w.heap.size]? = some (.cells (u32V H).toArray 23 (0, 0))
  b1 : wr.heap[w.heap.size + 1]? = some (.cells (u8V B).toArray 72 (0, 0))
  b2 : wr.heap[w.heap.size + 1 + 1]? = some (.cells (u32V (zeros 8)).toArray 23 (0, 0))
  b3 : wr.heap[w.heap.size + 1 + 1 + 1]? = some (.cells (u32V ws).toArray 95 (0, 0))
  tab : TabR wr
  bel : Below w.heap.size w wr
theorem RSp.step {w : World} {H B : List Int} {wr : World} {ws : List Int} (h : RSp w H B wr ws) (hT : TabR w) (t : Nat) (x : Int) :
    RSp w H B (wr.setCell ⟨w.heap.size + 1 + 1 + 1, t, none⟩ (.int .u32 x)).drew (ws.set t x) := by
  have hb : Below w.heap.size w (wr.setCell ⟨w.heap.size + 1 + 1 + 1, t, none⟩ (.int .u32 x)).drew := below_drewN (h.bel.grown (gb_set wr _ _) h.bel.size (by intro k hk; cases hk; simp only []; omega)) 1
  refine ⟨?_, ?_, ?_, ?_, hT.below hb, hb⟩
  · exact (hp_set wr _ _ _ _ (by omega)).trans h.b0
  · exact (hp_set wr _ _ _ _ (by omega)).trans h.b1
  · exact (hp_set wr _ _ _ _ (by omega)).trans h.b2
  · refine (blk_set (w := wr) (i := t) h.b3 (.int .u32 x)).trans ?_
    simp [← u32V_set]
theorem RSp.drewN {w : World} {H B : List Int} {wr : World} {ws : List Int} (h : RSp w H B wr ws) (n : Nat) : RSp w H B (wr.drewN n) ws :=
  ⟨h.b0, h.b1, h.b2, h.b3, h.tab, below_drewN h.bel n⟩

theorem store8' {P : Program} {w : World} {g : Nat} {t : TypeId} {old : Array Value} (hg : w.heap[g]? = some (.cells old t (0, 0))) (ho : old.size = 8) (x0 x1 x2 x3 x4 x5 x6 x7 : Int) :
    Sem.run P (storeCells ⟨g, 0, none⟩ (((((((((u32V (zeros 8)).set 0 (.int .u32 x0)).set 1 (.int .u32 x1)).set 2 (.int .u32 x2)).set 3 (.int .u32 x3)).set 4 (.int .u32 x4)).set 5 (.int .u32 x5)).set 6 (.int .u32 x6)).set 7 (.int .u32 x7))) w
      = .ok () (w.setRow g (u32V [x0, x1, x2, x3, x4, x5, x6, x7]).toArray) := by
  have := run_storeCells_from (P := P) g t (u32V [x0, x1, x2, x3, x4, x5, x6, x7]) 0 _ w hg (by simp [u32V_length, ho]) (u32V_one _)
  simpa [u32V, zeros] using this

def S8.l (s : S8) : List Int := [s.a, s.b, s.c, s.d, s.e, s.f, s.g, s.h]
/-- .. with the eight words that turn -/
structure RV (w : World) (H B : List Int) (wr : World) (b4 : Nat) (V : List Int) : Prop where
  sp : RSp w H B wr (sprd B)
  vb : wr.heap[b4]? = some (.cells (u32V V).toArray 23 (0, 0))
  lo : w.heap.size + 1 + 1 + 1 < b4
theorem RV.mk' {w : World} {H B : List Int} {wr : World} (h : RSp w H B wr (sprd B)) : RV w H B (wr.alloc (.cells (u32V H).toArray 23)) wr.heap.size H := by
  have hb : Below wr.heap.size wr (wr.alloc (.cells (u32V H).toArray 23)) := below_walk wr _
  exact ⟨⟨(hb.block _ (hp_lt h.b0)).trans h.b0, (hb.block _ (hp_lt h.b1)).trans h.b1, (hb.block _ (hp_lt h.b2)).trans h.b2, (hb.block _ (hp_lt h.b3)).trans h.b3, h.tab.below hb, h.bel.alloc h.bel.size _⟩, hp_new _ _, hp_lt h.b3⟩
theorem RV.drewN {w : World} {H B : List Int} {wr : World} {b4 : Nat} {V : List Int} (h : RV w H B wr b4 V) (n : Nat) : RV w H B (wr.drewN n) b4 V := ⟨h.sp.drewN n, h.vb, h.lo⟩
/-- other words, whatever was written over -/
theorem RV.other {w : World} {H B : List Int} {wr w' : World} {b4 : Nat} {V V' : List Int} (h : RV w H B wr b4 V) (hT : TabR w) (hg : wr.grownBy w' (some b4)) (hb : w'.heap[b4]? = some (.cells (u32V V').toArray 23 (0, 0))) : RV w H B w' b4 V' := by
  have lo := h.lo
  have hbel : Below w.heap.size w w' := h.sp.bel.grown hg h.sp.bel.size (by intro k hk; cases hk; omega)
  refine ⟨⟨?_, ?_, ?_, ?_, hT.below hbel, hbel⟩, hb, lo⟩
  · exact (hg.block _ (hp_lt h.sp.b0) (by simp; omega)).trans h.sp.b0
  · exact (hg.block _ (hp_lt h.sp.b1) (by simp; omega)).trans h.sp.b1
  · exact (hg.block _ (hp_lt h.sp.b2) (by simp; omega)).trans h.sp.b2
  · exact (hg.block _ (hp_lt h.sp.b3) (by simp; omega)).trans h.sp.b3

def vadd (H V : List Int) (n : Nat) : List Int := upN (fun i vs => vs.set i (add32 (vs.getD i 0) (H.getD i 0))) n V
theorem vadd_length (H V : List Int) : ∀ n, (vadd H V n).length = V.length
  | 0 => rfl
  | n + 1 => (List.length_set ..).trans (vadd_length H V n)
theorem add32_comm (a b : Int) : add32 a b = add32 b a := by unfold add32; rw [Int.add_comm]
theorem vadd_comp {h0 h1 h2 h3 h4 h5 h6 h7 : Int} {B : List Int} {s : S8} (q : s = rnds (sprd B) ⟨h0, h1, h2, h3, h4, h5, h6, h7⟩ 64) :
    vadd [h0, h1, h2, h3, h4, h5, h6, h7] s.l 8 = comp [h0, h1, h2, h3, h4, h5, h6, h7] B := by
  have e : vadd [h0, h1, h2, h3, h4, h5, h6, h7] s.l 8 = [add32 s.a h0, add32 s.b h1, add32 s.c h2, add32 s.d h3, add32 s.e h4, add32 s.f h5, add32 s.g h6, add32 s.h h7] := rfl
  rw [e]
  unfold comp
  simp only [← q, add32_comm]

set_option maxRecDepth 100000 in
set_option maxHeartbeats 4000000 in
theorem rcompress_any (H B : List Int) (hH : H.length = 8) (hB : B.length = 64) (w : World) (hT : TabR w) :
    Calls Tryd.prog 52 #[.agg (u32V H).toArray, .agg (u8V B).toArray] w fun e w' => e = .returned (.agg (u32V (comp H B)).toArray) ∧ Below w.heap.size w w' := by
  obtain ⟨z76, s76⟩ := zero_of_info (P := Tryd.prog) (t := 95) (v := .agg (u32V (zeros 64)).toArray) (n := 64) (by kernel_rfl)
  obtain ⟨z23, s23⟩ := zero_of_info (P := Tryd.prog) (t := 23) (v := .agg (u32V (zeros 8)).toArray) (n := 8) (by kernel_rfl)
  have HS23 := hid s23
  have HT := hid hT
  have HH := hid hH
  clear s76 s23 hT hH
  go_enter Tryd.func52, Tryd.ntmps52
  go_wp2
  go_loopw [6] (fun i wr => ∃ t : Nat, t ≤ 16 ∧ i = .int .i64 t ∧ RSp w H B wr (spr1 B t)) (fun i _ => 16 - (intOf i).toNat)
  case atStart =>
    have h4 := hp_four w (.cells (u32V H).toArray 23) (.cells (u8V B).toArray 72) (.cells (u32V (zeros 8)).toArray 23) (.cells (u32V (zeros 64)).toArray 95)
    have hb : Below w.heap.size w ((((w.alloc (.cells (u32V H).toArray 23)).alloc (.cells (u8V B).toArray 72)).alloc (.cells (u32V (zeros 8)).toArray 23)).alloc (.cells (u32V (zeros 64)).toArray 95)) :=
      ((below_walk2 w _ _).alloc (by rw [hp_size, hp_size]; omega) _).alloc (by rw [hp_size, hp_size, hp_size]; omega) _
    exact ⟨0, by omega, rfl, h4.1, h4.2.1, h4.2.2.1, h4.2.2.2, HT.out.below hb, hb⟩
  case round =>
    obtain ⟨t, ht, rfl, hS⟩ := hrel
    have HS : Hid _ := hS
    clear hS
    by_cases hlt : t < 16
    · have g0 : (0 : Int) ≤ 4 * (t : Int) := by omega
      have g1 : 4 * (t : Int) < 64 := by omega
      have g2 : (0 : Int) ≤ 4 * (t : Int) + 1 := by omega
      have g3 : 4 * (t : Int) + 1 < 64 := by omega
      have g4 : (0 : Int) ≤ 4 * (t : Int) + 2 := by omega
      have g5 : 4 * (t : Int) + 2 < 64 := by omega
      have g6 : (0 : Int) ≤ 4 * (t : Int) + 3 := by omega
      have g7 : 4 * (t : Int) + 3 < 64 := by omega
      have g8 : (0 : Int) ≤ (t : Int) := by omega
      have g9 : (t : Int) < 64 := by omega
      have k0 : IntKind.i64.wrap (4 * (t : Int)) = 4 * (t : Int) := i64_id _ (by omega)
      have k1 : IntKind.i64.wrap (4 * (t : Int) + 1) = 4 * (t : Int) + 1 := i64_id _ (by omega)
      have k2 : IntKind.i64.wrap (4 * (t : Int) + 2) = 4 * (t : Int) + 2 := i64_id _ (by omega)
      have k3 : IntKind.i64.wrap (4 * (t : Int) + 3) = 4 * (t : Int) + 3 := i64_id _ (by omega)
      obtain ⟨b0, x0, HB0⟩ : ∃ b0, wr.cell? ⟨w.heap.size + 1, (4 * (t : Int)).toNat, none⟩ = some (.int .u8 b0) ∧ Hid (b0 = B.getD (4 * t) 0) := ⟨_, by rw [show (4 * (t : Int)).toNat = 4 * t by omega]; exact u8_cell HS.out.b1 (4 * t) (by omega), rfl⟩
      obtain ⟨b1, x1, HB1⟩ : ∃ b1, wr.cell? ⟨w.heap.size + 1, (4 * (t : Int) + 1).toNat, none⟩ = some (.int .u8 b1) ∧ Hid (b1 = B.getD (4 * t + 1) 0) := ⟨_, by rw [show (4 * (t : Int) + 1).toNat = 4 * t + 1 by omega]; exact u8_cell HS.out.b1 (4 * t + 1) (by omega), rfl⟩
      obtain ⟨b2, x2, HB2⟩ : ∃ b2, wr.cell? ⟨w.heap.size + 1, (4 * (t : Int) + 2).toNat, none⟩ = some (.int .u8 b2) ∧ Hid (b2 = B.getD (4 * t + 2) 0) := ⟨_, by rw [show (4 * (t : Int) + 2).toNat = 4 * t + 2 by omega]; exact u8_cell HS.out.b1 (4 * t + 2) (by omega), rfl⟩
      obtain ⟨b3, x3, HB3⟩ : ∃ b3, wr.cell? ⟨w.heap.size + 1, (4 * (t : Int) + 3).toNat, none⟩ = some (.int .u8 b3) ∧ Hid (b3 = B.getD (4 * t + 3) 0) := ⟨_, by rw [show (4 * (t : Int) + 3).toNat = 4 * t + 3 by omega]; exact u8_cell HS.out.b1 (4 * t + 3) (by omega), rfl⟩
      have y0 := u32_cell HS.out.b3 t (by rw [spr1_length]; omega)
      have yf := row_fz HS.out.b3 t
      go_wp2
      go_region_held3 (fun w' => w'.cell? ⟨w.heap.size + 1, (4 * (t : Int)).toNat, none⟩ = some (.int .u8 b0) ∧ w'.cell? ⟨w.heap.size + 1, (4 * (t : Int) + 1).toNat, none⟩ = some (.int .u8 b1) ∧ w'.cell? ⟨w.heap.size + 1, (4 * (t : Int) + 2).toNat, none⟩ = some (.int .u8 b2) ∧ w'.cell? ⟨w.heap.size + 1, (4 * (t : Int) + 3).toNat, none⟩ = some (.int .u8 b3)) (first | exact ⟨far_set x0 (by omega), far_set x1 (by omega), far_set x2 (by omega), far_set x3 (by omega)⟩ | go_keep) (fail)
      go_wp2
      refine ⟨⟨t + 1, by omega, by simp, ?_⟩, by simp [intOf]; omega⟩
      have := HS.out.step HT.out t (word4 b0 b1 b2 b3)
      rw [HB0.out, HB1.out, HB2.out, HB3.out] at this ⊢
      exact this
    · have HS2 : Hid (RSp w H B wr (spr1 B 16)) := by
        have := HS.out
        rwa [show t = 16 by omega] at this
      generalize hj : (t : Int) = j
      have hj16 : ¬ j < 16 := by omega
      clear HS hj hlt ht
      go_wp2
      go_loopw [7] (fun i wr => ∃ k : Nat, k ≤ 48 ∧ i = .int .i64 ((16 + k : Nat) : Int) ∧ RSp w H B wr (spr2 B k)) (fun i _ => 64 - (intOf i).toNat)
      case atStart => exact ⟨0, by omega, rfl, HS2.out⟩
      case round =>
        obtain ⟨k, hk, rfl, hS⟩ := hrel
        have HS : Hid _ := hS
        clear hS HS2
        by_cases hlt : k < 48
        · obtain ⟨t, ht⟩ : ∃ t, t = 16 + k := ⟨_, rfl⟩
          rw [← ht]
          have g0 : (2 : Int) ≤ (t : Int) := by omega
          have gg2 : (t : Int) < 66 := by omega
          have g1 : (t : Int) - 2 < 64 := by omega
          have g2 : (7 : Int) ≤ (t : Int) := by omega
          have gg7 : (t : Int) < 71 := by omega
          have g3 : (t : Int) - 7 < 64 := by omega
          have g4 : (15 : Int) ≤ (t : Int) := by omega
          have gg15 : (t : Int) < 79 := by omega
          have g5 : (t : Int) - 15 < 64 := by omega
          have g6 : (16 : Int) ≤ (t : Int) := by omega
          have gg16 : (t : Int) < 80 := by omega
          have g7 : (t : Int) - 16 < 64 := by omega
          have g8 : (0 : Int) ≤ (t : Int) := by omega
          have g9 : (t : Int) < 64 := by omega
          have k0 : IntKind.i64.wrap ((t : Int) - 2) = (t : Int) - 2 := i64_id _ (by omega)
          have k1 : IntKind.i64.wrap ((t : Int) - 7) = (t : Int) - 7 := i64_id _ (by omega)
          have k2 : IntKind.i64.wrap ((t : Int) - 15) = (t : Int) - 15 := i64_id _ (by omega)
          have k3 : IntKind.i64.wrap ((t : Int) - 16) = (t : Int) - 16 := i64_id _ (by omega)
          have hl : (spr2 B k).length = 64 := spr2_length B k
          obtain ⟨b0, x0, HB0⟩ : ∃ b0, wr.cell? ⟨w.heap.size + 1 + 1 + 1, ((t : Int) - 2).toNat, none⟩ = some (.int .u32 b0) ∧ Hid (b0 = (spr2 B k).getD (t - 2) 0) := ⟨_, by rw [show ((t : Int) - 2).toNat = t - 2 by omega]; exact u32_cell HS.out.b3 (t - 2) (by omega), rfl⟩
          obtain ⟨b1, x1, HB1⟩ : ∃ b1, wr.cell? ⟨w.heap.size + 1 + 1 + 1, ((t : Int) - 7).toNat, none⟩ = some (.int .u32 b1) ∧ Hid (b1 = (spr2 B k).getD (t - 7) 0) := ⟨_, by rw [show ((t : Int) - 7).toNat = t - 7 by omega]; exact u32_cell HS.out.b3 (t - 7) (by omega), rfl⟩
          obtain ⟨b2, x2, HB2⟩ : ∃ b2, wr.cell? ⟨w.heap.size + 1 + 1 + 1, ((t : Int) - 15).toNat, none⟩ = some (.int .u32 b2) ∧ Hid (b2 = (spr2 B k).getD (t - 15) 0) := ⟨_, by rw [show ((t : Int) - 15).toNat = t - 15 by omega]; exact u32_cell HS.out.b3 (t - 15) (by omega), rfl⟩
          obtain ⟨b3, x3, HB3⟩ : ∃ b3, wr.cell? ⟨w.heap.size + 1 + 1 + 1, ((t : Int) - 16).toNat, none⟩ = some (.int .u32 b3) ∧ Hid (b3 = (spr2 B k).getD (t - 16) 0) := ⟨_, by rw [show ((t : Int) - 16).toNat = t - 16 by omega]; exact u32_cell HS.out.b3 (t - 16) (by omega), rfl⟩
          have y0 := u32_cell HS.out.b3 t (by omega)
          have yf := row_fz HS.out.b3 t
          have HT2 := hid ht
          clear ht hl
          go_wp2
          go_quiet (fail)
          rename_i nq
          have HSq := hid (HS.out.drewN nq)
          have x1q : (wr.drewN nq).cell? ⟨w.heap.size + 1 + 1 + 1, ((t : Int) - 7).toNat, none⟩ = some (.int .u32 b1) := x1
          have x3q : (wr.drewN nq).cell? ⟨w.heap.size + 1 + 1 + 1, ((t : Int) - 16).toNat, none⟩ = some (.int .u32 b3) := x3
          have y0q : (wr.drewN nq).cell? ⟨w.heap.size + 1 + 1 + 1, t, none⟩ = some (.int .u32 ((spr2 B k).getD t 0)) := y0
          have yfq : (wr.drewN nq).frozen? ⟨w.heap.size + 1 + 1 + 1, t, none⟩ = false := yf
          generalize wr.drewN nq = wq at HSq x1q x3q y0q yfq ⊢
          clear HS x0 x1 x2 x3 y0 yf
          go_wp2_with fail
          refine (rotr_any b2 _ _ 7 rfl (by omega) (by omega)).mono ?_
          rintro e w6 ⟨rfl, hh⟩; replace hh := hh.symm; subst hh
          go_wp2_with fail
          refine (rotr_any b2 _ _ 18 rfl (by omega) (by omega)).mono ?_
          rintro e w6 ⟨rfl, hh⟩; replace hh := hh.symm; subst hh
          go_wp2_with fail
          refine (rotr_any b0 _ _ 17 rfl (by omega) (by omega)).mono ?_
          rintro e w6 ⟨rfl, hh⟩; replace hh := hh.symm; subst hh
          go_wp2_with fail
          refine (rotr_any b0 _ _ 19 rfl (by omega) (by omega)).mono ?_
          rintro e w6 ⟨rfl, hh⟩; replace hh := hh.symm; subst hh
          go_upto_region 12 with fail
          go_region_held3 (fun w' => w'.cell? ⟨w.heap.size + 1 + 1 + 1, ((t : Int) - 7).toNat, none⟩ = some (.int .u32 b1) ∧ w'.cell? ⟨w.heap.size + 1 + 1 + 1, ((t : Int) - 16).toNat, none⟩ = some (.int .u32 b3)) (first | exact ⟨near_set x1q (by omega), near_set x3q (by omega)⟩ | exact ⟨x1q, x3q⟩ | go_keep) (fail)
          go_wp2
          refine ⟨⟨k + 1, by omega, by rw [HT2.out]; simp; omega, ?_⟩, by simp [intOf]; omega⟩
          have := HSq.out.step HT.out t (add32 (add32 (add32 (sm1 b0) b1) (sm0 b2)) b3)
          rw [HB0.out, HB1.out, HB2.out, HB3.out] at this ⊢
          rw [HT2.out] at this ⊢
          exact this
        · have HS3 : Hid (RSp w H B wr (sprd B)) := by
            have := HS.out
            rwa [show k = 48 by omega] at this
          generalize hj2 : ((16 + k : Nat) : Int) = j2
          have hj64 : ¬ j2 < 64 := by omega
          clear HS hj2 hlt hk
          go_upto_region 13 with fail
          refine wp_region_list ?_
          show wpList _ _ _ (_ :: _) _ _
          refine ld_row (by rfl) 23 (.tmp 2) (by rfl) w.heap.size (by rfl) _ 23 HS3.out.b0 _ Tryd.underlying23 rfl (by rw [u32V_length, HH.out]; exact HS23.out) ?_
          refine al_row (by rfl) 23 (by rfl) _ z23 ?_
          refine st_new (by rfl) 23 (.tmp 12) (.tmp 97) (by rfl) (u32V H) (by rfl) (by rfl) _ _ (by rw [u32V_length, HH.out]; exact HS23.out) (by simp [u32V_length, zeros_length, HH.out]) (u32V_one _) ?_
          have HV := hid (RV.mk' HS3.out)
          generalize wr.alloc (.cells (u32V H).toArray 23) = wv at HV ⊢
          generalize wr.heap.size = b4 at HV ⊢
          clear HS3
          obtain ⟨h0, h1, h2, h3, h4, h5, h6, h7, rfl⟩ := eight_of HH.out
          go_wp2
          go_loopw [13] (fun i wx => ∃ t : Nat, t ≤ 64 ∧ i = .int .i64 t ∧ RV w [h0, h1, h2, h3, h4, h5, h6, h7] B wx b4 (rnds (sprd B) ⟨h0, h1, h2, h3, h4, h5, h6, h7⟩ t).l) (fun i _ => 64 - (intOf i).toNat)
          case atStart => exact ⟨0, by omega, rfl, HV.out⟩
          case round =>
            obtain ⟨t, ht, rfl, hV⟩ := hrel
            clear HV
            obtain ⟨⟨a, b, c, d, e, f, g, i8⟩, hE⟩ : ∃ s, s = rnds (sprd B) ⟨h0, h1, h2, h3, h4, h5, h6, h7⟩ t := ⟨_, rfl⟩
            rw [← hE] at hV
            have HE := hid hE
            have HV := hid hV
            clear hV hE
            by_cases hlt : t < 64
            · have g8 : (0 : Int) ≤ (t : Int) := by omega
              have g9 : (t : Int) < 64 := by omega
              have c0 : wr.cell? ⟨b4, 0, none⟩ = some (.int .u32 a) := u32_cell HV.out.vb 0 (by simp [S8.l])
              have c4 : wr.cell? ⟨b4, 4, none⟩ = some (.int .u32 e) := u32_cell HV.out.vb 4 (by simp [S8.l])
              have hsg : IntKind.u32.signed = false := rfl
              go_wp2
              go_quiet (fail)
              rename_i nq
              have HVq := hid (HV.out.drewN nq)
              clear c0 c4
              generalize wr.drewN nq = wq at HVq ⊢
              obtain ⟨kt, x0, HK⟩ : ∃ kt, wq.cell? ⟨2, t, none⟩ = some (.int .u32 kt) ∧ Hid (kt = Ks.getD t 0) := ⟨_, tab_cell HVq.out.sp.tab t (by rw [Ks_length]; omega), rfl⟩
              obtain ⟨wt, x1, HW⟩ : ∃ wt, wq.cell? ⟨w.heap.size + 1 + 1 + 1, t, none⟩ = some (.int .u32 wt) ∧ Hid (wt = (sprd B).getD t 0) := ⟨_, u32_cell HVq.out.sp.b3 t (by rw [sprd_length]; omega), rfl⟩
              have c5 : wq.cell? ⟨b4, 5, none⟩ = some (.int .u32 f) := u32_cell HVq.out.vb 5 (by simp [S8.l])
              have c6 : wq.cell? ⟨b4, 6, none⟩ = some (.int .u32 g) := u32_cell HVq.out.vb 6 (by simp [S8.l])
              have c7 : wq.cell? ⟨b4, 7, none⟩ = some (.int .u32 i8) := u32_cell HVq.out.vb 7 (by simp [S8.l])
              go_wp2
              go_quiet (first | (go_at_call 58; exact Calls.quiet_of_same (rotr_any e _ _ 6 rfl (by omega) (by omega))) | (go_at_call 58; exact Calls.quiet_of_same (rotr_any e _ _ 11 rfl (by omega) (by omega))) | (go_at_call 58; exact Calls.quiet_of_same (rotr_any e _ _ 25 rfl (by omega) (by omega))))
              rename_i nq
              have HVp := hid (HVq.out.drewN nq)
              clear x0 x1 c5 c6 c7
              generalize wq.drewN nq = wp at HVp ⊢
              have c1 : wp.cell? ⟨b4, 1, none⟩ = some (.int .u32 b) := u32_cell HVp.out.vb 1 (by simp [S8.l])
              have c2 : wp.cell? ⟨b4, 2, none⟩ = some (.int .u32 c) := u32_cell HVp.out.vb 2 (by simp [S8.l])
              go_wp2
              go_quiet (first | (go_at_call 58; exact Calls.quiet_of_same (rotr_any a _ _ 2 rfl (by omega) (by omega))) | (go_at_call 58; exact Calls.quiet_of_same (rotr_any a _ _ 13 rfl (by omega) (by omega))) | (go_at_call 58; exact Calls.quiet_of_same (rotr_any a _ _ 22 rfl (by omega) (by omega))))
              rename_i nq
              have HVo := hid (HVp.out.drewN nq)
              clear c1 c2
              generalize wp.drewN nq = wo at HVo ⊢
              have c1 : wo.cell? ⟨b4, 1, none⟩ = some (.int .u32 b) := u32_cell HVo.out.vb 1 (by simp [S8.l])
              have c2 : wo.cell? ⟨b4, 2, none⟩ = some (.int .u32 c) := u32_cell HVo.out.vb 2 (by simp [S8.l])
              have c3 : wo.cell? ⟨b4, 3, none⟩ = some (.int .u32 d) := u32_cell HVo.out.vb 3 (by simp [S8.l])
              have c5 : wo.cell? ⟨b4, 5, none⟩ = some (.int .u32 f) := u32_cell HVo.out.vb 5 (by simp [S8.l])
              have c6 : wo.cell? ⟨b4, 6, none⟩ = some (.int .u32 g) := u32_cell HVo.out.vb 6 (by simp [S8.l])
              have hz8 : (u32V (zeros 8)).length = 8 := by rw [u32V_length, zeros_length]
              have hst := store8' (P := Tryd.prog) HVo.out.vb (by simp [u32V_length, S8.l])
              go_wp2
              refine ⟨⟨t + 1, by omega, by simp, ?_⟩, by simp [intOf]; omega⟩
              have e1 : (rnds (sprd B) ⟨h0, h1, h2, h3, h4, h5, h6, h7⟩ (t + 1)).l = (rnd kt wt ⟨a, b, c, d, e, f, g, i8⟩).l := by
                show (rnd (Ks.getD t 0) ((sprd B).getD t 0) (rnds (sprd B) ⟨h0, h1, h2, h3, h4, h5, h6, h7⟩ t)).l = _
                rw [← HE.out, ← HK.out, ← HW.out]
              rw [e1]
              refine HVo.out.other HT.out (rowSet wo b4 _ _ _ HVo.out.vb).grown ?_
              refine (rowSet wo b4 _ _ _ HVo.out.vb).blk.trans ?_
              congr 4
              simp only [rnd, add32, gm1, cho, gm0, maj, xor32, and32, not32, S8.l]
              simp only [List.cons.injEq, and_true, true_and]
              exact ⟨by omega, by omega⟩
            · obtain ⟨V, hV⟩ : ∃ V, V = S8.l ⟨a, b, c, d, e, f, g, i8⟩ := ⟨_, rfl⟩
              have HVV := hid hV
              have HV2 : Hid (RV w [h0, h1, h2, h3, h4, h5, h6, h7] B wr b4 (vadd [h0, h1, h2, h3, h4, h5, h6, h7] V 0)) := by
                have := HV.out
                rw [← hV] at this
                exact hid this
              have HC : Hid (vadd [h0, h1, h2, h3, h4, h5, h6, h7] V 8 = comp [h0, h1, h2, h3, h4, h5, h6, h7] B) := by
                have q := HE.out
                rw [show t = 64 by omega] at q
                rw [hV]
                exact hid (vadd_comp q)
              have HVL := hid (show V.length = 8 by rw [hV]; rfl)
              clear hV HV HE
              generalize hjj : (t : Int) = j3
              have hjj64 : ¬ j3 < 64 := by omega
              clear hjj hlt ht
              go_wp2
              go_loopw [18] (fun i wx => ∃ k : Nat, k ≤ 8 ∧ i = .int .i64 k ∧ RV w [h0, h1, h2, h3, h4, h5, h6, h7] B wx b4 (vadd [h0, h1, h2, h3, h4, h5, h6, h7] V k)) (fun i _ => 8 - (intOf i).toNat)
              case atStart => exact ⟨0, by omega, rfl, HV2.out⟩
              case round =>
                obtain ⟨k, hk, rfl, hV⟩ := hrel
                clear HV2
                have HV := hid hV
                clear hV
                by_cases hlt : k < 8
                · have g8 : (0 : Int) ≤ (k : Int) := by omega
                  have g9 : (k : Int) < 8 := by omega
                  go_upto_region 24 with fail
                  obtain ⟨X, HX⟩ : ∃ X : World, Hid (X = { wr with drawn := wr.drawn + 1 }) := ⟨_, rfl⟩
                  have HVX := hid (show RV w [h0, h1, h2, h3, h4, h5, h6, h7] B X b4 (vadd [h0, h1, h2, h3, h4, h5, h6, h7] V k) by rw [HX.out]; exact HV.out.drewN 1)
                  refine wp_region_still_tail 8 (by kernel_rfl) (by kernel_rfl) ?_
                  simp only [List.take_succ_cons, List.take_zero, List.drop_succ_cons, List.drop_zero]
                  rw [show ({ wr with drawn := wr.drawn + 1 } : World) = X from HX.out.symm]
                  obtain ⟨x, c1, HX1⟩ : ∃ x, X.cell? ⟨b4, k, none⟩ = some (.int .u32 x) ∧ Hid (x = (vadd [h0, h1, h2, h3, h4, h5, h6, h7] V k).getD k 0) := ⟨_, u32_cell HVX.out.vb k (by rw [vadd_length, HVL.out]; omega), rfl⟩
                  obtain ⟨y, c2, HY1⟩ : ∃ y, X.cell? ⟨w.heap.size, k, none⟩ = some (.int .u32 y) ∧ Hid (y = ([h0, h1, h2, h3, h4, h5, h6, h7] : List Int).getD k 0) := ⟨_, u32_cell HVX.out.sp.b0 k (by simp; omega), rfl⟩
                  have f1 := row_fz HVX.out.vb k
                  repeat still_step
                  refine wpStill_nil ?_
                  go_wp2
                  refine ⟨⟨k + 1, by omega, by simp, ?_⟩, by simp [intOf]; omega⟩
                  refine HVX.out.other HT.out (gb_set X ⟨b4, k, none⟩ _) ?_
                  refine (blk_set (w := X) (i := k) HVX.out.vb _).trans ?_
                  rw [HX1.out, HY1.out]
                  rw [show vadd [h0, h1, h2, h3, h4, h5, h6, h7] V (k + 1) = (vadd [h0, h1, h2, h3, h4, h5, h6, h7] V k).set k (add32 ((vadd [h0, h1, h2, h3, h4, h5, h6, h7] V k).getD k 0) (([h0, h1, h2, h3, h4, h5, h6, h7] : List Int).getD k 0)) from rfl, ← u32V_set, List.setIfInBounds_toArray]
                  rfl
                · have HV3 : Hid (RV w [h0, h1, h2, h3, h4, h5, h6, h7] B wr b4 (comp [h0, h1, h2, h3, h4, h5, h6, h7] B)) := by
                    have := HV.out
                    rw [show k = 8 by omega, HC.out] at this
                    exact hid this
                  generalize hjk : (k : Int) = j4
                  have hj8 : ¬ j4 < 8 := by omega
                  clear HV hjk hlt hk
                  have HL8 : Hid ((Tryd.prog.info? 23).map (·.size) = some (u32V (comp [h0, h1, h2, h3, h4, h5, h6, h7] B)).length) := by rw [u32V_length, comp_length _ _ HH.out]; exact HS23.out
                  go_upto_region 25 with fail
                  refine wp_region_list ?_
                  show wpList _ _ _ (_ :: _) _ _
                  refine ld_row (by rfl) 23 (.tmp 12) (by rfl) b4 (by rfl) _ 23 HV3.out.vb _ Tryd.underlying23 rfl HL8.out ?_
                  refine st_row (by rfl) 23 (.tmp 4) (.tmp 191) (by rfl) (w.heap.size + 1 + 1) _ (by rfl) (by rfl) 23 _ HV3.out.sp.b2 HL8.out (by rw [List.size_toArray, u32V_length, u32V_length, comp_length _ _ HH.out, zeros_length]) (u32V_one _) ?_
                  intro w4 hw4
                  have HW := hid hw4
                  clear hw4
                  go_wp2
                  refine ret_row 4 23 rfl (w.heap.size + 1 + 1) rfl _ 23 HW.out.blk _ Tryd.underlying23 rfl HL8.out rfl ⟨rfl, ?_⟩
                  exact HV3.out.sp.bel.grown HW.out.grown HV3.out.sp.bel.size (by intro k hk; cases hk; omega)

end Go.Proofs.YticmdmnjajjpbabDoor
