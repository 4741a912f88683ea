/- The words of one block: spread. -/
import Derived.Test.YticmdmnjajjpbabDoorSMix
import Derived.Test.YticmdmnjajjpbabDoorSRow
import Derived.Deep.Cut
namespace Go.Proofs.YticmdmnjajjpbabDoor
open Go.RowKit

def zeros (n : Nat) : List Int := List.replicate n 0
theorem zeros_length (n : Nat) : (zeros n).length = n := by simp [zeros]

def upN {α : Type} (f : Nat → α → α) : Nat → α → α
  | 0, s => s
  | n + 1, s => f n (upN f n s)

def u32V (xs : List Int) : List Value := xs.map (Value.int .u32)
def u8V (xs : List Int) : List Value := xs.map (Value.int .u8)
theorem u32V_length (xs : List Int) : (u32V xs).length = xs.length := by simp [u32V]
theorem u8V_length (xs : List Int) : (u8V xs).length = xs.length := by simp [u8V]
theorem u32V_one (xs : List Int) : ∀ v ∈ u32V xs, v.oneCell' = true := by
  intro v hv
  simp only [u32V, List.mem_map] at hv
  obtain ⟨c, _, rfl⟩ := hv
  rfl
theorem u8V_one (xs : List Int) : ∀ v ∈ u8V xs, v.oneCell' = true := by
  intro v hv
  simp only [u8V, List.mem_map] at hv
  obtain ⟨c, _, rfl⟩ := hv
  rfl
theorem u32V_set (xs : List Int) (i : Nat) (y : Int) : (u32V xs).set i (.int .u32 y) = u32V (xs.set i y) := by simp [u32V, List.map_set]
theorem u8V_set (xs : List Int) (i : Nat) (y : Int) : (u8V xs).set i (.int .u8 y) = u8V (xs.set i y) := by simp [u8V, List.map_set]

def or32 (x y : Int) : Int := bits .or .u32 x y
/-- four bytes, the greatest first -/
def word4 (a b c d : Int) : Int := or32 (or32 (or32 (a % 4294967296 * 16777216 % 4294967296) (b % 4294967296 * 65536 % 4294967296)) (c % 4294967296 * 256 % 4294967296)) (d % 4294967296)
/-- the block's word number t -/
def word (B : List Int) (t : Nat) : Int := word4 (B.getD (4 * t) 0) (B.getD (4 * t + 1) 0) (B.getD (4 * t + 2) 0) (B.getD (4 * t + 3) 0)
def spr1 (B : List Int) (n : Nat) : List Int := upN (fun t ws => ws.set t (word B t)) n (zeros 64)
def mixed (ws : List Int) (t : Nat) : Int := add32 (add32 (add32 (sm1 (ws.getD (t - 2) 0)) (ws.getD (t - 7) 0)) (sm0 (ws.getD (t - 15) 0))) (ws.getD (t - 16) 0)
def spr2 (B : List Int) (n : Nat) : List Int := upN (fun k ws => ws.set (16 + k) (mixed ws (16 + k))) n (spr1 B 16)
/-- W -/
def sprd (B : List Int) : List Int := spr2 B 48
theorem spr1_length (B : List Int) : ∀ n, (spr1 B n).length = 64
  | 0 => zeros_length 64
  | n + 1 => (List.length_set ..).trans (spr1_length B n)
theorem spr2_length (B : List Int) : ∀ n, (spr2 B n).length = 64
  | 0 => spr1_length B 16
  | n + 1 => (List.length_set ..).trans (spr2_length B n)
theorem sprd_length (B : List Int) : (sprd B).length = 64 := spr2_length B 48

theorem i64_id (n : Int) (h : -9223372036854775808 ≤ n ∧ n ≤ 9223372036854775807) : IntKind.i64.wrap n = n := by rw [IntKind.wrap_i64]; omega
theorem row_cell {w : World} {b : Nat} {cs : List Value} {T : TypeId} (h : w.heap[b]? = some (.cells cs.toArray T (0, 0))) (i : Nat) (hi : i < cs.length) : w.cell? ⟨b, i, none⟩ = some (cs[i]) := by
  simp [World.cell?, h, hi]
theorem u32_cell {w : World} {b : Nat} {xs : List Int} {T : TypeId} (h : w.heap[b]? = some (.cells (u32V xs).toArray T (0, 0))) (i : Nat) (hi : i < xs.length) : w.cell? ⟨b, i, none⟩ = some (.int .u32 (xs.getD i 0)) := by
  rw [row_cell h i (by simpa [u32V] using hi)]
  simp [u32V, List.getD_eq_getElem?_getD, hi]
theorem u8_cell {w : World} {b : Nat} {xs : List Int} {T : TypeId} (h : w.heap[b]? = some (.cells (u8V xs).toArray T (0, 0))) (i : Nat) (hi : i < xs.length) : w.cell? ⟨b, i, none⟩ = some (.int .u8 (xs.getD i 0)) := by
  rw [row_cell h i (by simpa [u8V] using hi)]
  simp [u8V, List.getD_eq_getElem?_getD, hi]
theorem row_fz {w : World} {b : Nat} {cs : Array Value} {T : TypeId} (h : w.heap[b]? = some (.cells cs T (0, 0))) (i : Nat) : w.frozen? ⟨b, i, none⟩ = false := by simp [World.frozen?, h]

/-- three new blocks -/
theorem hp_three (w : World) (o p q : Obj) : (((w.alloc o).alloc p).alloc q).heap[w.heap.size]? = some o ∧ (((w.alloc o).alloc p).alloc q).heap[w.heap.size + 1]? = some p ∧ (((w.alloc o).alloc p).alloc q).heap[w.heap.size + 1 + 1]? = some q := by
  refine ⟨?_, ?_, ?_⟩
  · rw [hp_old _ _ _ (by rw [hp_size, hp_size]; omega), hp_old _ _ _ (by rw [hp_size]; omega), hp_new]
  · rw [hp_old _ _ _ (by rw [hp_size, hp_size]; omega)]
    have := hp_new (w.alloc o) p
    rwa [hp_size] at this
  · have := hp_new ((w.alloc o).alloc p) q
    rwa [hp_size, hp_size] at this
theorem far_set {w : World} {b c i j : Nat} {x v : Value} (h : w.cell? ⟨b, i, none⟩ = some x) (hne : c ≠ b) : (w.setCell ⟨c, j, none⟩ v).drew.cell? ⟨b, i, none⟩ = some x := by
  have e : (w.setCell ⟨c, j, none⟩ v).heap[b]? = w.heap[b]? := Below.heap_setCell w _ v b (by simpa using fun e => hne e.symm)
  show (w.setCell ⟨c, j, none⟩ v).cell? ⟨b, i, none⟩ = some x
  rw [← h]
  exact World.cell?_of_block e

theorem near_set {w : World} {b i j : Nat} {x v : Value} (h : w.cell? ⟨b, i, none⟩ = some x) (hne : i ≠ j) : (w.setCell ⟨b, j, none⟩ v).drew.cell? ⟨b, i, none⟩ = some x := by
  show (w.setCell ⟨b, j, none⟩ v).cell? ⟨b, i, none⟩ = some x
  rw [← h]
  cases hb : w.heap[b]? with
  | none => simp [World.cell?, World.setCell, Array.getElem?_modify, hb]
  | some o => cases o <;> simp [World.cell?, World.setCell, Array.getElem?_modify, hb, Array.getElem?_setIfInBounds_ne (Ne.symm hne)]

/-- while spread goes on: the block, the answer's variable, the words -/
structure Spr (w : World) (B : List Int) (wr : World) (ws : List Int) : Prop where
  blk0 : wr.heap[w.heap.size]? = some (.cells (u8V B).toArray 72 (0, 0))
  blk1 : wr.heap[w.heap.size + 1]? = some (.cells (u32V (zeros 64)).toArray 95 (0, 0))
  blk2 : wr.heap[w.heap.size + 1 + 1]? = some (.cells (u32V ws).toArray 95 (0, 0))
  bel : Below w.heap.size w wr

theorem Spr.step {w : World} {B : List Int} {wr : World} {ws : List Int} (h : Spr w B wr ws) (t : Nat) (x : Int) :
    Spr w B (wr.setCell ⟨w.heap.size + 1 + 1, t, none⟩ (.int .u32 x)).drew (ws.set t x) := by
  refine ⟨?_, ?_, ?_, ?_⟩
  · exact (hp_set wr _ _ _ _ (by omega)).trans h.blk0
  · exact (hp_set wr _ _ _ _ (by omega)).trans h.blk1
  · refine (blk_set (w := wr) (i := t) h.blk2 (.int .u32 x)).trans ?_
    simp [← u32V_set]
  · exact below_drewN (h.bel.grown (gb_set wr _ _) h.bel.size (by intro k hk; cases hk; simp only []; omega)) 1

set_option maxRecDepth 100000 in
set_option maxHeartbeats 4000000 in
theorem spread_any (B : List Int) (hB : B.length = 64) (w : World) :
    Calls Tryd.prog 53 #[.agg (u8V B).toArray] w fun e w' => e = .returned (.agg (u32V (sprd B)).toArray) ∧ Below w.heap.size w w' := by
  obtain ⟨z76, s76⟩ := zero_of_info (P := Tryd.prog) (t := 95) (v := .agg (u32V (zeros 64)).toArray) (n := 64) (by kernel_rfl)
  have HZ := hid s76
  clear s76
  go_enter Tryd.func53, Tryd.ntmps53
  go_wp2
  go_loopw [6] (fun i wr => ∃ t : Nat, t ≤ 16 ∧ i = .int .i64 t ∧ Spr w B wr (spr1 B t)) (fun i _ => 16 - (intOf i).toNat)
  case atStart =>
    refine ⟨0, by omega, rfl, ?_, ?_, ?_, ?_⟩
    · exact (hp_three w _ _ _).1
    · exact (hp_three w _ _ _).2.1
    · exact (hp_three w _ _ _).2.2
    · exact (below_walk2 w _ _).alloc (by rw [hp_size, hp_size]; omega) _
  case round =>
    obtain ⟨t, ht, rfl, hS⟩ := hrel
    have HS : Hid _ := hS
    clear hS
    by_cases hlt : t < 16
    · have g0 : (0 : Int) ≤ 4 * (t : Int) := by omega
      have g1 : 4 * (t : Int) < 64 := by omega
      have g2 : (0 : Int) ≤ 4 * (t : Int) + 1 := by omega
      have g3 : 4 * (t : Int) + 1 < 64 := by omega
      have g4 : (0 : Int) ≤ 4 * (t : Int) + 2 := by omega
      have g5 : 4 * (t : Int) + 2 < 64 := by omega
      have g6 : (0 : Int) ≤ 4 * (t : Int) + 3 := by omega
      have g7 : 4 * (t : Int) + 3 < 64 := by omega
      have g8 : (0 : Int) ≤ (t : Int) := by omega
      have g9 : (t : Int) < 64 := by omega
      have k0 : IntKind.i64.wrap (4 * (t : Int)) = 4 * (t : Int) := i64_id _ (by omega)
      have k1 : IntKind.i64.wrap (4 * (t : Int) + 1) = 4 * (t : Int) + 1 := i64_id _ (by omega)
      have k2 : IntKind.i64.wrap (4 * (t : Int) + 2) = 4 * (t : Int) + 2 := i64_id _ (by omega)
      have k3 : IntKind.i64.wrap (4 * (t : Int) + 3) = 4 * (t : Int) + 3 := i64_id _ (by omega)
      obtain ⟨b0, x0, HB0⟩ : ∃ b0, wr.cell? ⟨w.heap.size, (4 * (t : Int)).toNat, none⟩ = some (.int .u8 b0) ∧ Hid (b0 = B.getD (4 * t) 0) := ⟨_, by rw [show (4 * (t : Int)).toNat = 4 * t by omega]; exact u8_cell HS.out.blk0 (4 * t) (by omega), rfl⟩
      obtain ⟨b1, x1, HB1⟩ : ∃ b1, wr.cell? ⟨w.heap.size, (4 * (t : Int) + 1).toNat, none⟩ = some (.int .u8 b1) ∧ Hid (b1 = B.getD (4 * t + 1) 0) := ⟨_, by rw [show (4 * (t : Int) + 1).toNat = 4 * t + 1 by omega]; exact u8_cell HS.out.blk0 (4 * t + 1) (by omega), rfl⟩
      obtain ⟨b2, x2, HB2⟩ : ∃ b2, wr.cell? ⟨w.heap.size, (4 * (t : Int) + 2).toNat, none⟩ = some (.int .u8 b2) ∧ Hid (b2 = B.getD (4 * t + 2) 0) := ⟨_, by rw [show (4 * (t : Int) + 2).toNat = 4 * t + 2 by omega]; exact u8_cell HS.out.blk0 (4 * t + 2) (by omega), rfl⟩
      obtain ⟨b3, x3, HB3⟩ : ∃ b3, wr.cell? ⟨w.heap.size, (4 * (t : Int) + 3).toNat, none⟩ = some (.int .u8 b3) ∧ Hid (b3 = B.getD (4 * t + 3) 0) := ⟨_, by rw [show (4 * (t : Int) + 3).toNat = 4 * t + 3 by omega]; exact u8_cell HS.out.blk0 (4 * t + 3) (by omega), rfl⟩
      have y0 := u32_cell HS.out.blk2 t (by rw [spr1_length]; omega)
      have yf := row_fz HS.out.blk2 t
      go_wp2
      go_region_held3 (fun w' => w'.cell? ⟨w.heap.size, (4 * (t : Int)).toNat, none⟩ = some (.int .u8 b0) ∧ w'.cell? ⟨w.heap.size, (4 * (t : Int) + 1).toNat, none⟩ = some (.int .u8 b1) ∧ w'.cell? ⟨w.heap.size, (4 * (t : Int) + 2).toNat, none⟩ = some (.int .u8 b2) ∧ w'.cell? ⟨w.heap.size, (4 * (t : Int) + 3).toNat, none⟩ = some (.int .u8 b3)) (first | exact ⟨far_set x0 (by omega), far_set x1 (by omega), far_set x2 (by omega), far_set x3 (by omega)⟩ | go_keep) (fail)
      go_wp2
      refine ⟨⟨t + 1, by omega, by simp, ?_⟩, by simp [intOf]; omega⟩
      have := HS.out.step t (word4 b0 b1 b2 b3)
      rw [HB0.out, HB1.out, HB2.out, HB3.out] at this ⊢
      exact this
    · have HS2 : Hid (Spr w B wr (spr1 B 16)) := by
        have := HS.out
        rwa [show t = 16 by omega] at this
      generalize hj : (t : Int) = j
      have hj16 : ¬ j < 16 := by omega
      clear HS hj hlt ht
      go_wp2
      go_loopw [5] (fun i wr => ∃ k : Nat, k ≤ 48 ∧ i = .int .i64 ((16 + k : Nat) : Int) ∧ Spr w B wr (spr2 B k)) (fun i _ => 64 - (intOf i).toNat)
      case atStart => exact ⟨0, by omega, rfl, HS2.out⟩
      case round =>
        obtain ⟨k, hk, rfl, hS⟩ := hrel
        have HS : Hid _ := hS
        clear hS
        by_cases hlt : k < 48
        · obtain ⟨t, ht⟩ : ∃ t, t = 16 + k := ⟨_, rfl⟩
          rw [← ht]
          have g0 : (2 : Int) ≤ (t : Int) := by omega
          have gg2 : (t : Int) < 66 := by omega
          have g1 : (t : Int) - 2 < 64 := by omega
          have g2 : (7 : Int) ≤ (t : Int) := by omega
          have gg7 : (t : Int) < 71 := by omega
          have g3 : (t : Int) - 7 < 64 := by omega
          have g4 : (15 : Int) ≤ (t : Int) := by omega
          have gg15 : (t : Int) < 79 := by omega
          have g5 : (t : Int) - 15 < 64 := by omega
          have g6 : (16 : Int) ≤ (t : Int) := by omega
          have gg16 : (t : Int) < 80 := by omega
          have g7 : (t : Int) - 16 < 64 := by omega
          have g8 : (0 : Int) ≤ (t : Int) := by omega
          have g9 : (t : Int) < 64 := by omega
          have k0 : IntKind.i64.wrap ((t : Int) - 2) = (t : Int) - 2 := i64_id _ (by omega)
          have k1 : IntKind.i64.wrap ((t : Int) - 7) = (t : Int) - 7 := i64_id _ (by omega)
          have k2 : IntKind.i64.wrap ((t : Int) - 15) = (t : Int) - 15 := i64_id _ (by omega)
          have k3 : IntKind.i64.wrap ((t : Int) - 16) = (t : Int) - 16 := i64_id _ (by omega)
          have hl : (spr2 B k).length = 64 := spr2_length B k
          obtain ⟨b0, x0, HB0⟩ : ∃ b0, wr.cell? ⟨w.heap.size + 1 + 1, ((t : Int) - 2).toNat, none⟩ = some (.int .u32 b0) ∧ Hid (b0 = (spr2 B k).getD (t - 2) 0) := ⟨_, by rw [show ((t : Int) - 2).toNat = t - 2 by omega]; exact u32_cell HS.out.blk2 (t - 2) (by omega), rfl⟩
          obtain ⟨b1, x1, HB1⟩ : ∃ b1, wr.cell? ⟨w.heap.size + 1 + 1, ((t : Int) - 7).toNat, none⟩ = some (.int .u32 b1) ∧ Hid (b1 = (spr2 B k).getD (t - 7) 0) := ⟨_, by rw [show ((t : Int) - 7).toNat = t - 7 by omega]; exact u32_cell HS.out.blk2 (t - 7) (by omega), rfl⟩
          obtain ⟨b2, x2, HB2⟩ : ∃ b2, wr.cell? ⟨w.heap.size + 1 + 1, ((t : Int) - 15).toNat, none⟩ = some (.int .u32 b2) ∧ Hid (b2 = (spr2 B k).getD (t - 15) 0) := ⟨_, by rw [show ((t : Int) - 15).toNat = t - 15 by omega]; exact u32_cell HS.out.blk2 (t - 15) (by omega), rfl⟩
          obtain ⟨b3, x3, HB3⟩ : ∃ b3, wr.cell? ⟨w.heap.size + 1 + 1, ((t : Int) - 16).toNat, none⟩ = some (.int .u32 b3) ∧ Hid (b3 = (spr2 B k).getD (t - 16) 0) := ⟨_, by rw [show ((t : Int) - 16).toNat = t - 16 by omega]; exact u32_cell HS.out.blk2 (t - 16) (by omega), rfl⟩
          have y0 := u32_cell HS.out.blk2 t (by omega)
          have yf := row_fz HS.out.blk2 t
          have HT := hid ht
          clear ht hl
          go_wp2
          go_region_held3 (fun w' => w'.cell? ⟨w.heap.size + 1 + 1, ((t : Int) - 2).toNat, none⟩ = some (.int .u32 b0) ∧ w'.cell? ⟨w.heap.size + 1 + 1, ((t : Int) - 7).toNat, none⟩ = some (.int .u32 b1) ∧ w'.cell? ⟨w.heap.size + 1 + 1, ((t : Int) - 15).toNat, none⟩ = some (.int .u32 b2) ∧ w'.cell? ⟨w.heap.size + 1 + 1, ((t : Int) - 16).toNat, none⟩ = some (.int .u32 b3)) (first | exact ⟨near_set x0 (by omega), near_set x1 (by omega), near_set x2 (by omega), near_set x3 (by omega)⟩ | exact ⟨x0, x1, x2, x3⟩ | go_keep) (first
            | (go_at_call 59; with_reducible refine Calls.mono (smallMix1_any _ _) ?_; rintro e w6 ⟨rfl, hh⟩; replace hh := hh.symm; subst hh)
            | (go_at_call 60; with_reducible refine Calls.mono (smallMix0_any _ _) ?_; rintro e w6 ⟨rfl, hh⟩; replace hh := hh.symm; subst hh))
          go_wp2
          refine ⟨⟨k + 1, by omega, by rw [HT.out]; simp; omega, ?_⟩, by simp [intOf]; omega⟩
          have := HS.out.step t (add32 (add32 (add32 (sm1 b0) b1) (sm0 b2)) b3)
          rw [HB0.out, HB1.out, HB2.out, HB3.out] at this ⊢
          rw [HT.out] at this ⊢
          exact this
        · have HS3 : Hid (Spr w B wr (sprd B)) := by
            have := HS.out
            rwa [show k = 48 by omega] at this
          generalize hj2 : ((16 + k : Nat) : Int) = j2
          have hj64 : ¬ j2 < 64 := by omega
          clear HS hj2 hlt hk
          have HL64 : Hid ((Tryd.prog.info? 95).map (·.size) = some (u32V (sprd B)).length) := by rw [u32V_length, sprd_length]; exact HZ.out
          go_upto_region 11 with fail
          refine wp_region_list ?_
          show wpList _ _ _ (_ :: _) _ _
          refine ld_row (by rfl) 95 (.tmp 3) (by rfl) (w.heap.size + 1 + 1) (by rfl) (u32V (sprd B)) 95 HS3.out.blk2 _ Tryd.underlying95 rfl HL64.out ?_
          refine st_row (by rfl) 95 (.tmp 2) (.tmp 68) (by rfl) (w.heap.size + 1) (u32V (sprd B)) (by rfl) (by rfl) 95 _ HS3.out.blk1 HL64.out (by simp [u32V_length, sprd_length, zeros_length]) (u32V_one _) ?_
          intro w4 hw4
          have HW := hid hw4
          clear hw4
          go_wp2
          refine ret_row 2 95 rfl (w.heap.size + 1) rfl (u32V (sprd B)) 95 HW.out.blk _ Tryd.underlying95 rfl HL64.out rfl ⟨rfl, ?_⟩
          exact HS3.out.bel.grown HW.out.grown HS3.out.bel.size (by intro k hk; cases hk; omega)

end Go.Proofs.YticmdmnjajjpbabDoor
