/- digest: eight words as 32 bytes. -/
import Derived.Test.YticmdmnjajjpbabDoorSHash
namespace Go.Proofs.YticmdmnjajjpbabDoor
open Go.RowKit

def dig1 (ds : List Int) (i : Nat) (h : Int) : List Int := (((ds.set (4 * i) (h / 16777216 % 256)).set (4 * i + 1) (h / 65536 % 256)).set (4 * i + 2) (h / 256 % 256)).set (4 * i + 3) (h % 256)
def digS (H : List Int) (n : Nat) : List Int := upN (fun i ds => dig1 ds i (H.getD i 0)) n (zeros 32)
/-- eight words, each as four bytes, the greatest first -/
def dig (H : List Int) : List Int := digS H 8
theorem dig1_length (ds : List Int) (i : Nat) (h : Int) : (dig1 ds i h).length = ds.length := by simp [dig1]
theorem digS_length (H : List Int) : ∀ n, (digS H n).length = 32
  | 0 => zeros_length 32
  | n + 1 => (dig1_length _ _ _).trans (digS_length H n)
theorem dig_length (H : List Int) : (dig H).length = 32 := digS_length H 8

/-- while digest goes on -/
structure Dg (w : World) (ds : List Int) (wr : World) : Prop where
  blk1 : wr.heap[w.heap.size + 1]? = some (.cells (u8V (zeros 32)).toArray 53 (0, 0))
  blk2 : wr.heap[w.heap.size + 1 + 1]? = some (.cells (u8V ds).toArray 53 (0, 0))
  bel : Below w.heap.size w wr
theorem Dg.step {w : World} {wr : World} {ds : List Int} (h : Dg w ds wr) (t : Nat) (x : Int) :
    Dg w (ds.set t x) (wr.setCell ⟨w.heap.size + 1 + 1, t, none⟩ (.int .u8 x)) := by
  refine ⟨?_, ?_, ?_⟩
  · exact (hp_set wr _ _ _ _ (by omega)).trans h.blk1
  · refine (blk_set (w := wr) (i := t) h.blk2 (.int .u8 x)).trans ?_
    simp [← u8V_set]
  · exact h.bel.grown (gb_set wr _ _) h.bel.size (by intro k hk; cases hk; simp only []; omega)

theorem ix0 (a b c d e f g i : Int) (W : World) : (Instr.index 23 (.agg (u32V [a, b, c, d, e, f, g, i]).toArray) (.int .i64 0)).run Tryd.prog W = .ok (.int .u32 a) W := by kernel_rfl
theorem ix1 (a b c d e f g i : Int) (W : World) : (Instr.index 23 (.agg (u32V [a, b, c, d, e, f, g, i]).toArray) (.int .i64 1)).run Tryd.prog W = .ok (.int .u32 b) W := by kernel_rfl
theorem ix2 (a b c d e f g i : Int) (W : World) : (Instr.index 23 (.agg (u32V [a, b, c, d, e, f, g, i]).toArray) (.int .i64 2)).run Tryd.prog W = .ok (.int .u32 c) W := by kernel_rfl
theorem ix3 (a b c d e f g i : Int) (W : World) : (Instr.index 23 (.agg (u32V [a, b, c, d, e, f, g, i]).toArray) (.int .i64 3)).run Tryd.prog W = .ok (.int .u32 d) W := by kernel_rfl
theorem ix4 (a b c d e f g i : Int) (W : World) : (Instr.index 23 (.agg (u32V [a, b, c, d, e, f, g, i]).toArray) (.int .i64 4)).run Tryd.prog W = .ok (.int .u32 e) W := by kernel_rfl
theorem ix5 (a b c d e f g i : Int) (W : World) : (Instr.index 23 (.agg (u32V [a, b, c, d, e, f, g, i]).toArray) (.int .i64 5)).run Tryd.prog W = .ok (.int .u32 f) W := by kernel_rfl
theorem ix6 (a b c d e f g i : Int) (W : World) : (Instr.index 23 (.agg (u32V [a, b, c, d, e, f, g, i]).toArray) (.int .i64 6)).run Tryd.prog W = .ok (.int .u32 g) W := by kernel_rfl
theorem ix7 (a b c d e f g i : Int) (W : World) : (Instr.index 23 (.agg (u32V [a, b, c, d, e, f, g, i]).toArray) (.int .i64 7)).run Tryd.prog W = .ok (.int .u32 i) W := by kernel_rfl
theorem index_words (H : List Int) (k : Nat) (hk : k < H.length) (hl : H.length = 8) : ∀ W, (Instr.index 23 (.agg (u32V H).toArray) (.int .i64 (k : Int))).run Tryd.prog W = .ok (.int .u32 (H.getD k 0)) W := by
  intro W
  obtain ⟨a, b, c, d, e, f, g, i, rfl⟩ := eight_of hl
  match k, hk with
  | 0, _ => exact ix0 a b c d e f g i W
  | 1, _ => exact ix1 a b c d e f g i W
  | 2, _ => exact ix2 a b c d e f g i W
  | 3, _ => exact ix3 a b c d e f g i W
  | 4, _ => exact ix4 a b c d e f g i W
  | 5, _ => exact ix5 a b c d e f g i W
  | 6, _ => exact ix6 a b c d e f g i W
  | 7, _ => exact ix7 a b c d e f g i W

set_option maxRecDepth 100000 in
set_option maxHeartbeats 1000000 in
theorem digest_any (w : World) (H : List Int) (hH : H.length = 8) :
    Calls Tryd.prog 42 #[.agg (u32V H).toArray] w fun e w' => e = .returned (.agg (u8V (dig H)).toArray) ∧ Below w.heap.size w w' := by
  obtain ⟨z41, s41⟩ := zero_of_info (P := Tryd.prog) (t := 53) (v := .agg (u8V (zeros 32)).toArray) (n := 32) (by kernel_rfl)
  have HZ := hid s41
  have HHL := hid hH
  have HS23 : Hid ((Tryd.prog.info? 23).map (·.size) = some (u32V H).length) := by
    rw [u32V_length, hH]
    exact hid (show (Tryd.prog.info? 23).map (·.size) = some 8 by kernel_rfl)
  clear s41 hH
  go_enter Tryd.func42, Tryd.ntmps42
  go_upto_region 2 with fail
  have h3 := hp_three w (.cells (u32V H).toArray 23) (.cells (u8V (zeros 32)).toArray 53) (.cells (u8V (zeros 32)).toArray 53)
  refine wp_region_list ?_
  show wpList _ _ _ (_ :: _) _ _
  refine ld_row (by rfl) 23 (.tmp 1) (by rfl) w.heap.size (by rfl) _ 23 h3.1 _ Tryd.underlying23 rfl HS23.out ?_
  have HD := hid (Dg.mk h3.2.1 h3.2.2 ((below_walk2 w _ _).alloc (by rw [hp_size, hp_size]; omega) _) : Dg w (digS H 0) _)
  clear h3
  generalize ((w.alloc (.cells (u32V H).toArray 23)).alloc (.cells (u8V (zeros 32)).toArray 53)).alloc (.cells (u8V (zeros 32)).toArray 53) = wv at HD ⊢
  go_wp2
  go_loopw [7] (fun i wr => ∃ k : Nat, k ≤ 8 ∧ i = .int .i64 k ∧ Dg w (digS H k) wr) (fun i _ => 8 - (intOf i).toNat)
  case atStart => exact ⟨0, by omega, rfl, HD.out⟩
  case round =>
    obtain ⟨k, hk, rfl, hD⟩ := hrel
    clear HD
    have HD := hid hD
    clear hD
    by_cases hlt : k < 8
    · have hix := index_words H k (by rw [HHL.out]; exact hlt) HHL.out
      obtain ⟨x, hx⟩ : ∃ x, x = H.getD k 0 := ⟨_, rfl⟩
      rw [← hx] at hix
      have HX := hid hx
      clear hx
      have hdl := digS_length H k
      have c0 := u8_cell HD.out.blk2 (4 * k) (by omega)
      have c1 := u8_cell HD.out.blk2 (4 * k + 1) (by omega)
      have c2 := u8_cell HD.out.blk2 (4 * k + 2) (by omega)
      have c3 := u8_cell HD.out.blk2 (4 * k + 3) (by omega)
      have f0 := row_fz HD.out.blk2 (4 * k)
      have f1 := row_fz HD.out.blk2 (4 * k + 1)
      have f2 := row_fz HD.out.blk2 (4 * k + 2)
      have f3 := row_fz HD.out.blk2 (4 * k + 3)
      clear hdl
      go_wp2
      refine ⟨⟨k + 1, by omega, by simp, ?_⟩, by simp [intOf]; omega⟩
      have := (((HD.out.step (4 * k) (x / 16777216 % 256)).step (4 * k + 1) (x / 65536 % 256)).step (4 * k + 2) (x / 256 % 256)).step (4 * k + 3) (x % 256)
      rw [HX.out] at this ⊢
      exact this
    · have HD2 : Hid (Dg w (dig H) wr) := by
        have := HD.out
        rwa [show k = 8 by omega] at this
      generalize hj2 : (k : Int) = j2
      have hj64 : ¬ j2 < 8 := by omega
      clear HD hj2 hlt hk
      have HL32 : Hid ((Tryd.prog.info? 53).map (·.size) = some (u8V (dig H)).length) := by rw [u8V_length, dig_length]; exact HZ.out
      go_upto_region 7 with fail
      refine wp_region_list ?_
      show wpList _ _ _ (_ :: _) _ _
      refine ld_row (by rfl) 53 (.tmp 3) (by rfl) (w.heap.size + 1 + 1) (by rfl) _ 53 HD2.out.blk2 _ Tryd.underlying53 rfl HL32.out ?_
      refine st_row (by rfl) 53 (.tmp 2) (.tmp 38) (by rfl) (w.heap.size + 1) _ (by rfl) (by rfl) 53 _ HD2.out.blk1 HL32.out (by simp [u8V_length, dig_length, zeros_length]) (u8V_one _) ?_
      intro w4 hw4
      have HW := hid hw4
      clear hw4
      go_wp2
      refine ret_row 2 53 rfl (w.heap.size + 1) rfl _ 53 HW.out.blk _ Tryd.underlying53 rfl HL32.out rfl ⟨rfl, ?_⟩
      exact HD2.out.bel.grown HW.out.grown HD2.out.bel.size (by intro k hk; cases hk; omega)

end Go.Proofs.YticmdmnjajjpbabDoor
