/- The law's words: a digest's eight words. -/
import Derived.Test.YticmdmnjajjpbabDoorSDig
import Derived.StillTailTactics
import Derived.Laws.BitsAllLaws
namespace Go.Proofs.YticmdmnjajjpbabDoor
open Go.RowKit

def wrd1 (d : List Int) (i : Nat) (ws : List Int) : List Int := ws.set (i / 4) (or32 (ws.getD (i / 4) 0 * 256 % 4294967296) (d.getD i 0 % 4294967296))
def wrdS (d : List Int) (n : Nat) : List Int := upN (wrd1 d) n (zeros 8)
theorem wrdS_length (d : List Int) : ∀ n, (wrdS d n).length = 8
  | 0 => zeros_length 8
  | n + 1 => (List.length_set ..).trans (wrdS_length d n)

theorem or_add (x b : Int) (hx : 0 ≤ x) (hx2 : x < 16777216) (hb0 : 0 ≤ b) (hb : b < 256) : or32 (x * 256 % 4294967296) (b % 4294967296) = x * 256 + b := by
  rw [show x * 256 % 4294967296 = x * 256 by omega, show b % 4294967296 = b by omega]
  unfold or32
  rw [u32_or _ _ (by omega) (by omega) hb0 (by omega)]
  have h1 := Nat.two_pow_add_eq_or_of_lt (i := 8) (b := b.toNat) (by omega) x.toNat
  rw [show (x * 256).toNat = 2 ^ 8 * x.toNat by omega, ← h1]
  omega
def wb (h : Int) : Int := or32 (or32 (or32 (or32 (0 * 256 % 4294967296) (h / 16777216 % 256 % 4294967296) * 256 % 4294967296) (h / 65536 % 256 % 4294967296) * 256 % 4294967296) (h / 256 % 256 % 4294967296) * 256 % 4294967296) (h % 256 % 4294967296)
theorem word_back (h : Int) (h0 : 0 ≤ h) (h1 : h < 4294967296) :
    wb h = h := by
  unfold wb
  rw [or_add 0 (h / 16777216 % 256) (by omega) (by omega) (by omega) (by omega), or_add _ (h / 65536 % 256) (by omega) (by omega) (by omega) (by omega), or_add _ (h / 256 % 256) (by omega) (by omega) (by omega) (by omega), or_add _ (h % 256) (by omega) (by omega) (by omega) (by omega)]
  omega
/-- words of 32 bits -/
def In32 (H : List Int) : Prop := ∀ x ∈ H, 0 ≤ x ∧ x < 4294967296
theorem words_eq (a b c d e f g i : Int) : wrdS (dig [a, b, c, d, e, f, g, i]) 32 = [wb a, wb b, wb c, wb d, wb e, wb f, wb g, wb i] := by kernel_rfl
theorem words_back (H : List Int) (hl : H.length = 8) (hi : In32 H) : wrdS (dig H) 32 = H := by
  obtain ⟨a, b, c, d, e, f, g, i, rfl⟩ := eight_of hl
  rw [words_eq, word_back a (hi a (by simp)).1 (hi a (by simp)).2, word_back b (hi b (by simp)).1 (hi b (by simp)).2, word_back c (hi c (by simp)).1 (hi c (by simp)).2, word_back d (hi d (by simp)).1 (hi d (by simp)).2, word_back e (hi e (by simp)).1 (hi e (by simp)).2, word_back f (hi f (by simp)).1 (hi f (by simp)).2, word_back g (hi g (by simp)).1 (hi g (by simp)).2, word_back i (hi i (by simp)).1 (hi i (by simp)).2]

/-- while words goes on -/
structure Wd (w : World) (d ws : List Int) (wr : World) : Prop where
  b0 : wr.heap[w.heap.size]? = some (.cells (u8V d).toArray 53 (0, 0))
  b1 : wr.heap[w.heap.size + 1]? = some (.cells (u32V (zeros 8)).toArray 23 (0, 0))
  b2 : wr.heap[w.heap.size + 1 + 1]? = some (.cells (u32V ws).toArray 23 (0, 0))
  bel : Below w.heap.size w wr
theorem Wd.step {w : World} {d ws : List Int} {wr : World} (h : Wd w d ws wr) (t : Nat) (x : Int) : Wd w d (ws.set t x) (wr.setCell ⟨w.heap.size + 1 + 1, t, none⟩ (.int .u32 x)) := by
  refine ⟨?_, ?_, ?_, ?_⟩
  · exact (hp_set wr _ _ _ _ (by omega)).trans h.b0
  · exact (hp_set wr _ _ _ _ (by omega)).trans h.b1
  · refine (blk_set (w := wr) (i := t) h.b2 (.int .u32 x)).trans ?_
    simp [← u32V_set]
  · exact h.bel.grown (gb_set wr _ _) h.bel.size (by intro k hk; cases hk; simp only []; omega)

set_option maxRecDepth 100000 in
set_option maxHeartbeats 1000000 in
theorem words_any (w : World) (d : List Int) (hd : d.length = 32) :
    Calls Tryd.prog 24 #[.agg (u8V d).toArray] w fun e w' => e = .returned (.agg (u32V (wrdS d 32)).toArray) ∧ Below w.heap.size w w' := by
  obtain ⟨z23, s23⟩ := zero_of_info (P := Tryd.prog) (t := 23) (v := .agg (u32V (zeros 8)).toArray) (n := 8) (by kernel_rfl)
  have HZ := hid s23
  have HDL := hid hd
  clear s23 hd
  go_enter Tryd.func24, Tryd.ntmps24
  go_wp2
  go_loopw [4] (fun i wr => ∃ k : Nat, k ≤ 32 ∧ i = .int .i64 k ∧ Wd w d (wrdS d k) wr) (fun i _ => 32 - (intOf i).toNat)
  case atStart =>
    have h3 := hp_three w (.cells (u8V d).toArray 53) (.cells (u32V (zeros 8)).toArray 23) (.cells (u32V (zeros 8)).toArray 23)
    exact ⟨0, by omega, rfl, h3.1, h3.2.1, h3.2.2, (below_walk2 w _ _).alloc (by rw [hp_size, hp_size]; omega) _⟩
  case round =>
    obtain ⟨k, hk, rfl, hW⟩ := hrel
    have HW := hid hW
    clear hW
    by_cases hlt : k < 32
    · have g8 : (0 : Int) ≤ (k : Int) := by omega
      have g9 : (k : Int) < 32 := by omega
      obtain ⟨q, HQ⟩ : ∃ q, Hid (q = k / 4) := ⟨_, rfl⟩
      have hq8 : q < 8 := by rw [HQ.out]; omega
      have gq : (q : Int) < 8 := by omega
      have gq0 : (0 : Int) ≤ (q : Int) := by omega
      have hq1 : (k : Int).tdiv 4 = (q : Int) := by rw [HQ.out]; rfl
      have hq2 : (k : Int) / 4 = (q : Int) := by rw [HQ.out]; rfl
      have hqw : IntKind.i64.wrap (q : Int) = (q : Int) := i64_id _ (by omega)
      go_upto_region 5 with fail
      obtain ⟨X, HX⟩ : ∃ X : World, Hid (X = { wr with drawn := wr.drawn + 1 }) := ⟨_, rfl⟩
      have HWX := hid (show Wd w d (wrdS d k) X by rw [HX.out]; exact ⟨HW.out.b0, HW.out.b1, HW.out.b2, below_drewN HW.out.bel 1⟩)
      refine wp_region_still_tail 12 (by kernel_rfl) (by kernel_rfl) ?_
      simp only [List.take_succ_cons, List.take_zero, List.drop_succ_cons, List.drop_zero]
      rw [show ({ wr with drawn := wr.drawn + 1 } : World) = X from HX.out.symm]
      obtain ⟨x, c1, HX1⟩ : ∃ x, X.cell? ⟨w.heap.size + 1 + 1, q, none⟩ = some (.int .u32 x) ∧ Hid (x = (wrdS d k).getD q 0) := ⟨_, u32_cell HWX.out.b2 q (by rw [wrdS_length]; omega), rfl⟩
      obtain ⟨y, c2, HY1⟩ : ∃ y, X.cell? ⟨w.heap.size, k, none⟩ = some (.int .u8 y) ∧ Hid (y = d.getD k 0) := ⟨_, u8_cell HWX.out.b0 k (by rw [HDL.out]; omega), rfl⟩
      have f1 := row_fz HWX.out.b2 q
      repeat still_step
      refine wpStill_nil ?_
      go_wp2
      refine ⟨⟨k + 1, by omega, by simp, ?_⟩, by simp [intOf]; omega⟩
      have := HWX.out.step q (or32 (x * 256 % 4294967296) (y % 4294967296))
      rw [HX1.out, HY1.out] at this ⊢
      rw [HQ.out] at this ⊢
      exact this
    · have HW2 : Hid (Wd w d (wrdS d 32) wr) := by
        have := HW.out
        rwa [show k = 32 by omega] at this
      generalize hj2 : (k : Int) = j2
      have hj64 : ¬ j2 < 32 := by omega
      clear HW hj2 hlt hk
      have HL8 : Hid ((Tryd.prog.info? 23).map (·.size) = some (u32V (wrdS d 32)).length) := by rw [u32V_length, wrdS_length]; exact HZ.out
      go_upto_region 6 with fail
      refine wp_region_list ?_
      show wpList _ _ _ (_ :: _) _ _
      refine ld_row (by rfl) 23 (.tmp 3) (by rfl) (w.heap.size + 1 + 1) (by rfl) _ 23 HW2.out.b2 _ Tryd.underlying23 rfl HL8.out ?_
      refine st_row (by rfl) 23 (.tmp 2) (.tmp 22) (by rfl) (w.heap.size + 1) _ (by rfl) (by rfl) 23 _ HW2.out.b1 HL8.out (by rw [List.size_toArray, u32V_length, u32V_length, wrdS_length, zeros_length]) (u32V_one _) ?_
      intro w4 hw4
      have HWW := hid hw4
      clear hw4
      go_wp2
      refine ret_row 2 23 rfl (w.heap.size + 1) rfl _ 23 HWW.out.blk _ Tryd.underlying23 rfl HL8.out rfl ⟨rfl, ?_⟩
      exact HW2.out.bel.grown HWW.out.grown HW2.out.bel.size (by intro k hk; cases hk; omega)

end Go.Proofs.YticmdmnjajjpbabDoor
