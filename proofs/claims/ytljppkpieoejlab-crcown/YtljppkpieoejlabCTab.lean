/- makeTable: the table's 256 words. -/
import Derived.Test.YtljppkpieoejlabCFn0
namespace Go.Proofs.Ytljppkpieoejlab
open Go.RowKit

def zerosN (n : Nat) : List Nat := List.replicate n 0
theorem zerosN_length (n : Nat) : (zerosN n).length = n := by simp [zerosN]
/-- the table, as far as it is made: the words at multiples of 2B, and at those of B below L -/
structure Tb (T : List Nat) (B L : Nat) : Prop where
  len : T.length = 256
  at_ : ∀ i, i < 256 → (i % (2 * B) = 0 ∨ (i % B = 0 ∧ i < L)) → T.getD i 0 = shN 8 i
theorem shN_row (j : Nat) (hj : j < 8) : shN (j + 1) 1 = shN 8 (128 / 2 ^ j) := by
  match j, hj with
  | 0, _ => decide +kernel
  | 1, _ => decide +kernel
  | 2, _ => decide +kernel
  | 3, _ => decide +kernel
  | 4, _ => decide +kernel
  | 5, _ => decide +kernel
  | 6, _ => decide +kernel
  | 7, _ => decide +kernel
theorem getD_set (T : List Nat) (i j y : Nat) (hj : j < T.length) : (T.set j y).getD i 0 = if j = i then y else T.getD i 0 := by
  simp only [List.getD_eq_getElem?_getD, List.getElem?_set]
  by_cases h : j = i
  · subst h; simp [hj]
  · simp [h]
theorem tb_step' {T : List Nat} {B L : Nat} (e : Nat) (he : e < 8) (hB : B = 2 ^ e) (h : Tb T B L) (hL : L < 256) (hm : L % (2 * B) = 0) :
    L + B < 256 ∧ (L + 2 * B) % (2 * B) = 0 ∧ L + 2 * B ≤ 256 ∧ Tb (T.set (L + B) (T.getD L 0 ^^^ shN 8 B)) B (L + 2 * B) := by
  have key : L + B < 256 ∧ L + 2 * B ≤ 256 ∧ ∀ i, i < 256 → ¬ L + B = i → (i % (2 * B) = 0 ∨ (i % B = 0 ∧ i < L + 2 * B)) → (i % (2 * B) = 0 ∨ (i % B = 0 ∧ i < L)) := by
    subst hB
    match e, he with
    | 0, _ => simp only [Nat.reducePow, Nat.reduceMul] at hm ⊢; exact ⟨by omega, by omega, fun i h1 h2 h3 => by omega⟩
    | 1, _ => simp only [Nat.reducePow, Nat.reduceMul] at hm ⊢; exact ⟨by omega, by omega, fun i h1 h2 h3 => by omega⟩
    | 2, _ => simp only [Nat.reducePow, Nat.reduceMul] at hm ⊢; exact ⟨by omega, by omega, fun i h1 h2 h3 => by omega⟩
    | 3, _ => simp only [Nat.reducePow, Nat.reduceMul] at hm ⊢; exact ⟨by omega, by omega, fun i h1 h2 h3 => by omega⟩
    | 4, _ => simp only [Nat.reducePow, Nat.reduceMul] at hm ⊢; exact ⟨by omega, by omega, fun i h1 h2 h3 => by omega⟩
    | 5, _ => simp only [Nat.reducePow, Nat.reduceMul] at hm ⊢; exact ⟨by omega, by omega, fun i h1 h2 h3 => by omega⟩
    | 6, _ => simp only [Nat.reducePow, Nat.reduceMul] at hm ⊢; exact ⟨by omega, by omega, fun i h1 h2 h3 => by omega⟩
    | 7, _ => simp only [Nat.reducePow, Nat.reduceMul] at hm ⊢; exact ⟨by omega, by omega, fun i h1 h2 h3 => by omega⟩
  obtain ⟨k1, k2, k3⟩ := key
  refine ⟨k1, by rw [Nat.add_mod_right]; exact hm, k2, ⟨by rw [List.length_set]; exact h.len, fun i hi hc => ?_⟩⟩
  rw [getD_set _ _ _ _ (by rw [h.len]; exact k1)]
  by_cases hi2 : L + B = i
  · rw [if_pos hi2, h.at_ L hL (Or.inl hm), ← shN_xor, ← row_add L B e (by rw [Nat.pow_succ, Nat.mul_comm, ← hB]; exact hm) hB, hi2]
  · rw [if_neg hi2]
    exact h.at_ i hi (k3 i hi hi2 hc)
/-- the step's bit -/
def pb (j : Nat) : Nat := 128 / 2 ^ j
theorem pb_lt (j : Nat) (h : j < 8) : pb j = 2 ^ (7 - j) := by
  unfold pb
  rw [show (128 : Nat) = 2 ^ 7 from rfl, Nat.pow_div (by omega) (by omega)]
theorem pb_end : pb 8 = 0 := rfl
theorem pb_succ (j : Nat) : pb j / 2 = pb (j + 1) := by
  unfold pb
  rw [Nat.div_div_eq_div_mul, Nat.pow_succ]
theorem pb_row (j : Nat) (hj : j < 8) : shN (j + 1) 1 = shN 8 (pb j) := shN_row j hj
/-- the words at multiples of so many -/
structure To (T : List Nat) (j : Nat) : Prop where
  len : T.length = 256
  at_ : ∀ i, i < 256 → i % (256 / 2 ^ j) = 0 → T.getD i 0 = shN 8 i
theorem pb_two (j : Nat) (h : j < 8) : 2 * pb j = 256 / 2 ^ j := by
  rw [pb_lt j h, show (256 : Nat) = 2 ^ 8 from rfl, Nat.pow_div (by omega) (by omega), Nat.mul_comm, ← Nat.pow_succ]
  congr 1
  omega
theorem pb_one (j : Nat) : pb j = 256 / 2 ^ (j + 1) := by
  unfold pb
  rw [Nat.pow_succ, Nat.mul_comm, ← Nat.div_div_eq_div_mul]
theorem to_begin : To (zerosN 256) 0 := by
  refine ⟨zerosN_length _, fun i hi h => ?_⟩
  obtain rfl : i = 0 := by simp only [Nat.pow_zero, Nat.div_one] at h; omega
  rfl
theorem To.inner {T : List Nat} {j : Nat} (h : To T j) (hj : j < 8) : Tb T (pb j) 0 :=
  ⟨h.len, fun i hi hc => h.at_ i hi (by rw [← pb_two j hj]; rcases hc with hc | hc; exact hc; omega)⟩
theorem Tb.outer {T : List Nat} {j L : Nat} (h : Tb T (pb j) L) (hL : 256 ≤ L) : To T (j + 1) :=
  ⟨h.len, fun i hi hc => h.at_ i hi (Or.inr ⟨by rw [pb_one]; exact hc, by omega⟩)⟩
theorem Tb.step {T : List Nat} {j L : Nat} (h : Tb T (pb j) L) (hj : j < 8) (hL : L < 256) (hm : L % (2 * pb j) = 0) :
    L + pb j < 256 ∧ (L + 2 * pb j) % (2 * pb j) = 0 ∧ L + 2 * pb j ≤ 256 ∧ Tb (T.set (L + pb j) (T.getD L 0 ^^^ shN 8 (pb j))) (pb j) (L + 2 * pb j) :=
  tb_step' (7 - j) (by omega) (pb_lt j hj) h hL hm

/-- the whole table -/
structure TabN (T : List Nat) : Prop where
  len : T.length = 256
  at_ : ∀ i, i < 256 → T.getD i 0 = shN 8 i
theorem To.done {T : List Nat} (h : To T 8) : TabN T := ⟨h.len, fun i hi => h.at_ i hi (by omega)⟩

theorem hp_two (w : World) (o p : Obj) : ((w.alloc o).alloc p).heap[w.heap.size]? = some o ∧ ((w.alloc o).alloc p).heap[w.heap.size + 1]? = some p := by
  refine ⟨?_, ?_⟩
  · rw [hp_old _ _ _ (by rw [hp_size]; omega), hp_new]
  · have := hp_new (w.alloc o) p
    rwa [hp_size] at this
/-- while the table is made -/
structure Mk (w : World) (T : List Nat) (wr : World) : Prop where
  b0 : wr.heap[w.heap.size]? = some (.cells (u32N (zerosN 256)).toArray 40 (0, 0))
  b1 : wr.heap[w.heap.size + 1]? = some (.cells (u32N T).toArray 40 (0, 0))
  bel : Below w.heap.size w wr
theorem Mk.step {w : World} {T : List Nat} {wr : World} (h : Mk w T wr) (t x : Nat) : Mk w (T.set t x) (wr.setCell ⟨w.heap.size + 1, t, none⟩ (.int .u32 (x : Int))) := by
  refine ⟨?_, ?_, ?_⟩
  · exact (hp_set wr _ _ _ _ (by omega)).trans h.b0
  · refine (blk_set (w := wr) (i := t) h.b1 (.int .u32 (x : Int))).trans ?_
    simp [← u32N_set]
  · exact h.bel.grown (gb_set wr _ _) h.bel.size (by intro k hk; cases hk; simp only []; omega)

set_option maxRecDepth 100000 in
set_option maxHeartbeats 1000000 in
theorem makeTable_any (w : World) :
    Calls Try.prog 16 #[] w fun e w' => ∃ T, TabN T ∧ e = .returned (.agg (u32N T).toArray) ∧ Below w.heap.size w w' := by
  obtain ⟨z, s⟩ := zero_of_info (P := Try.prog) (t := 40) (v := .agg (u32N (zerosN 256)).toArray) (n := 256) (by kernel_rfl)
  have HZ := hid s
  clear s
  go_enter Try.func16, Try.ntmps16
  go_wp2
  go_loopw [2, 3] (fun vr vb wr => ∃ (j : Nat) (T : List Nat), j ≤ 8 ∧ vr = .int .u32 (shN j 1 : Nat) ∧ vb = .int .i64 (pb j : Nat) ∧ To T j ∧ Mk w T wr) (fun _ vb _ => (intOf vb).toNat)
  case atStart =>
    refine ⟨0, zerosN 256, by omega, rfl, rfl, to_begin, ?_, ?_, ?_⟩
    · exact (hp_two w _ _).1
    · exact (hp_two w _ _).2
    · exact below_walk2 w _ _
  case round =>
    obtain ⟨j, T, hj, rfl, rfl, hT, hM⟩ := hrel
    clear z
    have HM := hid hM
    have HT := hid hT
    clear hM hT
    by_cases hlt : j < 8
    · have hp := pb_lt j hlt
      have hpos : 0 < pb j := by rw [hp]; exact Nat.two_pow_pos _
      have hple : pb j ≤ 128 := Nat.div_le_self _ _
      have HI := hid (HT.out.inner hlt)
      have HR := hid (pb_row j hlt)
      have HS := hid (pb_succ j)
      have HSL := hid (shN_lt (show (1 : Nat) < 4294967296 by omega) j)
      clear hp HT
      go_wp2_with (go_at_call 20; refine (shift_any _ HSL.out _).mono ?_; rintro e w' ⟨rfl, rfl⟩)
      go_loopw [4] (fun vl wr => ∃ (L : Nat) (T : List Nat), L ≤ 256 ∧ Hid (L % (2 * pb j) = 0) ∧ vl = .int .i64 (L : Nat) ∧ Tb T (pb j) L ∧ Mk w T wr) (fun vl _ => 256 - (intOf vl).toNat)
      case atStart => exact ⟨0, T, by omega, Nat.zero_mod _, rfl, HI.out, HM.out⟩
      case round =>
        obtain ⟨L, T, hL, HLM, rfl, hT, hM⟩ := hrel
        clear HM HI
        have HM := hid hM
        have HT := hid hT
        clear hM hT
        by_cases hl2 : L < 256
        · obtain ⟨k1, k2, k3, k4⟩ := HT.out.step hlt hl2 HLM.out
          have HK2 := hid k2
          have HK4 := hid k4
          clear k2 k4
          have c1 := u32N_cell HM.out.b1 L (by rw [HT.out.len]; exact hl2)
          obtain ⟨I, HI⟩ : ∃ I, Hid (I = L + pb j) := ⟨_, rfl⟩
          have hw : IntKind.i64.wrap ((L : Int) + ((pb j : Nat) : Int)) = (I : Int) := by rw [IntKind.wrap_i64, HI.out]; omega
          have hI1 : (I : Int) < 256 := by rw [HI.out]; omega
          have hI0 : (0 : Int) ≤ (I : Int) := by omega
          have f1 := row_fz HM.out.b1 I
          have c2 := u32N_cell HM.out.b1 I (by rw [HT.out.len, HI.out]; exact k1)
          have HX := hid (u32_xor_nat (T.getD L 0) (sh (shN j 1)) (by rw [HT.out.at_ L hl2 (Or.inl HLM.out)]; exact shN_lt (by omega) 8) (sh_lt HSL.out))
          have HN := hid (HM.out.step (L + pb j) (T.getD L 0 ^^^ sh (shN j 1)))
          go_wp2
          refine ⟨⟨L + 2 * pb j, _, k3, HK2, ?_, HK4.out, ?_⟩, ?_⟩
          · exact congrArg (Value.int .i64) (by omega)
          · rw [← HR.out]
            have := HN.out
            rw [← HI.out] at this ⊢
            rw [← HX.out] at this
            exact this
          · simp only [intOf]; omega
        · have HO := hid (HT.out.outer (show 256 ≤ L by omega))
          have hl3 : ¬ (L : Int) < 256 := by omega
          clear HT HLM hl2
          go_wp2
          refine ⟨⟨j + 1, T, hlt, rfl, ?_, HO.out, HM.out⟩, ?_⟩
          · rw [← HS.out]; rfl
          · simp only [intOf]; omega
    · obtain rfl : j = 8 := by omega
      have HD := hid HT.out.done
      rw [pb_end]
      clear HT
      have HL : Hid ((Try.prog.info? 40).map (·.size) = some (u32N T).length) := by rw [u32N_length, HD.out.len]; exact HZ.out
      go_upto_region 11 with fail
      refine wp_region_list ?_
      show wpList _ _ _ (_ :: _) _ _
      refine ld_row (by rfl) 40 (.tmp 1) (by rfl) (w.heap.size + 1) (by rfl) _ 40 HM.out.b1 _ Try.underlying40 rfl HL.out ?_
      refine st_row (by rfl) 40 (.tmp 0) (.tmp 26) (by rfl) w.heap.size _ (by rfl) (by rfl) 40 _ HM.out.b0 HL.out (by rw [List.size_toArray, u32N_length, u32N_length, HD.out.len, zerosN_length]) (u32N_one _) ?_
      intro w4 hw4
      have HWW := hid hw4
      clear hw4
      go_wp2
      refine ret_row 0 40 rfl w.heap.size rfl _ 40 HWW.out.blk _ Try.underlying40 rfl HL.out rfl ⟨T, HD.out, rfl, ?_⟩
      exact HM.out.bel.grown HWW.out.grown HM.out.bel.size (by intro k hk; cases hk; omega)

end Go.Proofs.Ytljppkpieoejlab
