/- One block: Compress. -/
import Derived.Test.YticmdmnjajjpbabDoorSSpread
namespace Go.Proofs.YticmdmnjajjpbabDoor
open Go.RowKit

/-- the constants -/
def Ks : List Int := [1116352408, 1899447441, 3049323471, 3921009573, 961987163, 1508970993, 2453635748, 2870763221, 3624381080, 310598401, 607225278, 1426881987, 1925078388, 2162078206, 2614888103, 3248222580, 3835390401, 4022224774, 264347078, 604807628, 770255983, 1249150122, 1555081692, 1996064986, 2554220882, 2821834349, 2952996808, 3210313671, 3336571891, 3584528711, 113926993, 338241895, 666307205, 773529912, 1294757372, 1396182291, 1695183700, 1986661051, 2177026350, 2456956037, 2730485921, 2820302411, 3259730800, 3345764771, 3516065817, 3600352804, 4094571909, 275423344, 430227734, 506948616, 659060556, 883997877, 958139571, 1322822218, 1537002063, 1747873779, 1955562222, 2024104815, 2227730452, 2361852424, 2428436474, 2756734187, 3204031479, 3329325298]
/-- the beginning -/
def Hs : List Int := [1779033703, 3144134277, 1013904242, 2773480762, 1359893119, 2600822924, 528734635, 1541459225]
theorem Ks_length : Ks.length = 64 := by decide
theorem Hs_length : Hs.length = 8 := by decide

/-- the program's two tables lie where they were laid -/
structure Tabs (w : World) : Prop where
  k : w.rangeAt 1 0 (u32V Ks)
  h : w.rangeAt 0 0 (u32V Hs)
theorem range_below {w w' : World} {g o : Nat} {cs : List Value} (h : w.rangeAt g o cs) (hb : Below w.heap.size w w') : w'.rangeAt g o cs := fun j v hv => by
  have := h j v hv
  rw [hb.cell (p := ⟨g, o + j, none⟩) (World.block_lt_of_cell? w _ this)]
  exact this
theorem tab_cell {w : World} {g : Nat} {xs : List Int} (h : w.rangeAt g 0 (u32V xs)) (i : Nat) (hi : i < xs.length) : w.cell? ⟨g, i, none⟩ = some (.int .u32 (xs.getD i 0)) := by
  have := h i (.int .u32 (xs.getD i 0)) (by simp [u32V, List.getD_eq_getElem?_getD, hi])
  rwa [Nat.zero_add] at this
theorem Tabs.below {w w' : World} (h : Tabs w) (hb : Below w.heap.size w w') : Tabs w' := ⟨range_below h.k hb, range_below h.h hb⟩

structure S8 where
  a : Int
  b : Int
  c : Int
  d : Int
  e : Int
  f : Int
  g : Int
  h : Int
/-- one turn of the eight words -/
def rnd (k w : Int) (s : S8) : S8 :=
  ⟨add32 (add32 (add32 (add32 (add32 s.h (gm1 s.e)) (cho s.e s.f s.g)) k) w) (add32 (gm0 s.a) (maj s.a s.b s.c)), s.a, s.b, s.c,
    add32 s.d (add32 (add32 (add32 (add32 s.h (gm1 s.e)) (cho s.e s.f s.g)) k) w), s.e, s.f, s.g⟩
def rnds (W : List Int) (s : S8) (n : Nat) : S8 := upN (fun t s => rnd (Ks.getD t 0) (W.getD t 0) s) n s
/-- what one block makes of eight words -/
def comp : List Int → List Int → List Int
  | [a, b, c, d, e, f, g, h], B =>
    let s := rnds (sprd B) ⟨a, b, c, d, e, f, g, h⟩ 64
    [add32 a s.a, add32 b s.b, add32 c s.c, add32 d s.d, add32 e s.e, add32 f s.f, add32 g s.g, add32 h s.h]
  | H, _ => H
theorem comp_length (H B : List Int) (h : H.length = 8) : (comp H B).length = 8 := by
  match H, h with
  | [a, b, c, d, e, f, g, h], _ => rfl

/-- while Compress goes on: the eight words, the answer's variable, W -/
structure Cmp (w : World) (H B : List Int) (wr : World) (b5 : Nat) : Prop where
  hb : wr.heap[w.heap.size]? = some (.cells (u32V H).toArray 23 (0, 0))
  rb : wr.heap[w.heap.size + 1 + 1]? = some (.cells (u32V (zeros 8)).toArray 23 (0, 0))
  wb : wr.heap[b5]? = some (.cells (u32V (sprd B)).toArray 95 (0, 0))
  tab : Tabs wr
  bel : Below w.heap.size w wr
theorem Cmp.drewN {w : World} {H B : List Int} {wr : World} {b5 : Nat} (h : Cmp w H B wr b5) (n : Nat) : Cmp w H B (wr.drewN n) b5 :=
  ⟨h.hb, h.rb, h.wb, ⟨h.tab.k, h.tab.h⟩, below_drewN h.bel n⟩
theorem cmp_start {w w1 : World} {H B : List Int} (hT : Tabs w)
    (h : Below (((w.alloc (.cells (u32V H).toArray 23)).alloc (.cells (u8V B).toArray 72)).alloc (.cells (u32V (zeros 8)).toArray 23)).heap.size (((w.alloc (.cells (u32V H).toArray 23)).alloc (.cells (u8V B).toArray 72)).alloc (.cells (u32V (zeros 8)).toArray 23)) w1) :
    Cmp w H B (w1.alloc (.cells (u32V (sprd B)).toArray 95)) w1.heap.size := by
  have h3 := hp_three w (.cells (u32V H).toArray 23) (.cells (u8V B).toArray 72) (.cells (u32V (zeros 8)).toArray 23)
  have hs := h.size
  rw [hp_size, hp_size, hp_size] at hs
  have b0 : Below w.heap.size w (((w.alloc (.cells (u32V H).toArray 23)).alloc (.cells (u8V B).toArray 72)).alloc (.cells (u32V (zeros 8)).toArray 23)) := (below_walk2 w _ _).alloc (by rw [hp_size, hp_size]; omega) _
  have b1 : Below w.heap.size w (w1.alloc (.cells (u32V (sprd B)).toArray 95)) := ((b0.trans (h.mono (by rw [hp_size, hp_size, hp_size]; omega)))).alloc (by omega) _
  refine ⟨?_, ?_, hp_new w1 _, hT.below b1, b1⟩
  · rw [hp_old _ _ _ (by omega), h.block _ (by rw [hp_size, hp_size, hp_size]; omega)]; exact h3.1
  · rw [hp_old _ _ _ (by omega), h.block _ (by rw [hp_size, hp_size, hp_size]; omega)]; exact h3.2.2

theorem eight_of {H : List Int} (h : H.length = 8) : ∃ a b c d e f g i, H = [a, b, c, d, e, f, g, i] := by
  match H, h with
  | [a, b, c, d, e, f, g, i], _ => exact ⟨a, b, c, d, e, f, g, i, rfl⟩

theorem store8 {P : Program} {w : World} {g : Nat} {t : TypeId} (hg : w.heap[g]? = some (.cells (u32V (zeros 8)).toArray t (0, 0))) (x0 x1 x2 x3 x4 x5 x6 x7 : Int) :
    Sem.run P (storeCells ⟨g, 0, none⟩ (((((((((u32V (zeros 8)).set 0 (.int .u32 x0)).set 1 (.int .u32 x1)).set 2 (.int .u32 x2)).set 3 (.int .u32 x3)).set 4 (.int .u32 x4)).set 5 (.int .u32 x5)).set 6 (.int .u32 x6)).set 7 (.int .u32 x7))) w
      = .ok () (w.setRow g (u32V [x0, x1, x2, x3, x4, x5, x6, x7]).toArray) := by
  have := run_storeCells_from (P := P) g t (u32V [x0, x1, x2, x3, x4, x5, x6, x7]) 0 _ w hg (by simp [u32V_length, zeros_length]) (u32V_one _)
  simpa [u32V, zeros] using this

set_option maxRecDepth 100000 in
set_option maxHeartbeats 400000 in
theorem compress_any (H B : List Int) (hH : H.length = 8) (hB : B.length = 64) (w : World) (hT : Tabs w) :
    Calls Tryd.prog 50 #[.agg (u32V H).toArray, .agg (u8V B).toArray] w fun e w' => e = .returned (.agg (u32V (comp H B)).toArray) ∧ Below w.heap.size w w' := by
  obtain ⟨z76, s76⟩ := zero_of_info (P := Tryd.prog) (t := 95) (v := .agg (u32V (zeros 64)).toArray) (n := 64) (by kernel_rfl)
  obtain ⟨z23, s23⟩ := zero_of_info (P := Tryd.prog) (t := 23) (v := .agg (u32V (zeros 8)).toArray) (n := 8) (by kernel_rfl)
  have HS76 := hid s76
  have HS23 := hid s23
  have HT := hid hT
  have HB := hid hB
  have HS24 : Hid ((Tryd.prog.info? 72).map (·.size) = some (u8V B).length) := by
    rw [u8V_length, hB]
    exact hid (show (Tryd.prog.info? 72).map (·.size) = some 64 by kernel_rfl)
  clear s76 s23 hT hB
  obtain ⟨h0, h1, h2, h3, h4, h5, h6, h7, rfl⟩ := eight_of hH
  clear hH
  go_enter Tryd.func50, Tryd.ntmps50
  go_upto_region 1 with fail
  refine wp_region_list ?_
  show wpList _ _ _ (_ :: _) _ _
  refine ld_row (by rfl) 72 (.tmp 3) (by rfl) (w.heap.size + 1) (by rfl) (u8V B) 72 (hp_three w _ _ _).2.1 _ Tryd.underlying72 rfl HS24.out ?_
  go_wp2_with fail
  refine (spread_any B HB.out _).mono ?_
  rintro e w1 ⟨rfl, hb⟩
  have HB1 := hid hb
  clear hb
  rename_i Kx hKx
  refine hKx _ _ ?_
  clear hKx
  refine al_row (by rfl) 95 (by rfl) _ z76 ?_
  refine st_new (by rfl) 95 (.tmp 5) (.tmp 18) (by rfl) (u32V (sprd B)) (by rfl) (by rfl) _ _ (by rw [u32V_length, sprd_length]; exact HS76.out) (by simp [u32V_length, sprd_length, zeros_length]) (u32V_one _) ?_
  have HC := hid (cmp_start HT.out HB1.out)
  clear HB1 HT
  generalize w1.alloc (.cells (u32V (sprd B)).toArray 95) = wv at HC ⊢
  generalize w1.heap.size = b5 at HC ⊢
  clear w1
  have c0 := u32_cell HC.out.hb 0 (by simp)
  have c1 := u32_cell HC.out.hb 1 (by simp)
  have c2 := u32_cell HC.out.hb 2 (by simp)
  have c3 := u32_cell HC.out.hb 3 (by simp)
  have c4 := u32_cell HC.out.hb 4 (by simp)
  have c5 := u32_cell HC.out.hb 5 (by simp)
  have c6 := u32_cell HC.out.hb 6 (by simp)
  have c7 := u32_cell HC.out.hb 7 (by simp)
  simp only [List.getD_cons_zero, List.getD_cons_succ] at c0 c1 c2 c3 c4 c5 c6 c7
  go_upto_region 2 with fail
  go_quiet (fail)
  go_wp2
  clear c0 c1 c2 c3 c4 c5 c6 c7
  go_loopw [6, 7, 8, 9, 10, 11, 12, 13, 35] (fun v6 v7 v8 v9 v10 v11 v12 v13 i wx => ∃ (t : Nat) (a b c d e f g i8 : Int), t ≤ 64 ∧ i = .int .i64 t ∧ Cmp w [h0, h1, h2, h3, h4, h5, h6, h7] B wx b5 ∧ Hid (rnds (sprd B) ⟨h0, h1, h2, h3, h4, h5, h6, h7⟩ t = ⟨a, b, c, d, e, f, g, i8⟩) ∧ v6 = .int .u32 a ∧ v7 = .int .u32 b ∧ v8 = .int .u32 c ∧ v9 = .int .u32 d ∧ v10 = .int .u32 e ∧ v11 = .int .u32 f ∧ v12 = .int .u32 g ∧ v13 = .int .u32 i8) (fun _ _ _ _ _ _ _ _ i _ => 64 - (intOf i).toNat)
  case atStart => exact ⟨0, h0, h1, h2, h3, h4, h5, h6, h7, by omega, rfl, HC.out.drewN _, rfl, rfl, rfl, rfl, rfl, rfl, rfl, rfl, rfl⟩
  case round =>
    obtain ⟨t, a, b, c, d, e, f, g, i8, ht, rfl, hC, HE, rfl, rfl, rfl, rfl, rfl, rfl, rfl, rfl⟩ := hrel
    clear HC
    have HC := hid hC
    clear hC
    by_cases hlt : t < 64
    · have g8 : (0 : Int) ≤ (t : Int) := by omega
      have g9 : (t : Int) < 64 := by omega
      obtain ⟨kt, x0, HK⟩ : ∃ kt, wr.cell? ⟨1, t, none⟩ = some (.int .u32 kt) ∧ Hid (kt = Ks.getD t 0) := ⟨_, tab_cell HC.out.tab.k t (by rw [Ks_length]; omega), rfl⟩
      obtain ⟨wt, x1, HW⟩ : ∃ wt, wr.cell? ⟨b5, t, none⟩ = some (.int .u32 wt) ∧ Hid (wt = (sprd B).getD t 0) := ⟨_, u32_cell HC.out.wb t (by rw [sprd_length]; omega), rfl⟩
      go_wp2
      go_quiet (first | (go_at_call 54; exact Calls.quiet_of_same (greatMix1_any _ _)) | (go_at_call 55; exact Calls.quiet_of_same (choice_any _ _ _ _)))
      go_wp2_with fail
      refine (greatMix0_any _ _).mono ?_
      rintro e6 w6 ⟨rfl, rfl⟩
      go_wp2_with fail
      refine (majority_any _ _ _ _).mono ?_
      rintro e6 w6 ⟨rfl, rfl⟩
      go_wp2
      refine ⟨⟨t + 1, _, _, _, _, _, _, _, _, by omega, by simp, HC.out.drewN _, ?_, rfl, rfl, rfl, rfl, rfl, rfl, rfl, rfl⟩, by simp [intOf]; omega⟩
      refine hid ?_
      show rnd (Ks.getD t 0) ((sprd B).getD t 0) (rnds (sprd B) ⟨h0, h1, h2, h3, h4, h5, h6, h7⟩ t) = _
      rw [HE.out, ← HK.out, ← HW.out]
      simp only [rnd, add32]
      congr 1 <;> omega
    · have c0 := u32_cell HC.out.hb 0 (by simp)
      have c1 := u32_cell HC.out.hb 1 (by simp)
      have c2 := u32_cell HC.out.hb 2 (by simp)
      have c3 := u32_cell HC.out.hb 3 (by simp)
      have c4 := u32_cell HC.out.hb 4 (by simp)
      have c5 := u32_cell HC.out.hb 5 (by simp)
      have c6 := u32_cell HC.out.hb 6 (by simp)
      have c7 := u32_cell HC.out.hb 7 (by simp)
      simp only [List.getD_cons_zero, List.getD_cons_succ] at c0 c1 c2 c3 c4 c5 c6 c7
      have hz8 : (u32V (zeros 8)).length = 8 := by rw [u32V_length, zeros_length]
      have hst := store8 (P := Tryd.prog) HC.out.rb
      go_wp2
      have HW := hid (rowSet wr (w.heap.size + 1 + 1) (u32V [(h0 + a) % 4294967296, (h1 + b) % 4294967296, (h2 + c) % 4294967296, (h3 + d) % 4294967296, (h4 + e) % 4294967296, (h5 + f) % 4294967296, (h6 + g) % 4294967296, (h7 + i8) % 4294967296]) _ _ HC.out.rb)
      have eC : comp [h0, h1, h2, h3, h4, h5, h6, h7] B = [(h0 + a) % 4294967296, (h1 + b) % 4294967296, (h2 + c) % 4294967296, (h3 + d) % 4294967296, (h4 + e) % 4294967296, (h5 + f) % 4294967296, (h6 + g) % 4294967296, (h7 + i8) % 4294967296] := by
        have e := HE.out
        rw [show t = 64 by omega] at e
        simp only [comp, e, add32]
      refine ret_row 4 23 rfl (w.heap.size + 1 + 1) rfl _ 23 HW.out.blk _ Tryd.underlying23 rfl HS23.out rfl ⟨by rw [eC], ?_⟩
      exact HC.out.bel.grown HW.out.grown HC.out.bel.size (by intro k hk; cases hk; omega)

end Go.Proofs.YticmdmnjajjpbabDoor
