/- Contracts and pure facts that the proof needs, joined. -/
import Derived.Test.YtjinkahlfigdcaaG6
import Derived.Test.YtjinkahlfigdcaaG2
import Derived.Test.YtjinkahlfigdcaaG5
import Derived.Test.YtjinkahlfigdcaaG3
import Derived.Deep.Cut
import Derived.Deep.CutRange
import Derived.Test.YtjinkahlfigdcaaG1
import Derived.Lib.SmallJoins
import Derived.Test.YtjinkahlfigdcaaG4
import Derived.StillTailTactics
import Derived.Deep.DeepAppendWide

/- The document's body of a hello. -/
namespace Go.Proofs.Ytjinkahlfigdcaa
open Go.RowKit Go.BigFrame

set_option maxRecDepth 100000 in
set_option maxHeartbeats 4000000 in
theorem body1_any (f : Fr) (va : Value) (w : World) (hf : f.tool.length = 32) (hk : f.kind = 1) (V S : Nat) (hv : f.ver = (V : Int)) (hs : f.slots = (S : Int)) (kV : V ≤ 9223372036854775807) (kS : S ≤ 9223372036854775807) :
    Calls Try.prog 26 #[.agg (fcells f va).toArray] w fun e w' => ∃ v, e = .returned v ∧ Src w' v (sn 1 ++ sn V ++ sn S ++ f.tool) ∧ Below w.heap.size w w' := by
  have HNB := hid (hp_new w (.cells (fcells f va).toArray 29))
  have HBL := hid (below_walk w (.cells (fcells f va).toArray 29))
  have HF := hid hf
  have HK := hid hk
  have E_v := hid hv
  have E_s := hid hs
  have len_V := sn_length_le V
  have wr_V : IntKind.u64.wrap (V : Int) = (V : Int) := by rw [IntKind.wrap_u64]; omega
  have len_S := sn_length_le S
  have wr_S : IntKind.u64.wrap (S : Int) = (S : Int) := by rw [IntKind.wrap_u64]; omega
  have len0 := sn_length_le 1
  have w0 : IntKind.u64.wrap 1 = 1 := rfl
  clear hf hk hv hs 
  go_enter Try.func26, Try.ntmps26
  go_upto_region 1 with fail
  generalize w.alloc (.cells (fcells f va).toArray 29) = w1 at HNB HBL  ⊢
  have HFB1 := hid (Fb.of HNB.out HF.out)
  have HL1 := hid (hp_lt HNB.out)
  have x0 := HFB1.out.k
  rw [HK.out] at x0
  go_wp2_with fail
  refine (refUint_any 1 w1 (by decide)).mono ?_
  rintro e w2 ⟨v2, rfl, ho2, hb2⟩
  have HO2 := hid ho2
  have HB2 := hid (below_then HBL.out hb2)
  have HFB2 := hid (HFB1.out.below HL1.out hb2)
  have HL2 := hid (Nat.lt_of_lt_of_le HL1.out hb2.size)
  have HZ2 := hid hb2.size
  have x1 := HFB2.out.k
  rw [HK.out] at x1
  obtain ⟨a2, n2, c2, e2⟩ := src_named (ho2.src (by omega))
  subst e2
  clear ho2 hb2 x0 HFB1 HNB
  have y3 := HFB2.out.v
  rw [E_v.out] at y3
  go_wp2_with fail
  refine (refUint_any V w2 (by omega)).mono ?_
  rintro e p3 ⟨u3, rfl, hou3, hbu3⟩
  have HU3 := hid (hou3.src (by omega))
  have HP3 := hid (HO2.out.below hbu3)
  have HBP3 := hid (below_then HB2.out hbu3)
  have HFP3 := hid (HFB2.out.below HL2.out hbu3)
  have HLP3 := hid (Nat.lt_of_lt_of_le HL2.out hbu3.size)
  have HZP3 := hid (Nat.le_trans HZ2.out hbu3.size)
  obtain ⟨au3, nu3, cu3, eu3⟩ := src_named HU3.out
  subst eu3
  clear hou3 hbu3 y3 HO2 HB2 HFB2 HL2 HZ2  x1
  go_wp2_with (at_builtin; refine app_src rfl _ _ rfl w1.heap.size _ _ rfl HP3.out _ _ rfl HU3.out (by (try simp only [List.length_append]); omega) HZP3.out ?_)
  intro v3 w3 ho3 hg3
  have HO3 := hid ho3
  have hbb3 : Below w1.heap.size p3 w3 := ⟨hg3.os, hg3.tape, hg3.output, hg3.size, fun k hk => hg3.block k (by have := HZP3.out; omega) (fun e => by have := (HP3.out.lt k e.symm).1; omega)⟩
  have HB3 := hid (show Below w.heap.size w w3 from below_tr HBP3.out (hbb3.mono (by have := HBL.out.size; omega)))
  have HFB3 := hid (show Fb w3 w.heap.size f va from fb_at HFP3.out HL1.out hbb3)
  have HL3 := hid (Nat.lt_of_lt_of_le HLP3.out hg3.size)
  have HZ3 := hid (Nat.le_trans HZP3.out hg3.size)
  obtain ⟨a3, n3, c3, e3⟩ := src_named (ho3.src (by (try simp only [List.length_append]); omega))
  subst e3
  clear ho3 hg3 hbb3 HP3 HU3 HBP3 HFP3 HLP3 HZP3 
  have y4 := HFB3.out.s
  rw [E_s.out] at y4
  go_wp2_with fail
  refine (refUint_any S w3 (by omega)).mono ?_
  rintro e p4 ⟨u4, rfl, hou4, hbu4⟩
  have HU4 := hid (hou4.src (by omega))
  have HP4 := hid (HO3.out.below hbu4)
  have HBP4 := hid (below_then HB3.out hbu4)
  have HFP4 := hid (HFB3.out.below HL3.out hbu4)
  have HLP4 := hid (Nat.lt_of_lt_of_le HL3.out hbu4.size)
  have HZP4 := hid (Nat.le_trans HZ3.out hbu4.size)
  obtain ⟨au4, nu4, cu4, eu4⟩ := src_named HU4.out
  subst eu4
  clear hou4 hbu4 y4 HO3 HB3 HFB3 HL3 HZ3  
  go_wp2_with (at_builtin; refine app_src rfl _ _ rfl w1.heap.size _ _ rfl HP4.out _ _ rfl HU4.out (by (try simp only [List.length_append]); omega) HZP4.out ?_)
  intro v4 w4 ho4 hg4
  have HO4 := hid ho4
  have hbb4 : Below w1.heap.size p4 w4 := ⟨hg4.os, hg4.tape, hg4.output, hg4.size, fun k hk => hg4.block k (by have := HZP4.out; omega) (fun e => by have := (HP4.out.lt k e.symm).1; omega)⟩
  have HB4 := hid (show Below w.heap.size w w4 from below_tr HBP4.out (hbb4.mono (by have := HBL.out.size; omega)))
  have HFB4 := hid (show Fb w4 w.heap.size f va from fb_at HFP4.out HL1.out hbb4)
  have HL4 := hid (Nat.lt_of_lt_of_le HLP4.out hg4.size)
  have HZ4 := hid (Nat.le_trans HZP4.out hg4.size)
  obtain ⟨a4, n4, c4, e4⟩ := src_named (ho4.src (by (try simp only [List.length_append]); omega))
  subst e4
  clear ho4 hg4 hbb4 HP4 HU4 HBP4 HFP4 HLP4 HZP4 
  obtain ⟨X, HX⟩ : ∃ X, Hid (sn 1 ++ sn V ++ sn S = X) := ⟨_, rfl⟩
  have HO5 := hid (show OwnB w4 w1.heap.size (.slice a4 n4 c4) X by rw [← HX.out]; first | exact HO4.out | simpa only [List.append_assoc] using HO4.out)
  have hXl : X.length ≤ 30 := by rw [← HX.out]; simp only [List.length_append]; omega
  clear HO4
  go_wp2_with fail
  go_loopw [3, 4] (fun v i wr => ∃ k : Nat, k ≤ 32 ∧ i = .int .i64 k ∧ Hid (OwnB wr w1.heap.size v (X ++ f.tool.take k)) ∧ Hid (Below w.heap.size w wr) ∧ Hid (Fb wr w.heap.size f va) ∧ Hid (w1.heap.size ≤ wr.heap.size)) (fun _ i _ => 32 - (intOf i).toNat)
  case atStart => exact ⟨0, by omega, rfl, hid (by simpa using HO5.out), HB4, HFB4, HZ4⟩
  case round =>
    obtain ⟨k, hk, rfl, HO, HB, HFB, HZ⟩ := hrel
    have HTL := hid (show (f.tool.take k).length ≤ 32 by rw [List.length_take]; omega)
    obtain ⟨av, nv, cv, ev⟩ := src_named (HO.out.src (by rw [List.length_append]; have := HTL.out; omega))
    subst ev
    by_cases hlt : k < 32
    · have hki : (k : Int) < 32 := by omega
      have hd : decide ((k : Int) < 32) = true := by simpa using hki
      have hkt : k < f.tool.length := by rw [HF.out]; exact hlt
      have c1 : wr.cell? ⟨w.heap.size, 4 + k, none⟩ = some (.int .u8 ((f.tool.getD k 0).toNat : Nat)) := HFB.out.t k _ (by rw [bytesV_get, List.getElem?_eq_getElem hkt]; simp [List.getD_eq_getElem?_getD, List.getElem?_eq_getElem hkt])
      have HTK := hid (show f.tool.take k ++ [f.tool.getD k 0] = f.tool.take (k + 1) by rw [List.take_succ_eq_append_getElem hkt, List.getD_eq_getElem?_getD, List.getElem?_eq_getElem hkt]; rfl)
      have hkw : IntKind.i64.wrap ((k : Int) + 1) = (k : Int) + 1 := by rw [IntKind.wrap_i64]; omega
      have hpa : (⟨w.heap.size, 4, none⟩ : Addr).add k = ⟨w.heap.size, 4 + k, none⟩ := Addr.add_mid w.heap.size 4 k
      obtain ⟨T, HT⟩ : ∃ T, Hid (f.tool.getD k 0 = T) := ⟨_, rfl⟩
      rw [HT.out] at c1 HTK
      go_wp2_with (at_builtin; refine app_src rfl _ _ rfl w1.heap.size _ _ rfl (HO.out.below (below_walk wr _)) _ [T] rfl (src_lit (hp_new wr _) rfl (by simp) _ rfl) (by rw [List.length_append]; have := HTL.out; simp; omega) (by have := HZ.out; simp; omega) ?_)
      intro v9 w9 ho9 hg9
      have HO9 := hid (show OwnB w9 w1.heap.size v9 (X ++ f.tool.take (k + 1)) by rw [← HTK.out]; first | exact ho9 | simpa only [List.append_assoc] using ho9)
      have hbb : Below w1.heap.size (wr.alloc (.cells #[.int .u8 (T.toNat : Nat)] 5)) w9 := ⟨hg9.os, hg9.tape, hg9.output, hg9.size, fun j hj => hg9.block j (by have := HZ.out; simp; omega) (fun e => by have := (HO.out.lt j e.symm).1; omega)⟩
      have HB9 := hid (below_tr (below_then HB.out (below_walk wr (.cells #[.int .u8 (T.toNat : Nat)] 5))) (hbb.mono HBL.out.size))
      have HFB9 := hid (show Fb w9 w.heap.size f va from fb_at (HFB.out.below (Nat.lt_of_lt_of_le HL1.out HZ.out) (below_walk wr (.cells #[.int .u8 (T.toNat : Nat)] 5))) HL1.out hbb)
      have HZ9 := hid (show w1.heap.size ≤ w9.heap.size by have := hg9.size; have := HZ.out; simp at *; omega)
      have HT9 := hid (show (f.tool.take (k + 1)).length ≤ 32 by rw [List.length_take]; omega)
      obtain ⟨a9, n9, c9, e9⟩ := src_named (HO9.out.src (by rw [List.length_append]; have := HT9.out; omega))
      subst e9
      clear ho9 hg9 hbb c1 HO HB HFB HZ
      go_wp2
      exact ⟨⟨k + 1, by omega, by simp, HO9, HB9, HFB9, HZ9⟩, by simp [intOf]; omega⟩
    · obtain rfl : k = 32 := by omega
      have HS9 := hid (show Src wr (.slice av nv cv) (sn 1 ++ sn V ++ sn S ++ f.tool) by
        have h9 := HO.out.src (by rw [List.length_append]; have := HTL.out; omega)
        rw [List.take_of_length_le (by rw [HF.out]; omega)] at h9
        rw [HX.out]
        exact h9)
      have xz := HFB.out.k
      rw [HK.out] at xz
      go_wp2
      go_ret
      exact ⟨_, rfl, HS9.out, HB.out⟩

end Go.Proofs.Ytjinkahlfigdcaa

/- A Bye, written by the document. -/
namespace Go.Proofs.Ytjinkahlfigdcaa
open Go.RowKit Go.BigFrame

set_option maxRecDepth 100000 in
set_option maxHeartbeats 4000000 in
theorem onlyBye_any (w : World) :
    Calls Try.prog 45 #[.agg (fcells byeF nS).toArray] w fun e w' => e = .returned (.agg (fcells byeF nS).toArray) ∧ Below w.heap.size w w' := by
  have HNB := hid (hp_two w (.cells (fcells byeF nS).toArray 29) (.cells (fcells zF nS).toArray 29))
  have HBL := hid (below_walk2 w (.cells (fcells byeF nS).toArray 29) (.cells (fcells zF nS).toArray 29))
  have HZ : Hid ((w.alloc (.cells (fcells byeF nS).toArray 29)).heap.size = w.heap.size + 1) := hid (by simp)
  have HSZ := hid (frame_size byeF nS rfl)
  go_enter Try.func45, Try.ntmps45
  go_upto_region 1 with (refine al_row (by rfl) 29 (by rfl) _ zeroFrame ?_)
  try rw [HZ.out]
  generalize (w.alloc (.cells (fcells byeF nS).toArray 29)).alloc (.cells (fcells zF nS).toArray 29) = w2 at HNB HBL ⊢
  have x0 : w2.cell? ⟨w.heap.size, 0, none⟩ = some (.int .i64 5) := (Fb.of HNB.out.1 rfl).k
  have HL2 := hid (hp_lt HNB.out.2)
  go_upto_region 2 with (first
    | (refine bd_row (by rfl) 29 #[(0, .tmp 5)] (by rfl) _ (by simp [Act.eval]) _ built_bye ?_)
    | (refine al_row (by rfl) 29 (by rfl) _ zeroFrame ?_)
    | (refine st_new (by rfl) 29 _ _ (by rfl) (fcells byeF nS) (by rfl) (by rfl) 29 _ HSZ.out rfl (fcells_one byeF nS rfl) ?_))
  have HN1 := hid ((below_walk w2 (.cells (fcells byeF nS).toArray 29)).block _ (by have := HL2.out; omega) |>.trans HNB.out.1)
  have HN2 := hid ((below_walk w2 (.cells (fcells byeF nS).toArray 29)).block _ HL2.out |>.trans HNB.out.2)
  have HN3 := hid (hp_new w2 (.cells (fcells byeF nS).toArray 29))
  have HB3 := hid (below_then HBL.out (below_walk w2 (.cells (fcells byeF nS).toArray 29)))
  obtain ⟨B3, HE3⟩ : ∃ b : Nat, Hid (w2.heap.size = b) := ⟨_, rfl⟩
  rw [HE3.out] at HN3 ⊢
  generalize w2.alloc (.cells (fcells byeF nS).toArray 29) = w3 at HN1 HN2 HN3 HB3 ⊢
  clear x0 HNB HBL HL2
  have x1 : w3.cell? ⟨w.heap.size, 0, none⟩ = some (.int .i64 5) := (Fb.of HN1.out rfl).k
  go_wp2_with (first
    | (refine ld_row (by rfl) 29 (.tmp 3) (by rfl) B3 (by rfl) (fcells byeF nS) 29 HN3.out _ Try.underlying29 rfl HSZ.out ?_)
    | (refine st_row (by rfl) 29 _ _ (by rfl) (w.heap.size + 1) (fcells byeF nS) (by rfl) (by rfl) 29 _ HN2.out HSZ.out rfl (fcells_one byeF nS rfl) ?_; intro w4 hw4))
  refine ret_row 2 29 rfl (w.heap.size + 1) rfl (fcells byeF nS) 29 hw4.blk _ Try.underlying29 rfl HSZ.out rfl ⟨rfl, Below.of_gb HB3.out hw4.grown (by omega)⟩

theorem ruint_five (w : World) : Calls Try.prog 27 #[.int .u64 5] w fun e w' => ∃ ao c, e = .returned (.slice ao 1 c) ∧ OwnB w' w.heap.size (.slice ao 1 c) [5] ∧ Below w.heap.size w w' := by
  refine (refUint_any 5 w (by decide)).mono ?_
  rintro e w' ⟨v, rfl, ho, hb⟩
  have ho' : OwnB w' w.heap.size v [5] := ho
  obtain ⟨ao, c, rfl⟩ := src_shape (ho'.src (by simp))
  exact ⟨ao, c, rfl, ho', hb⟩
theorem ruint_one (w : World) : Calls Try.prog 27 #[.int .u64 1] w fun e w' => ∃ ao c, e = .returned (.slice ao 1 c) ∧ OwnB w' w.heap.size (.slice ao 1 c) [1] ∧ Below w.heap.size w w' := by
  refine (refUint_any 1 w (by decide)).mono ?_
  rintro e w' ⟨v, rfl, ho, hb⟩
  have ho' : OwnB w' w.heap.size v [1] := ho
  obtain ⟨ao, c, rfl⟩ := src_shape (ho'.src (by simp))
  exact ⟨ao, c, rfl, ho', hb⟩

set_option maxRecDepth 100000 in
set_option maxHeartbeats 4000000 in
theorem bodyBye_any (w : World) :
    Calls Try.prog 26 #[.agg (fcells byeF nS).toArray] w fun e w' => ∃ ao c, e = .returned (.slice ao 1 c) ∧ Src w' (.slice ao 1 c) [5] ∧ Below w.heap.size w w' := by
  have HNB := hid (hp_new w (.cells (fcells byeF nS).toArray 29))
  have HBL := hid (below_walk w (.cells (fcells byeF nS).toArray 29))
  go_enter Try.func26, Try.ntmps26
  go_upto_region 1 with fail
  generalize w.alloc (.cells (fcells byeF nS).toArray 29) = w1 at HNB HBL ⊢
  have x0 : w1.cell? ⟨w.heap.size, 0, none⟩ = some (.int .i64 5) := (Fb.of HNB.out rfl).k
  have hw5 : IntKind.u64.wrap 5 = 5 := rfl
  go_wp2_with fail
  refine (ruint_five w1).mono ?_
  rintro e w2 ⟨ao, c, rfl, ho2, hb2⟩
  have HS2 := hid (ho2.src (by simp))
  have HN2 := hid ((hb2.block _ (hp_lt HNB.out)).trans HNB.out)
  have HB2 := hid (below_then HBL.out hb2)
  have x1 : w2.cell? ⟨w.heap.size, 0, none⟩ = some (.int .i64 5) := (Fb.of HN2.out rfl).k
  clear x0 hw5 ho2 hb2 HNB HBL HN2
  go_wp2
  go_ret
  exact ⟨_, _, rfl, HS2.out, HB2.out⟩

theorem rsame_bye (w : World) : Calls Try.prog 18 #[.agg (fcells byeF nS).toArray, .agg (fcells byeF nS).toArray] w fun e w' => e = .returned (.bool true) ∧ Below w.heap.size w w' := by
  have := rsame_any byeF byeF nS nS w rfl rfl (strs_nil w) (strs_nil w) (by simp [byeF])
  rwa [sameP_self] at this

set_option maxRecDepth 100000 in
set_option maxHeartbeats 4000000 in
theorem checkBye_any (w : World) :
    Calls Try.prog 25 #[.agg (fcells byeF nS).toArray] w fun e w' => e = .returned (.int .i64 0) ∧ Below w.heap.size w w' := by
  have HNB := hid (hp_new w (.cells (fcells byeF nS).toArray 29))
  have HBL := hid (below_walk w (.cells (fcells byeF nS).toArray 29))
  have HSZ := hid (frame_size byeF nS rfl)
  go_enter Try.func25, Try.ntmps25
  go_upto_region 1 with fail
  generalize w.alloc (.cells (fcells byeF nS).toArray 29) = w1 at HNB HBL ⊢
  have HL := hid (hp_lt HNB.out)
  have x0 : w1.cell? ⟨w.heap.size, 0, none⟩ = some (.int .i64 5) := (Fb.of HNB.out rfl).k
  have x7 : w1.cell? ⟨w.heap.size, 40, none⟩ = some (.slice none 0 0) := (Fb.of HNB.out rfl).a
  have z0 := fun p : Bel w1 => p.cell x0 HL.out
  have z7 := fun p : Bel w1 => p.cell x7 HL.out
  have ib : Nonempty (Bel w1) := bel_some w1
  have HRA := hid (Bel.range (range_row HNB.out) HL.out)
  clear x0 x7
  refine wp_region_quiet_bel (by kernel_rfl) (by kernel_rfl) ?_
  go_big_quiet_step (fail)
  go_big_quiet_step (fail)
  go_big_quiet_step (fail)
  go_big_quiet_step (fail)
  go_big_quiet_step (fail)
  go_big_quiet_step (fail)
  go_big_quiet_step (fail)
  go_big_quiet_step (fail)
  go_big_quiet_step (fail)
  refine wpQuiet_want (by rfl) fun K hK => quiet_ld 29 (.tmp 1) (by rfl) w.heap.size 0 (by rfl) _ _ HRA.out Try.underlying29 rfl HSZ.out (hK _ ?_)
  simp only [Act.put, List.setIfInBounds_toArray, List.set_cons_succ, List.set_cons_zero]
  refine wpQuiet_want (by rfl) fun K hK => quiet_ld 29 (.tmp 1) (by rfl) w.heap.size 0 (by rfl) _ _ HRA.out Try.underlying29 rfl HSZ.out (hK _ ?_)
  simp only [Act.put, List.setIfInBounds_toArray, List.set_cons_succ, List.set_cons_zero]
  go_big_quiet_step (first | (go_at_call 45; exact bel_of (onlyBye_any _)))
  go_big_quiet_step (first | (go_at_call 18; exact bel_of (rsame_bye _)))
  go_big_quiet_step (fail)
  go_big_quiet_step (fail)
  go_big_quiet_step (fail)
  go_big_quiet_step (fail)
  go_big_quiet_step (fail)
  go_big_quiet_step (fail)
  go_big_quiet_step (fail)
  go_big_quiet_step (fail)
  go_big_quiet_step (fail)
  refine wpQuiet_nil ?_
  rintro w2 ⟨⟨w2', hb2⟩, hw2⟩
  obtain rfl : w2 = w2' := hw2
  have HN2 := hid ((hb2.block _ HL.out).trans HNB.out)
  have HB2 := hid (below_then HBL.out hb2)
  clear hb2 z0 z7 ib HRA HNB HBL HL
  have x0 : w2.cell? ⟨w.heap.size, 0, none⟩ = some (.int .i64 5) := (Fb.of HN2.out rfl).k
  have l1 : w2.cell? ⟨w.heap.size, 37, none⟩ = some (.int .i64 0) := (Fb.of HN2.out rfl).l1
  have l2 : w2.cell? ⟨w.heap.size, 38, none⟩ = some (.int .i64 0) := (Fb.of HN2.out rfl).l2
  have l3 : w2.cell? ⟨w.heap.size, 39, none⟩ = some (.int .i64 0) := (Fb.of HN2.out rfl).l3
  have x7 : w2.cell? ⟨w.heap.size, 40, none⟩ = some (.slice none 0 0) := (Fb.of HN2.out rfl).a
  have x8 : w2.cell? ⟨w.heap.size, 41, none⟩ = some (.string ⟨#[]⟩) := (Fb.of HN2.out rfl).bd
  go_wp2_with fail
  go_loopw [3, 4] (fun b i wr => b = .bool false ∧ i = .int .i64 0 ∧ wr = w2) (fun _ _ _ => 0)
  case atStart => exact ⟨rfl, rfl, rfl⟩
  case round =>
    obtain ⟨rfl, rfl, rfl⟩ := hrel
    have HRG := hid (range_row HN2.out)
    go_wp2_with (refine ld_gd (by rfl) 29 (.tmp 1) (by rfl) w.heap.size 0 (by rfl) _ _ HRG.out Try.underlying29 rfl HSZ.out ?_)
    refine (bodyBye_any wr).mono ?_
    rintro e w3 ⟨ao, c, rfl, hs3, hb3⟩
    have HB3 := hid (below_then HB2.out hb3)
    clear hs3 hb3 x0 l1 l2 l3 x7 x8 HN2 HB2
    go_wp2
    go_ret
    exact ⟨rfl, HB3.out⟩

set_option maxRecDepth 100000 in
set_option maxHeartbeats 4000000 in
theorem rencodeBye_any (w : World) :
    Calls Try.prog 10 #[.agg (fcells byeF nS).toArray] w fun e w' => ∃ v, e = .returned (.tuple #[v, .int .i64 0]) ∧ OwnB w' w.heap.size v (sealP [1, 5]) ∧ Below w.heap.size w w' := by
  have HNB := hid (hp_new w (.cells (fcells byeF nS).toArray 29))
  have HBL := hid (below_walk w (.cells (fcells byeF nS).toArray 29))
  have HSZ := hid (frame_size byeF nS rfl)
  go_enter Try.func10, Try.ntmps10
  go_upto_region 1 with fail
  generalize w.alloc (.cells (fcells byeF nS).toArray 29) = w1 at HNB HBL ⊢
  go_wp2_with (refine ld_row (by rfl) 29 (.tmp 1) (by rfl) w.heap.size (by rfl) (fcells byeF nS) 29 HNB.out _ Try.underlying29 rfl HSZ.out ?_)
  refine (checkBye_any w1).mono ?_
  rintro e w2 ⟨rfl, hb2⟩
  have HN2 := hid ((hb2.block _ (hp_lt HNB.out)).trans HNB.out)
  have HB2 := hid (below_then HBL.out hb2)
  clear hb2 HNB HBL
  go_wp2_with (refine ld_row (by rfl) 29 (.tmp 1) (by rfl) w.heap.size (by rfl) (fcells byeF nS) 29 HN2.out _ Try.underlying29 rfl HSZ.out ?_)
  refine (bodyBye_any w2).mono ?_
  rintro e w3 ⟨ao, c, rfl, hs3, hb3⟩
  have HS3 := hid hs3
  have HB3 := hid (below_then HB2.out hb3)
  have hw1 : IntKind.u64.wrap 1 = 1 := rfl
  clear hs3 hb3 HN2 HB2
  go_wp2_with fail
  refine (ruint_one w3).mono ?_
  rintro e w4 ⟨a4, c4, rfl, ho4, hb4⟩
  have HO4 := hid ho4
  have HS4 := hid (HS3.out.below hb4)
  have HB4 := hid (below_then HB3.out hb4)
  have HZ4 := hid hb4.size
  clear ho4 hb4 HS3
  go_wp2_with (at_builtin; refine app_src rfl _ _ rfl w3.heap.size _ [1] rfl HO4.out _ [5] rfl HS4.out (by simp) HZ4.out ?_)
  intro v5 w5 ho5 hg5
  have hs5 : Src w5 v5 [1, 5] := ho5.src (by simp)
  have HB5 := hid (show Below w.heap.size w w5 from below_tr HB4.out ⟨hg5.os, hg5.tape, hg5.output, hg5.size, fun k hk => hg5.block k (by have := HB3.out.size; have := HZ4.out; omega) (fun e => by have := (HO4.out.lt k e.symm).1; have := HB3.out.size; omega)⟩)
  have HSE := hid (rseal_any w5 v5 [1, 5] hs5 (by simp))
  obtain ⟨a5, c5, e5⟩ := src_shape hs5
  subst e5
  clear ho5 hg5 hs5 HB4 HB3 HZ4 HO4 HS4
  go_wp2_with fail
  refine HSE.out.mono ?_
  rintro e w6 ⟨v6, rfl, ho6, hb6⟩
  have HO6 := hid (ho6.le HB5.out.size)
  have HB7 := hid (below_then HB5.out hb6)
  obtain ⟨a6, c6, e6⟩ := src_shape (ho6.src (by rw [sealP_length]; simp))
  subst e6
  clear ho6 hb6
  go_wp2
  go_ret2
  exact ⟨_, rfl, HO6.out, HB7.out⟩

end Go.Proofs.Ytjinkahlfigdcaa

/- The document's Check of every frame. -/
namespace Go.Proofs.Ytjinkahlfigdcaa
open Go.RowKit Go.BigFrame

def bad1 (f : Fr) : Bool := decide (¬ (1 ≤ f.kind ∧ f.kind ≤ 6) ∨ sameP f (ownF f) = false ∨ 8 < f.args.length)
def bad2 (f : Fr) : Bool := bad1 f || decide (f.lim.1 < 0 ∨ f.lim.2.1 < 0 ∨ f.lim.2.2 < 0)
def bad3 (f : Fr) : Bool := bad2 f || decide (f.kind = 1 ∧ (f.ver ≠ 1 ∨ f.slots < 1 ∨ 64 < f.slots))
def bad4 (f : Fr) : Bool := bad3 f || decide (f.kind = 3 ∧ (f.status < 1 ∨ 3 < f.status ∨ (f.status ≠ 1 ∧ f.body ≠ [])))
theorem bad_ok (f : Fr) : (bad4 f || longA f.args) = !okFr f := by
  by_cases hk : 1 ≤ f.kind ∧ f.kind ≤ 6
  · by_cases hs : sameP f (ownF f) = true
    · have e := same_eq hs
      have hc : f.kind = 1 ∨ f.kind = 2 ∨ f.kind = 3 ∨ f.kind = 4 ∨ f.kind = 5 ∨ f.kind = 6 := by omega
      unfold bad4 bad3 bad2 bad1 okFr
      rw [hs, decide_eq_true hk]
      simp only [hk, Bool.true_and]
      rcases hc with k | k | k | k | k | k
      · rw [mayF_1 f k, own_1 f k] at *
        have eA := congrArg Fr.args e
        have eL := congrArg Fr.lim e
        simp only at eA eL
        rw [Bool.eq_iff_iff]
        simp [eA, eL, mayHelloP, longA, k]
        try omega
      · rw [mayF_2 f k]
        rw [Bool.eq_iff_iff]
        cases hl : longA f.args <;> simp [mayReqP, k, hl] <;> omega
      · rw [mayF_3 f k, own_3 f k] at *
        have eA := congrArg Fr.args e
        have eL := congrArg Fr.lim e
        simp only [resF] at eA eL
        rw [Bool.eq_iff_iff]
        by_cases hb : f.body = []
        · simp [eA, eL, mayResP, longA, k, hb]
          omega
        · simp [eA, eL, mayResP, longA, k, hb]
          omega
      · rw [mayF_4 f k, own_4 f k] at *
        have eA := congrArg Fr.args e
        have eL := congrArg Fr.lim e
        simp only [canF] at eA eL
        simp [eA, eL, longA, k]
      · rw [mayF_5 f k, own_5 f k] at *
        have eA := congrArg Fr.args e
        have eL := congrArg Fr.lim e
        simp only [byeF] at eA eL
        simp [eA, eL, longA, k]
      · rw [mayF_6 f k, own_6 f k] at *
        have eA := congrArg Fr.args e
        have eL := congrArg Fr.lim e
        simp only [noteF] at eA eL
        simp [eA, eL, longA, k]
    · have hs' : sameP f (ownF f) = false := by simpa using hs
      unfold bad4 bad3 bad2 bad1 okFr
      simp [hs']
  · unfold bad4 bad3 bad2 bad1 okFr
    rw [decide_eq_true (show ¬ (1 ≤ f.kind ∧ f.kind ≤ 6) ∨ sameP f (ownF f) = false ∨ 8 < f.args.length from Or.inl hk), decide_eq_false hk]
    rfl

set_option maxRecDepth 100000 in
set_option maxHeartbeats 4000000 in
theorem body5_any (f : Fr) (va : Value) (w : World) (hf : f.tool.length = 32) (hk : f.kind = 5) :
    Calls Try.prog 26 #[.agg (fcells f va).toArray] w fun e w' => ∃ v, e = .returned v ∧ Src w' v (sn 5) ∧ Below w.heap.size w w' := by
  have HNB := hid (hp_new w (.cells (fcells f va).toArray 29))
  have HBL := hid (below_walk w (.cells (fcells f va).toArray 29))
  go_enter Try.func26, Try.ntmps26
  go_upto_region 1 with fail
  generalize w.alloc (.cells (fcells f va).toArray 29) = w1 at HNB HBL ⊢
  have x0 : w1.cell? ⟨w.heap.size, 0, none⟩ = some (.int .i64 5) := by have := (Fb.of HNB.out hf).k; rw [hk] at this; exact this
  have hw5 : IntKind.u64.wrap 5 = 5 := rfl
  have HF := hid hf
  have HK := hid hk
  clear hk hf
  go_wp2_with fail
  refine (ruint_five w1).mono ?_
  rintro e w2 ⟨ao, c, rfl, ho2, hb2⟩
  have HS2 := hid (ho2.src (by simp))
  have HN2 := hid ((hb2.block _ (hp_lt HNB.out)).trans HNB.out)
  have HB2 := hid (below_then HBL.out hb2)
  have x1 : w2.cell? ⟨w.heap.size, 0, none⟩ = some (.int .i64 5) := by have := (Fb.of HN2.out HF.out).k; rw [HK.out] at this; exact this
  clear x0 hw5 ho2 hb2 HNB HBL HN2
  go_wp2
  go_ret
  exact ⟨_, rfl, HS2.out, HB2.out⟩

/-- the document's body of a frame that may be -/
theorem rbodyF_any (f : Fr) (va : Value) (W : World) (hr : Rng f) (ha : Strs W va f.args) (hk : 1 ≤ f.kind ∧ f.kind ≤ 6) (hm : mayF f = true) (hB : f.body.length ≤ 2097152) :
    Calls Try.prog 26 #[.agg (fcells f va).toArray] W fun e w' => ∃ v, e = .returned v ∧ Src w' v (bodyP f) ∧ Below W.heap.size W w' := by
  have hc : f.kind = 1 ∨ f.kind = 2 ∨ f.kind = 3 ∨ f.kind = 4 ∨ f.kind = 5 ∨ f.kind = 6 := by omega
  unfold bodyP
  rcases hc with k | k | k | k | k | k
  · rw [mayF_1 f k] at hm
    have h := mayHello_of hm
    rw [lay_1 f k, k, sns_two, ← List.append_assoc, ← List.append_assoc]
    exact body1_any f va W hr.tool k f.ver.toNat f.slots.toNat (toNat_eq (by omega)) (toNat_eq (by omega)) (by have := hr.ver; omega) (by have := hr.slots; omega)
  · rw [mayF_2 f k] at hm
    have h := mayReq_of hm
    rw [lay_2 f k, k]
    unfold layReqP
    rw [sns_thr]
    simp only [← List.append_assoc]
    exact body2_any f va W hr.tool k f.id.toNat f.lim.1.toNat f.lim.2.1.toNat f.lim.2.2.toNat (toNat_eq hr.idl) (by have := hr.idh; omega) (toNat_eq h.1) (toNat_eq h.2.1) (toNat_eq h.2.2.1) (by have := hr.l1; omega) (by have := hr.l2; omega) (by have := hr.l3; omega) ha (args_len h.2.2.2.2 h.2.2.2.1) hB
  · rw [mayF_3 f k] at hm
    have h := mayRes_of hm
    rw [lay_3 f k, k, sns_one]
    simp only [← List.append_assoc]
    exact body3_any f va W hr.tool k f.id.toNat f.status.toNat (toNat_eq hr.idl) (by have := hr.idh; omega) (toNat_eq (by omega)) (by have := hr.status; omega) hB
  · rw [lay_4 f k, k]
    exact body4_any f va W hr.tool k f.id.toNat (toNat_eq hr.idl) (by have := hr.idh; omega)
  · rw [lay_5 f k, k, List.append_nil]
    exact body5_any f va W hr.tool k
  · rw [lay_6 f k, k]
    exact body6_any f va W hr.tool k hB
end Go.Proofs.Ytjinkahlfigdcaa

/- The document's Check of every frame. -/
namespace Go.Proofs.Ytjinkahlfigdcaa
open Go.RowKit Go.BigFrame

theorem body_gt (f : Fr) (ho : okFr f = true) (h : 2097152 < f.body.length) : 2097152 < (bodyP f).length := by
  obtain ⟨hk, hs, hm⟩ := okFr_of ho
  rcases Nat.lt_or_ge 2097152 (bodyP f).length with h1 | h1
  · exact h1
  · exfalso
    have hc : (f.kind = 1 ∨ f.kind = 4 ∨ f.kind = 5) ∨ (f.kind = 2 ∨ f.kind = 3 ∨ f.kind = 6) := by omega
    rcases hc with k | k
    · rw [same_own_body hs k] at h
      simp at h
    · have := body_le f k h1
      omega
theorem bad1_kind (f : Fr) (h : ¬ (1 ≤ f.kind ∧ f.kind ≤ 6)) : bad1 f = true := by
  unfold bad1
  exact decide_eq_true (Or.inl h)
theorem bad1_same (f : Fr) (h : sameP f (ownF f) = false) : bad1 f = true := by
  unfold bad1
  exact decide_eq_true (Or.inr (Or.inl h))
theorem long_take {A : List (List UInt8)} {k : Nat} (h : longA (A.take k) = true) : longA A = true := by
  unfold longA at h ⊢
  rw [List.any_eq_true] at h ⊢
  obtain ⟨x, hx, hp⟩ := h
  exact ⟨x, List.mem_of_mem_take hx, hp⟩

set_option maxRecDepth 100000 in
set_option maxHeartbeats 8000000 in
theorem rcheckF_any (f : Fr) (va : Value) (w : World) (hr : Rng f) (ha : Strs w va f.args) :
    Calls Try.prog 25 #[.agg (fcells f va).toArray] w fun e w' => e = .returned (.int .i64 (chkE f)) ∧ Below w.heap.size w w' := by
  obtain ⟨ao, c, rfl⟩ := ha.shape
  have HNB := hid (hp_new w (.cells (fcells f (.slice ao f.args.length c)).toArray 29))
  have HBL := hid (below_walk w (.cells (fcells f (.slice ao f.args.length c)).toArray 29))
  have HSZ := hid (frame_size f (.slice ao f.args.length c) hr.tool)
  have HR := hid hr
  have HA := hid ha
  clear ha hr
  go_enter Try.func25, Try.ntmps25
  go_upto_region 1 with fail
  have HA1 := hid (HA.out.below HBL.out)
  generalize w.alloc (.cells (fcells f (.slice ao f.args.length c)).toArray 29) = w1 at HNB HBL HA1 ⊢
  have HL := hid (hp_lt HNB.out)
  go_cut [3] from 5 (fun s3 wx => s3 = .bool (bad1 f) ∧ Below w1.heap.size w1 wx)
  case first =>
    as_aux_lemma =>
      have x0 : w1.cell? ⟨w.heap.size, 0, none⟩ = some (.int .i64 f.kind) := (Fb.of HNB.out HR.out.tool).k
      have x7 : w1.cell? ⟨w.heap.size, 40, none⟩ = some (.slice ao f.args.length c) := (Fb.of HNB.out HR.out.tool).a
      have z0 := fun p : Bel w1 => p.cell x0 HL.out
      have z7 := fun p : Bel w1 => p.cell x7 HL.out
      have ib : Nonempty (Bel w1) := bel_some w1
      have HRA := hid (Bel.range (range_row HNB.out) HL.out)
      clear x0 x7
      by_cases h1 : f.kind < 1
      · have q1 : decide (f.kind < 1) = true := decide_eq_true h1
        have HB := hid ((bad1_kind f (fun h => by omega)).symm)
        refine wp_region_quiet_bel (by kernel_rfl) (by kernel_rfl) ?_
        repeat (go_big_quiet_step (fail))
        refine wpQuiet_nil ?_
        rintro w2 ⟨⟨w2', hb2⟩, hw2⟩
        obtain rfl : w2 = w2' := hw2
        go_wp2
        go_meet
        case rel => exact ⟨congrArg Value.bool HB.out, hb2⟩
      · by_cases h6 : 6 < f.kind
        · have q1 : decide (f.kind < 1) = false := decide_eq_false h1
          have q2 : decide (6 < f.kind) = true := decide_eq_true h6
          have HB := hid ((bad1_kind f (fun h => by omega)).symm)
          refine wp_region_quiet_bel (by kernel_rfl) (by kernel_rfl) ?_
          repeat (go_big_quiet_step (fail))
          refine wpQuiet_nil ?_
          rintro w2 ⟨⟨w2', hb2⟩, hw2⟩
          obtain rfl : w2 = w2' := hw2
          go_wp2
          go_meet
          case rel => exact ⟨congrArg Value.bool HB.out, hb2⟩
        · have q1 : decide (f.kind < 1) = false := decide_eq_false h1
          have q2 : decide (6 < f.kind) = false := decide_eq_false h6
          have HON := hid (fun p : Bel w1 => only_any f (.slice ao f.args.length c) p.out ⟨by omega, by omega⟩ HR.out.tool ⟨_, _, _, rfl⟩)
          have HSM := hid (fun p : Bel w1 => rsame_own f (.slice ao f.args.length c) p.out HR.out.tool (HA1.out.below p.bel) HR.out.many)
          obtain ⟨S, HS⟩ : ∃ S, Hid (sameP f (ownF f) = S) := ⟨_, rfl⟩
          rw [HS.out] at HSM
          cases S with
          | false =>
            have HB := hid ((bad1_same f HS.out).symm)
            refine wp_region_quiet_bel (by kernel_rfl) (by kernel_rfl) ?_
            go_big_quiet_step (fail)
            go_big_quiet_step (fail)
            go_big_quiet_step (fail)
            go_big_quiet_step (fail)
            go_big_quiet_step (fail)
            go_big_quiet_step (fail)
            go_big_quiet_step (fail)
            go_big_quiet_step (fail)
            go_big_quiet_step (fail)
            refine wpQuiet_want (by rfl) fun K hK => quiet_ld 29 (.tmp 1) (by rfl) w.heap.size 0 (by rfl) _ _ HRA.out Try.underlying29 rfl HSZ.out (hK _ ?_)
            simp only [Act.put, List.setIfInBounds_toArray, List.set_cons_succ, List.set_cons_zero]
            refine wpQuiet_want (by rfl) fun K hK => quiet_ld 29 (.tmp 1) (by rfl) w.heap.size 0 (by rfl) _ _ HRA.out Try.underlying29 rfl HSZ.out (hK _ ?_)
            simp only [Act.put, List.setIfInBounds_toArray, List.set_cons_succ, List.set_cons_zero]
            go_big_quiet_step (first | (go_at_call 45; exact bel_of (HON.out _)))
            go_big_quiet_step (first | (go_at_call 18; exact bel_of (HSM.out _)))
            go_big_quiet_step (fail)
            go_big_quiet_step (fail)
            go_big_quiet_step (fail)
            go_big_quiet_step (fail)
            go_big_quiet_step (fail)
            go_big_quiet_step (fail)
            go_big_quiet_step (fail)
            go_big_quiet_step (fail)
            go_big_quiet_step (fail)
            refine wpQuiet_nil ?_
            rintro w2 ⟨⟨w2', hb2⟩, hw2⟩
            obtain rfl : w2 = w2' := hw2
            go_wp2
            go_meet
            case rel => exact ⟨congrArg Value.bool HB.out, hb2⟩
          | true =>
            have HB := hid (show decide ((8 : Int) < (f.args.length : Int)) = bad1 f by
              unfold bad1
              rw [HS.out]
              refine decide_eq_decide.2 ⟨fun h => Or.inr (Or.inr (by omega)), fun h => ?_⟩
              rcases h with h | h | h
              · exact absurd (⟨by omega, by omega⟩ : 1 ≤ f.kind ∧ f.kind ≤ 6) h
              · cases h
              · omega)
            refine wp_region_quiet_bel (by kernel_rfl) (by kernel_rfl) ?_
            go_big_quiet_step (fail)
            go_big_quiet_step (fail)
            go_big_quiet_step (fail)
            go_big_quiet_step (fail)
            go_big_quiet_step (fail)
            go_big_quiet_step (fail)
            go_big_quiet_step (fail)
            go_big_quiet_step (fail)
            go_big_quiet_step (fail)
            refine wpQuiet_want (by rfl) fun K hK => quiet_ld 29 (.tmp 1) (by rfl) w.heap.size 0 (by rfl) _ _ HRA.out Try.underlying29 rfl HSZ.out (hK _ ?_)
            simp only [Act.put, List.setIfInBounds_toArray, List.set_cons_succ, List.set_cons_zero]
            refine wpQuiet_want (by rfl) fun K hK => quiet_ld 29 (.tmp 1) (by rfl) w.heap.size 0 (by rfl) _ _ HRA.out Try.underlying29 rfl HSZ.out (hK _ ?_)
            simp only [Act.put, List.setIfInBounds_toArray, List.set_cons_succ, List.set_cons_zero]
            go_big_quiet_step (first | (go_at_call 45; exact bel_of (HON.out _)))
            go_big_quiet_step (first | (go_at_call 18; exact bel_of (HSM.out _)))
            go_big_quiet_step (fail)
            go_big_quiet_step (fail)
            go_big_quiet_step (fail)
            go_big_quiet_step (fail)
            go_big_quiet_step (fail)
            go_big_quiet_step (fail)
            go_big_quiet_step (fail)
            go_big_quiet_step (fail)
            go_big_quiet_step (fail)
            refine wpQuiet_nil ?_
            rintro w2 ⟨⟨w2', hb2⟩, hw2⟩
            obtain rfl : w2 = w2' := hw2
            go_wp2
            go_meet
            case rel => exact ⟨congrArg Value.bool HB.out, hb2⟩
  case rest =>
    as_aux_lemma =>
      obtain ⟨rfl, hb2⟩ := hcut
      have HN2 := hid ((hb2.block _ HL.out).trans HNB.out)
      have HA2 := hid (HA1.out.below hb2)
      have HB2 := hid (below_then HBL.out hb2)
      clear hb2 HA1 HBL HNB HL
      have HFB := hid (Fb.of HN2.out HR.out.tool)
      have x0 := HFB.out.k
      have x2 := HFB.out.v
      have x3 := HFB.out.s
      have x5 := HFB.out.st
      have l1 := HFB.out.l1
      have l2 := HFB.out.l2
      have l3 := HFB.out.l3
      have x7 := HFB.out.a
      have x8 := HFB.out.bd
      clear HFB
      obtain ⟨b1, Hb1⟩ : ∃ b, Hid (bad1 f = b) := ⟨_, rfl⟩
      rw [Hb1.out]
      go_upto_region 2 with fail
      go_cut [3] from 5 (fun s3 wx => s3 = .bool (bad2 f) ∧ wx = wc)
      case first =>
        as_aux_lemma =>
          clear HN2 HA2 HB2 HSZ
          cases b1 with
          | true =>
            have HX := hid (show true = bad2 f from by unfold bad2; rw [Hb1.out]; rfl)
            as_aux_lemma =>
              go_wp2
              go_meet
              case rel => exact ⟨congrArg Value.bool HX.out, rfl⟩
          | false =>
            by_cases a1 : f.lim.1 < 0
            · have da1 : decide (f.lim.1 < 0) = true := decide_eq_true a1
              have HX := hid (show true = bad2 f from by unfold bad2; rw [Hb1.out, decide_eq_true (Or.inl a1)]; rfl)
              as_aux_lemma =>
                go_wp2
                go_meet
                case rel => exact ⟨congrArg Value.bool HX.out, rfl⟩
            · have da1 : decide (f.lim.1 < 0) = false := decide_eq_false a1
              by_cases a2 : f.lim.2.1 < 0
              · have da2 : decide (f.lim.2.1 < 0) = true := decide_eq_true a2
                have HX := hid (show true = bad2 f from by unfold bad2; rw [Hb1.out, decide_eq_true (Or.inr (Or.inl a2))]; rfl)
                as_aux_lemma =>
                  go_wp2
                  go_meet
                  case rel => exact ⟨congrArg Value.bool HX.out, rfl⟩
              · have da2 : decide (f.lim.2.1 < 0) = false := decide_eq_false a2
                by_cases a3 : f.lim.2.2 < 0
                · have da3 : decide (f.lim.2.2 < 0) = true := decide_eq_true a3
                  have HX := hid (show true = bad2 f from by unfold bad2; rw [Hb1.out, decide_eq_true (Or.inr (Or.inr a3))]; rfl)
                  as_aux_lemma =>
                    go_wp2
                    go_meet
                    case rel => exact ⟨congrArg Value.bool HX.out, rfl⟩
                · have da3 : decide (f.lim.2.2 < 0) = false := decide_eq_false a3
                  have HX := hid (show false = bad2 f from by unfold bad2; rw [Hb1.out, decide_eq_false (by rintro (h | h | h) <;> omega)]; rfl)
                  as_aux_lemma =>
                    go_wp2
                    go_meet
                    case rel => exact ⟨congrArg Value.bool HX.out, rfl⟩
      case rest =>
        as_aux_lemma =>
          obtain ⟨rfl, rfl⟩ := hcut
          clear Hb1
          obtain ⟨b2, Hb2⟩ : ∃ b, Hid (bad2 f = b) := ⟨_, rfl⟩
          rw [Hb2.out]
          go_upto_region 3 with fail
          go_cut [3] from 5 (fun s3 wx => s3 = .bool (bad3 f) ∧ wx = wc)
          case first =>
            as_aux_lemma =>
              clear HN2 HA2 HB2 HSZ
              cases b2 with
              | true =>
                have HX := hid (show true = bad3 f from by unfold bad3; rw [Hb2.out]; rfl)
                as_aux_lemma =>
                  go_wp2
                  go_meet
                  case rel => exact ⟨congrArg Value.bool HX.out, rfl⟩
              | false =>
                by_cases a0 : f.kind = 1
                · have da0 : decide (f.kind = 1) = true := decide_eq_true a0
                  have ea0 : (f.kind == 1) = true := by simpa using a0
                  have ga0 : (f.kind != 1) = false := by simpa using a0
                  by_cases a1 : f.ver = 1
                  · have da1 : decide (f.ver = 1) = true := decide_eq_true a1
                    have ea1 : (f.ver == 1) = true := by simpa using a1
                    have ga1 : (f.ver != 1) = false := by simpa using a1
                    by_cases a2 : f.slots < 1
                    · have da2 : decide (f.slots < 1) = true := decide_eq_true a2
                      have HX := hid (show true = bad3 f from by unfold bad3; rw [Hb2.out, decide_eq_true (⟨a0, Or.inr (Or.inl a2)⟩)]; rfl)
                      as_aux_lemma =>
                        go_wp2
                        go_meet
                        case rel => exact ⟨congrArg Value.bool HX.out, rfl⟩
                    · have da2 : decide (f.slots < 1) = false := decide_eq_false a2
                      by_cases a3 : 64 < f.slots
                      · have da3 : decide (64 < f.slots) = true := decide_eq_true a3
                        have HX := hid (show true = bad3 f from by unfold bad3; rw [Hb2.out, decide_eq_true (⟨a0, Or.inr (Or.inr a3)⟩)]; rfl)
                        as_aux_lemma =>
                          go_wp2
                          go_meet
                          case rel => exact ⟨congrArg Value.bool HX.out, rfl⟩
                      · have da3 : decide (64 < f.slots) = false := decide_eq_false a3
                        have HX := hid (show false = bad3 f from by unfold bad3; rw [Hb2.out, decide_eq_false (by rintro ⟨_, h | h | h⟩ <;> omega)]; rfl)
                        as_aux_lemma =>
                          go_wp2
                          go_meet
                          case rel => exact ⟨congrArg Value.bool HX.out, rfl⟩
                  · have da1 : decide (f.ver = 1) = false := decide_eq_false a1
                    have ea1 : (f.ver == 1) = false := by simpa using a1
                    have ga1 : (f.ver != 1) = true := by simpa using a1
                    have HX := hid (show true = bad3 f from by unfold bad3; rw [Hb2.out, decide_eq_true (⟨a0, Or.inl a1⟩)]; rfl)
                    as_aux_lemma =>
                      go_wp2
                      go_meet
                      case rel => exact ⟨congrArg Value.bool HX.out, rfl⟩
                · have da0 : decide (f.kind = 1) = false := decide_eq_false a0
                  have ea0 : (f.kind == 1) = false := by simpa using a0
                  have ga0 : (f.kind != 1) = true := by simpa using a0
                  have HX := hid (show false = bad3 f from by unfold bad3; rw [Hb2.out, decide_eq_false (fun h => a0 h.1)]; rfl)
                  as_aux_lemma =>
                    go_wp2
                    go_meet
                    case rel => exact ⟨congrArg Value.bool HX.out, rfl⟩
          case rest =>
            as_aux_lemma =>
              obtain ⟨rfl, rfl⟩ := hcut
              clear Hb2
              obtain ⟨b3, Hb3⟩ : ∃ b, Hid (bad3 f = b) := ⟨_, rfl⟩
              rw [Hb3.out]
              go_upto_region 4 with fail
              go_cut [3] from 5 (fun s3 wx => s3 = .bool (bad4 f) ∧ wx = wc)
              case first =>
                as_aux_lemma =>
                  clear HN2 HA2 HB2 HSZ
                  cases b3 with
                  | true =>
                    have HX := hid (show true = bad4 f from by unfold bad4; rw [Hb3.out]; rfl)
                    as_aux_lemma =>
                      go_wp2
                      go_meet
                      case rel => exact ⟨congrArg Value.bool HX.out, rfl⟩
                  | false =>
                    by_cases a0 : f.kind = 3
                    · have da0 : decide (f.kind = 3) = true := decide_eq_true a0
                      have ea0 : (f.kind == 3) = true := by simpa using a0
                      have ga0 : (f.kind != 3) = false := by simpa using a0
                      by_cases a1 : f.status < 1
                      · have da1 : decide (f.status < 1) = true := decide_eq_true a1
                        have HX := hid (show true = bad4 f from by unfold bad4; rw [Hb3.out, decide_eq_true (⟨a0, Or.inl a1⟩)]; rfl)
                        as_aux_lemma =>
                          go_wp2
                          go_meet
                          case rel => exact ⟨congrArg Value.bool HX.out, rfl⟩
                      · have da1 : decide (f.status < 1) = false := decide_eq_false a1
                        by_cases a2 : 3 < f.status
                        · have da2 : decide (3 < f.status) = true := decide_eq_true a2
                          have HX := hid (show true = bad4 f from by unfold bad4; rw [Hb3.out, decide_eq_true (⟨a0, Or.inr (Or.inl a2)⟩)]; rfl)
                          as_aux_lemma =>
                            go_wp2
                            go_meet
                            case rel => exact ⟨congrArg Value.bool HX.out, rfl⟩
                        · have da2 : decide (3 < f.status) = false := decide_eq_false a2
                          by_cases a3 : f.status = 1
                          · have da3 : decide (f.status = 1) = true := decide_eq_true a3
                            have ea3 : (f.status == 1) = true := by simpa using a3
                            have ga3 : (f.status != 1) = false := by simpa using a3
                            have HX := hid (show false = bad4 f from by unfold bad4; rw [Hb3.out, decide_eq_false (by rintro ⟨_, h | h | h⟩ <;> omega)]; rfl)
                            as_aux_lemma =>
                              go_wp2
                              go_meet
                              case rel => exact ⟨congrArg Value.bool HX.out, rfl⟩
                          · have da3 : decide (f.status = 1) = false := decide_eq_false a3
                            have ea3 : (f.status == 1) = false := by simpa using a3
                            have ga3 : (f.status != 1) = true := by simpa using a3
                            by_cases a4 : f.body = []
                            · have e4 : (mk f.body).toList = [] := (bl_mk f.body).trans a4
                              have e5 : ((mk f.body).toList == []) = true := by rw [e4]; rfl
                              have e6 : (mk f.body) = ⟨#[]⟩ := by rw [a4]; rfl
                              have e7 : ((mk f.body).toList != []) = false := by rw [e4]; rfl
                              have HX := hid (show false = bad4 f from by unfold bad4; rw [Hb3.out, decide_eq_false (by rintro ⟨_, h | h | h⟩ <;> first | omega | exact h.2 a4)]; rfl)
                              clear a4 e6
                              as_aux_lemma =>
                                go_wp2
                                go_meet
                                case rel => exact ⟨congrArg Value.bool HX.out, rfl⟩
                            · have e4 : ¬ (mk f.body).toList = [] := fun h => a4 ((bl_mk f.body).symm.trans h)
                              have e5 : ((mk f.body).toList == []) = false := by simpa using e4
                              have e7 : ((mk f.body).toList != []) = true := by simpa using e4
                              have e8 : (mk f.body).toList.isEmpty = false := by rw [List.isEmpty_eq_false_iff]; exact e4
                              have HX := hid (show true = bad4 f from by unfold bad4; rw [Hb3.out, decide_eq_true (⟨a0, Or.inr (Or.inr ⟨a3, a4⟩)⟩)]; rfl)
                              as_aux_lemma =>
                                go_wp2
                                go_meet
                                case rel => exact ⟨congrArg Value.bool HX.out, rfl⟩
                    · have da0 : decide (f.kind = 3) = false := decide_eq_false a0
                      have ea0 : (f.kind == 3) = false := by simpa using a0
                      have ga0 : (f.kind != 3) = true := by simpa using a0
                      have HX := hid (show false = bad4 f from by unfold bad4; rw [Hb3.out, decide_eq_false (fun h => a0 h.1)]; rfl)
                      as_aux_lemma =>
                        go_wp2
                        go_meet
                        case rel => exact ⟨congrArg Value.bool HX.out, rfl⟩
              case rest =>
                as_aux_lemma =>
                  obtain ⟨rfl, rfl⟩ := hcut
                  clear Hb3
                  clear x2 x3 x5 l1 l2 l3
                  go_wp2_with fail
                  go_loopw [3, 4] (fun b i wr => ∃ k : Nat, k ≤ f.args.length ∧ i = .int .i64 k ∧ wr = wc ∧ ∃ B, b = .bool B ∧ Hid ((bad4 f || longA (f.args.take k)) = B)) (fun _ i _ => f.args.length - (intOf i).toNat)
                  case atStart => exact ⟨0, by omega, rfl, rfl, _, rfl, hid (by simp [longA])⟩
                  case round =>
                    obtain ⟨k, hk, rfl, rfl, B, rfl, HBK⟩ := hrel
                    by_cases hlt : k < f.args.length
                    · have hki : (k : Int) < (f.args.length : Int) := by omega
                      have hd : decide ((k : Int) < (f.args.length : Int)) = true := by simpa using hki
                      have hkw : IntKind.i64.wrap ((k : Int) + 1) = (k : Int) + 1 := by have := HR.out.many; rw [IntKind.wrap_i64]; omega
                      cases B with
                      | true =>
                        as_aux_lemma =>
                          have HE := hid (show chkE f = 70 by
                            have h : (bad4 f || longA f.args) = true := by
                              have h := HBK.out
                              rw [Bool.or_eq_true] at h ⊢
                              exact h.imp_right long_take
                            rw [bad_ok] at h
                            unfold chkE
                            rw [if_neg (by intro h2; rw [h2] at h; cases h)])
                          go_wp2
                          go_ret
                          exact ⟨by rw [HE.out]; rfl, HB2.out⟩
                      | false =>
                        as_aux_lemma =>
                          obtain ⟨g1, o1, rfl, c1⟩ := HA2.out.at k hlt
                          have HS : (mk (f.args.getD k [])).size = (f.args.getD k []).length := mk_size _
                          have h0 : bad4 f = false ∧ longA (f.args.take k) = false := by
                            have h := HBK.out
                            rw [Bool.or_eq_false_iff] at h
                            exact h
                          by_cases hlg : 4096 < (f.args.getD k []).length
                          · have HY := hid (show (bad4 f || longA (f.args.take (k + 1))) = true by
                              rw [Bool.or_eq_true]
                              refine Or.inr (long_yes (k := k) (by simp; omega) ?_)
                              rw [List.getD_eq_getElem?_getD, List.getElem?_take_of_lt (by omega), ← List.getD_eq_getElem?_getD]
                              exact hlg)
                            obtain ⟨M, HM⟩ : ∃ M : Nat, Hid ((f.args.getD k []).length = M) := ⟨_, rfl⟩
                            rw [HM.out] at HS hlg
                            have q1 : (4096 : Int) < (M : Int) := by omega
                            have q2 : decide ((4096 : Int) < (M : Int)) = true := decide_eq_true q1
                            clear hlg h0 HBK
                            generalize mk (f.args.getD k []) = s at *
                            go_wp2
                            exact ⟨⟨k + 1, by omega, by simp, by first | rfl | trivial, _, rfl, HY⟩, by simp [intOf]; omega⟩
                          · have HY := hid (show (bad4 f || longA (f.args.take (k + 1))) = false by
                              rw [h0.1, long_no hlt h0.2 hlg]
                              rfl)
                            obtain ⟨M, HM⟩ : ∃ M : Nat, Hid ((f.args.getD k []).length = M) := ⟨_, rfl⟩
                            rw [HM.out] at HS hlg
                            have q1 : ¬ (4096 : Int) < (M : Int) := by omega
                            have q2 : decide ((4096 : Int) < (M : Int)) = false := decide_eq_false q1
                            clear hlg h0 HBK
                            generalize mk (f.args.getD k []) = s at *
                            go_wp2
                            exact ⟨⟨k + 1, by omega, by simp, by first | rfl | trivial, _, rfl, HY⟩, by simp [intOf]; omega⟩
                    · obtain rfl : k = f.args.length := by omega
                      rw [List.take_length, bad_ok] at HBK
                      cases B with
                      | true =>
                        as_aux_lemma =>
                          have HE := hid (show chkE f = 70 by
                            unfold chkE
                            rw [if_neg (by intro h2; have h := HBK.out; rw [h2] at h; cases h)])
                          go_wp2
                          go_ret
                          exact ⟨by rw [HE.out]; rfl, HB2.out⟩
                      | false =>
                        as_aux_lemma =>
                          have HO := hid (show okFr f = true by have h := HBK.out; simpa using h)
                          have hbs : (mk f.body).size = f.body.length := mk_size _
                          clear HBK
                          by_cases hB : 2097152 < f.body.length
                          · have HE := hid (show chkE f = 3 by
                              unfold chkE
                              rw [if_pos HO.out, if_pos (body_gt f HO.out hB)])
                            have q1 : (2097152 : Int) < (f.body.length : Int) := by omega
                            have q2 : decide ((2097152 : Int) < (f.body.length : Int)) = true := decide_eq_true q1
                            clear hB
                            go_wp2
                            go_ret
                            exact ⟨by rw [HE.out]; rfl, HB2.out⟩
                          · have q1 : ¬ (2097152 : Int) < (f.body.length : Int) := by omega
                            have q2 : decide ((2097152 : Int) < (f.body.length : Int)) = false := decide_eq_false q1
                            have HBO := hid (rbodyF_any f (.slice ao f.args.length c) wr HR.out HA2.out (okFr_of HO.out).1 (okFr_of HO.out).2.2 (by omega))
                            have HRG := hid (range_row HN2.out)
                            clear hB
                            go_wp2_with (refine ld_gd (by rfl) 29 (.tmp 1) (by rfl) w.heap.size 0 (by rfl) _ _ HRG.out Try.underlying29 rfl HSZ.out ?_)
                            refine HBO.out.mono ?_
                            rintro e w3 ⟨v3, rfl, hs3, hb3⟩
                            obtain ⟨a3, c3, rfl⟩ := src_shape hs3
                            have HB3 := hid (below_then HB2.out hb3)
                            have HE : Hid (chkE f = if 2097152 < (bodyP f).length then 3 else 0) := hid (by unfold chkE; rw [if_pos HO.out])
                            obtain ⟨M, HM⟩ : ∃ M : Nat, Hid ((bodyP f).length = M) := ⟨_, rfl⟩
                            rw [HM.out] at HE ⊢
                            clear hs3 hb3 HB2 HBO HRG HN2 HA2 HO x0 x7 x8 q1 q2
                            by_cases hM : 2097152 < M
                            · have q1 : (2097152 : Int) < (M : Int) := by omega
                              have q2 : decide ((2097152 : Int) < (M : Int)) = true := decide_eq_true q1
                              rw [if_pos hM] at HE
                              clear hM
                              go_wp2
                              go_ret
                              exact ⟨by rw [HE.out]; rfl, HB3.out⟩
                            · have q1 : ¬ (2097152 : Int) < (M : Int) := by omega
                              have q2 : decide ((2097152 : Int) < (M : Int)) = false := decide_eq_false q1
                              rw [if_neg hM] at HE
                              clear hM
                              go_wp2
                              go_ret
                              exact ⟨by rw [HE.out]; rfl, HB3.out⟩
end Go.Proofs.Ytjinkahlfigdcaa

/- The document's Encode of every frame. -/
namespace Go.Proofs.Ytjinkahlfigdcaa
open Go.RowKit Go.BigFrame

set_option maxRecDepth 100000 in
set_option maxHeartbeats 4000000 in
theorem rencF_err (f : Fr) (va : Value) (w : World) (hr : Rng f) (ha : Strs w va f.args) (h : chkE f ≠ 0) :
    Calls Try.prog 10 #[.agg (fcells f va).toArray] w fun e w' => e = .returned (.tuple #[.slice none 0 0, .int .i64 (chkE f)]) ∧ Below w.heap.size w w' := by
  have HNB := hid (hp_new w (.cells (fcells f va).toArray 29))
  have HBL := hid (below_walk w (.cells (fcells f va).toArray 29))
  have HSZ := hid (frame_size f va hr.tool)
  have HCK := hid (rcheckF_any f va _ hr (ha.below HBL.out))
  obtain ⟨E, HE⟩ : ∃ E, Hid (chkE f = E) := ⟨_, rfl⟩
  rw [HE.out] at h HCK
  have q1 : (E != 0) = true := by simpa using h
  have q2 : (E == 0) = false := by simpa using h
  clear ha hr h
  go_enter Try.func10, Try.ntmps10
  go_upto_region 1 with fail
  generalize w.alloc (.cells (fcells f va).toArray 29) = w1 at HNB HBL HCK ⊢
  generalize fcells f va = FF at *
  go_wp2_with (refine ld_row (by rfl) 29 (.tmp 1) (by rfl) w.heap.size (by rfl) FF 29 HNB.out _ Try.underlying29 rfl HSZ.out ?_)
  refine HCK.out.mono ?_
  rintro e w2 ⟨rfl, hb2⟩
  have HB2 := hid (below_then HBL.out hb2)
  clear hb2 HNB HBL HCK
  go_wp2
  go_ret2
  exact ⟨by rw [HE.out]; rfl, HB2.out⟩

set_option maxRecDepth 100000 in
set_option maxHeartbeats 4000000 in
theorem rencF_ok (f : Fr) (va : Value) (w : World) (hr : Rng f) (ha : Strs w va f.args) (h : chkE f = 0) :
    Calls Try.prog 10 #[.agg (fcells f va).toArray] w fun e w' => ∃ v, e = .returned (.tuple #[v, .int .i64 0]) ∧ OwnB w' w.heap.size v (encP f) ∧ Below w.heap.size w w' := by
  have HNB := hid (hp_new w (.cells (fcells f va).toArray 29))
  have HBL := hid (below_walk w (.cells (fcells f va).toArray 29))
  have HSZ := hid (frame_size f va hr.tool)
  have HCK := hid (rcheckF_any f va _ hr (ha.below HBL.out))
  rw [h] at HCK
  obtain ⟨ho, hl⟩ := chk_ok h
  have hBl : f.body.length ≤ 2097152 := by
    rcases Nat.lt_or_ge 2097152 f.body.length with h1 | h1
    · have := body_gt f ho h1
      omega
    · exact h1
  have HBO := hid (fun W (hW : Strs W va f.args) => rbodyF_any f va W hr hW (okFr_of ho).1 (okFr_of ho).2.2 hBl)
  have HA := hid (ha.below HBL.out)
  obtain ⟨EP, HEP⟩ : ∃ E, Hid (encP f = E) := ⟨_, rfl⟩
  have HEN : Hid (EP = sealP (sn (bodyP f).length ++ bodyP f)) := hid (HEP.out.symm)
  have hsl := sn_length_le (bodyP f).length
  clear ha hr h ho hBl
  go_enter Try.func10, Try.ntmps10
  go_upto_region 1 with fail
  generalize w.alloc (.cells (fcells f va).toArray 29) = w1 at HNB HBL HCK HA ⊢
  generalize fcells f va = FF at *
  generalize bodyP f = BP at *
  obtain ⟨M, HM⟩ : ∃ M : Nat, Hid (BP.length = M) := ⟨_, rfl⟩
  rw [HM.out] at hl hsl HEN
  go_wp2_with (refine ld_row (by rfl) 29 (.tmp 1) (by rfl) w.heap.size (by rfl) FF 29 HNB.out _ Try.underlying29 rfl HSZ.out ?_)
  refine HCK.out.mono ?_
  rintro e w2 ⟨rfl, hb2⟩
  have HN2 := hid ((hb2.block _ (hp_lt HNB.out)).trans HNB.out)
  have HB2 := hid (below_then HBL.out hb2)
  have HA2 := hid (HA.out.below hb2)
  clear hb2 HNB HBL HCK HA
  go_wp2_with (refine ld_row (by rfl) 29 (.tmp 1) (by rfl) w.heap.size (by rfl) FF 29 HN2.out _ Try.underlying29 rfl HSZ.out ?_)
  refine (HBO.out w2 HA2.out).mono ?_
  rintro e w3 ⟨v3, rfl, hs3, hb3⟩
  obtain ⟨ao, c, rfl⟩ := src_shape hs3
  have HS3 := hid hs3
  have HB3 := hid (below_then HB2.out hb3)
  have hw1 : IntKind.u64.wrap (M : Int) = (M : Int) := by rw [IntKind.wrap_u64]; omega
  rw [HM.out] at HS3 ⊢
  clear hs3 hb3 HN2 HB2 HBO HA2
  go_wp2_with fail
  refine (refUint_any M w3 (by omega)).mono ?_
  rintro e w4 ⟨v4, rfl, ho4, hb4⟩
  have HO4 := hid ho4
  have HS4 := hid (HS3.out.below hb4)
  have HB4 := hid (below_then HB3.out hb4)
  have HZ4 := hid hb4.size
  obtain ⟨a4, c4, e4⟩ := src_shape (ho4.src (by omega))
  subst e4
  clear ho4 hb4 HS3 hw1
  go_wp2_with (at_builtin; refine app_src rfl _ _ rfl w3.heap.size _ (sn M) rfl HO4.out _ BP rfl HS4.out (by rw [HM.out]; omega) HZ4.out ?_)
  intro v5 w5 ho5 hg5
  have hs5 : Src w5 v5 (sn M ++ BP) := ho5.src (by rw [List.length_append, HM.out]; omega)
  have HB5 := hid (show Below w.heap.size w w5 from below_tr HB4.out ⟨hg5.os, hg5.tape, hg5.output, hg5.size, fun k hk => hg5.block k (by have := HB3.out.size; have := HZ4.out; omega) (fun e => by have := (HO4.out.lt k e.symm).1; have := HB3.out.size; omega)⟩)
  have HSE := hid (rseal_any w5 v5 (sn M ++ BP) hs5 (by rw [List.length_append, HM.out]; omega))
  obtain ⟨a5, c5, e5⟩ := src_shape hs5
  obtain ⟨M5, HM5⟩ : ∃ M5, Hid ((sn M ++ BP).length = M5) := ⟨_, rfl⟩
  rw [HM5.out] at e5
  subst e5
  clear ho5 hg5 hs5 HB4 HB3 HZ4 HO4 HS4
  go_wp2_with fail
  refine HSE.out.mono ?_
  rintro e w6 ⟨v6, rfl, ho6, hb6⟩
  rw [← HEN.out] at ho6
  have HO6 := hid (ho6.le HB5.out.size)
  have HB7 := hid (below_then HB5.out hb6)
  obtain ⟨a6, c6, e6⟩ := src_shape (ho6.src (by rw [HEN.out, sealP_length, List.length_append, HM.out]; omega))
  obtain ⟨M6, HM6⟩ : ∃ M6, Hid (EP.length = M6) := ⟨_, rfl⟩
  rw [HM6.out] at e6
  subst e6
  clear ho6 hb6
  go_wp2
  go_ret2
  refine ⟨_, rfl, ?_, HB7.out⟩
  rw [HEP.out]
  exact HO6.out

end Go.Proofs.Ytjinkahlfigdcaa

/- The law's alive answers true. -/
namespace Go.Proofs.Ytjinkahlfigdcaa
open Go.RowKit Go.BigFrame

set_option maxRecDepth 100000 in
set_option maxHeartbeats 4000000 in
theorem alive_any (w : World) :
    Calls Try.prog 14 #[] w fun e w' => e = .returned (.bool true) ∧ Below w.heap.size w w' := by
  have hl6 : (sealP [1, 5]).length = 6 := rfl
  go_enter Try.func14, Try.ntmps14
  go_wp2_with fail
  refine (bye_any w).mono ?_
  rintro e w1 ⟨rfl, hb1⟩
  have HB1 := hid hb1
  clear hb1
  go_wp2_with fail
  refine (encodeBye_any w1).mono ?_
  rintro e w2 ⟨v2, rfl, ho2, hb2⟩
  have HS2 := hid (ho2.src (by rw [sealP_length]; simp))
  have HB2 := hid (below_then HB1.out hb2)
  obtain ⟨a2, c2, e2⟩ := src_shape HS2.out
  rw [hl6] at e2
  subst e2
  clear ho2 hb2 HB1
  go_wp2_with (refine bd_row (by rfl) 29 #[(0, .const (.int .i64 5))] (by rfl) _ (by simp [Act.eval]) _ built_bye ?_)
  refine (rencodeBye_any w2).mono ?_
  rintro e w3 ⟨v3, rfl, ho3, hb3⟩
  have HS3 := hid (ho3.src (by rw [sealP_length]; simp))
  have HS2b := hid (HS2.out.below hb3)
  have HB3 := hid (below_then HB2.out hb3)
  obtain ⟨a3, c3, e3⟩ := src_shape HS3.out
  rw [hl6] at e3
  subst e3
  clear ho3 hb3 HB2 HS2
  go_wp2_with fail
  refine (equal_true _ _ _ w3 HS2b.out HS3.out).mono ?_
  rintro e w4 ⟨rfl, hw4⟩
  subst hw4
  go_wp2
  go_ret
  exact ⟨rfl, HB3.out⟩

end Go.Proofs.Ytjinkahlfigdcaa

/- FrameWrites answers true. -/
namespace Go.Proofs.Ytjinkahlfigdcaa
open Go.RowKit Go.BigFrame

theorem enc_len {f : Fr} (h : chkE f = 0) : (encP f).length ≤ 3000000 := by
  have hl := (chk_ok h).2
  have := sn_length_le (bodyP f).length
  unfold encP
  rw [sealP_length, List.length_append]
  omega

set_option maxRecDepth 100000 in
set_option maxHeartbeats 4000000 in
theorem lawWrites_any (f : Fr) (va : Value) (w : World) (hr : Rng f) (ha : Strs w va f.args) :
    Calls Try.prog 3 #[.agg (fcells f va).toArray] w fun e w' => e = .returned (.bool true) ∧ Below w.heap.size w w' := by
  have HNB := hid (hp_new w (.cells (fcells f va).toArray 29))
  have HBL := hid (below_walk w (.cells (fcells f va).toArray 29))
  have HSZ := hid (frame_size f va hr.tool)
  have HA := hid (ha.below HBL.out)
  have HSI := hid (fun W (hW : Strs W va f.args) => sizeF_any f va W hr hW)
  have HCK := hid (fun W (hW : Strs W va f.args) => checkF_any f va W hr hW)
  by_cases h : chkE f = 0
  · have HEN := hid (fun W (hW : Strs W va f.args) => encF_ok f va W hr hW h)
    have HRE := hid (fun W (hW : Strs W va f.args) => rencF_ok f va W hr hW h)
    have hl := enc_len h
    unfold sizeN at HSI
    rw [if_pos h] at HSI
    rw [h] at HSI HCK
    clear ha hr h
    as_aux_lemma =>
      go_enter Try.func3, Try.ntmps3
      go_upto_region 1 with fail
      generalize w.alloc (.cells (fcells f va).toArray 29) = w1 at HNB HBL HA ⊢
      generalize fcells f va = FF at *
      generalize encP f = EP at *
      obtain ⟨M, HM⟩ : ∃ M : Nat, Hid (EP.length = M) := ⟨_, rfl⟩
      rw [HM.out] at hl HSI
      go_wp2_with (refine ld_row (by rfl) 29 (.tmp 1) (by rfl) w.heap.size (by rfl) FF 29 HNB.out _ Try.underlying29 rfl HSZ.out ?_)
      refine (HEN.out w1 HA.out).mono ?_
      rintro e w2 ⟨v2, rfl, ho2, hb2⟩
      have HN2 := hid ((hb2.block _ (hp_lt HNB.out)).trans HNB.out)
      have HB2 := hid (below_then HBL.out hb2)
      have HA2 := hid (HA.out.below hb2)
      have HS2 := hid (ho2.src (by rw [HM.out]; omega))
      obtain ⟨a2, c2, e2⟩ := src_shape HS2.out
      rw [HM.out] at e2
      subst e2
      clear ho2 hb2 HNB HBL HA HEN
      go_wp2_with (refine ld_row (by rfl) 29 (.tmp 1) (by rfl) w.heap.size (by rfl) FF 29 HN2.out _ Try.underlying29 rfl HSZ.out ?_)
      refine (HRE.out w2 HA2.out).mono ?_
      rintro e w3 ⟨v3, rfl, ho3, hb3⟩
      have HN3 := hid ((hb3.block _ (hp_lt HN2.out)).trans HN2.out)
      have HB3 := hid (below_then HB2.out hb3)
      have HA3 := hid (HA2.out.below hb3)
      have HT3 := hid (HS2.out.below hb3)
      have HS3 := hid (ho3.src (by rw [HM.out]; omega))
      obtain ⟨a3, c3, e3⟩ := src_shape HS3.out
      rw [HM.out] at e3
      subst e3
      clear ho3 hb3 HN2 HB2 HA2 HRE HS2
      go_wp2_with (refine ld_row (by rfl) 29 (.tmp 1) (by rfl) w.heap.size (by rfl) FF 29 HN3.out _ Try.underlying29 rfl HSZ.out ?_)
      refine (HSI.out w3 HA3.out).mono ?_
      rintro e w4 ⟨rfl, hb4⟩
      have HN4 := hid ((hb4.block _ (hp_lt HN3.out)).trans HN3.out)
      have HB4 := hid (below_then HB3.out hb4)
      have HA4 := hid (HA3.out.below hb4)
      have HT4 := hid (HT3.out.below hb4)
      have HS4 := hid (HS3.out.below hb4)
      clear hb4 HN3 HB3 HA3 HT3 HS3 HSI
      go_wp2_with fail
      refine (equal_true _ _ _ w4 HT4.out HS4.out).mono ?_
      rintro e w5 ⟨rfl, hw5⟩
      have hw5 := hw5.symm
      subst hw5
      have HRG := hid (range_row HN4.out)
      go_wp2_with (refine ld_gd (by rfl) 29 (.tmp 1) (by rfl) w.heap.size 0 (by rfl) _ _ HRG.out Try.underlying29 rfl HSZ.out ?_)
      refine (HCK.out w4 HA4.out).mono ?_
      rintro e w6 ⟨rfl, hb6⟩
      have HB6 := hid (below_then HB4.out hb6)
      clear hb6 HN4 HB4 HA4 HT4 HS4 HCK HRG
      go_wp2_with fail
      refine (alive_any w6).mono ?_
      rintro e w7 ⟨rfl, hb7⟩
      have HB7 := hid (below_then HB6.out hb7)
      clear hb7 HB6
      go_wp2
      go_ret
      exact ⟨rfl, HB7.out⟩
  · have HEN := hid (fun W (hW : Strs W va f.args) => encF_err f va W hr hW h)
    have HRE := hid (fun W (hW : Strs W va f.args) => rencF_err f va W hr hW h)
    unfold sizeN at HSI
    rw [if_neg h] at HSI
    clear ha hr h
    as_aux_lemma =>
      go_enter Try.func3, Try.ntmps3
      go_upto_region 1 with fail
      generalize w.alloc (.cells (fcells f va).toArray 29) = w1 at HNB HBL HA ⊢
      generalize fcells f va = FF at *
      generalize chkE f = EE at *
      have q1 : (EE == EE) = true := by simp
      go_wp2_with (refine ld_row (by rfl) 29 (.tmp 1) (by rfl) w.heap.size (by rfl) FF 29 HNB.out _ Try.underlying29 rfl HSZ.out ?_)
      refine (HEN.out w1 HA.out).mono ?_
      rintro e w2 ⟨rfl, hb2⟩
      have HN2 := hid ((hb2.block _ (hp_lt HNB.out)).trans HNB.out)
      have HB2 := hid (below_then HBL.out hb2)
      have HA2 := hid (HA.out.below hb2)
      clear hb2 HNB HBL HA HEN
      go_wp2_with (refine ld_row (by rfl) 29 (.tmp 1) (by rfl) w.heap.size (by rfl) FF 29 HN2.out _ Try.underlying29 rfl HSZ.out ?_)
      refine (HRE.out w2 HA2.out).mono ?_
      rintro e w3 ⟨rfl, hb3⟩
      have HN3 := hid ((hb3.block _ (hp_lt HN2.out)).trans HN2.out)
      have HB3 := hid (below_then HB2.out hb3)
      have HA3 := hid (HA2.out.below hb3)
      clear hb3 HN2 HB2 HA2 HRE
      go_wp2_with (refine ld_row (by rfl) 29 (.tmp 1) (by rfl) w.heap.size (by rfl) FF 29 HN3.out _ Try.underlying29 rfl HSZ.out ?_)
      refine (HSI.out w3 HA3.out).mono ?_
      rintro e w4 ⟨rfl, hb4⟩
      have HN4 := hid ((hb4.block _ (hp_lt HN3.out)).trans HN3.out)
      have HB4 := hid (below_then HB3.out hb4)
      have HA4 := hid (HA3.out.below hb4)
      clear hb4 HN3 HB3 HA3 HSI
      go_wp2_with fail
      refine (equal_true _ _ _ w4 (srcNil w4) (srcNil w4)).mono ?_
      rintro e w5 ⟨rfl, hw5⟩
      have hw5 := hw5.symm
      subst hw5
      have HRG := hid (range_row HN4.out)
      go_wp2_with (refine ld_gd (by rfl) 29 (.tmp 1) (by rfl) w.heap.size 0 (by rfl) _ _ HRG.out Try.underlying29 rfl HSZ.out ?_)
      refine (HCK.out w4 HA4.out).mono ?_
      rintro e w6 ⟨rfl, hb6⟩
      have HB6 := hid (below_then HB4.out hb6)
      clear hb6 HN4 HB4 HA4 HCK HRG
      go_wp2_with fail
      refine (alive_any w6).mono ?_
      rintro e w7 ⟨rfl, hb7⟩
      have HB7 := hid (below_then HB6.out hb7)
      clear hb7 HB6
      go_wp2
      go_ret
      exact ⟨rfl, HB7.out⟩

end Go.Proofs.Ytjinkahlfigdcaa

/- FrameForm answers true. -/
namespace Go.Proofs.Ytjinkahlfigdcaa
open Go.RowKit Go.BigFrame

theorem faultG : Try.prog.eqGuardType Try.prog.depth 47 = false := by kernel_rfl
theorem fault_run (a b x y : Int) (w : World) : (Op.equalIn 10000 47 (.agg #[.int .i64 a, .int .i64 b]) (.agg #[.int .i64 x, .int .i64 y])).run Try.prog w = .ok (a == x && b == y) w := by
  have hS : Try.prog.underlying 47 = some (.struct (Try.prog.fieldsOf 47)) := by kernel_rfl
  have hp : Try.prog.stoodInHeld 47 = false := by kernel_rfl
  have u3 := Try.underlying3
  have a3 := Try.isAgg3
  have z3 := Try.sizeOf3
  have u4 := Try.underlying31
  have a4 := Try.isAgg31
  have z4 := Try.sizeOf31
  rw [show (10000 : Nat) = 9999 + 1 from rfl, run_equalIn_agg w 9999 47 _ _ hS hp]
  simp only [Program.fieldsOf, Try.underlying47]
  go_simp
  by_cases h1 : a = x <;> by_cases h2 : b = y <;> simp [h1, h2]
theorem fault_neq (a b x y : Int) (w : World) : (binOp .neq 47 (.agg #[.int .i64 a, .int .i64 b]) (.agg #[.int .i64 x, .int .i64 y])).run Try.prog w = .ok (.bool (!decide ((a, b) = (x, y)))) w := by
  rw [run_neq_struct, fault_run]
  have : (a == x && b == y) = decide ((a, b) = (x, y)) := by
    rw [Bool.eq_iff_iff]
    simp
  rw [this]
  rfl
theorem fault_eql (a b x y : Int) (w : World) : (binOp .eql 47 (.agg #[.int .i64 a, .int .i64 b]) (.agg #[.int .i64 x, .int .i64 y])).run Try.prog w = .ok (.bool (decide ((a, b) = (x, y)))) w := by
  rw [run_eql_struct, fault_run]
  have : (a == x && b == y) = decide ((a, b) = (x, y)) := by
    rw [Bool.eq_iff_iff]
    simp
  rw [this]
  rfl

set_option maxRecDepth 100000 in
set_option maxHeartbeats 4000000 in
theorem lawForm_any (v : Value) (bs : List UInt8) (w : World) (hs : Src w v bs) :
    Calls Try.prog 6 #[v] w fun e w' => e = .returned (.bool true) ∧ Below w.heap.size w w' := by
  obtain ⟨av, cv, rfl⟩ := src_shape hs
  have HDE := hid (decode_any _ bs w hs)
  have HS := hid hs
  have hsl := hs.1
  have hg := faultG
  obtain ⟨f, HF⟩ : ∃ f, Hid ((decP bs).1 = f) := ⟨_, rfl⟩
  obtain ⟨E1, HE1⟩ : ∃ f, Hid ((decP bs).2.1 = f) := ⟨_, rfl⟩
  obtain ⟨E2, HE2⟩ : ∃ f, Hid ((decP bs).2.2 = f) := ⟨_, rfl⟩
  rw [HF.out, HE1.out, HE2.out] at HDE
  obtain ⟨L, HL⟩ : ∃ n, Hid (bs.length = n) := ⟨_, rfl⟩
  clear hs
  go_enter Try.func6, Try.ntmps6
  go_wp2_with fail
  refine HDE.out.mono ?_
  rintro e w1 ⟨va, rfl, hoa, hb1⟩
  have HRN := hid (show Rng f by rw [← HF.out]; exact dec_rng bs hsl (by rw [HF.out]; exact wowns_len hoa))
  have HST := hid (wowns_strs hoa)
  have HS1 := hid (HS.out.below hb1)
  have HB1 := hid hb1
  obtain ⟨aV, cV, eV⟩ := wowns_shape hoa
  have HSZ := hid (frame_size f va HRN.out.tool)
  have HON := hid (fcells_one f va (by rw [eV]; rfl))
  have HOS := hid (show (fcells zF nS).toArray.size = (fcells f va).length by rw [fcells_length _ _ HRN.out.tool]; rfl)
  have HCH := hid (fun W (hW : Strs W va f.args) => checkF_any f va W HRN.out hW)
  have HSM := hid (fun W (hW : Strs W va f.args) => rsame_any f zF va nS W HRN.out.tool rfl hW (strs_nil W) HRN.out.many)
  have HEN := hid (fun (h9 : chkE f = 0) W (hW : Strs W va f.args) => encF_ok f va W HRN.out hW h9)
  obtain ⟨FF, HFF⟩ : ∃ L, Hid (fcells f va = L) := ⟨_, rfl⟩
  rw [HFF.out] at HSZ HON HOS HCH HSM HEN ⊢
  clear hoa hb1 HDE HS eV
  -- the two answers, in variables of their own
  go_upto_region 2 with (first
    | (refine al_row (by rfl) 29 (by rfl) _ zeroFrame ?_)
    | (refine st_row (by rfl) 29 _ _ (by rfl) w1.heap.size FF (by rfl) (by rfl) 29 _ (hp_two w1 _ _).1 HSZ.out HOS.out HON.out ?_; intro w2 hw2)
    | (refine st_row (by rfl) 47 _ _ (by rfl) (w1.heap.size + 1) [Value.int .i64 E1, .int .i64 E2] (by rfl) (by rfl) 47 _ (gb_keep hw2.grown (hp_two w1 _ _).2 (by omega)) faultSize rfl (fault_one _ _) ?_; intro w3 hw3))
  have HA := hid (gb_keep hw3.grown hw2.blk (by omega))
  have HT := hid hw3.blk
  have HB3 := hid (Below.of_gb (Below.of_gb (below_then HB1.out (below_walk2 w1 (.cells (fcells zF nS).toArray 29) (.cells #[.int .i64 0, .int .i64 0] 47))) hw2.grown HB1.out.size) hw3.grown (by have := HB1.out.size; omega))
  have HQ3 := hid (Below.of_gb (Below.of_gb (below_walk2 w1 (.cells (fcells zF nS).toArray 29) (.cells #[.int .i64 0, .int .i64 0] 47)) hw2.grown (Nat.le_refl _)) hw3.grown (by omega))
  have HST3 := hid (HST.out.below HQ3.out)
  have HS3 := hid (HS1.out.below HQ3.out)
  obtain ⟨A, HAe⟩ : ∃ n, Hid (w1.heap.size = n) := ⟨_, rfl⟩
  rw [HAe.out] at HA HT ⊢
  clear hw2 hw3 HST HS1 HB1 HQ3 HOS HON
  have n1 := fun W => fault_neq E1 E2 0 0 W
  have t0 : w3.cell? ⟨A + 1, 0, none⟩ = some (.int .i64 E1) := by simp [World.cell?, HT.out]
  have t1 : w3.cell? ⟨A + 1, 1, none⟩ = some (.int .i64 E2) := by simp [World.cell?, HT.out]
  by_cases h0 : E1 = 0
  · as_aux_lemma =>
      obtain ⟨d1, d2, d3⟩ := dec_form bs (by rw [HE1.out]; exact h0)
      rw [HF.out] at d1 d2
      have hE2 : E2 = 0 := by rw [← HE2.out, d3]
      subst h0 hE2
      have n2 : ∀ W, (binOp .neq 47 (.agg #[.int .i64 0, .int .i64 0]) (.agg #[.int .i64 0, .int .i64 0])).run Try.prog W = .ok (.bool false) W := fun W => n1 W
      have HE := hid (HEN.out d1)
      have HC := hid HCH.out
      rw [d1] at HC
      have HD2 := hid d2
      have HSM0 := hid hsl
      clear d1 d2 d3 n1 HEN HCH HSM
      go_wp2_with (refine ld_row (by rfl) 29 (.tmp 3) (by rfl) A (by rfl) FF 29 HA.out _ Try.underlying29 rfl HSZ.out ?_)
      refine (HE.out w3 HST3.out).mono ?_
      rintro e w4 ⟨v4, rfl, ho4, hb4⟩
      rw [HD2.out] at ho4
      have HS4 := hid (ho4.src HSM0.out)
      have HT4 := hid (HS3.out.below hb4)
      have HST4 := hid (HST3.out.below hb4)
      have HA4 := hid (bel_keep hb4 HA.out)
      have HB4 := hid (below_then HB3.out hb4)
      obtain ⟨a4, c4, e4⟩ := src_shape HS4.out
      rw [HL.out] at e4
      subst e4
      clear ho4 hb4 HE HS3 HST3 HA HB3 t0 t1 HT
      go_wp2_with fail
      refine (equal_true _ _ _ w4 HT4.out HS4.out).mono ?_
      rintro e w5 ⟨rfl, hw5⟩
      have hw5 := hw5.symm
      subst hw5
      have HRG := hid (range_row HA4.out)
      go_wp2_with (refine ld_gd (by rfl) 29 (.tmp 3) (by rfl) A 0 (by rfl) _ _ HRG.out Try.underlying29 rfl HSZ.out ?_)
      refine (HC.out w4 HST4.out).mono ?_
      rintro e w6 ⟨rfl, hb6⟩
      have HB6 := hid (below_then HB4.out hb6)
      clear hb6 HB4 HRG HST4 HS4 HT4 HA4
      go_wp2_with fail
      refine (alive_any w6).mono ?_
      rintro e w7 ⟨rfl, hb7⟩
      have HB7 := hid (below_then HB6.out hb7)
      clear hb7 HB6
      go_wp2
      go_ret
      exact ⟨rfl, HB7.out⟩
  · as_aux_lemma =>
      have HZ := hid (dec_none bs (by rw [HE1.out]; exact h0))
      rw [HF.out] at HZ
      have q1 : (E1 != 0) = true := by simpa using h0
      have q2 : (E1 == 0) = false := by simpa using h0
      have n2 : ∀ W, (binOp .neq 47 (.agg #[.int .i64 E1, .int .i64 E2]) (.agg #[.int .i64 0, .int .i64 0])).run Try.prog W = .ok (.bool true) W := fun W => by
        rw [n1 W]
        have : decide ((E1, E2) = ((0 : Int), (0 : Int))) = false := decide_eq_false (fun h => h0 (congrArg Prod.fst h))
        rw [this]
        rfl
      have HSA := hid HSM.out
      rw [HZ.out, sameP_self] at HSA
      clear n1 HEN HCH HSM h0
      go_wp2_with (first
        | (refine ld_row (by rfl) 29 (.tmp 3) (by rfl) A (by rfl) FF 29 HA.out _ Try.underlying29 rfl HSZ.out ?_)
        | (refine bd_row (by rfl) 29 #[] (by rfl) _ (by simp) _ built_zf ?_))
      refine (HSA.out w3 (HZ.out ▸ HST3.out)).mono ?_
      rintro e w4 ⟨rfl, hb4⟩
      have HT4 := hid (bel_keep hb4 HT.out)
      have HB4 := hid (below_then HB3.out hb4)
      clear hb4 HB3 t0 t1 HT HSA
      have t0 : w4.cell? ⟨A + 1, 0, none⟩ = some (.int .i64 E1) := by simp [World.cell?, HT4.out]
      go_wp2_with fail
      refine (alive_any w4).mono ?_
      rintro e w7 ⟨rfl, hb7⟩
      have HB7 := hid (below_then HB4.out hb7)
      clear hb7 HB4
      go_wp2
      go_ret
      exact ⟨rfl, HB7.out⟩
end Go.Proofs.Ytjinkahlfigdcaa

/- A frame that was read is within its types. -/
namespace Go.Proofs.Ytjinkahlfigdcaa
theorem rng_of {W : World} {v : Value} {f : Fr} {va : Value} (h : FRead W v f va) (hb : f.body.length ≤ 140737488355327) : Rng f :=
  ⟨h.tool, h.ints.2.1.1, h.ints.2.1.2, h.ints.2.2.1.2, h.ints.2.2.2.1.2, h.ints.2.2.2.2.2, h.lims.1.2, h.lims.2.1.2, h.lims.2.2.2, hb, by have := h.many; unfold maxLen at this; omega⟩
end Go.Proofs.Ytjinkahlfigdcaa

/- A struct of four, out of its reading. -/

/- What was written is read back, plainly. -/
namespace Go.Proofs.Ytjinkahlfigdcaa
open Go.RowKit

theorem drop_on {bs x r : List UInt8} {a : Nat} (h : bs.drop a = x ++ r) : bs.drop (a + x.length) = r := by
  rw [← List.drop_drop, h]
  exact List.drop_left' rfl
theorem u_back (bs r : List UInt8) (a n : Nat) (T : Int) (h : bs.drop a = sn n ++ r) (hn : n < 18446744073709551616) : uS bs (a, 0, T) = (n, a + (sn n).length, 0, T) := by
  unfold uS uintF
  rw [if_neg (by simp), h, dec_sn n r hn]
  simp [watOf]
theorem c_back (bs r : List UInt8) (a n : Nat) (m T : Int) (h : bs.drop a = sn n ++ r) (hm : (n : Int) ≤ m) (hn : n < 18446744073709551616) : cS bs m (a, 0, T) = (n, a + (sn n).length, 0, T) := by
  unfold cS countF
  have hu := upTo_of (most := m.toNat) (t := 11) (dec_sn n r hn) (by omega)
  rw [if_neg (by simp), if_neg (by omega), h, hu]
  simp [watOf]
theorem c_over (bs r : List UInt8) (a n : Nat) (m T : Int) (h : bs.drop a = sn n ++ r) (h0 : 0 ≤ m) (hm : m < (n : Int)) (hn : n < 18446744073709551616) : cS bs m (a, 0, T) = (0, a, 11, (a : Int)) := by
  have hu : upTo (sn n ++ r) m.toNat 11 = (11, 0, 0) := by
    unfold upTo
    rw [dec_sn n r hn]
    simp only
    rw [if_neg (by simp), if_pos (by omega)]
  unfold cS countF
  rw [if_neg (by simp), if_neg (by omega), h, hu]
  simp [watOf]
theorem o_back (bs r : List UInt8) (a n : Nat) (m T : Int) (h : bs.drop a = sn n ++ r) (h1 : 1 ≤ n) (hm : (n : Int) ≤ m) (hn : n < 18446744073709551616) : oS bs m (a, 0, T) = (n, a + (sn n).length, 0, T) := by
  unfold oS
  rw [c_back bs r a n m T h hm hn, if_neg (by simp; omega)]
theorem t_back (bs r : List UInt8) (a : Nat) (t : List UInt8) (m T : Int) (h : bs.drop a = tx (mk t) ++ r) (hm : (t.length : Int) ≤ m) (hn : t.length < 18446744073709551616) : tS bs m (a, 0, T) = (t, a + (tx (mk t)).length, 0, T) := by
  have hb := txt_back t r m.toNat hn (by omega)
  have e : tx (mk t) ++ r = sn t.length ++ (t ++ r) := by rw [tx_mk, List.append_assoc]
  unfold tS textF
  rw [if_neg (by simp), if_neg (by omega), h, e, hb, tx_mk, List.length_append]
  simp [watOf]
theorem l_back (bs r : List UInt8) (a : Nat) (ts : List (List UInt8)) (T : Int) (h : bs.drop a = ls (ts.map mk) ++ r) (hn : ts.length ≤ 8) (he : ∀ t ∈ ts, t.length ≤ 4096) : lS bs 8 4096 (a, 0, T) = (ts, a + (ls (ts.map mk)).length, 0, T) := by
  have e1 : ls (ts.map mk) ++ r = sn ts.length ++ (txs (ts.map mk) ++ r) := by unfold ls; simp
  have hu := upTo_of (most := 8) (t := 11) (dec_sn ts.length (txs (ts.map mk) ++ r) (by omega)) hn
  have hdr : (sn ts.length ++ (txs (ts.map mk) ++ r)).drop (sn ts.length).length = txs (ts.map mk) ++ r := by simp
  have hl : lst (bs.drop a) 8 4096 = (0, ts, (ls (ts.map mk)).length) := by
    rw [h]
    unfold lst
    rw [e1, hu]
    simp only
    rw [if_neg (by simp), hdr, lstR_back ts r 4096 he (by omega)]
    unfold ls
    simp
  unfold lS listF
  rw [if_neg (by simp), if_neg (by omega), show (8 : Int).toNat = 8 from rfl, show (4096 : Int).toNat = 4096 from rfl, hl]
  simp
theorem r_back (bs r : List UInt8) (a : Nat) (t : List UInt8) (T : Int) (h : bs.drop a = t ++ r) (ht : t.length = 32) : rS bs 32 (a, 0, T) = (t, a + 32, 0, T) := by
  have hl : 32 ≤ bs.length - a := by
    have := congrArg List.length h
    rw [List.length_drop, List.length_append] at this
    omega
  unfold rS rawF
  rw [if_neg (by simp), if_neg (by omega), show (32 : Int).toNat = 32 from rfl, if_neg (by omega), h, List.take_left' ht]
theorem e_back (bs : List UInt8) (a : Nat) (T : Int) (h : bs.drop a = []) : eS bs (a, 0, T) = (0, T) := by
  unfold eS
  rw [if_neg (by simp), if_neg (by have := List.drop_eq_nil_iff.1 h; show ¬ a < bs.length; omega)]
theorem eS_over (bs : List UInt8) (s : St) (h : s.2.1 ≠ 0) : eS bs s = s.2 := by
  unfold eS
  rw [if_pos h]
/-- limits that are read -/
def limOk (f : Fr) : Bool := decide (f.lim.1 ≤ 2147483648 ∧ f.lim.2.1 ≤ 2147483648 ∧ f.lim.2.2 ≤ 2147483648)
theorem nat_lt {x : Int} (h : x ≤ 9223372036854775807) : x.toNat < 18446744073709551616 := by omega

/-- the fields of a frame that may be, read back -/
theorem fields_back (bs : List UInt8) (f : Fr) (a : Nat) (hr : Rng f) (ho : okFr f = true) (hB : f.body.length ≤ 2097152) (h : bs.drop a = layP f) (hlim : limOk f = true) :
    ∃ a', fieldsP bs f.kind (a, 0, 0) = (f, a', 0, 0) ∧ bs.drop a' = [] := by
  obtain ⟨hk, hsm, hm⟩ := okFr_of ho
  have e := same_eq hsm
  have hid : f.id.toNat < 18446744073709551616 := by have := hr.idh; omega
  have eid : ((f.id.toNat : Nat) : Int) = f.id := (toNat_eq hr.idl).symm
  have hL := of_decide_eq_true hlim
  have hc : f.kind = 1 ∨ f.kind = 2 ∨ f.kind = 3 ∨ f.kind = 4 ∨ f.kind = 5 ∨ f.kind = 6 := by omega
  rcases hc with k | k | k | k | k | k
  · rw [mayF_1 f k] at hm
    have m := mayHello_of hm
    rw [lay_1 f k, sns_two, List.append_assoc] at h
    rw [own_1 f k] at e
    have o1 := o_back bs _ a f.ver.toNat 1 0 h (by omega) (by omega) (by omega)
    have h2 := drop_on h
    have o2 := o_back bs _ _ f.slots.toNat 64 0 h2 (by omega) (by omega) (by omega)
    have h3 := drop_on h2
    have r3 := r_back bs [] _ f.tool 0 (by rw [List.append_nil]; exact h3) hr.tool
    have h4 : bs.drop (a + (sn f.ver.toNat).length + (sn f.slots.toNat).length + f.tool.length) = [] := drop_on (by rw [List.append_nil]; exact h3)
    rw [hr.tool] at h4
    refine ⟨_, ?_, h4⟩
    rw [k, fieldsP_1, o1]
    dsimp only
    rw [o2]
    dsimp only
    rw [r3]
    dsimp only
    have hp : pad32 f.tool = f.tool := by unfold pad32; rw [if_pos hr.tool]
    rw [hp, show ((f.ver.toNat : Nat) : Int) = f.ver from (toNat_eq (by omega)).symm, show ((f.slots.toNat : Nat) : Int) = f.slots from (toNat_eq (by omega)).symm, ← e]
  · rw [mayF_2 f k] at hm
    have m := mayReq_of hm
    rw [lay_2 f k] at h
    unfold layReqP at h
    rw [sns_thr] at h
    simp only [List.append_assoc] at h
    rw [own_2 f k] at e
    have l1 := hr.l1
    have l2 := hr.l2
    have l3 := hr.l3
    have o1 := u_back bs _ a f.id.toNat 0 h hid
    have h2 := drop_on h
    have o2 := c_back bs _ _ f.lim.1.toNat 2147483648 0 h2 (by omega) (by omega)
    have h3 := drop_on h2
    have o3 := c_back bs _ _ f.lim.2.1.toNat 2147483648 0 h3 (by omega) (by omega)
    have h4 := drop_on h3
    have o4 := c_back bs _ _ f.lim.2.2.toNat 2147483648 0 h4 (by omega) (by omega)
    have h5 := drop_on h4
    have o5 := l_back bs _ _ f.args 0 h5 m.2.2.2.1 (long_all m.2.2.2.2)
    have h6 := drop_on h5
    have o6 := t_back bs [] _ f.body 2097152 0 (by rw [List.append_nil]; exact h6) (by omega) (by omega)
    have h7 := drop_on (x := tx (mk f.body)) (r := []) (by rw [List.append_nil]; exact h6)
    refine ⟨_, ?_, h7⟩
    rw [k, fieldsP_2, o1]
    dsimp only
    rw [o2]
    dsimp only
    rw [o3]
    dsimp only
    rw [o4]
    dsimp only
    rw [o5]
    dsimp only
    rw [o6]
    dsimp only
    rw [eid, show ((f.lim.1.toNat : Nat) : Int) = f.lim.1 from (toNat_eq (by omega)).symm, show ((f.lim.2.1.toNat : Nat) : Int) = f.lim.2.1 from (toNat_eq (by omega)).symm, show ((f.lim.2.2.toNat : Nat) : Int) = f.lim.2.2 from (toNat_eq (by omega)).symm]
    exact congrArg (fun x => (x, _)) e.symm
  · rw [mayF_3 f k] at hm
    have m := mayRes_of hm
    rw [lay_3 f k, sns_one] at h
    rw [own_3 f k] at e
    have o1 := u_back bs _ a f.id.toNat 0 h hid
    have h2 := drop_on h
    have o2 := o_back bs _ _ f.status.toNat 3 0 h2 (by omega) (by omega) (by omega)
    have h3 := drop_on h2
    have o6 := t_back bs [] _ f.body 2097152 0 (by rw [List.append_nil]; exact h3) (by omega) (by omega)
    have h7 := drop_on (x := tx (mk f.body)) (r := []) (by rw [List.append_nil]; exact h3)
    refine ⟨_, ?_, h7⟩
    rw [k, fieldsP_3, o1]
    dsimp only
    rw [o2]
    dsimp only
    rw [o6]
    dsimp only
    rw [eid, show ((f.status.toNat : Nat) : Int) = f.status from (toNat_eq (by omega)).symm]
    exact congrArg (fun x => (x, _)) e.symm
  · rw [lay_4 f k] at h
    rw [own_4 f k] at e
    have o1 := u_back bs [] a f.id.toNat 0 (by rw [List.append_nil]; exact h) hid
    have h7 := drop_on (x := sn f.id.toNat) (r := []) (by rw [List.append_nil]; exact h)
    refine ⟨_, ?_, h7⟩
    rw [k, fieldsP_4, o1]
    dsimp only
    rw [eid]
    exact congrArg (fun x => (x, _)) e.symm
  · rw [lay_5 f k] at h
    rw [own_5 f k] at e
    refine ⟨a, ?_, h⟩
    rw [k, fieldsP_5]
    exact congrArg (fun x => (x, _)) e.symm
  · rw [lay_6 f k] at h
    rw [own_6 f k] at e
    have o6 := t_back bs [] _ f.body 2097152 0 (by rw [List.append_nil]; exact h) (by omega) (by omega)
    have h7 := drop_on (x := tx (mk f.body)) (r := []) (by rw [List.append_nil]; exact h)
    refine ⟨_, ?_, h7⟩
    rw [k, fieldsP_6, o6]
    dsimp only
    exact congrArg (fun x => (x, _)) e.symm
/-- limits that are too great are told -/
theorem fields_over (bs : List UInt8) (f : Fr) (a : Nat) (hr : Rng f) (ho : okFr f = true) (h : bs.drop a = layP f) (hlim : limOk f = false) :
    (eS bs (fieldsP bs f.kind (a, 0, 0)).2).1 = 11 := by
  obtain ⟨hk, hsm, hm⟩ := okFr_of ho
  have e := same_eq hsm
  have hid : f.id.toNat < 18446744073709551616 := by have := hr.idh; omega
  have hL : ¬ (f.lim.1 ≤ 2147483648 ∧ f.lim.2.1 ≤ 2147483648 ∧ f.lim.2.2 ≤ 2147483648) := of_decide_eq_false hlim
  have hc : f.kind = 1 ∨ f.kind = 2 ∨ f.kind = 3 ∨ f.kind = 4 ∨ f.kind = 5 ∨ f.kind = 6 := by omega
  have zero : f.lim = (0, 0, 0) → False := fun h9 => hL (by rw [h9]; simp)
  rcases hc with k | k | k | k | k | k
  · rw [own_1 f k] at e
    exact absurd (congrArg Fr.lim e) zero
  · rw [mayF_2 f k] at hm
    have m := mayReq_of hm
    rw [lay_2 f k] at h
    unfold layReqP at h
    rw [sns_thr] at h
    simp only [List.append_assoc] at h
    have l1 := hr.l1
    have l2 := hr.l2
    have l3 := hr.l3
    have o1 := u_back bs _ a f.id.toNat 0 h hid
    have h2 := drop_on h
    rw [k, fieldsP_2, o1]
    dsimp only
    by_cases g1 : f.lim.1 ≤ 2147483648
    · have o2 := c_back bs _ _ f.lim.1.toNat 2147483648 0 h2 (by omega) (by omega)
      have h3 := drop_on h2
      rw [o2]
      dsimp only
      by_cases g2 : f.lim.2.1 ≤ 2147483648
      · have o3 := c_back bs _ _ f.lim.2.1.toNat 2147483648 0 h3 (by omega) (by omega)
        have h4 := drop_on h3
        rw [o3]
        dsimp only
        have o4 := c_over bs _ _ f.lim.2.2.toNat 2147483648 0 h4 (by omega) (by omega) (by omega)
        rw [o4]
        dsimp only
        rw [over_l _ _ _ _ (by show (11 : Int) ≠ 0; decide)]
        dsimp only
        rw [over_t _ _ _ (by show (11 : Int) ≠ 0; decide), eS_over _ _ (by show (11 : Int) ≠ 0; decide)]
      · have o3 := c_over bs _ _ f.lim.2.1.toNat 2147483648 0 h3 (by omega) (by omega) (by omega)
        rw [o3]
        dsimp only
        rw [over_c _ _ _ (by show (11 : Int) ≠ 0; decide)]
        dsimp only
        rw [over_l _ _ _ _ (by show (11 : Int) ≠ 0; decide)]
        dsimp only
        rw [over_t _ _ _ (by show (11 : Int) ≠ 0; decide), eS_over _ _ (by show (11 : Int) ≠ 0; decide)]
    · have o2 := c_over bs _ _ f.lim.1.toNat 2147483648 0 h2 (by omega) (by omega) (by omega)
      rw [o2]
      dsimp only
      rw [over_c _ _ _ (by show (11 : Int) ≠ 0; decide)]
      dsimp only
      rw [over_c _ _ _ (by show (11 : Int) ≠ 0; decide)]
      dsimp only
      rw [over_l _ _ _ _ (by show (11 : Int) ≠ 0; decide)]
      dsimp only
      rw [over_t _ _ _ (by show (11 : Int) ≠ 0; decide), eS_over _ _ (by show (11 : Int) ≠ 0; decide)]
  · rw [own_3 f k] at e
    exact absurd (congrArg Fr.lim e) zero
  · rw [own_4 f k] at e
    exact absurd (congrArg Fr.lim e) zero
  · rw [own_5 f k] at e
    exact absurd (congrArg Fr.lim e) zero
  · rw [own_6 f k] at e
    exact absurd (congrArg Fr.lim e) zero

/-- how many bytes a frame's bytes say that they are, whatever comes behind -/
theorem need_enc (f : Fr) (h : chkE f = 0) (r : List UInt8) : needP (encP f ++ r) = ((encP f).length, (sn (bodyP f).length).length, 0) := by
  obtain ⟨ho, hl⟩ := chk_ok h
  have hk := (okFr_of ho).1
  have hb : 1 ≤ (bodyP f).length := by unfold bodyP; rw [List.length_append]; have := sn_length_pos f.kind.toNat; omega
  have e : encP f ++ r = sn (bodyP f).length ++ (bodyP f ++ (le4 (sumP (sn (bodyP f).length ++ bodyP f)) ++ r)) := by
    unfold encP sealP
    simp only [List.append_assoc]
  have hd : dec (encP f ++ r) 0 0 = (0, (bodyP f).length, (sn (bodyP f).length).length) := by rw [e]; exact dec_sn _ _ (by omega)
  have el : (encP f).length = (sn (bodyP f).length).length + (bodyP f).length + 4 := by
    unfold encP
    rw [sealP_length, List.length_append]
  unfold needP
  rw [hd]
  simp only
  rw [if_neg (by omega), if_neg (by omega), if_neg (by omega), if_neg (by omega), el]
theorem cok_enc (x : List UInt8) : cokP (sealP x) = true := by
  unfold cokP
  refine decide_eq_true ?_
  rw [sealP_length, show x.length + 4 - 4 = x.length by omega]
  unfold sealP
  rw [List.drop_left' rfl, List.take_left' rfl]
/-- what was written is read back -/
theorem dec_enc (f : Fr) (hr : Rng f) (h : chkE f = 0) : if limOk f = true then decP (encP f) = (f, 0, 0) else (decP (encP f)).1 = zF ∧ (decP (encP f)).2.1 = 11 := by
  obtain ⟨ho, hl⟩ := chk_ok h
  have hk := (okFr_of ho).1
  have hn := need_enc f h []
  rw [List.append_nil] at hn
  have hu : unsE (encP f) = (0, 0) := by
    unfold unsE
    rw [hn]
    simp only
    have hb := sn_length_pos (bodyP f).length
    have el : (encP f).length = (sn (bodyP f).length).length + (bodyP f).length + 4 := by
      unfold encP
      rw [sealP_length, List.length_append]
    rw [if_neg (by omega), if_neg (by omega), if_neg (by omega), if_pos (show cokP (encP f) = true from cok_enc _)]
  have ei : (encP f).take ((encP f).length - 4) = sn (bodyP f).length ++ bodyP f := by
    unfold encP
    rw [sealP_length, show (sn (bodyP f).length ++ bodyP f).length + 4 - 4 = (sn (bodyP f).length ++ bodyP f).length by omega]
    unfold sealP
    exact List.take_left' rfl
  have hd : decP (encP f) = frameP (sn (bodyP f).length ++ bodyP f) (sn (bodyP f).length).length := by
    rw [decP_uns, hu, if_neg (by simp), ei, hn]
  rw [hd]
  obtain ⟨bs, hbs⟩ : ∃ bs, sn (bodyP f).length ++ bodyP f = bs := ⟨_, rfl⟩
  obtain ⟨hd0, hhd⟩ : ∃ n, (sn (bodyP f).length).length = n := ⟨_, rfl⟩
  have hdr : bs.drop hd0 = sn f.kind.toNat ++ layP f := by
    rw [← hbs, ← hhd, List.drop_left' rfl]
    rfl
  rw [hbs, hhd]
  have hkn : f.kind = ((f.kind.toNat : Nat) : Int) := toNat_eq (by omega)
  have o1 := o_back bs _ hd0 f.kind.toNat 6 0 hdr (by omega) (by omega) (by omega)
  have h2 := drop_on hdr
  have hK : (oS bs 6 (hd0, 0, 0)).1 = f.kind.toNat := by rw [o1]
  have hBl : f.body.length ≤ 2097152 := by
    rcases Nat.lt_or_ge 2097152 f.body.length with h9 | h9
    · exfalso
      have hc : (f.kind = 1 ∨ f.kind = 4 ∨ f.kind = 5) ∨ (f.kind = 2 ∨ f.kind = 3 ∨ f.kind = 6) := by omega
      rcases hc with k | k
      · rw [same_own_body (okFr_of ho).2.1 k] at h9
        simp at h9
      · have := body_le f k hl
        omega
    · exact h9
  cases hlim : limOk f with
  | true =>
    rw [if_pos rfl]
    obtain ⟨a', hf, hz⟩ := fields_back bs f _ hr ho hBl h2 hlim
    have hf2 : fieldsP bs ((f.kind.toNat : Nat) : Int) (oS bs 6 (hd0, 0, 0)).2 = (f, a', 0, 0) := by rw [o1, ← hkn]; exact hf
    rw [frameP_ok bs hd0 f.kind.toNat hK (by omega) (by rw [hf2, e_back bs a' 0 hz]) (by rw [hf2]; exact (okFr_of ho).2.2), hf2]
  | false =>
    rw [if_neg (by decide)]
    have hf := fields_over bs f _ hr ho h2 hlim
    have hf2 : (eS bs (fieldsP bs ((f.kind.toNat : Nat) : Int) (oS bs 6 (hd0, 0, 0)).2).2).1 = 11 := by rw [o1, ← hkn]; exact hf
    rw [frameP_bad bs hd0 f.kind.toNat hK (by omega) (by rw [hf2]; decide)]
    exact ⟨rfl, hf2⟩
/-- no beginning of a frame's bytes is a frame -/
theorem dec_cut (f : Fr) (h : chkE f = 0) (c : Nat) (hc : c < (encP f).length) : decP ((encP f).take c) = (zF, 4, (c : Int)) := by
  obtain ⟨ho, hl⟩ := chk_ok h
  have hn := need_enc f h []
  rw [List.append_nil] at hn
  have hlen : ((encP f).take c).length = c := by rw [List.length_take]; omega
  have hdf : dec (encP f) 0 0 = (0, (bodyP f).length, (sn (bodyP f).length).length) := by
    have e : encP f = sn (bodyP f).length ++ (bodyP f ++ le4 (sumP (sn (bodyP f).length ++ bodyP f))) := by
      unfold encP sealP
      simp only [List.append_assoc]
    rw [e]
    exact dec_sn _ _ (by omega)
  have hu : unsE ((encP f).take c) = (4, (c : Int)) := by
    rcases dec_begin (encP f) c 0 0 with hb | hb
    · have hn2 : needP ((encP f).take c) = needP (encP f) := by unfold needP; rw [hb]
      unfold unsE
      rw [hn2, hn]
      simp only
      rw [if_neg (by omega), if_pos (by right; rw [hlen]; exact hc), hlen]
    · have hn2 : needP ((encP f).take c) = (0, 0, 0) := by unfold needP; rw [hb]; rfl
      unfold unsE
      rw [hn2]
      simp only
      rw [if_neg (by omega), if_pos (by left; trivial), hlen]
  rw [decP_uns, hu, if_pos (by show (4 : Int) ≠ 0; decide)]
end Go.Proofs.Ytjinkahlfigdcaa

/- The sum of bytes of which one is turned. -/
namespace Go.Proofs.Ytjinkahlfigdcaa

/-- a byte with some bits turned -/
def turnB (b : UInt8) (m : Nat) : UInt8 := (b.toNat ^^^ m).toUInt8
theorem turnB_nat (b : UInt8) (m : Nat) (hm : m < 256) : (turnB b m).toNat = b.toNat ^^^ m := by
  have hx : b.toNat ^^^ m < 2 ^ 8 := Nat.xor_lt_two_pow b.toNat_lt hm
  unfold turnB
  simp only [Nat.toUInt8_eq, UInt8.toNat_ofNat']
  omega
theorem raw_turn (m : Nat) (hm : m < 256) : ∀ (p : List UInt8) (a c : Nat), a < p.length → raw c (p.set a (turnB (p.getD a 0) m)) = raw c p ^^^ shN (8 * (p.length - a)) m
  | b :: r, 0, c, _ => by
    simp only [List.set_cons_zero, List.getD_cons_zero, List.length_cons, Nat.sub_zero]
    rw [raw_cons, raw_cons, turnB_nat b m hm, ← Nat.xor_assoc, shN_xor, raw_lin, ← shN_add]
    congr 2
    omega
  | b :: r, a + 1, c, h => by
    have ih := raw_turn m hm r a (shN 8 (c ^^^ b.toNat)) (by simpa using h)
    simp only [List.set_cons_succ, List.getD_cons_succ, List.length_cons]
    rw [raw_cons, raw_cons, ih]
    congr 2
    omega
  | [], _, _, h => by simp at h
theorem sumP_turn (m : Nat) (hm : m < 256) (p : List UInt8) (a : Nat) (h : a < p.length) : sumP (p.set a (turnB (p.getD a 0) m)) = sumP p ^^^ shN (8 * (p.length - a)) m := by
  unfold sumP moreP
  rw [raw_turn m hm p a _ h, Nat.xor_assoc]

end Go.Proofs.Ytjinkahlfigdcaa

/- Turned bits among thirty-two neighbouring ones are told: the mathematics, beside frames. -/
namespace Go.Proofs.Ytjinkahlfigdcaa

/-- the word of four bytes -/
def wd (t : List UInt8) : Nat := (t.getD 0 0).toNat ^^^ 2 ^ 8 * (t.getD 1 0).toNat ^^^ 2 ^ 16 * (t.getD 2 0).toNat ^^^ 2 ^ 24 * (t.getD 3 0).toNat
theorem four_of {t : List UInt8} (h : t.length = 4) : ∃ a b c d, t = [a, b, c, d] := by
  match t, h with
  | [a, b, c, d], _ => exact ⟨a, b, c, d, rfl⟩
theorem shN_cut (j k m : Nat) : shN (j + k) (2 ^ j * m) = shN k m := by rw [shN_add, shN_pow]
theorem raw_four (x : Nat) (t : List UInt8) (h : t.length = 4) : raw x t = shN 32 (x ^^^ wd t) := by
  obtain ⟨a, b, c, d, rfl⟩ := four_of h
  simp only [wd, List.getD_cons_zero, List.getD_cons_succ]
  rw [raw_cons, raw_cons, raw_cons, raw_cons, raw_nil]
  simp only [shN_xor, ← shN_add, Nat.reduceAdd]
  rw [show (32 : Nat) = 8 + 24 from rfl, shN_cut 8 24, show (8 + 24 : Nat) = 16 + 16 from rfl, shN_cut 16 16, show (16 + 16 : Nat) = 24 + 8 from rfl, shN_cut 24 8]
  simp only [Nat.xor_assoc]
theorem shN_inj {k a b : Nat} (ha : a < 4294967296) (hb : b < 4294967296) (h : shN k a = shN k b) : a = b := by
  refine xor_eq_zero (shN_nil (xlt ha hb) k ?_)
  rw [shN_xor, h, Nat.xor_self]
theorem wd_lt (t : List UInt8) : wd t < 4294967296 := by
  unfold wd
  have h0 := (t.getD 0 0).toNat_lt
  have h1 := (t.getD 1 0).toNat_lt
  have h2 := (t.getD 2 0).toNat_lt
  have h3 := (t.getD 3 0).toNat_lt
  exact xlt (xlt (xlt (by omega) (by omega)) (by omega)) (by omega)
theorem hi_xor (n k m : Nat) (h : n < 2 ^ k) : n ^^^ 2 ^ k * m = 2 ^ k * m + n := by
  rw [Nat.two_pow_add_eq_or_of_lt h]
  refine Nat.eq_of_testBit_eq fun i => ?_
  rw [Nat.testBit_xor, Nat.testBit_or, Nat.testBit_two_pow_mul]
  by_cases hi : i < k
  · simp [show ¬ i ≥ k by omega]
  · have : n.testBit i = false := Nat.testBit_lt_two_pow (Nat.lt_of_lt_of_le h (Nat.pow_le_pow_right (by omega) (by omega)))
    simp [this]
theorem wd_sum (t : List UInt8) : wd t = (t.getD 0 0).toNat + 256 * (t.getD 1 0).toNat + 65536 * (t.getD 2 0).toNat + 16777216 * (t.getD 3 0).toNat := by
  unfold wd
  have h0 := (t.getD 0 0).toNat_lt
  have h1 := (t.getD 1 0).toNat_lt
  have h2 := (t.getD 2 0).toNat_lt
  have h3 := (t.getD 3 0).toNat_lt
  rw [hi_xor _ 8 _ (by omega), hi_xor _ 16 _ (by omega), hi_xor _ 24 _ (by omega)]
  omega
theorem wd_le4 (c : Nat) (hc : c < 4294967296) : wd (le4 c) = c := by
  rw [wd_sum]
  simp only [le4, List.getD_cons_zero, List.getD_cons_succ, byte_of]
  omega
theorem u8_eq {a b : UInt8} (h : a.toNat = b.toNat) : a = b := UInt8.toNat_inj.1 h
theorem wd_inj {s t : List UInt8} (hs : s.length = 4) (ht : t.length = 4) (h : wd s = wd t) : s = t := by
  obtain ⟨a, b, c, d, rfl⟩ := four_of hs
  obtain ⟨e, f, g, i, rfl⟩ := four_of ht
  rw [wd_sum, wd_sum] at h
  simp only [List.getD_cons_zero, List.getD_cons_succ] at h
  have h0 := a.toNat_lt
  have h1 := b.toNat_lt
  have h2 := c.toNat_lt
  have h3 := d.toNat_lt
  have k0 := e.toNat_lt
  have k1 := f.toNat_lt
  have k2 := g.toNat_lt
  have k3 := i.toNat_lt
  rw [u8_eq (show a.toNat = e.toNat by omega), u8_eq (show b.toNat = f.toNat by omega), u8_eq (show c.toNat = g.toNat by omega), u8_eq (show d.toNat = i.toNat by omega)]
/-- bytes are sealed just if all of them together leave this -/
theorem cokP_iff (s : List UInt8) (h : 4 ≤ s.length) : cokP s = decide (raw 4294967295 s = shN 32 4294967295) := by
  obtain ⟨n, hn⟩ : ∃ n, s.length = n + 4 := ⟨s.length - 4, by omega⟩
  rw [okP_at s n hn]
  have hd : (s.drop n).length = 4 := by rw [List.length_drop]; omega
  have hr : raw 4294967295 s = shN 32 (raw 4294967295 (s.take n) ^^^ wd (s.drop n)) := by
    rw [← raw_four _ _ hd, ← raw_append, List.take_append_drop]
  have hq := raw_lt (show 4294967295 < 4294967296 by omega) (s.take n)
  have hs : sumP (s.take n) = 4294967295 ^^^ raw 4294967295 (s.take n) := by unfold sumP moreP; rw [Nat.xor_zero]
  refine decide_eq_decide.2 ⟨fun e => ?_, fun e => ?_⟩
  · rw [hr, e, wd_le4 _ (sumP_lt _), hs, Nat.xor_comm 4294967295, xx]
  · rw [hr] at e
    have h1 := shN_inj (xlt hq (wd_lt _)) (by omega) e
    refine wd_inj hd (le4_length _) ?_
    rw [wd_le4 _ (sumP_lt _), hs]
    generalize raw 4294967295 (s.take n) = R at h1 ⊢
    rw [← h1, Nat.xor_comm R, xx']
/-- bit j turned -/
def flip (s : List UInt8) (j : Nat) : List UInt8 := s.set (j / 8) (turnB (s.getD (j / 8) 0) (2 ^ (j % 8)))
theorem flip_length (s : List UInt8) (j : Nat) : (flip s j).length = s.length := by simp [flip]
theorem pow8_lt (j : Nat) : 2 ^ (j % 8) < 256 := Nat.lt_of_le_of_lt (Nat.pow_le_pow_right (by omega) (show j % 8 ≤ 7 by omega)) (by omega)
theorem raw_flip (c : Nat) (s : List UInt8) (a i : Nat) (hi : i < 32) (h : a + 32 ≤ 8 * s.length) : raw c (flip s (a + i)) = raw c s ^^^ shN (8 * s.length - a) (2 ^ i) := by
  unfold flip
  rw [raw_turn _ (pow8_lt _) s _ c (by omega)]
  congr 1
  have e1 : 8 * (s.length - (a + i) / 8) = (a + i) % 8 + (8 * s.length - (a + i)) := by omega
  have e2 : 8 * s.length - a = i + (8 * s.length - (a + i)) := by omega
  have h1 := shN_cut ((a + i) % 8) (8 * s.length - (a + i)) 1
  have h2 := shN_cut i (8 * s.length - (a + i)) 1
  rw [Nat.mul_one] at h1 h2
  rw [e1, e2, h1, h2]
theorem low_yes {b k : Nat} (h : b / 2 ^ k % 2 = 1) : b % 2 ^ (k + 1) = b % 2 ^ k ^^^ 2 ^ k := by
  rw [Nat.mod_pow_succ, h]
  have := hi_xor (b % 2 ^ k) k 1 (Nat.mod_lt _ (Nat.two_pow_pos k))
  rw [Nat.mul_one] at this
  rw [this]
  omega
theorem low_no {b k : Nat} (h : b / 2 ^ k % 2 = 0) : b % 2 ^ (k + 1) = b % 2 ^ k := by
  rw [Nat.mod_pow_succ, h]
  omega
/-- how the bytes stand behind k of the bits -/
structure Tl (s : List UInt8) (a b k : Nat) (S : List UInt8) (t : Bool) : Prop where
  len : S.length = s.length
  raw_ : raw 4294967295 S = raw 4294967295 s ^^^ shN (8 * s.length - a) (b % 2 ^ k)
  yes : t = true → b % 2 ^ k ≠ 0
  no : t = false → b % 2 ^ k = 0 ∧ S = s
theorem Tl.begin (s : List UInt8) (a b : Nat) : Tl s a b 0 s false := ⟨rfl, by rw [Nat.pow_zero, Nat.mod_one, shN_zero, Nat.xor_zero], (fun h => by cases h), fun _ => ⟨by rw [Nat.pow_zero, Nat.mod_one], rfl⟩⟩
theorem Tl.turn {s S : List UInt8} {a b k : Nat} {t : Bool} (h : Tl s a b k S t) (hk : k < 32) (ha : a + 32 ≤ 8 * s.length) (hb : b / 2 ^ k % 2 = 1) : Tl s a b (k + 1) (flip S (a + k)) true := by
  refine ⟨by rw [flip_length, h.len], ?_, fun _ => ?_, (fun h => by cases h)⟩
  · rw [raw_flip _ S a k hk (by rw [h.len]; exact ha), h.raw_, h.len, Nat.xor_assoc, ← shN_xor, low_yes hb]
  · rw [Nat.mod_pow_succ, hb]
    have := Nat.two_pow_pos k
    omega
theorem Tl.keep {s S : List UInt8} {a b k : Nat} {t : Bool} (h : Tl s a b k S t) (hb : b / 2 ^ k % 2 = 0) : Tl s a b (k + 1) S t := by
  refine ⟨h.len, by rw [low_no hb]; exact h.raw_, by rw [low_no hb]; exact h.yes, by rw [low_no hb]; exact h.no⟩
theorem Tl.bad {p S : List UInt8} {a b : Nat} (h : Tl (sealP p) a b 32 S true) (hb : b < 4294967296) : cokP S = false := by
  have hl := sealP_length p
  have h1 := cok_enc p
  rw [cokP_iff _ (by omega)] at h1
  have h2 := of_decide_eq_true h1
  rw [cokP_iff _ (by rw [h.len]; omega)]
  refine decide_eq_false fun e => ?_
  rw [h.raw_, h2] at e
  have h3 := congrArg (fun x => shN 32 4294967295 ^^^ x) e
  simp only [xx, Nat.xor_self] at h3
  have hm : b % 2 ^ 32 = b := Nat.mod_eq_of_lt hb
  rw [hm] at h3
  have h4 := shN_nil hb _ h3
  have h5 := h.yes rfl
  rw [hm] at h5
  exact h5 h4
theorem OwnB.setAt {w : World} {base g n cap : Nat} {bs : List UInt8} (h : OwnB w base (.slice (some ⟨g, 0, none⟩) n cap) bs) (k : Nat) (m : UInt8) :
    OwnB (w.setCell ⟨g, k, none⟩ (.int .u8 m.toNat)) base (.slice (some ⟨g, 0, none⟩) n cap) (bs.set k m) := by
  obtain ⟨h1, ⟨h2, _⟩ | ⟨g', cap', cur, hv, hb, hh, h3, h4, h5, h6⟩⟩ := h
  · simp at h2
  · simp only [Value.slice.injEq, Option.some.injEq, Addr.mk.injEq, and_true] at hv
    obtain ⟨rfl, rfl, rfl⟩ := hv
    refine ⟨by simp [bytesV], Or.inr ⟨g, cap, cur.setIfInBounds k (.int .u8 m.toNat), by simp, hb, blk_set hh _, by simpa using h3, h4, by simpa using h5, ?_⟩⟩
    rw [Array.toList_setIfInBounds, List.length_set, List.take_set, h6]
    simp [bytesV, List.map_set]
end Go.Proofs.Ytjinkahlfigdcaa

/- Need of rows that may be very long; append that makes them. -/
namespace Go.Proofs.Ytjinkahlfigdcaa
open Go.RowKit Go.BigFrame

/-- append(own, bytes...), far past what a reading may bear -/
theorem app_srcw {w : World} {ops : Array Oper} {rest : List Oper} {o : Oper} {a : Act} {Q : Exit → Act → World → Prop} (hgd : o.guard = none) (s x : Operand)
    (ho : o.op = .call { callee := .builtin .append, args := #[s, x], argTypes := #[30, 30] })
    (base : Nat) (v : Value) (bs : List UInt8) (hs : a.eval s = v) (hown : OwnB w base v bs) (vx : Value) (cs : List UInt8) (hx : a.eval x = vx) (hsrc : Src w vx cs)
    (hlen : bs.length ≤ 3000000) (hbase : base ≤ w.heap.size)
    (h : ∀ v' w', OwnB w' base v' (bs ++ cs) → w.grownBy w' v.ownBlock → wpList Try.prog ops Q rest (a.put o.dst v') w') : wpList Try.prog ops Q (o :: rest) a w := by
  obtain ⟨i0, hi, hz0, hz1, hz2⟩ := info_parts Try.infoU8
  obtain ⟨hcl, ⟨rfl, rfl⟩ | ⟨ad, cap, rfl, h1, h2, hlt, hc⟩⟩ := hsrc
  · refine wpList_append_own_none hgd s x 30 ho base 5 i0 1 Try.underlying30 hi v bs.length (bytesV bs) hs hown hx ?_
    exact h v w (by simpa using hown) (gb_refl _ _)
  · refine wpList_append_own_wide w hgd s x 30 ho base 5 i0 (.int .u8 0) 1 1 Try.underlying30 hi hz0 hz1 hz2 rfl (by decide) v bs.length (bytesV bs) hs hown ad cs.length cap (bytesV cs) hx (by simp [bytesV]) (src_cells hc) (bytesV_one cs) (by unfold maxLen; omega) (by omega) hbase ?_
    intro v' w' h3 h4 _
    exact h v' w' (by unfold OwnB; rw [bytesV_append, List.length_append]; exact h3) h4
theorem cut_own {w : World} {base : Nat} {v : Value} {bs : List UInt8} (h : OwnB w base v bs) (k : Nat) (hk : k ≤ bs.length) (hk2 : k ≤ 140737488355327) :
    ∃ vx, Src w vx (bs.take k) ∧ (∀ W, (Instr.slice 30 v none (some (.int .i64 (k : Int))) none).run Try.prog W = .ok vx W) := by
  have hm := h.len
  rcases h.forms with ⟨rfl, rfl⟩ | ⟨g, cap, rfl, h0, hlt, h1, h2, _, hc⟩
  · simp at hk
    subst hk
    exact ⟨.slice none 0 0, ⟨by simp, Or.inl ⟨rfl, rfl⟩⟩, fun W => by go_simp⟩
  · have hlen : (bs.take k).length = k := by simp; omega
    refine ⟨.slice (some ⟨g, 0, none⟩) k cap, ⟨by omega, Or.inr ⟨⟨g, 0, none⟩, cap, by rw [hlen], by omega, h2, fun h0 => hlt, fun j hj => ?_⟩⟩, fun W => ?_⟩
    · rw [hlen] at hj
      rw [addr_add, hc j (by omega)]
      simp [List.getD_eq_getElem?_getD, hj]
    · have hk2 : (k : Int) ≤ (cap : Int) := by omega
      go_simp

set_option maxRecDepth 100000 in
set_option maxHeartbeats 4000000 in
theorem need_long (av : Option Addr) (cv : Nat) (bs : List UInt8) (w : World) (vx : Value) (hx : Src w vx (bs.take (min bs.length 10))) (cut : ∀ W, (Instr.slice 30 (.slice av bs.length cv) none (some (.int .i64 ((min bs.length 10 : Nat) : Int))) none).run Try.prog W = .ok vx W) (hsl : bs.length ≤ 9223372036854775807) :
    Calls Try.prog 19 #[.slice av bs.length cv] w fun e w' => e = .returned (.tuple #[.int .i64 (needP bs).1, .int .i64 (needP bs).2.2]) ∧ Below w.heap.size w w' := by
  have HN := hid (newReader_any vx _ w hx)
  have hd := dec_head bs
  obtain ⟨E, N, K, hdec⟩ : ∃ E N K, dec bs 0 0 = (E, N, K) := ⟨_, _, _, rfl⟩
  rw [hdec] at hd
  have HU : Hid (uintF (bs.take (min bs.length 10)) 0 0 0 = (N, K, (E : Int), watOf E 0 0)) := hid (by unfold uintF; rw [if_neg (by simp), List.drop_zero, hd]; simp)
  have HLE := hid (dec_le bs hdec)
  have HTEN : Hid (K ≤ 10) := hid (by have := (dec_le _ hd).1; rw [List.length_take] at this; omega)
  have HP : Hid (needP bs = if E = 4 then (0, 0, 0) else if E ≠ 0 then (0, 0, E) else if 2097152 < N then (0, 0, 3) else if N = 0 then (0, 0, 70) else (K + N + 4, K, 0)) := hid (by unfold needP; rw [hdec])
  have hfw := fault_why
  clear hdec hd hx
  generalize bs.take (min bs.length 10) = X at *
  obtain ⟨M, HM⟩ : ∃ M : Nat, Hid (min bs.length 10 = M) := ⟨_, rfl⟩
  rw [HM.out] at cut
  have hm : min (bs.length : Int) 10 = (M : Int) := by have := HM.out; omega
  go_enter Try.func19, Try.ntmps19
  go_wp2_with fail
  refine HN.out.mono ?_
  rintro e w1 ⟨b, v1, rfl, hr1, hb1⟩
  have HB1 := hid hb1
  have HUI := hid (uint_R (h := hr1))
  rw [HU.out] at HUI
  clear hr1 hb1 HN cut hm
  go_wp2_with fail
  refine HUI.out.mono ?_
  rintro e w2 ⟨rfl, hr2, hg2⟩
  have HR2 := hid hr2
  have HB2 := hid (Below.of_gb HB1.out hg2 hr2.lo)
  have HFA := hid (rfault_any (h := hr2))
  clear hr2 hg2 HUI HB1
  go_wp2_with fail
  refine HFA.out.mono ?_
  rintro e w3 ⟨rfl, hb3⟩
  have HR3 := hid (HR2.out.below hb3)
  have HB3 := hid (below_then HB2.out hb3)
  clear hb3 HR2 HB2 HFA
  by_cases h4 : E = 4
  · have HV := hid (show needP bs = (0, 0, 0) by rw [HP.out, if_pos h4])
    have q1 : ((E : Int) == 4) = true := by simp [h4]
    have q2 : (E : Int) = 4 := by omega
    clear h4
    go_wp2
    go_ret2
    rw [HV.out]
    exact ⟨rfl, HB3.out⟩
  · have q1 : ((E : Int) == 4) = false := by simp; omega
    have q2 : ¬ (E : Int) = 4 := by omega
    by_cases h0 : E = 0
    · have q3 : ((E : Int) != 0) = false := by simp [h0]
      have q4 : (E : Int) = 0 := by omega
      by_cases hN : 2097152 < N
      · have HV := hid (show needP bs = (0, 0, 3) by rw [HP.out, if_neg h4, if_neg (by simpa using h0), if_pos hN])
        have q5 : (2097152 : Int) < (N : Int) := by omega
        have q6 : decide ((2097152 : Int) < (N : Int)) = true := by simpa using q5
        clear h4 h0 hN
        go_wp2
        go_ret2
        rw [HV.out]
        exact ⟨rfl, HB3.out⟩
      · have q5 : ¬ (2097152 : Int) < (N : Int) := by omega
        have q6 : decide ((2097152 : Int) < (N : Int)) = false := by simpa using q5
        by_cases hz : N = 0
        · have HV := hid (show needP bs = (0, 0, 70) by rw [HP.out, if_neg h4, if_neg (by simpa using h0), if_neg hN, if_pos hz])
          have q7 : ((N : Int) == 0) = true := by simp [hz]
          have q8 : (N : Int) = 0 := by omega
          clear h4 h0 hN hz
          go_wp2
          go_ret2
          rw [HV.out]
          exact ⟨rfl, HB3.out⟩
        · have HV := hid (show needP bs = (K + N + 4, K, 0) by rw [HP.out, if_neg h4, if_neg (by simpa using h0), if_neg hN, if_neg hz])
          have q7 : ((N : Int) == 0) = false := by simp; omega
          have q8 : ¬ (N : Int) = 0 := by omega
          have HAT := hid (rat_any (h := HR3.out))
          have w1 : IntKind.i64.wrap (N : Int) = (N : Int) := by rw [IntKind.wrap_i64]; omega
          have w2 : IntKind.i64.wrap ((K : Int) + (N : Int)) = (K : Int) + (N : Int) := by rw [IntKind.wrap_i64]; have := HTEN.out; omega
          have w4 : IntKind.i64.wrap ((K : Int) + (N : Int) + 4) = (K : Int) + (N : Int) + 4 := by rw [IntKind.wrap_i64]; have := HTEN.out; omega
          clear h4 h0 hN hz
          go_wp2_with fail
          refine HAT.out.mono ?_
          rintro e w5 ⟨rfl, hw5⟩
          subst hw5
          go_wp2
          go_ret2
          rw [HV.out]
          exact ⟨by simp, HB3.out⟩
    · have HV := hid (show needP bs = (0, 0, E) by rw [HP.out, if_neg h4, if_pos h0])
      have q3 : ((E : Int) != 0) = true := by simp; omega
      have q4 : ¬ (E : Int) = 0 := by omega
      clear h4 h0
      go_wp2
      go_ret2
      rw [HV.out]
      exact ⟨rfl, HB3.out⟩

theorem need_own {w : World} {base : Nat} {av : Option Addr} {cv : Nat} {bs : List UInt8} (h : OwnB w base (.slice av bs.length cv) bs) :
    Calls Try.prog 19 #[.slice av bs.length cv] w fun e w' => e = .returned (.tuple #[.int .i64 (needP bs).1, .int .i64 (needP bs).2.2]) ∧ Below w.heap.size w w' := by
  obtain ⟨vx, hx, cut⟩ := cut_own h (min bs.length 10) (Nat.min_le_left _ _) (by omega)
  exact need_long av cv bs w vx hx cut (by have := h.len; unfold maxLen at this; omega)
end Go.Proofs.Ytjinkahlfigdcaa

/- FrameBack answers true. -/
namespace Go.Proofs.Ytjinkahlfigdcaa
open Go.RowKit Go.BigFrame

theorem ungd {P : Program} {ops : Array Oper} {Q : Exit → Act → World → Prop} {a : Act} {w : World} {rest : List Oper} {d : Option Tmp} {op : Op} {ty : TypeId} {pos : String} {af : Array Edge} {g : Option (Nat × Bool)}
    (hw : Region.wanted ⟨d, op, ty, pos, af, g⟩ (yielded ops a.tmps) = true) (h : wpList P ops Q (⟨d, op, ty, pos, af, none⟩ :: rest) a w) : wpList P ops Q (⟨d, op, ty, pos, af, g⟩ :: rest) a w := by
  have hn : Region.wanted ⟨d, op, ty, pos, af, none⟩ (yielded ops a.tmps) = true := by simp [Region.wanted]
  simp only [wpList] at h ⊢
  rw [if_pos hn] at h
  rw [if_pos hw]
  exact h

set_option maxRecDepth 100000 in
set_option maxHeartbeats 8000000 in
theorem lawBack_any (f : Fr) (va vh : Value) (hd : List UInt8) (cut : Int) (w : World) (hr : Rng f) (ha : Strs w va f.args) (hh : Src w vh hd) (hc1 : -9223372036854775808 ≤ cut) (hc2 : cut ≤ 9223372036854775807) :
    Calls Try.prog 5 #[.agg (fcells f va).toArray, vh, .int .i64 cut] w fun e w' => e = .returned (.bool true) ∧ Below w.heap.size w w' := by
  obtain ⟨ah, chh, rfl⟩ := src_shape hh
  obtain ⟨LH, HLH⟩ : ∃ n, Hid (hd.length = n) := ⟨_, rfl⟩
  have HNB := hid (hp_new w (.cells (fcells f va).toArray 29))
  have HBL := hid (below_walk w (.cells (fcells f va).toArray 29))
  have HSZ := hid (frame_size f va hr.tool)
  have HA := hid (ha.below HBL.out)
  have HH := hid (hh.below HBL.out)
  have HRN := hid hr
  have hg := faultG
  have HCK := hid (fun W (hW : Strs W va f.args) => checkF_any f va W hr hW)
  have HEE := hid (fun (h9 : chkE f ≠ 0) W (hW : Strs W va f.args) => encF_err f va W hr hW h9)
  have HEO := hid (fun (h9 : chkE f = 0) W (hW : Strs W va f.args) => encF_ok f va W hr hW h9)
  clear ha hr hh
  go_enter Try.func5, Try.ntmps5
  go_upto_region 1 with fail
  generalize w.alloc (.cells (fcells f va).toArray 29) = w1 at HNB HBL HA HH ⊢
  rw [HLH.out] at HH ⊢
  go_wp2_with fail
  refine (alive_any w1).mono ?_
  rintro e w2 ⟨rfl, hb2⟩
  have HN2 := hid (bel_keep hb2 HNB.out)
  have HB2 := hid (below_then HBL.out hb2)
  have HA2 := hid (HA.out.below hb2)
  have HH2 := hid (HH.out.below hb2)
  clear hb2 HNB HBL HA HH
  by_cases h : chkE f = 0
  · have HE := hid (HEO.out h)
    have hl := enc_len h
    obtain ⟨M, HM⟩ : ∃ M : Nat, Hid ((encP f).length = M) := ⟨_, rfl⟩
    rw [HM.out] at hl
    have hM1 : 1 ≤ M := by
      have h9 := HM.out
      unfold encP at h9
      rw [sealP_length] at h9
      omega
    have HDE := hid (dec_enc f HRN.out h)
    have HCU := hid (dec_cut f h)
    have HNE := hid (need_enc f h hd)
    rw [HM.out] at HCU HNE
    clear HEE HEO HCK
    go_wp2_with (refine ld_row (by rfl) 29 (.tmp 3) (by rfl) w.heap.size (by rfl) (fcells f va) 29 HN2.out _ Try.underlying29 rfl HSZ.out ?_)
    refine (HE.out w2 HA2.out).mono ?_
    rintro e w3 ⟨vb, rfl, ho3, hb3⟩
    have HN3 := hid (bel_keep hb3 HN2.out)
    have HB3 := hid (below_then HB2.out hb3)
    have HA3 := hid (HA2.out.below hb3)
    have HH3 := hid (HH2.out.below hb3)
    have HS3 := hid (ho3.src (by rw [HM.out]; omega))
    obtain ⟨ab, cb, eb⟩ := src_shape HS3.out
    rw [HM.out] at eb
    subst eb
    have HFB := hid (Fb.of HN3.out HRN.out.tool)
    have l1 := HFB.out.l1
    have l2 := HFB.out.l2
    have l3 := HFB.out.l3
    clear ho3 hb3 HN2 HB2 HA2 HH2 HE HFB
    go_upto_region 7 with fail
    have HW3 := hid (below_walk w3 (.cells #[.int .i64 f.lim.1, .int .i64 f.lim.2.1, .int .i64 f.lim.2.2] 26))
    have HN4 := hid (bel_keep HW3.out HN3.out)
    have HB4 := hid (below_then HB3.out HW3.out)
    have HA4 := hid (HA3.out.below HW3.out)
    have HH4 := hid (HH3.out.below HW3.out)
    have HS4 := hid (HS3.out.below HW3.out)
    have HLB := hid (hp_new w3 (.cells #[.int .i64 f.lim.1, .int .i64 f.lim.2.1, .int .i64 f.lim.2.2] 26))
    obtain ⟨lb, HLBe⟩ : ∃ n, Hid (w3.heap.size = n) := ⟨_, rfl⟩
    rw [HLBe.out] at HLB ⊢
    generalize w3.alloc (.cells #[.int .i64 f.lim.1, .int .i64 f.lim.2.1, .int .i64 f.lim.2.2] 26) = w4 at HW3 HN4 HB4 HA4 HH4 HS4 HLB ⊢
    clear HN3 HB3 HA3 HH3 HS3 l1 l2 l3 HW3 HLBe
    have HDC := hid (decode_any _ (encP f) w4 HS4.out)

    obtain ⟨g, HG⟩ : ∃ x, Hid ((decP (encP f)).1 = x) := ⟨_, rfl⟩
    obtain ⟨E1, HE1⟩ : ∃ x, Hid ((decP (encP f)).2.1 = x) := ⟨_, rfl⟩
    obtain ⟨E2, HE2⟩ : ∃ x, Hid ((decP (encP f)).2.2 = x) := ⟨_, rfl⟩
    rw [HG.out, HE1.out, HE2.out] at HDC
    go_wp2_with fail
    refine HDC.out.mono ?_
    rintro e w5 ⟨vg, rfl, hog, hb5⟩
    have HRG := hid (show Rng g by rw [← HG.out]; exact dec_rng _ (by rw [HM.out]; omega) (by rw [HG.out]; exact wowns_len hog))
    have HSTG := hid (wowns_strs hog)
    have HN5 := hid (bel_keep hb5 HN4.out)
    have HLB5 := hid (bel_keep hb5 HLB.out)
    have HB5 := hid (below_then HB4.out hb5)
    have HA5 := hid (HA4.out.below hb5)
    have HH5 := hid (HH4.out.below hb5)
    have HS5 := hid (HS4.out.below hb5)
    obtain ⟨aV, cV, eV⟩ := wowns_shape hog
    have HSZg := hid (frame_size g vg HRG.out.tool)
    have HONg := hid (fcells_one g vg (by rw [eV]; rfl))
    have HOSg := hid (show (fcells zF nS).toArray.size = (fcells g vg).length by rw [fcells_length _ _ HRG.out.tool]; rfl)
    have HSZr := hid (fun W (h1 : Strs W vg g.args) => rsame_any g zF vg nS W HRG.out.tool rfl h1 (strs_nil W) HRG.out.many)
    have HSMr := hid (fun W (h1 : Strs W vg g.args) (h2 : Strs W va f.args) => rsame_any g f vg va W HRG.out.tool HRN.out.tool h1 h2 HRG.out.many)
    have HSMp := hid (fun W (h1 : Strs W vg g.args) (h2 : Strs W va f.args) => same_any g f vg va W HRG.out.tool HRN.out.tool h1 h2 HRG.out.many)
    obtain ⟨GG, HGG⟩ : ∃ L, Hid (fcells g vg = L) := ⟨_, rfl⟩
    rw [HGG.out] at HSZg HONg HOSg HSZr HSMr HSMp ⊢
    clear hog hb5 HN4 HLB HB4 HA4 HH4 HS4 HDC eV
    go_upto_region 8 with (first
      | (refine al_row (by rfl) 29 (by rfl) _ zeroFrame ?_)
      | (refine st_row (by rfl) 29 _ _ (by rfl) w5.heap.size GG (by rfl) (by rfl) 29 _ (hp_two w5 _ _).1 HSZg.out HOSg.out HONg.out ?_; intro w6 hw6)
      | (refine st_row (by rfl) 47 _ _ (by rfl) (w5.heap.size + 1) [Value.int .i64 E1, .int .i64 E2] (by rfl) (by rfl) 47 _ (gb_keep hw6.grown (hp_two w5 _ _).2 (by omega)) faultSize rfl (fault_one _ _) ?_; intro w7 hw7))
    have HQ7 := hid (Below.of_gb (Below.of_gb (below_walk2 w5 (.cells (fcells zF nS).toArray 29) (.cells #[.int .i64 0, .int .i64 0] 47)) hw6.grown (Nat.le_refl _)) hw7.grown (by omega))
    have HGb := hid (gb_keep hw7.grown hw6.blk (by omega))
    have HTb := hid hw7.blk
    have HN7 := hid (bel_keep HQ7.out HN5.out)
    have HLB7 := hid (bel_keep HQ7.out HLB5.out)
    have HB7 := hid (below_then HB5.out HQ7.out)
    have HA7 := hid (HA5.out.below HQ7.out)
    have HH7 := hid (HH5.out.below HQ7.out)
    have HS7 := hid (HS5.out.below HQ7.out)
    have HSG7 := hid (HSTG.out.below HQ7.out)
    obtain ⟨B, HBe⟩ : ∃ n, Hid (w5.heap.size = n) := ⟨_, rfl⟩
    rw [HBe.out] at HGb HTb ⊢
    clear hw6 hw7 HQ7 HN5 HLB5 HB5 HA5 HH5 HS5 HSTG HONg HOSg HBe
    have m1 : w7.cell? ⟨lb, 0, none⟩ = some (.int .i64 f.lim.1) := by simp [World.cell?, HLB7.out]
    have m2 : w7.cell? ⟨lb, 1, none⟩ = some (.int .i64 f.lim.2.1) := by simp [World.cell?, HLB7.out]
    have m3 : w7.cell? ⟨lb, 2, none⟩ = some (.int .i64 f.lim.2.2) := by simp [World.cell?, HLB7.out]
    have t0 : w7.cell? ⟨B + 1, 0, none⟩ = some (.int .i64 E1) := by simp [World.cell?, HTb.out]
    have t1 : w7.cell? ⟨B + 1, 1, none⟩ = some (.int .i64 E2) := by simp [World.cell?, HTb.out]
    obtain ⟨X, hmx⟩ : ∃ X, (if (if f.lim.1 < f.lim.2.1 then f.lim.2.1 else f.lim.1) < f.lim.2.2 then f.lim.2.2 else if f.lim.1 < f.lim.2.1 then f.lim.2.1 else f.lim.1) = X := ⟨_, rfl⟩
    have hXl : limOk f = decide (X ≤ 2147483648) := by
      rw [← hmx]
      unfold limOk
      refine decide_eq_decide.2 ?_
      repeat' split
      all_goals omega
    have HRB := hid (range_row HGb.out)
    have HRF := hid (range_row HN7.out)
    cases hlim : limOk f with
    | false =>
      as_aux_lemma =>
        rw [hlim] at hXl
        have hX1 : (2147483648 : Int) < X := by have := of_decide_eq_false hXl.symm; omega
        have hX2 : decide ((2147483648 : Int) < X) = true := decide_eq_true hX1
        have hDE := HDE.out
        rw [hlim, if_neg (by decide)] at hDE
        have hE : E1 = 11 := by rw [← HE1.out]; exact hDE.2
        subst hE
        have HZ := hid (show g = zF by rw [← HG.out]; exact hDE.1)
        have HSA := hid HSZr.out
        rw [HZ.out, sameP_self] at HSA
        clear hDE hlim hXl HSZr HSMr HSMp HDE HCU HNE hX1
        go_wp2_with (first
          | (refine ld_gd (by rfl) 29 (.tmp 10) (by rfl) B 0 (by rfl) _ _ HRB.out Try.underlying29 rfl HSZg.out ?_)
          | (refine ungd (by rfl) ?_; refine bd_row (by rfl) 29 #[] (by rfl) _ (by simp) _ built_zf ?_))
        refine (HSA.out w7 (HZ.out ▸ HSG7.out)).mono ?_
        rintro e w8 ⟨rfl, hb8⟩
        have HB8 := hid (below_then HB7.out hb8)
        clear hb8
        go_wp2
        go_ret
        exact ⟨rfl, HB8.out⟩
    | true =>
      as_aux_lemma =>
        rw [hlim] at hXl
        have hX1 : ¬ (2147483648 : Int) < X := by have := of_decide_eq_true hXl.symm; omega
        have hX2 : decide ((2147483648 : Int) < X) = false := decide_eq_false hX1
        have hDE := HDE.out
        rw [hlim, if_pos rfl] at hDE
        have hE1 : E1 = 0 := by rw [← HE1.out, hDE]
        have hE2 : E2 = 0 := by rw [← HE2.out, hDE]
        have hgf : g = f := by rw [← HG.out, hDE]
        subst hE1 hE2
        have HSMr2 := hid HSMr.out
        have HSMp2 := hid HSMp.out
        rw [hgf, sameP_self] at HSMr2 HSMp2
        rw [hgf] at HSG7
        clear hDE hlim hXl HSZr HSMr HSMp HDE hgf hX1
        go_upto_region 10 with fail
        clear hmx hX2 m1 m2 m3
        go_wp2_with (at_builtin; refine app_src rfl _ _ rfl w7.heap.size _ [] rfl (OwnB.nil _ _) _ (encP f) rfl HS7.out (by rw [HM.out]; simp; omega) (Nat.le_refl _) ?_)
        intro v8 w8 ho8 hg8
        have HQ8 := hid (gb_below hg8)
        have HO8 := hid ho8
        have HH8 := hid (HH7.out.below HQ8.out)
        obtain ⟨a8, c8, e8⟩ := ho8.shape
        rw [HM.out] at e8
        subst e8
        clear ho8 hg8
        go_wp2_with (at_builtin; refine app_srcw rfl _ _ rfl w7.heap.size _ (encP f) rfl HO8.out _ hd rfl HH8.out (by rw [HM.out]; omega) HQ8.out.size ?_)
        intro v9 w9 ho9 hg9
        have HQ9 := hid (show Below w7.heap.size w7 w9 from below_tr HQ8.out ⟨hg9.os, hg9.tape, hg9.output, hg9.size, fun k hk => hg9.block k (by have := HQ8.out.size; omega) (fun e => by have := (HO8.out.lt k e.symm).1; omega)⟩)
        obtain ⟨a9, c9, e9⟩ := ho9.shape
        subst e9
        have HND := hid (need_own ho9)
        rw [HNE.out] at HND
        obtain ⟨L9, HL9⟩ : ∃ n, Hid ((encP f ++ hd).length = n) := ⟨_, rfl⟩
        rw [HL9.out] at HND ⊢
        clear ho9 hg9 HO8 HQ8 HH8
        go_wp2_with fail
        refine HND.out.mono ?_
        rintro e w10 ⟨rfl, hb10⟩
        have HQ10 := hid (below_then HQ9.out hb10)
        have HS10 := hid (HS7.out.below HQ10.out)
        have HB10 := hid (below_then HB7.out HQ10.out)
        have HA10 := hid (HA7.out.below HQ10.out)
        have HG10 := hid (HSG7.out.below HQ10.out)
        have HGb10 := hid (bel_keep HQ10.out HGb.out)
        have HTb10 := hid (bel_keep HQ10.out HTb.out)
        have HN10 := hid (bel_keep HQ10.out HN7.out)
        clear hb10 HQ9 HQ10 HS7 HB7 HA7 HSG7 HGb HTb HN7 HLB7 HH7 HND t0 t1 HRB HRF
        obtain ⟨D, HD⟩ : ∃ d : Int, Hid ((M : Int) - 1 = d) := ⟨_, rfl⟩
        have wD : IntKind.i64.wrap ((M : Int) - 1) = D := by rw [IntKind.wrap_i64, ← HD.out]; omega
        obtain ⟨C, hC0⟩ : ∃ C : Nat, min (max cut 0) D = (C : Int) := ⟨(min (max cut 0) D).toNat, by have := HD.out; omega⟩
        have hCM : C < M := by have := HD.out; omega
        obtain ⟨vx, hsx, cx⟩ := cut_at HS10.out C (by rw [HM.out]; omega)
        have HDX := hid (decode_any vx _ w10 hsx)
        rw [HCU.out C hCM] at HDX
        have HCMh := hid hCM
        obtain ⟨ax, nx, ccx, ex⟩ := src_named hsx
        subst ex
        clear hsx hCM
        go_wp2_with fail
        refine HDX.out.mono ?_
        rintro e w11 ⟨vy, rfl, hoy, hb11⟩
        have HB11 := hid (below_then HB10.out hb11)
        have HA11 := hid (HA10.out.below hb11)
        have HG11 := hid (HG10.out.below hb11)
        have HGb11 := hid (bel_keep hb11 HGb10.out)
        have HTb11 := hid (bel_keep hb11 HTb10.out)
        have HN11 := hid (bel_keep hb11 HN10.out)
        obtain ⟨aY, cY, eY⟩ := wowns_shape hoy
        have HSZy := hid (frame_size zF vy rfl)
        have HONy := hid (fcells_one zF vy (by rw [eY]; rfl))
        have HOSy := hid (show (fcells zF nS).toArray.size = (fcells zF vy).length from rfl)
        obtain ⟨YY, HYY⟩ : ∃ L, Hid (fcells zF vy = L) := ⟨_, rfl⟩
        rw [HYY.out] at HSZy HONy HOSy ⊢
        clear hoy hb11 HB10 HA10 HG10 HGb10 HTb10 HN10 HS10 HDX eY cx
        go_upto_region 13 with (first
          | (refine al_row (by rfl) 29 (by rfl) _ zeroFrame ?_)
          | (refine st_row (by rfl) 29 _ _ (by rfl) w11.heap.size YY (by rfl) (by rfl) 29 _ (hp_two w11 _ _).1 HSZy.out HOSy.out HONy.out ?_; intro w12 hw12)
          | (refine st_row (by rfl) 47 _ _ (by rfl) (w11.heap.size + 1) [Value.int .i64 4, .int .i64 (C : Int)] (by rfl) (by rfl) 47 _ (gb_keep hw12.grown (hp_two w11 _ _).2 (by omega)) faultSize rfl (fault_one _ _) ?_; intro w13 hw13))
        have HQ13 := hid (Below.of_gb (Below.of_gb (below_walk2 w11 (.cells (fcells zF nS).toArray 29) (.cells #[.int .i64 0, .int .i64 0] 47)) hw12.grown (Nat.le_refl _)) hw13.grown (by omega))
        have HYb := hid hw13.blk
        have HB13 := hid (below_then HB11.out HQ13.out)
        have HA13 := hid (HA11.out.below HQ13.out)
        have HG13 := hid (HG11.out.below HQ13.out)
        have HGb13 := hid (bel_keep HQ13.out HGb11.out)
        have HTb13 := hid (bel_keep HQ13.out HTb11.out)
        have HN13 := hid (bel_keep HQ13.out HN11.out)
        obtain ⟨BY, HBYe⟩ : ∃ n, Hid (w11.heap.size = n) := ⟨_, rfl⟩
        rw [HBYe.out] at HYb ⊢
        clear hw12 hw13 HQ13 HB11 HA11 HG11 HGb11 HTb11 HN11 HSZy HONy HOSy HBYe hC0 wD
        have t0 : w13.cell? ⟨B + 1, 0, none⟩ = some (.int .i64 0) := by simp [World.cell?, HTb13.out]
        have t1 : w13.cell? ⟨B + 1, 1, none⟩ = some (.int .i64 0) := by simp [World.cell?, HTb13.out]
        have n1 : ∀ W, (binOp .eql 47 (.agg #[.int .i64 0, .int .i64 0]) (.agg #[.int .i64 0, .int .i64 0])).run Try.prog W = .ok (.bool true) W := fun W => fault_eql 0 0 0 0 W
        have n2 : ∀ W, (binOp .eql 47 (.agg #[.int .i64 4, .int .i64 (C : Int)]) (.agg #[.int .i64 4, .int .i64 (C : Int)])).run Try.prog W = .ok (.bool true) W := fun W => by rw [fault_eql]; simp
        have HRB := hid (range_row HGb13.out)
        have HRF := hid (range_row HN13.out)
        go_wp2_with (first
          | (refine ld_gd (by rfl) 29 (.tmp 10) (by rfl) B 0 (by rfl) _ _ HRB.out Try.underlying29 rfl HSZg.out ?_)
          | (refine ld_gd (by rfl) 29 (.tmp 3) (by rfl) w.heap.size 0 (by rfl) _ _ HRF.out Try.underlying29 rfl HSZ.out ?_))
        refine (HSMp2.out w13 HG13.out HA13.out).mono ?_
        rintro e w14 ⟨rfl, hb14⟩
        have HB14 := hid (below_then HB13.out hb14)
        have HA14 := hid (HA13.out.below hb14)
        have HG14 := hid (HG13.out.below hb14)
        have HGb14 := hid (bel_keep hb14 HGb13.out)
        have HN14 := hid (bel_keep hb14 HN13.out)
        have HYb14 := hid (bel_keep hb14 HYb.out)
        clear hb14 HB13 HA13 HG13 HGb13 HTb13 HN13 HYb t0 t1 HRB HRF
        have HRB := hid (range_row HGb14.out)
        have HRF := hid (range_row HN14.out)
        go_wp2_with (first
          | (refine ld_gd (by rfl) 29 (.tmp 10) (by rfl) B 0 (by rfl) _ _ HRB.out Try.underlying29 rfl HSZg.out ?_)
          | (refine ld_gd (by rfl) 29 (.tmp 3) (by rfl) w.heap.size 0 (by rfl) _ _ HRF.out Try.underlying29 rfl HSZ.out ?_))
        refine (HSMr2.out w14 HG14.out HA14.out).mono ?_
        rintro e w15 ⟨rfl, hb15⟩
        have HB15 := hid (below_then HB14.out hb15)
        have HYb15 := hid (bel_keep hb15 HYb14.out)
        clear hb15 HB14 HA14 HG14 HGb14 HN14 HYb14 HRB HRF
        have y0 : w15.cell? ⟨BY + 1, 0, none⟩ = some (.int .i64 4) := by simp [World.cell?, HYb15.out]
        have y1 : w15.cell? ⟨BY + 1, 1, none⟩ = some (.int .i64 (C : Int)) := by simp [World.cell?, HYb15.out]
        go_wp2
        go_ret
        exact ⟨rfl, HB15.out⟩
  · as_aux_lemma =>
      have HE := hid (HEE.out h)
      obtain ⟨E, HE9⟩ : ∃ E, Hid (chkE f = E) := ⟨_, rfl⟩
      rw [HE9.out] at HE HCK h
      have q1 : (E != 0) = true := by simpa using h
      have q2 : (E == 0) = false := by simpa using h
      have q3 : (E == E) = true := by simp
      clear HEE HEO h
      go_wp2_with (refine ld_row (by rfl) 29 (.tmp 3) (by rfl) w.heap.size (by rfl) (fcells f va) 29 HN2.out _ Try.underlying29 rfl HSZ.out ?_)
      refine (HE.out w2 HA2.out).mono ?_
      rintro e w3 ⟨rfl, hb3⟩
      have HN3 := hid (bel_keep hb3 HN2.out)
      have HB3 := hid (below_then HB2.out hb3)
      have HA3 := hid (HA2.out.below hb3)
      have HRX := hid (range_row HN3.out)
      clear hb3 HN2 HB2 HA2 HH2 HE
      go_wp2_with (refine ld_gd (by rfl) 29 (.tmp 3) (by rfl) w.heap.size 0 (by rfl) _ _ HRX.out Try.underlying29 rfl HSZ.out ?_)
      refine (HCK.out w3 HA3.out).mono ?_
      rintro e w4 ⟨rfl, hb4⟩
      have HB4 := hid (below_then HB3.out hb4)
      clear hb4
      go_wp2
      go_ret
      exact ⟨rfl, HB4.out⟩
end Go.Proofs.Ytjinkahlfigdcaa

/- FrameTells answers true. -/
namespace Go.Proofs.Ytjinkahlfigdcaa
open Go.RowKit Go.BigFrame

theorem sn_last : ∀ (m n : Nat), n < m → n < 18446744073709551616 → (∀ j, j + 1 < (sn n).length → 128 ≤ ((sn n).getD j 0).toNat) ∧ ((sn n).getD ((sn n).length - 1) 0).toNat < 128
  | 0, _, h, _ => by omega
  | m + 1, n, h, h64 => by
    rcases Nat.lt_or_ge n 128 with hn | hn
    · rw [sn_lt hn]
      refine ⟨fun j hj => by simp at hj, ?_⟩
      show (n.toUInt8).toNat < 128
      rw [byte_of]
      omega
    · obtain ⟨a, b⟩ := sn_last m (n / 128) (by omega) (by omega)
      rw [sn_ge hn h64]
      have hp := sn_length_pos (n / 128)
      refine ⟨fun j hj => ?_, ?_⟩
      · cases j with
        | zero =>
          show 128 ≤ ((n % 128 + 128).toUInt8).toNat
          rw [byte_of]
          omega
        | succ j =>
          show 128 ≤ ((sn (n / 128)).getD j 0).toNat
          exact a j (by simpa using hj)
      · rw [List.length_cons, show (sn (n / 128)).length + 1 - 1 = ((sn (n / 128)).length - 1) + 1 by omega]
        exact b
theorem getD_app (x r : List UInt8) (j : Nat) (h : j < x.length) : (x ++ r).getD j 0 = x.getD j 0 := by
  rw [List.getD_eq_getElem?_getD, List.getD_eq_getElem?_getD, List.getElem?_append_left h]
theorem flip_take (S : List UInt8) (J h : Nat) (hJ : 8 * h ≤ J) : (flip S J).take h = S.take h := by
  unfold flip
  rw [List.take_set_of_le]
  omega
theorem enc_split (f : Fr) : encP f = sn (bodyP f).length ++ (bodyP f ++ le4 (sumP (sn (bodyP f).length ++ bodyP f))) := by
  unfold encP sealP
  simp only [List.append_assoc]
/-- bytes of a frame whose sum is wrong are refused -/
theorem dec_turned (f : Fr) (h : chkE f = 0) (S : List UInt8) (hl : S.length = (encP f).length) (ht : S.take (sn (bodyP f).length).length = sn (bodyP f).length) (hc : cokP S = false) : decP S = (zF, 71, ((encP f).length : Int) - 4) := by
  obtain ⟨ho, hlb⟩ := chk_ok h
  have e : S = sn (bodyP f).length ++ S.drop (sn (bodyP f).length).length := by
    conv => lhs; rw [← List.take_append_drop (sn (bodyP f).length).length S, ht]
  have hd : dec S 0 0 = (0, (bodyP f).length, (sn (bodyP f).length).length) := by rw [e]; exact dec_sn _ _ (by omega)
  have hn0 := need_enc f h []
  rw [List.append_nil] at hn0
  have hdf : dec (encP f) 0 0 = (0, (bodyP f).length, (sn (bodyP f).length).length) := by rw [enc_split]; exact dec_sn _ _ (by omega)
  have hn : needP S = ((encP f).length, (sn (bodyP f).length).length, 0) := by
    rw [← hn0]
    unfold needP
    rw [hd, hdf]
  have hp : 1 ≤ (encP f).length := by rw [enc_split, List.length_append]; have := sn_length_pos (bodyP f).length; omega
  have hu : unsE S = (71, ((encP f).length : Int) - 4) := by
    unfold unsE
    rw [hn]
    simp only
    rw [if_neg (by omega), if_neg (by omega), if_neg (by omega), if_neg (by rw [hc]; decide)]
  rw [decP_uns, hu, if_pos (by show (71 : Int) ≠ 0; decide)]

set_option maxRecDepth 100000 in
set_option maxHeartbeats 8000000 in
theorem lawFTells_any (f : Fr) (va : Value) (a : Int) (b : Nat) (w : World) (hr : Rng f) (ha : Strs w va f.args) (hb : b < 4294967296) (ha1 : -9223372036854775808 ≤ a) (ha2 : a ≤ 9223372036854775807) :
    Calls Try.prog 7 #[.agg (fcells f va).toArray, .int .i64 a, .int .u32 (b : Int)] w fun e w' => e = .returned (.bool true) ∧ Below w.heap.size w w' := by
  have HNB := hid (hp_new w (.cells (fcells f va).toArray 29))
  have HBL := hid (below_walk w (.cells (fcells f va).toArray 29))
  have HSZ := hid (frame_size f va hr.tool)
  have HA := hid (ha.below HBL.out)
  have hg := faultG
  have HCK := hid (fun W (hW : Strs W va f.args) => checkF_any f va W hr hW)
  have HEE := hid (fun (h9 : chkE f ≠ 0) W (hW : Strs W va f.args) => encF_err f va W hr hW h9)
  have HEO := hid (fun (h9 : chkE f = 0) W (hW : Strs W va f.args) => encF_ok f va W hr hW h9)
  have HB := hid hb
  clear ha hr hb
  go_enter Try.func7, Try.ntmps7
  go_upto_region 1 with fail
  generalize w.alloc (.cells (fcells f va).toArray 29) = w1 at HNB HBL HA ⊢
  go_wp2_with fail
  refine (alive_any w1).mono ?_
  rintro e w2 ⟨rfl, hb2⟩
  have HN2 := hid (bel_keep hb2 HNB.out)
  have HB2 := hid (below_then HBL.out hb2)
  have HA2 := hid (HA.out.below hb2)
  clear hb2 HNB HBL HA
  by_cases h : chkE f = 0
  · have HE := hid (HEO.out h)
    have HC := hid HCK.out
    rw [h] at HC
    have hl := enc_len h
    obtain ⟨M, HM⟩ : ∃ M : Nat, Hid ((encP f).length = M) := ⟨_, rfl⟩
    rw [HM.out] at hl
    have HCH := hid h
    clear HEE HEO HCK
    go_wp2_with (refine ld_row (by rfl) 29 (.tmp 3) (by rfl) w.heap.size (by rfl) (fcells f va) 29 HN2.out _ Try.underlying29 rfl HSZ.out ?_)
    refine (HE.out w2 HA2.out).mono ?_
    rintro e w3 ⟨vb, rfl, ho3, hb3⟩
    have HN3 := hid (bel_keep hb3 HN2.out)
    have HB3 := hid (below_then HB2.out hb3)
    have HA3 := hid (HA2.out.below hb3)
    by_cases h0 : b = 0
    · as_aux_lemma =>
        subst h0
        obtain ⟨ab, cb, eb⟩ := src_shape (ho3.src (by rw [HM.out]; omega))
        rw [HM.out] at eb
        subst eb
        clear ho3 hb3 HN2 HB2 HA2 HE HCH h
        go_wp2_with (refine ld_row (by rfl) 29 (.tmp 3) (by rfl) w.heap.size (by rfl) (fcells f va) 29 HN3.out _ Try.underlying29 rfl HSZ.out ?_)
        refine (HC.out w3 HA3.out).mono ?_
        rintro e w4 ⟨rfl, hb4⟩
        have HB4 := hid (below_then HB3.out hb4)
        clear hb4
        go_wp2
        go_ret
        exact ⟨rfl, HB4.out⟩
    · have q0 : ((b : Int) == 0) = false := by simp; omega
      have q1 : ¬ (b : Int) = 0 := by omega
      have HZ := hid h0
      obtain ⟨g, cap, rfl, hg0, _, _, _, hfz, hcell⟩ : ∃ g cap, vb = .slice (some ⟨g, 0, none⟩) (encP f).length cap ∧ w2.heap.size ≤ g ∧ g < w3.heap.size ∧ (encP f).length ≤ cap ∧ cap ≤ maxLen ∧ (∀ j, w3.frozen? ⟨g, j, none⟩ = false) ∧ ∀ j, j < (encP f).length → w3.cell? ⟨g, j, none⟩ = some (.int .u8 ((encP f).getD j 0).toNat) := by
        rcases ho3.forms with ⟨_, h9⟩ | h9
        · have h8 := enc_split f
          rw [h9] at h8
          have h7 := sn_length_pos (bodyP f).length
          have h6 := congrArg List.length h8
          rw [List.length_append] at h6
          simp only [List.length_nil] at h6
          omega
        · exact h9
      have HGW : Hid (w.heap.size ≤ g) := hid (Nat.le_trans HB2.out.size hg0)
      rw [HM.out] at ho3 ⊢
      have HO3 := hid (ho3.le HB2.out.size)
      have HCL := hid hcell
      obtain ⟨H, HH⟩ : ∃ n, Hid ((sn (bodyP f).length).length = n) := ⟨_, rfl⟩
      have hH1 : 1 ≤ H := by rw [← HH.out]; exact sn_length_pos _
      have hH10 : H ≤ 10 := by rw [← HH.out]; exact sn_length_le _
      have hHM : H + 5 ≤ M := by
        rw [← HM.out, ← HH.out, enc_split, List.length_append, List.length_append, le4_length]
        have : 1 ≤ (bodyP f).length := by unfold bodyP; rw [List.length_append]; have := sn_length_pos f.kind.toNat; omega
        omega
      have HSL := hid (sn_last ((bodyP f).length + 1) (bodyP f).length (by omega) (by have := (chk_ok h).2; omega))
      rw [HH.out] at HSL
      have HGE := hid (fun j (hj : j < H) => show (encP f).getD j 0 = (sn (bodyP f).length).getD j 0 by rw [enc_split]; exact getD_app _ _ j (by rw [HH.out]; exact hj))
      clear ho3 hb3 HN2 HB2 HA2 HE hg0 hfz hcell h h0
      go_wp2_with fail
      go_loopw [9] (fun vi wr => ∃ k : Nat, k + 1 ≤ H ∧ vi = .int .i64 k ∧ wr = w3) (fun vi _ => H - (intOf vi).toNat)
      case atStart => exact ⟨0, by omega, rfl, rfl⟩
      case round =>
        obtain ⟨k, hk, rfl, hwr⟩ := hrel
        subst hwr
        have c1 := HCL.out k (by rw [HM.out]; omega)
        rw [HGE.out k (by omega)] at c1
        obtain ⟨y, HY⟩ : ∃ y, Hid (((sn (bodyP f).length).getD k 0).toNat = y) := ⟨_, rfl⟩
        rw [HY.out] at c1
        have hki : (k : Int) < (M : Int) := by omega
        have hd : decide ((k : Int) < (M : Int)) = true := decide_eq_true hki
        by_cases hlast : k + 1 < H
        · as_aux_lemma =>
            have hy : 128 ≤ y := by rw [← HY.out]; exact HSL.out.1 k hlast
            have q3 : (128 : Int) ≤ (y : Int) := by omega
            have q4 : decide ((128 : Int) ≤ (y : Int)) = true := decide_eq_true q3
            clear hy
            go_wp2
            exact ⟨⟨k + 1, by omega, by simp, by first | rfl | trivial⟩, by simp [intOf]; omega⟩
        · have hy : y < 128 := by rw [← HY.out, show k = H - 1 by omega]; exact HSL.out.2
          have q3 : ¬ (128 : Int) ≤ (y : Int) := by omega
          have q4 : decide ((128 : Int) ≤ (y : Int)) = false := decide_eq_false q3
          obtain rfl : H = k + 1 := by omega
          clear hy hlast
          go_upto_region 11 with fail
          obtain ⟨A, HAe⟩ : ∃ A : Nat, Hid (8 * ((k : Int) + 1) + min (max a 0) (8 * ((M : Int) - ((k : Int) + 1)) - 32) = (A : Int)) := ⟨(8 * ((k : Int) + 1) + min (max a 0) (8 * ((M : Int) - ((k : Int) + 1)) - 32)).toNat, hid (by omega)⟩
          have hA : A + 32 ≤ 8 * M := by have := HAe.out; omega
          have hA8 : 8 * (k + 1) ≤ A := by have := HAe.out; omega
          rw [HAe.out]
          have HLS := hid (show (sealP (sn (bodyP f).length ++ bodyP f)).length = M from HM.out)
          have HT0 := hid (show (encP f).take (k + 1) = sn (bodyP f).length by rw [enc_split, ← HH.out]; exact List.take_left' rfl)
          have HDT := hid (dec_turned f HCH.out)
          rw [HM.out, HH.out] at HDT
          clear c1 hki hd q3 q4 HSL HGE HCL HY HH HCH HAe ha1 ha2
          as_aux_lemma =>
            go_wp2_with fail
            go_loopw [57] (fun vi wr => ∃ (i : Nat) (S : List UInt8) (t : Bool), i ≤ 32 ∧ vi = .int .i64 i ∧ Hid (Tl (encP f) A b i S t) ∧ Hid (S.take (k + 1) = sn (bodyP f).length) ∧ OwnB wr w.heap.size (.slice (some ⟨g, 0, none⟩) M cap) S ∧ Below w.heap.size w wr) (fun vi _ => 32 - (intOf vi).toNat)
            case atStart => exact ⟨0, encP f, false, by omega, rfl, Tl.begin _ _ _, HT0, HO3.out, HB3.out⟩
            case round =>
              obtain ⟨i, S, t, hi, rfl, HT, HTK, hO, hB⟩ := hrel
              have HO := hid hO
              have HBW := hid hB
              clear HO3 HB3 hO hB HN3 HA3 HT0
              by_cases hlt : i < 32
              · have HD := hid (show ((b : Int) / 2 ^ i) = ((b / 2 ^ i : Nat) : Int) by push_cast; rfl)
                have HA1 := hid (and_one (b / 2 ^ i) (Nat.lt_of_le_of_lt (Nat.div_le_self _ _) HB.out))
                rcases Nat.mod_two_eq_zero_or_one (b / 2 ^ i) with h | h
                · as_aux_lemma =>
                    have hand : bits .and .u32 ((b : Int) / 2 ^ i) 1 = 0 := by rw [HD.out, HA1.out, h]; rfl
                    have HT2 := hid (HT.out.keep h)
                    clear h
                    go_wp2
                    exact ⟨⟨i + 1, S, t, by omega, by simp, HT2, HTK, HO.out, HBW.out⟩, by simp [intOf]; omega⟩
                · as_aux_lemma =>
                    have hand : bits .and .u32 ((b : Int) / 2 ^ i) 1 = 1 := by rw [HD.out, HA1.out, h]; rfl
                    have HT2 := hid (HT.out.turn hlt (by rw [HM.out]; exact hA) h)
                    have HTK2 := hid (show (flip S (A + i)).take (k + 1) = sn (bodyP f).length by rw [flip_take S (A + i) (k + 1) (by omega)]; exact HTK.out)
                    clear h
                    obtain ⟨J, HJ⟩ : ∃ J, Hid (J = A + i) := ⟨_, rfl⟩
                    obtain ⟨q, HQ8⟩ : ∃ q, Hid (q = J / 8) := ⟨_, rfl⟩
                    obtain ⟨m, HM8⟩ : ∃ m, Hid (m = J % 8) := ⟨_, rfl⟩
                    have hw : IntKind.i64.wrap ((A : Int) + (i : Int)) = (J : Int) := by rw [IntKind.wrap_i64, HJ.out]; omega
                    have hq1 : (J : Int).tdiv 8 = (q : Int) := by rw [HQ8.out]; rfl
                    have hq2 : (J : Int) / 8 = (q : Int) := by rw [HQ8.out]; rfl
                    have hm1 : (J : Int).tmod 8 = (m : Int) := by rw [HM8.out]; rfl
                    have hm2 : (J : Int) % 8 = (m : Int) := by rw [HM8.out]; rfl
                    have hq0 : (0 : Int) ≤ (q : Int) := by omega
                    have hqN : (q : Int) < (M : Int) := by rw [HQ8.out, HJ.out]; omega
                    have hqw : IntKind.i64.wrap (q : Int) = (q : Int) := by rw [IntKind.wrap_i64]; omega
                    have hm7 : m ≤ 7 := by rw [HM8.out]; omega
                    have hmw : IntKind.i64.wrap (m : Int) = (m : Int) := by rw [IntKind.wrap_i64]; omega
                    go_upto_region 15 with fail
                    obtain ⟨X, HXW⟩ : ∃ X : World, Hid (X = { wr with drawn := wr.drawn + 1 }) := ⟨_, rfl⟩
                    have HOX := hid (show OwnB X w.heap.size (.slice (some ⟨g, 0, none⟩) M cap) S by rw [HXW.out]; exact HO.out)
                    have HBX := hid (show Below w.heap.size w X by rw [HXW.out]; exact ⟨HBW.out.os, HBW.out.tape, HBW.out.output, HBW.out.size, HBW.out.block⟩)
                    refine wp_region_still_tail 14 (by kernel_rfl) (by kernel_rfl) ?_
                    simp only [List.take_succ_cons, List.take_zero, List.drop_succ_cons, List.drop_zero]
                    rw [show ({ wr with drawn := wr.drawn + 1 } : World) = X from HXW.out.symm]
                    have HSL := hid (show S.length = M by rw [HT.out.len, HM.out])
                    obtain ⟨f1, x, c1, HXX⟩ : X.frozen? ⟨g, q, none⟩ = false ∧ ∃ x : UInt8, X.cell? ⟨g, q, none⟩ = some (.int .u8 x.toNat) ∧ Hid (x = S.getD q 0) := by
                      rcases HOX.out.forms with ⟨h0, _⟩ | ⟨g', cap', hv, _, _, _, _, hf, hc⟩
                      · cases h0
                      · injection hv with h1 h2 h3
                        injection h1 with h1
                        injection h1 with h1
                        subst h1
                        exact ⟨hf q, _, hc q (by rw [HSL.out]; omega), rfl⟩
                    repeat still_step
                    refine wpStill_nil ?_
                    go_wp2
                    refine ⟨⟨i + 1, flip S (A + i), true, by omega, by simp, HT2, HTK2, ?_, ?_⟩, by simp [intOf]; omega⟩
                    · have e : bits .xor .u8 ((x.toNat : Nat) : Int) (2 ^ m % 256) = (((turnB x (2 ^ m)).toNat : Nat) : Int) := by
                        have hp : 2 ^ m < 256 := by rw [HM8.out]; exact pow8_lt J
                        rw [turnB_nat x _ hp, ← u8_xor_nat x.toNat (2 ^ m) x.toNat_lt hp]
                        congr 1
                        rw [show (((2 ^ m : Nat)) : Int) = (2 : Int) ^ m by push_cast; rfl]
                        refine Int.emod_eq_of_lt (Int.pow_nonneg (by omega)) ?_
                        have : ((2 ^ m : Nat) : Int) < 256 := by omega
                        push_cast at this
                        exact this
                      rw [e]
                      unfold flip
                      rw [← HJ.out, ← HQ8.out, ← HM8.out, ← HXX.out]
                      exact HOX.out.setAt q _
                    · exact HBX.out.grown (gb_set X _ _) HBX.out.size (by intro k hk; cases hk; exact HGW.out)
              · obtain rfl : i = 32 := by omega
                have HSL := hid (show S.length = M by rw [HT.out.len, HM.out])
                have ht : t = true := by
                  cases t with
                  | true => rfl
                  | false =>
                    exfalso
                    have h9 := (HT.out.no rfl).1
                    rw [Nat.mod_eq_of_lt (show b < 2 ^ 32 from HB.out)] at h9
                    exact HZ.out h9
                subst ht
                have HBAD := hid (Tl.bad (p := sn (bodyP f).length ++ bodyP f) HT.out HB.out)
                have HDP := hid (HDT.out S HSL.out HTK.out HBAD.out)
                have HDE := hid (decode_any _ S wr (HO.out.src (by rw [HSL.out]; omega)))
                rw [HDP.out] at HDE
                have HW4 := hid (show IntKind.i64.wrap ((M : Int) - 4) = (M : Int) - 4 by rw [IntKind.wrap_i64]; omega)
                obtain ⟨D, HD⟩ : ∃ d : Int, Hid ((M : Int) - 4 = d) := ⟨_, rfl⟩
                have wD : IntKind.i64.wrap ((M : Int) - 4) = D := by rw [HW4.out, HD.out]
                rw [HD.out] at HDE
                clear HT HTK HBAD HDP HDT HW4 hlt
                as_aux_lemma =>
                  go_wp2_with fail
                  refine HDE.out.mono ?_
                  rintro e w11 ⟨vy, rfl, hoy, hb11⟩
                  have HB11 := hid (below_tr HBW.out (hb11.mono HBW.out.size))
                  have HSTy := hid (wowns_strs hoy)
                  obtain ⟨aY, cY, eY⟩ := wowns_shape hoy
                  have HSZy := hid (frame_size zF vy rfl)
                  have HONy := hid (fcells_one zF vy (by rw [eY]; rfl))
                  have HOSy := hid (show (fcells zF nS).toArray.size = (fcells zF vy).length from rfl)
                  have HSA := hid (fun W (hW : Strs W vy zF.args) => rsame_any zF zF vy nS W rfl rfl hW (strs_nil W) (by simp [zF]))
                  rw [sameP_self] at HSA
                  obtain ⟨YY, HYY⟩ : ∃ L, Hid (fcells zF vy = L) := ⟨_, rfl⟩
                  rw [HYY.out] at HSZy HONy HOSy HSA ⊢
                  clear hoy hb11 HBW HO HDE eY
                  go_upto_region 18 with (first
                    | (refine al_row (by rfl) 29 (by rfl) _ zeroFrame ?_)
                    | (refine st_row (by rfl) 29 _ _ (by rfl) w11.heap.size YY (by rfl) (by rfl) 29 _ (hp_two w11 _ _).1 HSZy.out HOSy.out HONy.out ?_; intro w12 hw12)
                    | (refine st_row (by rfl) 47 _ _ (by rfl) (w11.heap.size + 1) [Value.int .i64 71, .int .i64 D] (by rfl) (by rfl) 47 _ (gb_keep hw12.grown (hp_two w11 _ _).2 (by omega)) faultSize rfl (fault_one _ _) ?_; intro w13 hw13))
                  have HQ13 := hid (Below.of_gb (Below.of_gb (below_walk2 w11 (.cells (fcells zF nS).toArray 29) (.cells #[.int .i64 0, .int .i64 0] 47)) hw12.grown (Nat.le_refl _)) hw13.grown (by omega))
                  have HYa := hid (gb_keep hw13.grown hw12.blk (by omega))
                  have HYb := hid hw13.blk
                  have HB13 := hid (below_then HB11.out HQ13.out)
                  have HSTz := hid (HSTy.out.below HQ13.out)
                  obtain ⟨BY, HBYe⟩ : ∃ n, Hid (w11.heap.size = n) := ⟨_, rfl⟩
                  rw [HBYe.out] at HYa HYb ⊢
                  clear hw12 hw13 HQ13 HB11 HONy HOSy HBYe
                  have t0 : w13.cell? ⟨BY + 1, 0, none⟩ = some (.int .i64 71) := by simp [World.cell?, HYb.out]
                  have t1 : w13.cell? ⟨BY + 1, 1, none⟩ = some (.int .i64 D) := by simp [World.cell?, HYb.out]
                  have n2 : ∀ W, (binOp .eql 47 (.agg #[.int .i64 71, .int .i64 D]) (.agg #[.int .i64 71, .int .i64 D])).run Try.prog W = .ok (.bool true) W := fun W => by rw [fault_eql]; simp
                  have HRB := hid (range_row HYa.out)
                  go_wp2_with (first
                    | (refine ld_gd (by rfl) 29 (.tmp 11) (by rfl) BY 0 (by rfl) _ _ HRB.out Try.underlying29 rfl HSZy.out ?_)
                    | (refine ungd (by rfl) ?_; refine bd_row (by rfl) 29 #[] (by rfl) _ (by simp) _ built_zf ?_))
                  refine (HSA.out w13 HSTz.out).mono ?_
                  rintro e w14 ⟨rfl, hb14⟩
                  have HB14 := hid (below_then HB13.out hb14)
                  clear hb14
                  go_wp2
                  go_ret
                  exact ⟨rfl, HB14.out⟩
  · as_aux_lemma =>
      have HE := hid (HEE.out h)
      obtain ⟨E, HE9⟩ : ∃ E, Hid (chkE f = E) := ⟨_, rfl⟩
      rw [HE9.out] at HE HCK h
      have q1 : (E != 0) = true := by simpa using h
      have q2 : (E == 0) = false := by simpa using h
      have q3 : (E == E) = true := by simp
      clear HEE HEO h
      go_wp2_with (refine ld_row (by rfl) 29 (.tmp 3) (by rfl) w.heap.size (by rfl) (fcells f va) 29 HN2.out _ Try.underlying29 rfl HSZ.out ?_)
      refine (HE.out w2 HA2.out).mono ?_
      rintro e w3 ⟨rfl, hb3⟩
      have HN3 := hid (bel_keep hb3 HN2.out)
      have HB3 := hid (below_then HB2.out hb3)
      have HA3 := hid (HA2.out.below hb3)
      clear hb3 HN2 HB2 HA2 HE
      go_wp2_with (refine ld_row (by rfl) 29 (.tmp 3) (by rfl) w.heap.size (by rfl) (fcells f va) 29 HN3.out _ Try.underlying29 rfl HSZ.out ?_)
      refine (HCK.out w3 HA3.out).mono ?_
      rintro e w4 ⟨rfl, hb4⟩
      have HB4 := hid (below_then HB3.out hb4)
      clear hb4
      go_wp2
      go_ret
      exact ⟨rfl, HB4.out⟩
end Go.Proofs.Ytjinkahlfigdcaa
