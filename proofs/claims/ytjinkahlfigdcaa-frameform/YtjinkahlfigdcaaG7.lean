/- Contracts and pure facts that the proof needs, joined. -/
import Derived.Test.YtjinkahlfigdcaaG6
import Derived.Test.YtjinkahlfigdcaaG2
import Derived.Test.YtjinkahlfigdcaaG5
import Derived.Test.YtjinkahlfigdcaaG3
import Derived.Deep.Cut
import Derived.Deep.CutRange
import Derived.Test.YtjinkahlfigdcaaG1

/- The document's body of a hello. -/
namespace Go.Proofs.Ytjinkahlfigdcaa
open Go.RowKit Go.BigFrame

set_option maxRecDepth 100000 in
set_option maxHeartbeats 4000000 in
theorem body1_any (f : Fr) (va : Value) (w : World) (hf : f.tool.length = 32) (hk : f.kind = 1) (V S : Nat) (hv : f.ver = (V : Int)) (hs : f.slots = (S : Int)) (kV : V ≤ 9223372036854775807) (kS : S ≤ 9223372036854775807) :
    Calls Try.prog 26 #[.agg (fcells f va).toArray] w fun e w' => ∃ v, e = .returned v ∧ Src w' v (sn 1 ++ sn V ++ sn S ++ f.tool) ∧ Below w.heap.size w w' := by
  have HNB := hid (hp_new w (.cells (fcells f va).toArray 29))
  have HBL := hid (below_walk w (.cells (fcells f va).toArray 29))
  have HF := hid hf
  have HK := hid hk
  have E_v := hid hv
  have E_s := hid hs
  have len_V := sn_length_le V
  have wr_V : IntKind.u64.wrap (V : Int) = (V : Int) := by rw [IntKind.wrap_u64]; omega
  have len_S := sn_length_le S
  have wr_S : IntKind.u64.wrap (S : Int) = (S : Int) := by rw [IntKind.wrap_u64]; omega
  have len0 := sn_length_le 1
  have w0 : IntKind.u64.wrap 1 = 1 := rfl
  clear hf hk hv hs 
  go_enter Try.func26, Try.ntmps26
  go_upto_region 1 with fail
  generalize w.alloc (.cells (fcells f va).toArray 29) = w1 at HNB HBL  ⊢
  have HFB1 := hid (Fb.of HNB.out HF.out)
  have HL1 := hid (hp_lt HNB.out)
  have x0 := HFB1.out.k
  rw [HK.out] at x0
  go_wp2_with fail
  refine (refUint_any 1 w1 (by decide)).mono ?_
  rintro e w2 ⟨v2, rfl, ho2, hb2⟩
  have HO2 := hid ho2
  have HB2 := hid (below_then HBL.out hb2)
  have HFB2 := hid (HFB1.out.below HL1.out hb2)
  have HL2 := hid (Nat.lt_of_lt_of_le HL1.out hb2.size)
  have HZ2 := hid hb2.size
  have x1 := HFB2.out.k
  rw [HK.out] at x1
  obtain ⟨a2, n2, c2, e2⟩ := src_named (ho2.src (by omega))
  subst e2
  clear ho2 hb2 x0 HFB1 HNB
  have y3 := HFB2.out.v
  rw [E_v.out] at y3
  go_wp2_with fail
  refine (refUint_any V w2 (by omega)).mono ?_
  rintro e p3 ⟨u3, rfl, hou3, hbu3⟩
  have HU3 := hid (hou3.src (by omega))
  have HP3 := hid (HO2.out.below hbu3)
  have HBP3 := hid (below_then HB2.out hbu3)
  have HFP3 := hid (HFB2.out.below HL2.out hbu3)
  have HLP3 := hid (Nat.lt_of_lt_of_le HL2.out hbu3.size)
  have HZP3 := hid (Nat.le_trans HZ2.out hbu3.size)
  obtain ⟨au3, nu3, cu3, eu3⟩ := src_named HU3.out
  subst eu3
  clear hou3 hbu3 y3 HO2 HB2 HFB2 HL2 HZ2  x1
  go_wp2_with (at_builtin; refine app_src rfl _ _ rfl w1.heap.size _ _ rfl HP3.out _ _ rfl HU3.out (by (try simp only [List.length_append]); omega) HZP3.out ?_)
  intro v3 w3 ho3 hg3
  have HO3 := hid ho3
  have hbb3 : Below w1.heap.size p3 w3 := ⟨hg3.os, hg3.tape, hg3.output, hg3.size, fun k hk => hg3.block k (by have := HZP3.out; omega) (fun e => by have := (HP3.out.lt k e.symm).1; omega)⟩
  have HB3 := hid (show Below w.heap.size w w3 from below_tr HBP3.out (hbb3.mono (by have := HBL.out.size; omega)))
  have HFB3 := hid (show Fb w3 w.heap.size f va from fb_at HFP3.out HL1.out hbb3)
  have HL3 := hid (Nat.lt_of_lt_of_le HLP3.out hg3.size)
  have HZ3 := hid (Nat.le_trans HZP3.out hg3.size)
  obtain ⟨a3, n3, c3, e3⟩ := src_named (ho3.src (by (try simp only [List.length_append]); omega))
  subst e3
  clear ho3 hg3 hbb3 HP3 HU3 HBP3 HFP3 HLP3 HZP3 
  have y4 := HFB3.out.s
  rw [E_s.out] at y4
  go_wp2_with fail
  refine (refUint_any S w3 (by omega)).mono ?_
  rintro e p4 ⟨u4, rfl, hou4, hbu4⟩
  have HU4 := hid (hou4.src (by omega))
  have HP4 := hid (HO3.out.below hbu4)
  have HBP4 := hid (below_then HB3.out hbu4)
  have HFP4 := hid (HFB3.out.below HL3.out hbu4)
  have HLP4 := hid (Nat.lt_of_lt_of_le HL3.out hbu4.size)
  have HZP4 := hid (Nat.le_trans HZ3.out hbu4.size)
  obtain ⟨au4, nu4, cu4, eu4⟩ := src_named HU4.out
  subst eu4
  clear hou4 hbu4 y4 HO3 HB3 HFB3 HL3 HZ3  
  go_wp2_with (at_builtin; refine app_src rfl _ _ rfl w1.heap.size _ _ rfl HP4.out _ _ rfl HU4.out (by (try simp only [List.length_append]); omega) HZP4.out ?_)
  intro v4 w4 ho4 hg4
  have HO4 := hid ho4
  have hbb4 : Below w1.heap.size p4 w4 := ⟨hg4.os, hg4.tape, hg4.output, hg4.size, fun k hk => hg4.block k (by have := HZP4.out; omega) (fun e => by have := (HP4.out.lt k e.symm).1; omega)⟩
  have HB4 := hid (show Below w.heap.size w w4 from below_tr HBP4.out (hbb4.mono (by have := HBL.out.size; omega)))
  have HFB4 := hid (show Fb w4 w.heap.size f va from fb_at HFP4.out HL1.out hbb4)
  have HL4 := hid (Nat.lt_of_lt_of_le HLP4.out hg4.size)
  have HZ4 := hid (Nat.le_trans HZP4.out hg4.size)
  obtain ⟨a4, n4, c4, e4⟩ := src_named (ho4.src (by (try simp only [List.length_append]); omega))
  subst e4
  clear ho4 hg4 hbb4 HP4 HU4 HBP4 HFP4 HLP4 HZP4 
  obtain ⟨X, HX⟩ : ∃ X, Hid (sn 1 ++ sn V ++ sn S = X) := ⟨_, rfl⟩
  have HO5 := hid (show OwnB w4 w1.heap.size (.slice a4 n4 c4) X by rw [← HX.out]; first | exact HO4.out | simpa only [List.append_assoc] using HO4.out)
  have hXl : X.length ≤ 30 := by rw [← HX.out]; simp only [List.length_append]; omega
  clear HO4
  go_wp2_with fail
  go_loopw [3, 4] (fun v i wr => ∃ k : Nat, k ≤ 32 ∧ i = .int .i64 k ∧ Hid (OwnB wr w1.heap.size v (X ++ f.tool.take k)) ∧ Hid (Below w.heap.size w wr) ∧ Hid (Fb wr w.heap.size f va) ∧ Hid (w1.heap.size ≤ wr.heap.size)) (fun _ i _ => 32 - (intOf i).toNat)
  case atStart => exact ⟨0, by omega, rfl, hid (by simpa using HO5.out), HB4, HFB4, HZ4⟩
  case round =>
    obtain ⟨k, hk, rfl, HO, HB, HFB, HZ⟩ := hrel
    have HTL := hid (show (f.tool.take k).length ≤ 32 by rw [List.length_take]; omega)
    obtain ⟨av, nv, cv, ev⟩ := src_named (HO.out.src (by rw [List.length_append]; have := HTL.out; omega))
    subst ev
    by_cases hlt : k < 32
    · have hki : (k : Int) < 32 := by omega
      have hd : decide ((k : Int) < 32) = true := by simpa using hki
      have hkt : k < f.tool.length := by rw [HF.out]; exact hlt
      have c1 : wr.cell? ⟨w.heap.size, 4 + k, none⟩ = some (.int .u8 ((f.tool.getD k 0).toNat : Nat)) := HFB.out.t k _ (by rw [bytesV_get, List.getElem?_eq_getElem hkt]; simp [List.getD_eq_getElem?_getD, List.getElem?_eq_getElem hkt])
      have HTK := hid (show f.tool.take k ++ [f.tool.getD k 0] = f.tool.take (k + 1) by rw [List.take_succ_eq_append_getElem hkt, List.getD_eq_getElem?_getD, List.getElem?_eq_getElem hkt]; rfl)
      have hkw : IntKind.i64.wrap ((k : Int) + 1) = (k : Int) + 1 := by rw [IntKind.wrap_i64]; omega
      have hpa : (⟨w.heap.size, 4, none⟩ : Addr).add k = ⟨w.heap.size, 4 + k, none⟩ := Addr.add_mid w.heap.size 4 k
      obtain ⟨T, HT⟩ : ∃ T, Hid (f.tool.getD k 0 = T) := ⟨_, rfl⟩
      rw [HT.out] at c1 HTK
      go_wp2_with (at_builtin; refine app_src rfl _ _ rfl w1.heap.size _ _ rfl (HO.out.below (below_walk wr _)) _ [T] rfl (src_lit (hp_new wr _) rfl (by simp) _ rfl) (by rw [List.length_append]; have := HTL.out; simp; omega) (by have := HZ.out; simp; omega) ?_)
      intro v9 w9 ho9 hg9
      have HO9 := hid (show OwnB w9 w1.heap.size v9 (X ++ f.tool.take (k + 1)) by rw [← HTK.out]; first | exact ho9 | simpa only [List.append_assoc] using ho9)
      have hbb : Below w1.heap.size (wr.alloc (.cells #[.int .u8 (T.toNat : Nat)] 5)) w9 := ⟨hg9.os, hg9.tape, hg9.output, hg9.size, fun j hj => hg9.block j (by have := HZ.out; simp; omega) (fun e => by have := (HO.out.lt j e.symm).1; omega)⟩
      have HB9 := hid (below_tr (below_then HB.out (below_walk wr (.cells #[.int .u8 (T.toNat : Nat)] 5))) (hbb.mono HBL.out.size))
      have HFB9 := hid (show Fb w9 w.heap.size f va from fb_at (HFB.out.below (Nat.lt_of_lt_of_le HL1.out HZ.out) (below_walk wr (.cells #[.int .u8 (T.toNat : Nat)] 5))) HL1.out hbb)
      have HZ9 := hid (show w1.heap.size ≤ w9.heap.size by have := hg9.size; have := HZ.out; simp at *; omega)
      have HT9 := hid (show (f.tool.take (k + 1)).length ≤ 32 by rw [List.length_take]; omega)
      obtain ⟨a9, n9, c9, e9⟩ := src_named (HO9.out.src (by rw [List.length_append]; have := HT9.out; omega))
      subst e9
      clear ho9 hg9 hbb c1 HO HB HFB HZ
      go_wp2
      exact ⟨⟨k + 1, by omega, by simp, HO9, HB9, HFB9, HZ9⟩, by simp [intOf]; omega⟩
    · obtain rfl : k = 32 := by omega
      have HS9 := hid (show Src wr (.slice av nv cv) (sn 1 ++ sn V ++ sn S ++ f.tool) by
        have h9 := HO.out.src (by rw [List.length_append]; have := HTL.out; omega)
        rw [List.take_of_length_le (by rw [HF.out]; omega)] at h9
        rw [HX.out]
        exact h9)
      have xz := HFB.out.k
      rw [HK.out] at xz
      go_wp2
      go_ret
      exact ⟨_, rfl, HS9.out, HB.out⟩

end Go.Proofs.Ytjinkahlfigdcaa

/- A Bye, written by the document. -/
namespace Go.Proofs.Ytjinkahlfigdcaa
open Go.RowKit Go.BigFrame

set_option maxRecDepth 100000 in
set_option maxHeartbeats 4000000 in
theorem onlyBye_any (w : World) :
    Calls Try.prog 45 #[.agg (fcells byeF nS).toArray] w fun e w' => e = .returned (.agg (fcells byeF nS).toArray) ∧ Below w.heap.size w w' := by
  have HNB := hid (hp_two w (.cells (fcells byeF nS).toArray 29) (.cells (fcells zF nS).toArray 29))
  have HBL := hid (below_walk2 w (.cells (fcells byeF nS).toArray 29) (.cells (fcells zF nS).toArray 29))
  have HZ : Hid ((w.alloc (.cells (fcells byeF nS).toArray 29)).heap.size = w.heap.size + 1) := hid (by simp)
  have HSZ := hid (frame_size byeF nS rfl)
  go_enter Try.func45, Try.ntmps45
  go_upto_region 1 with (refine al_row (by rfl) 29 (by rfl) _ zeroFrame ?_)
  try rw [HZ.out]
  generalize (w.alloc (.cells (fcells byeF nS).toArray 29)).alloc (.cells (fcells zF nS).toArray 29) = w2 at HNB HBL ⊢
  have x0 : w2.cell? ⟨w.heap.size, 0, none⟩ = some (.int .i64 5) := (Fb.of HNB.out.1 rfl).k
  have HL2 := hid (hp_lt HNB.out.2)
  go_upto_region 2 with (first
    | (refine bd_row (by rfl) 29 #[(0, .tmp 5)] (by rfl) _ (by simp [Act.eval]) _ built_bye ?_)
    | (refine al_row (by rfl) 29 (by rfl) _ zeroFrame ?_)
    | (refine st_new (by rfl) 29 _ _ (by rfl) (fcells byeF nS) (by rfl) (by rfl) 29 _ HSZ.out rfl (fcells_one byeF nS rfl) ?_))
  have HN1 := hid ((below_walk w2 (.cells (fcells byeF nS).toArray 29)).block _ (by have := HL2.out; omega) |>.trans HNB.out.1)
  have HN2 := hid ((below_walk w2 (.cells (fcells byeF nS).toArray 29)).block _ HL2.out |>.trans HNB.out.2)
  have HN3 := hid (hp_new w2 (.cells (fcells byeF nS).toArray 29))
  have HB3 := hid (below_then HBL.out (below_walk w2 (.cells (fcells byeF nS).toArray 29)))
  obtain ⟨B3, HE3⟩ : ∃ b : Nat, Hid (w2.heap.size = b) := ⟨_, rfl⟩
  rw [HE3.out] at HN3 ⊢
  generalize w2.alloc (.cells (fcells byeF nS).toArray 29) = w3 at HN1 HN2 HN3 HB3 ⊢
  clear x0 HNB HBL HL2
  have x1 : w3.cell? ⟨w.heap.size, 0, none⟩ = some (.int .i64 5) := (Fb.of HN1.out rfl).k
  go_wp2_with (first
    | (refine ld_row (by rfl) 29 (.tmp 3) (by rfl) B3 (by rfl) (fcells byeF nS) 29 HN3.out _ Try.underlying29 rfl HSZ.out ?_)
    | (refine st_row (by rfl) 29 _ _ (by rfl) (w.heap.size + 1) (fcells byeF nS) (by rfl) (by rfl) 29 _ HN2.out HSZ.out rfl (fcells_one byeF nS rfl) ?_; intro w4 hw4))
  refine ret_row 2 29 rfl (w.heap.size + 1) rfl (fcells byeF nS) 29 hw4.blk _ Try.underlying29 rfl HSZ.out rfl ⟨rfl, Below.of_gb HB3.out hw4.grown (by omega)⟩

theorem ruint_five (w : World) : Calls Try.prog 27 #[.int .u64 5] w fun e w' => ∃ ao c, e = .returned (.slice ao 1 c) ∧ OwnB w' w.heap.size (.slice ao 1 c) [5] ∧ Below w.heap.size w w' := by
  refine (refUint_any 5 w (by decide)).mono ?_
  rintro e w' ⟨v, rfl, ho, hb⟩
  have ho' : OwnB w' w.heap.size v [5] := ho
  obtain ⟨ao, c, rfl⟩ := src_shape (ho'.src (by simp))
  exact ⟨ao, c, rfl, ho', hb⟩
theorem ruint_one (w : World) : Calls Try.prog 27 #[.int .u64 1] w fun e w' => ∃ ao c, e = .returned (.slice ao 1 c) ∧ OwnB w' w.heap.size (.slice ao 1 c) [1] ∧ Below w.heap.size w w' := by
  refine (refUint_any 1 w (by decide)).mono ?_
  rintro e w' ⟨v, rfl, ho, hb⟩
  have ho' : OwnB w' w.heap.size v [1] := ho
  obtain ⟨ao, c, rfl⟩ := src_shape (ho'.src (by simp))
  exact ⟨ao, c, rfl, ho', hb⟩

set_option maxRecDepth 100000 in
set_option maxHeartbeats 4000000 in
theorem bodyBye_any (w : World) :
    Calls Try.prog 26 #[.agg (fcells byeF nS).toArray] w fun e w' => ∃ ao c, e = .returned (.slice ao 1 c) ∧ Src w' (.slice ao 1 c) [5] ∧ Below w.heap.size w w' := by
  have HNB := hid (hp_new w (.cells (fcells byeF nS).toArray 29))
  have HBL := hid (below_walk w (.cells (fcells byeF nS).toArray 29))
  go_enter Try.func26, Try.ntmps26
  go_upto_region 1 with fail
  generalize w.alloc (.cells (fcells byeF nS).toArray 29) = w1 at HNB HBL ⊢
  have x0 : w1.cell? ⟨w.heap.size, 0, none⟩ = some (.int .i64 5) := (Fb.of HNB.out rfl).k
  have hw5 : IntKind.u64.wrap 5 = 5 := rfl
  go_wp2_with fail
  refine (ruint_five w1).mono ?_
  rintro e w2 ⟨ao, c, rfl, ho2, hb2⟩
  have HS2 := hid (ho2.src (by simp))
  have HN2 := hid ((hb2.block _ (hp_lt HNB.out)).trans HNB.out)
  have HB2 := hid (below_then HBL.out hb2)
  have x1 : w2.cell? ⟨w.heap.size, 0, none⟩ = some (.int .i64 5) := (Fb.of HN2.out rfl).k
  clear x0 hw5 ho2 hb2 HNB HBL HN2
  go_wp2
  go_ret
  exact ⟨_, _, rfl, HS2.out, HB2.out⟩

theorem rsame_bye (w : World) : Calls Try.prog 18 #[.agg (fcells byeF nS).toArray, .agg (fcells byeF nS).toArray] w fun e w' => e = .returned (.bool true) ∧ Below w.heap.size w w' := by
  have := rsame_any byeF byeF nS nS w rfl rfl (strs_nil w) (strs_nil w) (by simp [byeF])
  rwa [sameP_self] at this

set_option maxRecDepth 100000 in
set_option maxHeartbeats 4000000 in
theorem checkBye_any (w : World) :
    Calls Try.prog 25 #[.agg (fcells byeF nS).toArray] w fun e w' => e = .returned (.int .i64 0) ∧ Below w.heap.size w w' := by
  have HNB := hid (hp_new w (.cells (fcells byeF nS).toArray 29))
  have HBL := hid (below_walk w (.cells (fcells byeF nS).toArray 29))
  have HSZ := hid (frame_size byeF nS rfl)
  go_enter Try.func25, Try.ntmps25
  go_upto_region 1 with fail
  generalize w.alloc (.cells (fcells byeF nS).toArray 29) = w1 at HNB HBL ⊢
  have HL := hid (hp_lt HNB.out)
  have x0 : w1.cell? ⟨w.heap.size, 0, none⟩ = some (.int .i64 5) := (Fb.of HNB.out rfl).k
  have x7 : w1.cell? ⟨w.heap.size, 40, none⟩ = some (.slice none 0 0) := (Fb.of HNB.out rfl).a
  have z0 := fun p : Bel w1 => p.cell x0 HL.out
  have z7 := fun p : Bel w1 => p.cell x7 HL.out
  have ib : Nonempty (Bel w1) := bel_some w1
  have HRA := hid (Bel.range (range_row HNB.out) HL.out)
  clear x0 x7
  refine wp_region_quiet_bel (by kernel_rfl) (by kernel_rfl) ?_
  go_big_quiet_step (fail)
  go_big_quiet_step (fail)
  go_big_quiet_step (fail)
  go_big_quiet_step (fail)
  go_big_quiet_step (fail)
  go_big_quiet_step (fail)
  go_big_quiet_step (fail)
  go_big_quiet_step (fail)
  go_big_quiet_step (fail)
  refine wpQuiet_want (by rfl) fun K hK => quiet_ld 29 (.tmp 1) (by rfl) w.heap.size 0 (by rfl) _ _ HRA.out Try.underlying29 rfl HSZ.out (hK _ ?_)
  simp only [Act.put, List.setIfInBounds_toArray, List.set_cons_succ, List.set_cons_zero]
  refine wpQuiet_want (by rfl) fun K hK => quiet_ld 29 (.tmp 1) (by rfl) w.heap.size 0 (by rfl) _ _ HRA.out Try.underlying29 rfl HSZ.out (hK _ ?_)
  simp only [Act.put, List.setIfInBounds_toArray, List.set_cons_succ, List.set_cons_zero]
  go_big_quiet_step (first | (go_at_call 45; exact bel_of (onlyBye_any _)))
  go_big_quiet_step (first | (go_at_call 18; exact bel_of (rsame_bye _)))
  go_big_quiet_step (fail)
  go_big_quiet_step (fail)
  go_big_quiet_step (fail)
  go_big_quiet_step (fail)
  go_big_quiet_step (fail)
  go_big_quiet_step (fail)
  go_big_quiet_step (fail)
  go_big_quiet_step (fail)
  go_big_quiet_step (fail)
  refine wpQuiet_nil ?_
  rintro w2 ⟨⟨w2', hb2⟩, hw2⟩
  obtain rfl : w2 = w2' := hw2
  have HN2 := hid ((hb2.block _ HL.out).trans HNB.out)
  have HB2 := hid (below_then HBL.out hb2)
  clear hb2 z0 z7 ib HRA HNB HBL HL
  have x0 : w2.cell? ⟨w.heap.size, 0, none⟩ = some (.int .i64 5) := (Fb.of HN2.out rfl).k
  have l1 : w2.cell? ⟨w.heap.size, 37, none⟩ = some (.int .i64 0) := (Fb.of HN2.out rfl).l1
  have l2 : w2.cell? ⟨w.heap.size, 38, none⟩ = some (.int .i64 0) := (Fb.of HN2.out rfl).l2
  have l3 : w2.cell? ⟨w.heap.size, 39, none⟩ = some (.int .i64 0) := (Fb.of HN2.out rfl).l3
  have x7 : w2.cell? ⟨w.heap.size, 40, none⟩ = some (.slice none 0 0) := (Fb.of HN2.out rfl).a
  have x8 : w2.cell? ⟨w.heap.size, 41, none⟩ = some (.string ⟨#[]⟩) := (Fb.of HN2.out rfl).bd
  go_wp2_with fail
  go_loopw [3, 4] (fun b i wr => b = .bool false ∧ i = .int .i64 0 ∧ wr = w2) (fun _ _ _ => 0)
  case atStart => exact ⟨rfl, rfl, rfl⟩
  case round =>
    obtain ⟨rfl, rfl, rfl⟩ := hrel
    have HRG := hid (range_row HN2.out)
    go_wp2_with (refine ld_gd (by rfl) 29 (.tmp 1) (by rfl) w.heap.size 0 (by rfl) _ _ HRG.out Try.underlying29 rfl HSZ.out ?_)
    refine (bodyBye_any wr).mono ?_
    rintro e w3 ⟨ao, c, rfl, hs3, hb3⟩
    have HB3 := hid (below_then HB2.out hb3)
    clear hs3 hb3 x0 l1 l2 l3 x7 x8 HN2 HB2
    go_wp2
    go_ret
    exact ⟨rfl, HB3.out⟩

set_option maxRecDepth 100000 in
set_option maxHeartbeats 4000000 in
theorem rencodeBye_any (w : World) :
    Calls Try.prog 10 #[.agg (fcells byeF nS).toArray] w fun e w' => ∃ v, e = .returned (.tuple #[v, .int .i64 0]) ∧ OwnB w' w.heap.size v (sealP [1, 5]) ∧ Below w.heap.size w w' := by
  have HNB := hid (hp_new w (.cells (fcells byeF nS).toArray 29))
  have HBL := hid (below_walk w (.cells (fcells byeF nS).toArray 29))
  have HSZ := hid (frame_size byeF nS rfl)
  go_enter Try.func10, Try.ntmps10
  go_upto_region 1 with fail
  generalize w.alloc (.cells (fcells byeF nS).toArray 29) = w1 at HNB HBL ⊢
  go_wp2_with (refine ld_row (by rfl) 29 (.tmp 1) (by rfl) w.heap.size (by rfl) (fcells byeF nS) 29 HNB.out _ Try.underlying29 rfl HSZ.out ?_)
  refine (checkBye_any w1).mono ?_
  rintro e w2 ⟨rfl, hb2⟩
  have HN2 := hid ((hb2.block _ (hp_lt HNB.out)).trans HNB.out)
  have HB2 := hid (below_then HBL.out hb2)
  clear hb2 HNB HBL
  go_wp2_with (refine ld_row (by rfl) 29 (.tmp 1) (by rfl) w.heap.size (by rfl) (fcells byeF nS) 29 HN2.out _ Try.underlying29 rfl HSZ.out ?_)
  refine (bodyBye_any w2).mono ?_
  rintro e w3 ⟨ao, c, rfl, hs3, hb3⟩
  have HS3 := hid hs3
  have HB3 := hid (below_then HB2.out hb3)
  have hw1 : IntKind.u64.wrap 1 = 1 := rfl
  clear hs3 hb3 HN2 HB2
  go_wp2_with fail
  refine (ruint_one w3).mono ?_
  rintro e w4 ⟨a4, c4, rfl, ho4, hb4⟩
  have HO4 := hid ho4
  have HS4 := hid (HS3.out.below hb4)
  have HB4 := hid (below_then HB3.out hb4)
  have HZ4 := hid hb4.size
  clear ho4 hb4 HS3
  go_wp2_with (at_builtin; refine app_src rfl _ _ rfl w3.heap.size _ [1] rfl HO4.out _ [5] rfl HS4.out (by simp) HZ4.out ?_)
  intro v5 w5 ho5 hg5
  have hs5 : Src w5 v5 [1, 5] := ho5.src (by simp)
  have HB5 := hid (show Below w.heap.size w w5 from below_tr HB4.out ⟨hg5.os, hg5.tape, hg5.output, hg5.size, fun k hk => hg5.block k (by have := HB3.out.size; have := HZ4.out; omega) (fun e => by have := (HO4.out.lt k e.symm).1; have := HB3.out.size; omega)⟩)
  have HSE := hid (rseal_any w5 v5 [1, 5] hs5 (by simp))
  obtain ⟨a5, c5, e5⟩ := src_shape hs5
  subst e5
  clear ho5 hg5 hs5 HB4 HB3 HZ4 HO4 HS4
  go_wp2_with fail
  refine HSE.out.mono ?_
  rintro e w6 ⟨v6, rfl, ho6, hb6⟩
  have HO6 := hid (ho6.le HB5.out.size)
  have HB7 := hid (below_then HB5.out hb6)
  obtain ⟨a6, c6, e6⟩ := src_shape (ho6.src (by rw [sealP_length]; simp))
  subst e6
  clear ho6 hb6
  go_wp2
  go_ret2
  exact ⟨_, rfl, HO6.out, HB7.out⟩

end Go.Proofs.Ytjinkahlfigdcaa

/- The document's Check of every frame. -/
namespace Go.Proofs.Ytjinkahlfigdcaa
open Go.RowKit Go.BigFrame

def bad1 (f : Fr) : Bool := decide (¬ (1 ≤ f.kind ∧ f.kind ≤ 6) ∨ sameP f (ownF f) = false ∨ 8 < f.args.length)
def bad2 (f : Fr) : Bool := bad1 f || decide (f.lim.1 < 0 ∨ f.lim.2.1 < 0 ∨ f.lim.2.2 < 0)
def bad3 (f : Fr) : Bool := bad2 f || decide (f.kind = 1 ∧ (f.ver ≠ 1 ∨ f.slots < 1 ∨ 64 < f.slots))
def bad4 (f : Fr) : Bool := bad3 f || decide (f.kind = 3 ∧ (f.status < 1 ∨ 3 < f.status ∨ (f.status ≠ 1 ∧ f.body ≠ [])))
theorem bad_ok (f : Fr) : (bad4 f || longA f.args) = !okFr f := by
  by_cases hk : 1 ≤ f.kind ∧ f.kind ≤ 6
  · by_cases hs : sameP f (ownF f) = true
    · have e := same_eq hs
      have hc : f.kind = 1 ∨ f.kind = 2 ∨ f.kind = 3 ∨ f.kind = 4 ∨ f.kind = 5 ∨ f.kind = 6 := by omega
      unfold bad4 bad3 bad2 bad1 okFr
      rw [hs, decide_eq_true hk]
      simp only [hk, Bool.true_and]
      rcases hc with k | k | k | k | k | k
      · rw [mayF_1 f k, own_1 f k] at *
        have eA := congrArg Fr.args e
        have eL := congrArg Fr.lim e
        simp only at eA eL
        rw [Bool.eq_iff_iff]
        simp [eA, eL, mayHelloP, longA, k]
        try omega
      · rw [mayF_2 f k]
        rw [Bool.eq_iff_iff]
        cases hl : longA f.args <;> simp [mayReqP, k, hl] <;> omega
      · rw [mayF_3 f k, own_3 f k] at *
        have eA := congrArg Fr.args e
        have eL := congrArg Fr.lim e
        simp only [resF] at eA eL
        rw [Bool.eq_iff_iff]
        by_cases hb : f.body = []
        · simp [eA, eL, mayResP, longA, k, hb]
          omega
        · simp [eA, eL, mayResP, longA, k, hb]
          omega
      · rw [mayF_4 f k, own_4 f k] at *
        have eA := congrArg Fr.args e
        have eL := congrArg Fr.lim e
        simp only [canF] at eA eL
        simp [eA, eL, longA, k]
      · rw [mayF_5 f k, own_5 f k] at *
        have eA := congrArg Fr.args e
        have eL := congrArg Fr.lim e
        simp only [byeF] at eA eL
        simp [eA, eL, longA, k]
      · rw [mayF_6 f k, own_6 f k] at *
        have eA := congrArg Fr.args e
        have eL := congrArg Fr.lim e
        simp only [noteF] at eA eL
        simp [eA, eL, longA, k]
    · have hs' : sameP f (ownF f) = false := by simpa using hs
      unfold bad4 bad3 bad2 bad1 okFr
      simp [hs']
  · unfold bad4 bad3 bad2 bad1 okFr
    rw [decide_eq_true (show ¬ (1 ≤ f.kind ∧ f.kind ≤ 6) ∨ sameP f (ownF f) = false ∨ 8 < f.args.length from Or.inl hk), decide_eq_false hk]
    rfl

set_option maxRecDepth 100000 in
set_option maxHeartbeats 4000000 in
theorem body5_any (f : Fr) (va : Value) (w : World) (hf : f.tool.length = 32) (hk : f.kind = 5) :
    Calls Try.prog 26 #[.agg (fcells f va).toArray] w fun e w' => ∃ v, e = .returned v ∧ Src w' v (sn 5) ∧ Below w.heap.size w w' := by
  have HNB := hid (hp_new w (.cells (fcells f va).toArray 29))
  have HBL := hid (below_walk w (.cells (fcells f va).toArray 29))
  go_enter Try.func26, Try.ntmps26
  go_upto_region 1 with fail
  generalize w.alloc (.cells (fcells f va).toArray 29) = w1 at HNB HBL ⊢
  have x0 : w1.cell? ⟨w.heap.size, 0, none⟩ = some (.int .i64 5) := by have := (Fb.of HNB.out hf).k; rw [hk] at this; exact this
  have hw5 : IntKind.u64.wrap 5 = 5 := rfl
  have HF := hid hf
  have HK := hid hk
  clear hk hf
  go_wp2_with fail
  refine (ruint_five w1).mono ?_
  rintro e w2 ⟨ao, c, rfl, ho2, hb2⟩
  have HS2 := hid (ho2.src (by simp))
  have HN2 := hid ((hb2.block _ (hp_lt HNB.out)).trans HNB.out)
  have HB2 := hid (below_then HBL.out hb2)
  have x1 : w2.cell? ⟨w.heap.size, 0, none⟩ = some (.int .i64 5) := by have := (Fb.of HN2.out HF.out).k; rw [HK.out] at this; exact this
  clear x0 hw5 ho2 hb2 HNB HBL HN2
  go_wp2
  go_ret
  exact ⟨_, rfl, HS2.out, HB2.out⟩

/-- the document's body of a frame that may be -/
theorem rbodyF_any (f : Fr) (va : Value) (W : World) (hr : Rng f) (ha : Strs W va f.args) (hk : 1 ≤ f.kind ∧ f.kind ≤ 6) (hm : mayF f = true) (hB : f.body.length ≤ 2097152) :
    Calls Try.prog 26 #[.agg (fcells f va).toArray] W fun e w' => ∃ v, e = .returned v ∧ Src w' v (bodyP f) ∧ Below W.heap.size W w' := by
  have hc : f.kind = 1 ∨ f.kind = 2 ∨ f.kind = 3 ∨ f.kind = 4 ∨ f.kind = 5 ∨ f.kind = 6 := by omega
  unfold bodyP
  rcases hc with k | k | k | k | k | k
  · rw [mayF_1 f k] at hm
    have h := mayHello_of hm
    rw [lay_1 f k, k, sns_two, ← List.append_assoc, ← List.append_assoc]
    exact body1_any f va W hr.tool k f.ver.toNat f.slots.toNat (toNat_eq (by omega)) (toNat_eq (by omega)) (by have := hr.ver; omega) (by have := hr.slots; omega)
  · rw [mayF_2 f k] at hm
    have h := mayReq_of hm
    rw [lay_2 f k, k]
    unfold layReqP
    rw [sns_thr]
    simp only [← List.append_assoc]
    exact body2_any f va W hr.tool k f.id.toNat f.lim.1.toNat f.lim.2.1.toNat f.lim.2.2.toNat (toNat_eq hr.idl) (by have := hr.idh; omega) (toNat_eq h.1) (toNat_eq h.2.1) (toNat_eq h.2.2.1) (by have := hr.l1; omega) (by have := hr.l2; omega) (by have := hr.l3; omega) ha (args_len h.2.2.2.2 h.2.2.2.1) hB
  · rw [mayF_3 f k] at hm
    have h := mayRes_of hm
    rw [lay_3 f k, k, sns_one]
    simp only [← List.append_assoc]
    exact body3_any f va W hr.tool k f.id.toNat f.status.toNat (toNat_eq hr.idl) (by have := hr.idh; omega) (toNat_eq (by omega)) (by have := hr.status; omega) hB
  · rw [lay_4 f k, k]
    exact body4_any f va W hr.tool k f.id.toNat (toNat_eq hr.idl) (by have := hr.idh; omega)
  · rw [lay_5 f k, k, List.append_nil]
    exact body5_any f va W hr.tool k
  · rw [lay_6 f k, k]
    exact body6_any f va W hr.tool k hB
end Go.Proofs.Ytjinkahlfigdcaa

/- The document's Check of every frame. -/
namespace Go.Proofs.Ytjinkahlfigdcaa
open Go.RowKit Go.BigFrame

theorem body_gt (f : Fr) (ho : okFr f = true) (h : 2097152 < f.body.length) : 2097152 < (bodyP f).length := by
  obtain ⟨hk, hs, hm⟩ := okFr_of ho
  rcases Nat.lt_or_ge 2097152 (bodyP f).length with h1 | h1
  · exact h1
  · exfalso
    have hc : (f.kind = 1 ∨ f.kind = 4 ∨ f.kind = 5) ∨ (f.kind = 2 ∨ f.kind = 3 ∨ f.kind = 6) := by omega
    rcases hc with k | k
    · rw [same_own_body hs k] at h
      simp at h
    · have := body_le f k h1
      omega
theorem bad1_kind (f : Fr) (h : ¬ (1 ≤ f.kind ∧ f.kind ≤ 6)) : bad1 f = true := by
  unfold bad1
  exact decide_eq_true (Or.inl h)
theorem bad1_same (f : Fr) (h : sameP f (ownF f) = false) : bad1 f = true := by
  unfold bad1
  exact decide_eq_true (Or.inr (Or.inl h))
theorem long_take {A : List (List UInt8)} {k : Nat} (h : longA (A.take k) = true) : longA A = true := by
  unfold longA at h ⊢
  rw [List.any_eq_true] at h ⊢
  obtain ⟨x, hx, hp⟩ := h
  exact ⟨x, List.mem_of_mem_take hx, hp⟩

set_option maxRecDepth 100000 in
set_option maxHeartbeats 8000000 in
theorem rcheckF_any (f : Fr) (va : Value) (w : World) (hr : Rng f) (ha : Strs w va f.args) :
    Calls Try.prog 25 #[.agg (fcells f va).toArray] w fun e w' => e = .returned (.int .i64 (chkE f)) ∧ Below w.heap.size w w' := by
  obtain ⟨ao, c, rfl⟩ := ha.shape
  have HNB := hid (hp_new w (.cells (fcells f (.slice ao f.args.length c)).toArray 29))
  have HBL := hid (below_walk w (.cells (fcells f (.slice ao f.args.length c)).toArray 29))
  have HSZ := hid (frame_size f (.slice ao f.args.length c) hr.tool)
  have HR := hid hr
  have HA := hid ha
  clear ha hr
  go_enter Try.func25, Try.ntmps25
  go_upto_region 1 with fail
  have HA1 := hid (HA.out.below HBL.out)
  generalize w.alloc (.cells (fcells f (.slice ao f.args.length c)).toArray 29) = w1 at HNB HBL HA1 ⊢
  have HL := hid (hp_lt HNB.out)
  go_cut [3] from 5 (fun s3 wx => s3 = .bool (bad1 f) ∧ Below w1.heap.size w1 wx)
  case first =>
    as_aux_lemma =>
      have x0 : w1.cell? ⟨w.heap.size, 0, none⟩ = some (.int .i64 f.kind) := (Fb.of HNB.out HR.out.tool).k
      have x7 : w1.cell? ⟨w.heap.size, 40, none⟩ = some (.slice ao f.args.length c) := (Fb.of HNB.out HR.out.tool).a
      have z0 := fun p : Bel w1 => p.cell x0 HL.out
      have z7 := fun p : Bel w1 => p.cell x7 HL.out
      have ib : Nonempty (Bel w1) := bel_some w1
      have HRA := hid (Bel.range (range_row HNB.out) HL.out)
      clear x0 x7
      by_cases h1 : f.kind < 1
      · have q1 : decide (f.kind < 1) = true := decide_eq_true h1
        have HB := hid ((bad1_kind f (fun h => by omega)).symm)
        refine wp_region_quiet_bel (by kernel_rfl) (by kernel_rfl) ?_
        repeat (go_big_quiet_step (fail))
        refine wpQuiet_nil ?_
        rintro w2 ⟨⟨w2', hb2⟩, hw2⟩
        obtain rfl : w2 = w2' := hw2
        go_wp2
        go_meet
        case rel => exact ⟨congrArg Value.bool HB.out, hb2⟩
      · by_cases h6 : 6 < f.kind
        · have q1 : decide (f.kind < 1) = false := decide_eq_false h1
          have q2 : decide (6 < f.kind) = true := decide_eq_true h6
          have HB := hid ((bad1_kind f (fun h => by omega)).symm)
          refine wp_region_quiet_bel (by kernel_rfl) (by kernel_rfl) ?_
          repeat (go_big_quiet_step (fail))
          refine wpQuiet_nil ?_
          rintro w2 ⟨⟨w2', hb2⟩, hw2⟩
          obtain rfl : w2 = w2' := hw2
          go_wp2
          go_meet
          case rel => exact ⟨congrArg Value.bool HB.out, hb2⟩
        · have q1 : decide (f.kind < 1) = false := decide_eq_false h1
          have q2 : decide (6 < f.kind) = false := decide_eq_false h6
          have HON := hid (fun p : Bel w1 => only_any f (.slice ao f.args.length c) p.out ⟨by omega, by omega⟩ HR.out.tool ⟨_, _, _, rfl⟩)
          have HSM := hid (fun p : Bel w1 => rsame_own f (.slice ao f.args.length c) p.out HR.out.tool (HA1.out.below p.bel) HR.out.many)
          obtain ⟨S, HS⟩ : ∃ S, Hid (sameP f (ownF f) = S) := ⟨_, rfl⟩
          rw [HS.out] at HSM
          cases S with
          | false =>
            have HB := hid ((bad1_same f HS.out).symm)
            refine wp_region_quiet_bel (by kernel_rfl) (by kernel_rfl) ?_
            go_big_quiet_step (fail)
            go_big_quiet_step (fail)
            go_big_quiet_step (fail)
            go_big_quiet_step (fail)
            go_big_quiet_step (fail)
            go_big_quiet_step (fail)
            go_big_quiet_step (fail)
            go_big_quiet_step (fail)
            go_big_quiet_step (fail)
            refine wpQuiet_want (by rfl) fun K hK => quiet_ld 29 (.tmp 1) (by rfl) w.heap.size 0 (by rfl) _ _ HRA.out Try.underlying29 rfl HSZ.out (hK _ ?_)
            simp only [Act.put, List.setIfInBounds_toArray, List.set_cons_succ, List.set_cons_zero]
            refine wpQuiet_want (by rfl) fun K hK => quiet_ld 29 (.tmp 1) (by rfl) w.heap.size 0 (by rfl) _ _ HRA.out Try.underlying29 rfl HSZ.out (hK _ ?_)
            simp only [Act.put, List.setIfInBounds_toArray, List.set_cons_succ, List.set_cons_zero]
            go_big_quiet_step (first | (go_at_call 45; exact bel_of (HON.out _)))
            go_big_quiet_step (first | (go_at_call 18; exact bel_of (HSM.out _)))
            go_big_quiet_step (fail)
            go_big_quiet_step (fail)
            go_big_quiet_step (fail)
            go_big_quiet_step (fail)
            go_big_quiet_step (fail)
            go_big_quiet_step (fail)
            go_big_quiet_step (fail)
            go_big_quiet_step (fail)
            go_big_quiet_step (fail)
            refine wpQuiet_nil ?_
            rintro w2 ⟨⟨w2', hb2⟩, hw2⟩
            obtain rfl : w2 = w2' := hw2
            go_wp2
            go_meet
            case rel => exact ⟨congrArg Value.bool HB.out, hb2⟩
          | true =>
            have HB := hid (show decide ((8 : Int) < (f.args.length : Int)) = bad1 f by
              unfold bad1
              rw [HS.out]
              refine decide_eq_decide.2 ⟨fun h => Or.inr (Or.inr (by omega)), fun h => ?_⟩
              rcases h with h | h | h
              · exact absurd (⟨by omega, by omega⟩ : 1 ≤ f.kind ∧ f.kind ≤ 6) h
              · cases h
              · omega)
            refine wp_region_quiet_bel (by kernel_rfl) (by kernel_rfl) ?_
            go_big_quiet_step (fail)
            go_big_quiet_step (fail)
            go_big_quiet_step (fail)
            go_big_quiet_step (fail)
            go_big_quiet_step (fail)
            go_big_quiet_step (fail)
            go_big_quiet_step (fail)
            go_big_quiet_step (fail)
            go_big_quiet_step (fail)
            refine wpQuiet_want (by rfl) fun K hK => quiet_ld 29 (.tmp 1) (by rfl) w.heap.size 0 (by rfl) _ _ HRA.out Try.underlying29 rfl HSZ.out (hK _ ?_)
            simp only [Act.put, List.setIfInBounds_toArray, List.set_cons_succ, List.set_cons_zero]
            refine wpQuiet_want (by rfl) fun K hK => quiet_ld 29 (.tmp 1) (by rfl) w.heap.size 0 (by rfl) _ _ HRA.out Try.underlying29 rfl HSZ.out (hK _ ?_)
            simp only [Act.put, List.setIfInBounds_toArray, List.set_cons_succ, List.set_cons_zero]
            go_big_quiet_step (first | (go_at_call 45; exact bel_of (HON.out _)))
            go_big_quiet_step (first | (go_at_call 18; exact bel_of (HSM.out _)))
            go_big_quiet_step (fail)
            go_big_quiet_step (fail)
            go_big_quiet_step (fail)
            go_big_quiet_step (fail)
            go_big_quiet_step (fail)
            go_big_quiet_step (fail)
            go_big_quiet_step (fail)
            go_big_quiet_step (fail)
            go_big_quiet_step (fail)
            refine wpQuiet_nil ?_
            rintro w2 ⟨⟨w2', hb2⟩, hw2⟩
            obtain rfl : w2 = w2' := hw2
            go_wp2
            go_meet
            case rel => exact ⟨congrArg Value.bool HB.out, hb2⟩
  case rest =>
    as_aux_lemma =>
      obtain ⟨rfl, hb2⟩ := hcut
      have HN2 := hid ((hb2.block _ HL.out).trans HNB.out)
      have HA2 := hid (HA1.out.below hb2)
      have HB2 := hid (below_then HBL.out hb2)
      clear hb2 HA1 HBL HNB HL
      have HFB := hid (Fb.of HN2.out HR.out.tool)
      have x0 := HFB.out.k
      have x2 := HFB.out.v
      have x3 := HFB.out.s
      have x5 := HFB.out.st
      have l1 := HFB.out.l1
      have l2 := HFB.out.l2
      have l3 := HFB.out.l3
      have x7 := HFB.out.a
      have x8 := HFB.out.bd
      clear HFB
      obtain ⟨b1, Hb1⟩ : ∃ b, Hid (bad1 f = b) := ⟨_, rfl⟩
      rw [Hb1.out]
      go_upto_region 2 with fail
      go_cut [3] from 5 (fun s3 wx => s3 = .bool (bad2 f) ∧ wx = wc)
      case first =>
        as_aux_lemma =>
          clear HN2 HA2 HB2 HSZ
          cases b1 with
          | true =>
            have HX := hid (show true = bad2 f from by unfold bad2; rw [Hb1.out]; rfl)
            as_aux_lemma =>
              go_wp2
              go_meet
              case rel => exact ⟨congrArg Value.bool HX.out, rfl⟩
          | false =>
            by_cases a1 : f.lim.1 < 0
            · have da1 : decide (f.lim.1 < 0) = true := decide_eq_true a1
              have HX := hid (show true = bad2 f from by unfold bad2; rw [Hb1.out, decide_eq_true (Or.inl a1)]; rfl)
              as_aux_lemma =>
                go_wp2
                go_meet
                case rel => exact ⟨congrArg Value.bool HX.out, rfl⟩
            · have da1 : decide (f.lim.1 < 0) = false := decide_eq_false a1
              by_cases a2 : f.lim.2.1 < 0
              · have da2 : decide (f.lim.2.1 < 0) = true := decide_eq_true a2
                have HX := hid (show true = bad2 f from by unfold bad2; rw [Hb1.out, decide_eq_true (Or.inr (Or.inl a2))]; rfl)
                as_aux_lemma =>
                  go_wp2
                  go_meet
                  case rel => exact ⟨congrArg Value.bool HX.out, rfl⟩
              · have da2 : decide (f.lim.2.1 < 0) = false := decide_eq_false a2
                by_cases a3 : f.lim.2.2 < 0
                · have da3 : decide (f.lim.2.2 < 0) = true := decide_eq_true a3
                  have HX := hid (show true = bad2 f from by unfold bad2; rw [Hb1.out, decide_eq_true (Or.inr (Or.inr a3))]; rfl)
                  as_aux_lemma =>
                    go_wp2
                    go_meet
                    case rel => exact ⟨congrArg Value.bool HX.out, rfl⟩
                · have da3 : decide (f.lim.2.2 < 0) = false := decide_eq_false a3
                  have HX := hid (show false = bad2 f from by unfold bad2; rw [Hb1.out, decide_eq_false (by rintro (h | h | h) <;> omega)]; rfl)
                  as_aux_lemma =>
                    go_wp2
                    go_meet
                    case rel => exact ⟨congrArg Value.bool HX.out, rfl⟩
      case rest =>
        as_aux_lemma =>
          obtain ⟨rfl, rfl⟩ := hcut
          clear Hb1
          obtain ⟨b2, Hb2⟩ : ∃ b, Hid (bad2 f = b) := ⟨_, rfl⟩
          rw [Hb2.out]
          go_upto_region 3 with fail
          go_cut [3] from 5 (fun s3 wx => s3 = .bool (bad3 f) ∧ wx = wc)
          case first =>
            as_aux_lemma =>
              clear HN2 HA2 HB2 HSZ
              cases b2 with
              | true =>
                have HX := hid (show true = bad3 f from by unfold bad3; rw [Hb2.out]; rfl)
                as_aux_lemma =>
                  go_wp2
                  go_meet
                  case rel => exact ⟨congrArg Value.bool HX.out, rfl⟩
              | false =>
                by_cases a0 : f.kind = 1
                · have da0 : decide (f.kind = 1) = true := decide_eq_true a0
                  have ea0 : (f.kind == 1) = true := by simpa using a0
                  have ga0 : (f.kind != 1) = false := by simpa using a0
                  by_cases a1 : f.ver = 1
                  · have da1 : decide (f.ver = 1) = true := decide_eq_true a1
                    have ea1 : (f.ver == 1) = true := by simpa using a1
                    have ga1 : (f.ver != 1) = false := by simpa using a1
                    by_cases a2 : f.slots < 1
                    · have da2 : decide (f.slots < 1) = true := decide_eq_true a2
                      have HX := hid (show true = bad3 f from by unfold bad3; rw [Hb2.out, decide_eq_true (⟨a0, Or.inr (Or.inl a2)⟩)]; rfl)
                      as_aux_lemma =>
                        go_wp2
                        go_meet
                        case rel => exact ⟨congrArg Value.bool HX.out, rfl⟩
                    · have da2 : decide (f.slots < 1) = false := decide_eq_false a2
                      by_cases a3 : 64 < f.slots
                      · have da3 : decide (64 < f.slots) = true := decide_eq_true a3
                        have HX := hid (show true = bad3 f from by unfold bad3; rw [Hb2.out, decide_eq_true (⟨a0, Or.inr (Or.inr a3)⟩)]; rfl)
                        as_aux_lemma =>
                          go_wp2
                          go_meet
                          case rel => exact ⟨congrArg Value.bool HX.out, rfl⟩
                      · have da3 : decide (64 < f.slots) = false := decide_eq_false a3
                        have HX := hid (show false = bad3 f from by unfold bad3; rw [Hb2.out, decide_eq_false (by rintro ⟨_, h | h | h⟩ <;> omega)]; rfl)
                        as_aux_lemma =>
                          go_wp2
                          go_meet
                          case rel => exact ⟨congrArg Value.bool HX.out, rfl⟩
                  · have da1 : decide (f.ver = 1) = false := decide_eq_false a1
                    have ea1 : (f.ver == 1) = false := by simpa using a1
                    have ga1 : (f.ver != 1) = true := by simpa using a1
                    have HX := hid (show true = bad3 f from by unfold bad3; rw [Hb2.out, decide_eq_true (⟨a0, Or.inl a1⟩)]; rfl)
                    as_aux_lemma =>
                      go_wp2
                      go_meet
                      case rel => exact ⟨congrArg Value.bool HX.out, rfl⟩
                · have da0 : decide (f.kind = 1) = false := decide_eq_false a0
                  have ea0 : (f.kind == 1) = false := by simpa using a0
                  have ga0 : (f.kind != 1) = true := by simpa using a0
                  have HX := hid (show false = bad3 f from by unfold bad3; rw [Hb2.out, decide_eq_false (fun h => a0 h.1)]; rfl)
                  as_aux_lemma =>
                    go_wp2
                    go_meet
                    case rel => exact ⟨congrArg Value.bool HX.out, rfl⟩
          case rest =>
            as_aux_lemma =>
              obtain ⟨rfl, rfl⟩ := hcut
              clear Hb2
              obtain ⟨b3, Hb3⟩ : ∃ b, Hid (bad3 f = b) := ⟨_, rfl⟩
              rw [Hb3.out]
              go_upto_region 4 with fail
              go_cut [3] from 5 (fun s3 wx => s3 = .bool (bad4 f) ∧ wx = wc)
              case first =>
                as_aux_lemma =>
                  clear HN2 HA2 HB2 HSZ
                  cases b3 with
                  | true =>
                    have HX := hid (show true = bad4 f from by unfold bad4; rw [Hb3.out]; rfl)
                    as_aux_lemma =>
                      go_wp2
                      go_meet
                      case rel => exact ⟨congrArg Value.bool HX.out, rfl⟩
                  | false =>
                    by_cases a0 : f.kind = 3
                    · have da0 : decide (f.kind = 3) = true := decide_eq_true a0
                      have ea0 : (f.kind == 3) = true := by simpa using a0
                      have ga0 : (f.kind != 3) = false := by simpa using a0
                      by_cases a1 : f.status < 1
                      · have da1 : decide (f.status < 1) = true := decide_eq_true a1
                        have HX := hid (show true = bad4 f from by unfold bad4; rw [Hb3.out, decide_eq_true (⟨a0, Or.inl a1⟩)]; rfl)
                        as_aux_lemma =>
                          go_wp2
                          go_meet
                          case rel => exact ⟨congrArg Value.bool HX.out, rfl⟩
                      · have da1 : decide (f.status < 1) = false := decide_eq_false a1
                        by_cases a2 : 3 < f.status
                        · have da2 : decide (3 < f.status) = true := decide_eq_true a2
                          have HX := hid (show true = bad4 f from by unfold bad4; rw [Hb3.out, decide_eq_true (⟨a0, Or.inr (Or.inl a2)⟩)]; rfl)
                          as_aux_lemma =>
                            go_wp2
                            go_meet
                            case rel => exact ⟨congrArg Value.bool HX.out, rfl⟩
                        · have da2 : decide (3 < f.status) = false := decide_eq_false a2
                          by_cases a3 : f.status = 1
                          · have da3 : decide (f.status = 1) = true := decide_eq_true a3
                            have ea3 : (f.status == 1) = true := by simpa using a3
                            have ga3 : (f.status != 1) = false := by simpa using a3
                            have HX := hid (show false = bad4 f from by unfold bad4; rw [Hb3.out, decide_eq_false (by rintro ⟨_, h | h | h⟩ <;> omega)]; rfl)
                            as_aux_lemma =>
                              go_wp2
                              go_meet
                              case rel => exact ⟨congrArg Value.bool HX.out, rfl⟩
                          · have da3 : decide (f.status = 1) = false := decide_eq_false a3
                            have ea3 : (f.status == 1) = false := by simpa using a3
                            have ga3 : (f.status != 1) = true := by simpa using a3
                            by_cases a4 : f.body = []
                            · have e4 : (mk f.body).toList = [] := (bl_mk f.body).trans a4
                              have e5 : ((mk f.body).toList == []) = true := by rw [e4]; rfl
                              have e6 : (mk f.body) = ⟨#[]⟩ := by rw [a4]; rfl
                              have e7 : ((mk f.body).toList != []) = false := by rw [e4]; rfl
                              have HX := hid (show false = bad4 f from by unfold bad4; rw [Hb3.out, decide_eq_false (by rintro ⟨_, h | h | h⟩ <;> first | omega | exact h.2 a4)]; rfl)
                              clear a4 e6
                              as_aux_lemma =>
                                go_wp2
                                go_meet
                                case rel => exact ⟨congrArg Value.bool HX.out, rfl⟩
                            · have e4 : ¬ (mk f.body).toList = [] := fun h => a4 ((bl_mk f.body).symm.trans h)
                              have e5 : ((mk f.body).toList == []) = false := by simpa using e4
                              have e7 : ((mk f.body).toList != []) = true := by simpa using e4
                              have e8 : (mk f.body).toList.isEmpty = false := by rw [List.isEmpty_eq_false_iff]; exact e4
                              have HX := hid (show true = bad4 f from by unfold bad4; rw [Hb3.out, decide_eq_true (⟨a0, Or.inr (Or.inr ⟨a3, a4⟩)⟩)]; rfl)
                              as_aux_lemma =>
                                go_wp2
                                go_meet
                                case rel => exact ⟨congrArg Value.bool HX.out, rfl⟩
                    · have da0 : decide (f.kind = 3) = false := decide_eq_false a0
                      have ea0 : (f.kind == 3) = false := by simpa using a0
                      have ga0 : (f.kind != 3) = true := by simpa using a0
                      have HX := hid (show false = bad4 f from by unfold bad4; rw [Hb3.out, decide_eq_false (fun h => a0 h.1)]; rfl)
                      as_aux_lemma =>
                        go_wp2
                        go_meet
                        case rel => exact ⟨congrArg Value.bool HX.out, rfl⟩
              case rest =>
                as_aux_lemma =>
                  obtain ⟨rfl, rfl⟩ := hcut
                  clear Hb3
                  clear x2 x3 x5 l1 l2 l3
                  go_wp2_with fail
                  go_loopw [3, 4] (fun b i wr => ∃ k : Nat, k ≤ f.args.length ∧ i = .int .i64 k ∧ wr = wc ∧ ∃ B, b = .bool B ∧ Hid ((bad4 f || longA (f.args.take k)) = B)) (fun _ i _ => f.args.length - (intOf i).toNat)
                  case atStart => exact ⟨0, by omega, rfl, rfl, _, rfl, hid (by simp [longA])⟩
                  case round =>
                    obtain ⟨k, hk, rfl, rfl, B, rfl, HBK⟩ := hrel
                    by_cases hlt : k < f.args.length
                    · have hki : (k : Int) < (f.args.length : Int) := by omega
                      have hd : decide ((k : Int) < (f.args.length : Int)) = true := by simpa using hki
                      have hkw : IntKind.i64.wrap ((k : Int) + 1) = (k : Int) + 1 := by have := HR.out.many; rw [IntKind.wrap_i64]; omega
                      cases B with
                      | true =>
                        as_aux_lemma =>
                          have HE := hid (show chkE f = 70 by
                            have h : (bad4 f || longA f.args) = true := by
                              have h := HBK.out
                              rw [Bool.or_eq_true] at h ⊢
                              exact h.imp_right long_take
                            rw [bad_ok] at h
                            unfold chkE
                            rw [if_neg (by intro h2; rw [h2] at h; cases h)])
                          go_wp2
                          go_ret
                          exact ⟨by rw [HE.out]; rfl, HB2.out⟩
                      | false =>
                        as_aux_lemma =>
                          obtain ⟨g1, o1, rfl, c1⟩ := HA2.out.at k hlt
                          have HS : (mk (f.args.getD k [])).size = (f.args.getD k []).length := mk_size _
                          have h0 : bad4 f = false ∧ longA (f.args.take k) = false := by
                            have h := HBK.out
                            rw [Bool.or_eq_false_iff] at h
                            exact h
                          by_cases hlg : 4096 < (f.args.getD k []).length
                          · have HY := hid (show (bad4 f || longA (f.args.take (k + 1))) = true by
                              rw [Bool.or_eq_true]
                              refine Or.inr (long_yes (k := k) (by simp; omega) ?_)
                              rw [List.getD_eq_getElem?_getD, List.getElem?_take_of_lt (by omega), ← List.getD_eq_getElem?_getD]
                              exact hlg)
                            obtain ⟨M, HM⟩ : ∃ M : Nat, Hid ((f.args.getD k []).length = M) := ⟨_, rfl⟩
                            rw [HM.out] at HS hlg
                            have q1 : (4096 : Int) < (M : Int) := by omega
                            have q2 : decide ((4096 : Int) < (M : Int)) = true := decide_eq_true q1
                            clear hlg h0 HBK
                            generalize mk (f.args.getD k []) = s at *
                            go_wp2
                            exact ⟨⟨k + 1, by omega, by simp, by first | rfl | trivial, _, rfl, HY⟩, by simp [intOf]; omega⟩
                          · have HY := hid (show (bad4 f || longA (f.args.take (k + 1))) = false by
                              rw [h0.1, long_no hlt h0.2 hlg]
                              rfl)
                            obtain ⟨M, HM⟩ : ∃ M : Nat, Hid ((f.args.getD k []).length = M) := ⟨_, rfl⟩
                            rw [HM.out] at HS hlg
                            have q1 : ¬ (4096 : Int) < (M : Int) := by omega
                            have q2 : decide ((4096 : Int) < (M : Int)) = false := decide_eq_false q1
                            clear hlg h0 HBK
                            generalize mk (f.args.getD k []) = s at *
                            go_wp2
                            exact ⟨⟨k + 1, by omega, by simp, by first | rfl | trivial, _, rfl, HY⟩, by simp [intOf]; omega⟩
                    · obtain rfl : k = f.args.length := by omega
                      rw [List.take_length, bad_ok] at HBK
                      cases B with
                      | true =>
                        as_aux_lemma =>
                          have HE := hid (show chkE f = 70 by
                            unfold chkE
                            rw [if_neg (by intro h2; have h := HBK.out; rw [h2] at h; cases h)])
                          go_wp2
                          go_ret
                          exact ⟨by rw [HE.out]; rfl, HB2.out⟩
                      | false =>
                        as_aux_lemma =>
                          have HO := hid (show okFr f = true by have h := HBK.out; simpa using h)
                          have hbs : (mk f.body).size = f.body.length := mk_size _
                          clear HBK
                          by_cases hB : 2097152 < f.body.length
                          · have HE := hid (show chkE f = 3 by
                              unfold chkE
                              rw [if_pos HO.out, if_pos (body_gt f HO.out hB)])
                            have q1 : (2097152 : Int) < (f.body.length : Int) := by omega
                            have q2 : decide ((2097152 : Int) < (f.body.length : Int)) = true := decide_eq_true q1
                            clear hB
                            go_wp2
                            go_ret
                            exact ⟨by rw [HE.out]; rfl, HB2.out⟩
                          · have q1 : ¬ (2097152 : Int) < (f.body.length : Int) := by omega
                            have q2 : decide ((2097152 : Int) < (f.body.length : Int)) = false := decide_eq_false q1
                            have HBO := hid (rbodyF_any f (.slice ao f.args.length c) wr HR.out HA2.out (okFr_of HO.out).1 (okFr_of HO.out).2.2 (by omega))
                            have HRG := hid (range_row HN2.out)
                            clear hB
                            go_wp2_with (refine ld_gd (by rfl) 29 (.tmp 1) (by rfl) w.heap.size 0 (by rfl) _ _ HRG.out Try.underlying29 rfl HSZ.out ?_)
                            refine HBO.out.mono ?_
                            rintro e w3 ⟨v3, rfl, hs3, hb3⟩
                            obtain ⟨a3, c3, rfl⟩ := src_shape hs3
                            have HB3 := hid (below_then HB2.out hb3)
                            have HE : Hid (chkE f = if 2097152 < (bodyP f).length then 3 else 0) := hid (by unfold chkE; rw [if_pos HO.out])
                            obtain ⟨M, HM⟩ : ∃ M : Nat, Hid ((bodyP f).length = M) := ⟨_, rfl⟩
                            rw [HM.out] at HE ⊢
                            clear hs3 hb3 HB2 HBO HRG HN2 HA2 HO x0 x7 x8 q1 q2
                            by_cases hM : 2097152 < M
                            · have q1 : (2097152 : Int) < (M : Int) := by omega
                              have q2 : decide ((2097152 : Int) < (M : Int)) = true := decide_eq_true q1
                              rw [if_pos hM] at HE
                              clear hM
                              go_wp2
                              go_ret
                              exact ⟨by rw [HE.out]; rfl, HB3.out⟩
                            · have q1 : ¬ (2097152 : Int) < (M : Int) := by omega
                              have q2 : decide ((2097152 : Int) < (M : Int)) = false := decide_eq_false q1
                              rw [if_neg hM] at HE
                              clear hM
                              go_wp2
                              go_ret
                              exact ⟨by rw [HE.out]; rfl, HB3.out⟩
end Go.Proofs.Ytjinkahlfigdcaa

/- The document's Encode of every frame. -/
namespace Go.Proofs.Ytjinkahlfigdcaa
open Go.RowKit Go.BigFrame

set_option maxRecDepth 100000 in
set_option maxHeartbeats 4000000 in
theorem rencF_err (f : Fr) (va : Value) (w : World) (hr : Rng f) (ha : Strs w va f.args) (h : chkE f ≠ 0) :
    Calls Try.prog 10 #[.agg (fcells f va).toArray] w fun e w' => e = .returned (.tuple #[.slice none 0 0, .int .i64 (chkE f)]) ∧ Below w.heap.size w w' := by
  have HNB := hid (hp_new w (.cells (fcells f va).toArray 29))
  have HBL := hid (below_walk w (.cells (fcells f va).toArray 29))
  have HSZ := hid (frame_size f va hr.tool)
  have HCK := hid (rcheckF_any f va _ hr (ha.below HBL.out))
  obtain ⟨E, HE⟩ : ∃ E, Hid (chkE f = E) := ⟨_, rfl⟩
  rw [HE.out] at h HCK
  have q1 : (E != 0) = true := by simpa using h
  have q2 : (E == 0) = false := by simpa using h
  clear ha hr h
  go_enter Try.func10, Try.ntmps10
  go_upto_region 1 with fail
  generalize w.alloc (.cells (fcells f va).toArray 29) = w1 at HNB HBL HCK ⊢
  generalize fcells f va = FF at *
  go_wp2_with (refine ld_row (by rfl) 29 (.tmp 1) (by rfl) w.heap.size (by rfl) FF 29 HNB.out _ Try.underlying29 rfl HSZ.out ?_)
  refine HCK.out.mono ?_
  rintro e w2 ⟨rfl, hb2⟩
  have HB2 := hid (below_then HBL.out hb2)
  clear hb2 HNB HBL HCK
  go_wp2
  go_ret2
  exact ⟨by rw [HE.out]; rfl, HB2.out⟩

set_option maxRecDepth 100000 in
set_option maxHeartbeats 4000000 in
theorem rencF_ok (f : Fr) (va : Value) (w : World) (hr : Rng f) (ha : Strs w va f.args) (h : chkE f = 0) :
    Calls Try.prog 10 #[.agg (fcells f va).toArray] w fun e w' => ∃ v, e = .returned (.tuple #[v, .int .i64 0]) ∧ OwnB w' w.heap.size v (encP f) ∧ Below w.heap.size w w' := by
  have HNB := hid (hp_new w (.cells (fcells f va).toArray 29))
  have HBL := hid (below_walk w (.cells (fcells f va).toArray 29))
  have HSZ := hid (frame_size f va hr.tool)
  have HCK := hid (rcheckF_any f va _ hr (ha.below HBL.out))
  rw [h] at HCK
  obtain ⟨ho, hl⟩ := chk_ok h
  have hBl : f.body.length ≤ 2097152 := by
    rcases Nat.lt_or_ge 2097152 f.body.length with h1 | h1
    · have := body_gt f ho h1
      omega
    · exact h1
  have HBO := hid (fun W (hW : Strs W va f.args) => rbodyF_any f va W hr hW (okFr_of ho).1 (okFr_of ho).2.2 hBl)
  have HA := hid (ha.below HBL.out)
  obtain ⟨EP, HEP⟩ : ∃ E, Hid (encP f = E) := ⟨_, rfl⟩
  have HEN : Hid (EP = sealP (sn (bodyP f).length ++ bodyP f)) := hid (HEP.out.symm)
  have hsl := sn_length_le (bodyP f).length
  clear ha hr h ho hBl
  go_enter Try.func10, Try.ntmps10
  go_upto_region 1 with fail
  generalize w.alloc (.cells (fcells f va).toArray 29) = w1 at HNB HBL HCK HA ⊢
  generalize fcells f va = FF at *
  generalize bodyP f = BP at *
  obtain ⟨M, HM⟩ : ∃ M : Nat, Hid (BP.length = M) := ⟨_, rfl⟩
  rw [HM.out] at hl hsl HEN
  go_wp2_with (refine ld_row (by rfl) 29 (.tmp 1) (by rfl) w.heap.size (by rfl) FF 29 HNB.out _ Try.underlying29 rfl HSZ.out ?_)
  refine HCK.out.mono ?_
  rintro e w2 ⟨rfl, hb2⟩
  have HN2 := hid ((hb2.block _ (hp_lt HNB.out)).trans HNB.out)
  have HB2 := hid (below_then HBL.out hb2)
  have HA2 := hid (HA.out.below hb2)
  clear hb2 HNB HBL HCK HA
  go_wp2_with (refine ld_row (by rfl) 29 (.tmp 1) (by rfl) w.heap.size (by rfl) FF 29 HN2.out _ Try.underlying29 rfl HSZ.out ?_)
  refine (HBO.out w2 HA2.out).mono ?_
  rintro e w3 ⟨v3, rfl, hs3, hb3⟩
  obtain ⟨ao, c, rfl⟩ := src_shape hs3
  have HS3 := hid hs3
  have HB3 := hid (below_then HB2.out hb3)
  have hw1 : IntKind.u64.wrap (M : Int) = (M : Int) := by rw [IntKind.wrap_u64]; omega
  rw [HM.out] at HS3 ⊢
  clear hs3 hb3 HN2 HB2 HBO HA2
  go_wp2_with fail
  refine (refUint_any M w3 (by omega)).mono ?_
  rintro e w4 ⟨v4, rfl, ho4, hb4⟩
  have HO4 := hid ho4
  have HS4 := hid (HS3.out.below hb4)
  have HB4 := hid (below_then HB3.out hb4)
  have HZ4 := hid hb4.size
  obtain ⟨a4, c4, e4⟩ := src_shape (ho4.src (by omega))
  subst e4
  clear ho4 hb4 HS3 hw1
  go_wp2_with (at_builtin; refine app_src rfl _ _ rfl w3.heap.size _ (sn M) rfl HO4.out _ BP rfl HS4.out (by rw [HM.out]; omega) HZ4.out ?_)
  intro v5 w5 ho5 hg5
  have hs5 : Src w5 v5 (sn M ++ BP) := ho5.src (by rw [List.length_append, HM.out]; omega)
  have HB5 := hid (show Below w.heap.size w w5 from below_tr HB4.out ⟨hg5.os, hg5.tape, hg5.output, hg5.size, fun k hk => hg5.block k (by have := HB3.out.size; have := HZ4.out; omega) (fun e => by have := (HO4.out.lt k e.symm).1; have := HB3.out.size; omega)⟩)
  have HSE := hid (rseal_any w5 v5 (sn M ++ BP) hs5 (by rw [List.length_append, HM.out]; omega))
  obtain ⟨a5, c5, e5⟩ := src_shape hs5
  obtain ⟨M5, HM5⟩ : ∃ M5, Hid ((sn M ++ BP).length = M5) := ⟨_, rfl⟩
  rw [HM5.out] at e5
  subst e5
  clear ho5 hg5 hs5 HB4 HB3 HZ4 HO4 HS4
  go_wp2_with fail
  refine HSE.out.mono ?_
  rintro e w6 ⟨v6, rfl, ho6, hb6⟩
  rw [← HEN.out] at ho6
  have HO6 := hid (ho6.le HB5.out.size)
  have HB7 := hid (below_then HB5.out hb6)
  obtain ⟨a6, c6, e6⟩ := src_shape (ho6.src (by rw [HEN.out, sealP_length, List.length_append, HM.out]; omega))
  obtain ⟨M6, HM6⟩ : ∃ M6, Hid (EP.length = M6) := ⟨_, rfl⟩
  rw [HM6.out] at e6
  subst e6
  clear ho6 hb6
  go_wp2
  go_ret2
  refine ⟨_, rfl, ?_, HB7.out⟩
  rw [HEP.out]
  exact HO6.out

end Go.Proofs.Ytjinkahlfigdcaa

/- The law's alive answers true. -/
namespace Go.Proofs.Ytjinkahlfigdcaa
open Go.RowKit Go.BigFrame

set_option maxRecDepth 100000 in
set_option maxHeartbeats 4000000 in
theorem alive_any (w : World) :
    Calls Try.prog 14 #[] w fun e w' => e = .returned (.bool true) ∧ Below w.heap.size w w' := by
  have hl6 : (sealP [1, 5]).length = 6 := rfl
  go_enter Try.func14, Try.ntmps14
  go_wp2_with fail
  refine (bye_any w).mono ?_
  rintro e w1 ⟨rfl, hb1⟩
  have HB1 := hid hb1
  clear hb1
  go_wp2_with fail
  refine (encodeBye_any w1).mono ?_
  rintro e w2 ⟨v2, rfl, ho2, hb2⟩
  have HS2 := hid (ho2.src (by rw [sealP_length]; simp))
  have HB2 := hid (below_then HB1.out hb2)
  obtain ⟨a2, c2, e2⟩ := src_shape HS2.out
  rw [hl6] at e2
  subst e2
  clear ho2 hb2 HB1
  go_wp2_with (refine bd_row (by rfl) 29 #[(0, .const (.int .i64 5))] (by rfl) _ (by simp [Act.eval]) _ built_bye ?_)
  refine (rencodeBye_any w2).mono ?_
  rintro e w3 ⟨v3, rfl, ho3, hb3⟩
  have HS3 := hid (ho3.src (by rw [sealP_length]; simp))
  have HS2b := hid (HS2.out.below hb3)
  have HB3 := hid (below_then HB2.out hb3)
  obtain ⟨a3, c3, e3⟩ := src_shape HS3.out
  rw [hl6] at e3
  subst e3
  clear ho3 hb3 HB2 HS2
  go_wp2_with fail
  refine (equal_true _ _ _ w3 HS2b.out HS3.out).mono ?_
  rintro e w4 ⟨rfl, hw4⟩
  subst hw4
  go_wp2
  go_ret
  exact ⟨rfl, HB3.out⟩

end Go.Proofs.Ytjinkahlfigdcaa

/- FrameWrites answers true. -/
namespace Go.Proofs.Ytjinkahlfigdcaa
open Go.RowKit Go.BigFrame

theorem enc_len {f : Fr} (h : chkE f = 0) : (encP f).length ≤ 3000000 := by
  have hl := (chk_ok h).2
  have := sn_length_le (bodyP f).length
  unfold encP
  rw [sealP_length, List.length_append]
  omega

set_option maxRecDepth 100000 in
set_option maxHeartbeats 4000000 in
theorem lawWrites_any (f : Fr) (va : Value) (w : World) (hr : Rng f) (ha : Strs w va f.args) :
    Calls Try.prog 3 #[.agg (fcells f va).toArray] w fun e w' => e = .returned (.bool true) ∧ Below w.heap.size w w' := by
  have HNB := hid (hp_new w (.cells (fcells f va).toArray 29))
  have HBL := hid (below_walk w (.cells (fcells f va).toArray 29))
  have HSZ := hid (frame_size f va hr.tool)
  have HA := hid (ha.below HBL.out)
  have HSI := hid (fun W (hW : Strs W va f.args) => sizeF_any f va W hr hW)
  have HCK := hid (fun W (hW : Strs W va f.args) => checkF_any f va W hr hW)
  by_cases h : chkE f = 0
  · have HEN := hid (fun W (hW : Strs W va f.args) => encF_ok f va W hr hW h)
    have HRE := hid (fun W (hW : Strs W va f.args) => rencF_ok f va W hr hW h)
    have hl := enc_len h
    unfold sizeN at HSI
    rw [if_pos h] at HSI
    rw [h] at HSI HCK
    clear ha hr h
    as_aux_lemma =>
      go_enter Try.func3, Try.ntmps3
      go_upto_region 1 with fail
      generalize w.alloc (.cells (fcells f va).toArray 29) = w1 at HNB HBL HA ⊢
      generalize fcells f va = FF at *
      generalize encP f = EP at *
      obtain ⟨M, HM⟩ : ∃ M : Nat, Hid (EP.length = M) := ⟨_, rfl⟩
      rw [HM.out] at hl HSI
      go_wp2_with (refine ld_row (by rfl) 29 (.tmp 1) (by rfl) w.heap.size (by rfl) FF 29 HNB.out _ Try.underlying29 rfl HSZ.out ?_)
      refine (HEN.out w1 HA.out).mono ?_
      rintro e w2 ⟨v2, rfl, ho2, hb2⟩
      have HN2 := hid ((hb2.block _ (hp_lt HNB.out)).trans HNB.out)
      have HB2 := hid (below_then HBL.out hb2)
      have HA2 := hid (HA.out.below hb2)
      have HS2 := hid (ho2.src (by rw [HM.out]; omega))
      obtain ⟨a2, c2, e2⟩ := src_shape HS2.out
      rw [HM.out] at e2
      subst e2
      clear ho2 hb2 HNB HBL HA HEN
      go_wp2_with (refine ld_row (by rfl) 29 (.tmp 1) (by rfl) w.heap.size (by rfl) FF 29 HN2.out _ Try.underlying29 rfl HSZ.out ?_)
      refine (HRE.out w2 HA2.out).mono ?_
      rintro e w3 ⟨v3, rfl, ho3, hb3⟩
      have HN3 := hid ((hb3.block _ (hp_lt HN2.out)).trans HN2.out)
      have HB3 := hid (below_then HB2.out hb3)
      have HA3 := hid (HA2.out.below hb3)
      have HT3 := hid (HS2.out.below hb3)
      have HS3 := hid (ho3.src (by rw [HM.out]; omega))
      obtain ⟨a3, c3, e3⟩ := src_shape HS3.out
      rw [HM.out] at e3
      subst e3
      clear ho3 hb3 HN2 HB2 HA2 HRE HS2
      go_wp2_with (refine ld_row (by rfl) 29 (.tmp 1) (by rfl) w.heap.size (by rfl) FF 29 HN3.out _ Try.underlying29 rfl HSZ.out ?_)
      refine (HSI.out w3 HA3.out).mono ?_
      rintro e w4 ⟨rfl, hb4⟩
      have HN4 := hid ((hb4.block _ (hp_lt HN3.out)).trans HN3.out)
      have HB4 := hid (below_then HB3.out hb4)
      have HA4 := hid (HA3.out.below hb4)
      have HT4 := hid (HT3.out.below hb4)
      have HS4 := hid (HS3.out.below hb4)
      clear hb4 HN3 HB3 HA3 HT3 HS3 HSI
      go_wp2_with fail
      refine (equal_true _ _ _ w4 HT4.out HS4.out).mono ?_
      rintro e w5 ⟨rfl, hw5⟩
      have hw5 := hw5.symm
      subst hw5
      have HRG := hid (range_row HN4.out)
      go_wp2_with (refine ld_gd (by rfl) 29 (.tmp 1) (by rfl) w.heap.size 0 (by rfl) _ _ HRG.out Try.underlying29 rfl HSZ.out ?_)
      refine (HCK.out w4 HA4.out).mono ?_
      rintro e w6 ⟨rfl, hb6⟩
      have HB6 := hid (below_then HB4.out hb6)
      clear hb6 HN4 HB4 HA4 HT4 HS4 HCK HRG
      go_wp2_with fail
      refine (alive_any w6).mono ?_
      rintro e w7 ⟨rfl, hb7⟩
      have HB7 := hid (below_then HB6.out hb7)
      clear hb7 HB6
      go_wp2
      go_ret
      exact ⟨rfl, HB7.out⟩
  · have HEN := hid (fun W (hW : Strs W va f.args) => encF_err f va W hr hW h)
    have HRE := hid (fun W (hW : Strs W va f.args) => rencF_err f va W hr hW h)
    unfold sizeN at HSI
    rw [if_neg h] at HSI
    clear ha hr h
    as_aux_lemma =>
      go_enter Try.func3, Try.ntmps3
      go_upto_region 1 with fail
      generalize w.alloc (.cells (fcells f va).toArray 29) = w1 at HNB HBL HA ⊢
      generalize fcells f va = FF at *
      generalize chkE f = EE at *
      have q1 : (EE == EE) = true := by simp
      go_wp2_with (refine ld_row (by rfl) 29 (.tmp 1) (by rfl) w.heap.size (by rfl) FF 29 HNB.out _ Try.underlying29 rfl HSZ.out ?_)
      refine (HEN.out w1 HA.out).mono ?_
      rintro e w2 ⟨rfl, hb2⟩
      have HN2 := hid ((hb2.block _ (hp_lt HNB.out)).trans HNB.out)
      have HB2 := hid (below_then HBL.out hb2)
      have HA2 := hid (HA.out.below hb2)
      clear hb2 HNB HBL HA HEN
      go_wp2_with (refine ld_row (by rfl) 29 (.tmp 1) (by rfl) w.heap.size (by rfl) FF 29 HN2.out _ Try.underlying29 rfl HSZ.out ?_)
      refine (HRE.out w2 HA2.out).mono ?_
      rintro e w3 ⟨rfl, hb3⟩
      have HN3 := hid ((hb3.block _ (hp_lt HN2.out)).trans HN2.out)
      have HB3 := hid (below_then HB2.out hb3)
      have HA3 := hid (HA2.out.below hb3)
      clear hb3 HN2 HB2 HA2 HRE
      go_wp2_with (refine ld_row (by rfl) 29 (.tmp 1) (by rfl) w.heap.size (by rfl) FF 29 HN3.out _ Try.underlying29 rfl HSZ.out ?_)
      refine (HSI.out w3 HA3.out).mono ?_
      rintro e w4 ⟨rfl, hb4⟩
      have HN4 := hid ((hb4.block _ (hp_lt HN3.out)).trans HN3.out)
      have HB4 := hid (below_then HB3.out hb4)
      have HA4 := hid (HA3.out.below hb4)
      clear hb4 HN3 HB3 HA3 HSI
      go_wp2_with fail
      refine (equal_true _ _ _ w4 (srcNil w4) (srcNil w4)).mono ?_
      rintro e w5 ⟨rfl, hw5⟩
      have hw5 := hw5.symm
      subst hw5
      have HRG := hid (range_row HN4.out)
      go_wp2_with (refine ld_gd (by rfl) 29 (.tmp 1) (by rfl) w.heap.size 0 (by rfl) _ _ HRG.out Try.underlying29 rfl HSZ.out ?_)
      refine (HCK.out w4 HA4.out).mono ?_
      rintro e w6 ⟨rfl, hb6⟩
      have HB6 := hid (below_then HB4.out hb6)
      clear hb6 HN4 HB4 HA4 HCK HRG
      go_wp2_with fail
      refine (alive_any w6).mono ?_
      rintro e w7 ⟨rfl, hb7⟩
      have HB7 := hid (below_then HB6.out hb7)
      clear hb7 HB6
      go_wp2
      go_ret
      exact ⟨rfl, HB7.out⟩

end Go.Proofs.Ytjinkahlfigdcaa

/- FrameForm answers true. -/
namespace Go.Proofs.Ytjinkahlfigdcaa
open Go.RowKit Go.BigFrame

theorem faultG : Try.prog.eqGuardType Try.prog.depth 47 = false := by kernel_rfl
theorem fault_run (a b x y : Int) (w : World) : (Op.equalIn 10000 47 (.agg #[.int .i64 a, .int .i64 b]) (.agg #[.int .i64 x, .int .i64 y])).run Try.prog w = .ok (a == x && b == y) w := by
  have hS : Try.prog.underlying 47 = some (.struct (Try.prog.fieldsOf 47)) := by kernel_rfl
  have hp : Try.prog.stoodInHeld 47 = false := by kernel_rfl
  have u3 := Try.underlying3
  have a3 := Try.isAgg3
  have z3 := Try.sizeOf3
  have u4 := Try.underlying31
  have a4 := Try.isAgg31
  have z4 := Try.sizeOf31
  rw [show (10000 : Nat) = 9999 + 1 from rfl, run_equalIn_agg w 9999 47 _ _ hS hp]
  simp only [Program.fieldsOf, Try.underlying47]
  go_simp
  by_cases h1 : a = x <;> by_cases h2 : b = y <;> simp [h1, h2]
theorem fault_neq (a b x y : Int) (w : World) : (binOp .neq 47 (.agg #[.int .i64 a, .int .i64 b]) (.agg #[.int .i64 x, .int .i64 y])).run Try.prog w = .ok (.bool (!decide ((a, b) = (x, y)))) w := by
  rw [run_neq_struct, fault_run]
  have : (a == x && b == y) = decide ((a, b) = (x, y)) := by
    rw [Bool.eq_iff_iff]
    simp
  rw [this]
  rfl
theorem fault_eql (a b x y : Int) (w : World) : (binOp .eql 47 (.agg #[.int .i64 a, .int .i64 b]) (.agg #[.int .i64 x, .int .i64 y])).run Try.prog w = .ok (.bool (decide ((a, b) = (x, y)))) w := by
  rw [run_eql_struct, fault_run]
  have : (a == x && b == y) = decide ((a, b) = (x, y)) := by
    rw [Bool.eq_iff_iff]
    simp
  rw [this]
  rfl

set_option maxRecDepth 100000 in
set_option maxHeartbeats 4000000 in
theorem lawForm_any (v : Value) (bs : List UInt8) (w : World) (hs : Src w v bs) :
    Calls Try.prog 6 #[v] w fun e w' => e = .returned (.bool true) ∧ Below w.heap.size w w' := by
  obtain ⟨av, cv, rfl⟩ := src_shape hs
  have HDE := hid (decode_any _ bs w hs)
  have HS := hid hs
  have hsl := hs.1
  have hg := faultG
  obtain ⟨f, HF⟩ : ∃ f, Hid ((decP bs).1 = f) := ⟨_, rfl⟩
  obtain ⟨E1, HE1⟩ : ∃ f, Hid ((decP bs).2.1 = f) := ⟨_, rfl⟩
  obtain ⟨E2, HE2⟩ : ∃ f, Hid ((decP bs).2.2 = f) := ⟨_, rfl⟩
  rw [HF.out, HE1.out, HE2.out] at HDE
  obtain ⟨L, HL⟩ : ∃ n, Hid (bs.length = n) := ⟨_, rfl⟩
  clear hs
  go_enter Try.func6, Try.ntmps6
  go_wp2_with fail
  refine HDE.out.mono ?_
  rintro e w1 ⟨va, rfl, hoa, hb1⟩
  have HRN := hid (show Rng f by rw [← HF.out]; exact dec_rng bs hsl (by rw [HF.out]; exact wowns_len hoa))
  have HST := hid (wowns_strs hoa)
  have HS1 := hid (HS.out.below hb1)
  have HB1 := hid hb1
  obtain ⟨aV, cV, eV⟩ := wowns_shape hoa
  have HSZ := hid (frame_size f va HRN.out.tool)
  have HON := hid (fcells_one f va (by rw [eV]; rfl))
  have HOS := hid (show (fcells zF nS).toArray.size = (fcells f va).length by rw [fcells_length _ _ HRN.out.tool]; rfl)
  have HCH := hid (fun W (hW : Strs W va f.args) => checkF_any f va W HRN.out hW)
  have HSM := hid (fun W (hW : Strs W va f.args) => rsame_any f zF va nS W HRN.out.tool rfl hW (strs_nil W) HRN.out.many)
  have HEN := hid (fun (h9 : chkE f = 0) W (hW : Strs W va f.args) => encF_ok f va W HRN.out hW h9)
  obtain ⟨FF, HFF⟩ : ∃ L, Hid (fcells f va = L) := ⟨_, rfl⟩
  rw [HFF.out] at HSZ HON HOS HCH HSM HEN ⊢
  clear hoa hb1 HDE HS eV
  -- the two answers, in variables of their own
  go_upto_region 2 with (first
    | (refine al_row (by rfl) 29 (by rfl) _ zeroFrame ?_)
    | (refine st_row (by rfl) 29 _ _ (by rfl) w1.heap.size FF (by rfl) (by rfl) 29 _ (hp_two w1 _ _).1 HSZ.out HOS.out HON.out ?_; intro w2 hw2)
    | (refine st_row (by rfl) 47 _ _ (by rfl) (w1.heap.size + 1) [Value.int .i64 E1, .int .i64 E2] (by rfl) (by rfl) 47 _ (gb_keep hw2.grown (hp_two w1 _ _).2 (by omega)) faultSize rfl (fault_one _ _) ?_; intro w3 hw3))
  have HA := hid (gb_keep hw3.grown hw2.blk (by omega))
  have HT := hid hw3.blk
  have HB3 := hid (Below.of_gb (Below.of_gb (below_then HB1.out (below_walk2 w1 (.cells (fcells zF nS).toArray 29) (.cells #[.int .i64 0, .int .i64 0] 47))) hw2.grown HB1.out.size) hw3.grown (by have := HB1.out.size; omega))
  have HQ3 := hid (Below.of_gb (Below.of_gb (below_walk2 w1 (.cells (fcells zF nS).toArray 29) (.cells #[.int .i64 0, .int .i64 0] 47)) hw2.grown (Nat.le_refl _)) hw3.grown (by omega))
  have HST3 := hid (HST.out.below HQ3.out)
  have HS3 := hid (HS1.out.below HQ3.out)
  obtain ⟨A, HAe⟩ : ∃ n, Hid (w1.heap.size = n) := ⟨_, rfl⟩
  rw [HAe.out] at HA HT ⊢
  clear hw2 hw3 HST HS1 HB1 HQ3 HOS HON
  have n1 := fun W => fault_neq E1 E2 0 0 W
  have t0 : w3.cell? ⟨A + 1, 0, none⟩ = some (.int .i64 E1) := by simp [World.cell?, HT.out]
  have t1 : w3.cell? ⟨A + 1, 1, none⟩ = some (.int .i64 E2) := by simp [World.cell?, HT.out]
  by_cases h0 : E1 = 0
  · as_aux_lemma =>
      obtain ⟨d1, d2, d3⟩ := dec_form bs (by rw [HE1.out]; exact h0)
      rw [HF.out] at d1 d2
      have hE2 : E2 = 0 := by rw [← HE2.out, d3]
      subst h0 hE2
      have n2 : ∀ W, (binOp .neq 47 (.agg #[.int .i64 0, .int .i64 0]) (.agg #[.int .i64 0, .int .i64 0])).run Try.prog W = .ok (.bool false) W := fun W => n1 W
      have HE := hid (HEN.out d1)
      have HC := hid HCH.out
      rw [d1] at HC
      have HD2 := hid d2
      have HSM0 := hid hsl
      clear d1 d2 d3 n1 HEN HCH HSM
      go_wp2_with (refine ld_row (by rfl) 29 (.tmp 3) (by rfl) A (by rfl) FF 29 HA.out _ Try.underlying29 rfl HSZ.out ?_)
      refine (HE.out w3 HST3.out).mono ?_
      rintro e w4 ⟨v4, rfl, ho4, hb4⟩
      rw [HD2.out] at ho4
      have HS4 := hid (ho4.src HSM0.out)
      have HT4 := hid (HS3.out.below hb4)
      have HST4 := hid (HST3.out.below hb4)
      have HA4 := hid (bel_keep hb4 HA.out)
      have HB4 := hid (below_then HB3.out hb4)
      obtain ⟨a4, c4, e4⟩ := src_shape HS4.out
      rw [HL.out] at e4
      subst e4
      clear ho4 hb4 HE HS3 HST3 HA HB3 t0 t1 HT
      go_wp2_with fail
      refine (equal_true _ _ _ w4 HT4.out HS4.out).mono ?_
      rintro e w5 ⟨rfl, hw5⟩
      have hw5 := hw5.symm
      subst hw5
      have HRG := hid (range_row HA4.out)
      go_wp2_with (refine ld_gd (by rfl) 29 (.tmp 3) (by rfl) A 0 (by rfl) _ _ HRG.out Try.underlying29 rfl HSZ.out ?_)
      refine (HC.out w4 HST4.out).mono ?_
      rintro e w6 ⟨rfl, hb6⟩
      have HB6 := hid (below_then HB4.out hb6)
      clear hb6 HB4 HRG HST4 HS4 HT4 HA4
      go_wp2_with fail
      refine (alive_any w6).mono ?_
      rintro e w7 ⟨rfl, hb7⟩
      have HB7 := hid (below_then HB6.out hb7)
      clear hb7 HB6
      go_wp2
      go_ret
      exact ⟨rfl, HB7.out⟩
  · as_aux_lemma =>
      have HZ := hid (dec_none bs (by rw [HE1.out]; exact h0))
      rw [HF.out] at HZ
      have q1 : (E1 != 0) = true := by simpa using h0
      have q2 : (E1 == 0) = false := by simpa using h0
      have n2 : ∀ W, (binOp .neq 47 (.agg #[.int .i64 E1, .int .i64 E2]) (.agg #[.int .i64 0, .int .i64 0])).run Try.prog W = .ok (.bool true) W := fun W => by
        rw [n1 W]
        have : decide ((E1, E2) = ((0 : Int), (0 : Int))) = false := decide_eq_false (fun h => h0 (congrArg Prod.fst h))
        rw [this]
        rfl
      have HSA := hid HSM.out
      rw [HZ.out, sameP_self] at HSA
      clear n1 HEN HCH HSM h0
      go_wp2_with (first
        | (refine ld_row (by rfl) 29 (.tmp 3) (by rfl) A (by rfl) FF 29 HA.out _ Try.underlying29 rfl HSZ.out ?_)
        | (refine bd_row (by rfl) 29 #[] (by rfl) _ (by simp) _ built_zf ?_))
      refine (HSA.out w3 (HZ.out ▸ HST3.out)).mono ?_
      rintro e w4 ⟨rfl, hb4⟩
      have HT4 := hid (bel_keep hb4 HT.out)
      have HB4 := hid (below_then HB3.out hb4)
      clear hb4 HB3 t0 t1 HT HSA
      have t0 : w4.cell? ⟨A + 1, 0, none⟩ = some (.int .i64 E1) := by simp [World.cell?, HT4.out]
      go_wp2_with fail
      refine (alive_any w4).mono ?_
      rintro e w7 ⟨rfl, hb7⟩
      have HB7 := hid (below_then HB4.out hb7)
      clear hb7 HB4
      go_wp2
      go_ret
      exact ⟨rfl, HB7.out⟩
end Go.Proofs.Ytjinkahlfigdcaa
