/- Contracts and pure facts that the proof needs, joined. -/
import Derived.Test.YtjinkahlfigdcaaG3
import Derived.Test.YtjinkahlfigdcaaG5
import Derived.Test.YtjinkahlfigdcaaG6
import Derived.Deep.Cut
import Derived.Deep.CutRange
import Derived.Test.YtjinkahlfigdcaaG1
import Derived.Deep.DeepAppendWide

/- The document's body of a frame. -/
namespace Go.Proofs.Ytjinkahlfigdcaa
open Go.RowKit Go.BigFrame

theorem fb_at {w w' : World} {b B : Nat} {f : Fr} {va : Value} (h : Fb w b f va) (hb : b < B) (hB : Below B w w') : Fb w' b f va := by
  have c : ∀ {i : Nat} {v : Value}, w.cell? ⟨b, i, none⟩ = some v → w'.cell? ⟨b, i, none⟩ = some v := fun {i v} hc => (hB.cell (p := ⟨b, i, none⟩) hb).trans hc
  exact ⟨c h.k, c h.i, c h.v, c h.s, fun j v hv => c (h.t j v hv), c h.st, c h.l1, c h.l2, c h.l3, c h.a, c h.bd⟩
/-- texts that lay there before B lie there still -/
theorem strs_at {w0 w w' : World} {v : Value} {ts : List (List UInt8)} (h : Strs w v ts) (h0 : Strs w0 v ts) (hB : Below w0.heap.size w w') : Strs w' v ts := by
  rcases h with h | ⟨g, o, c, hv, hlt, h1, hc⟩
  · exact Or.inl h
  · rcases h0 with ⟨ao, c0, hv0, rfl, hn⟩ | ⟨g0, o0, c0, hv0, hlt0, _, _⟩
    · exact Or.inl ⟨ao, c0, hv0, rfl, hn⟩
    · have e := hv.symm.trans hv0
      injection e with e1 _ _
      injection e1 with e1
      injection e1 with e2 _ _
      exact Or.inr ⟨g, o, c, hv, Nat.lt_of_lt_of_le hlt hB.size, h1, fun j hj => (hB.cell (p := ⟨g, o + j, none⟩) (by show g < w0.heap.size; rw [e2]; exact hlt0)).trans (hc j hj)⟩

set_option maxRecDepth 100000 in
set_option maxHeartbeats 4000000 in
theorem body4_any (f : Fr) (va : Value) (w : World) (hf : f.tool.length = 32) (hk : f.kind = 4) (I : Nat) (hi : f.id = (I : Int)) (hI : I < 18446744073709551616) :
    Calls Try.prog 26 #[.agg (fcells f va).toArray] w fun e w' => ∃ v, e = .returned v ∧ Src w' v (sn 4 ++ sn I) ∧ Below w.heap.size w w' := by
  have HNB := hid (hp_new w (.cells (fcells f va).toArray 29))
  have HBL := hid (below_walk w (.cells (fcells f va).toArray 29))
  have HF := hid hf
  have HK := hid hk
  have E_i := hid hi
  have len_I := sn_length_le I
  have len0 := sn_length_le 4
  have w0 : IntKind.u64.wrap 4 = 4 := rfl
  clear hf hk hi 
  go_enter Try.func26, Try.ntmps26
  go_upto_region 1 with fail
  generalize w.alloc (.cells (fcells f va).toArray 29) = w1 at HNB HBL  ⊢
  have HFB1 := hid (Fb.of HNB.out HF.out)
  have HL1 := hid (hp_lt HNB.out)
  have x0 := HFB1.out.k
  rw [HK.out] at x0
  go_wp2_with fail
  refine (refUint_any 4 w1 (by decide)).mono ?_
  rintro e w2 ⟨v2, rfl, ho2, hb2⟩
  have HO2 := hid ho2
  have HB2 := hid (below_then HBL.out hb2)
  have HFB2 := hid (HFB1.out.below HL1.out hb2)
  have HL2 := hid (Nat.lt_of_lt_of_le HL1.out hb2.size)
  have HZ2 := hid hb2.size
  have x1 := HFB2.out.k
  rw [HK.out] at x1
  obtain ⟨a2, n2, c2, e2⟩ := src_named (ho2.src (by omega))
  subst e2
  clear ho2 hb2 x0 HFB1 HNB
  have y3 := HFB2.out.i
  rw [E_i.out] at y3
  go_wp2_with fail
  refine (refUint_any I w2 (by omega)).mono ?_
  rintro e p3 ⟨u3, rfl, hou3, hbu3⟩
  have HU3 := hid (hou3.src (by omega))
  have HP3 := hid (HO2.out.below hbu3)
  have HBP3 := hid (below_then HB2.out hbu3)
  have HFP3 := hid (HFB2.out.below HL2.out hbu3)
  have HLP3 := hid (Nat.lt_of_lt_of_le HL2.out hbu3.size)
  have HZP3 := hid (Nat.le_trans HZ2.out hbu3.size)
  obtain ⟨au3, nu3, cu3, eu3⟩ := src_named HU3.out
  subst eu3
  clear hou3 hbu3 y3 HO2 HB2 HFB2 HL2 HZ2  x1
  go_wp2_with (at_builtin; refine app_src rfl _ _ rfl w1.heap.size _ _ rfl HP3.out _ _ rfl HU3.out (by (try simp only [List.length_append]); omega) HZP3.out ?_)
  intro v3 w3 ho3 hg3
  have HO3 := hid ho3
  have hbb3 : Below w1.heap.size p3 w3 := ⟨hg3.os, hg3.tape, hg3.output, hg3.size, fun k hk => hg3.block k (by have := HZP3.out; omega) (fun e => by have := (HP3.out.lt k e.symm).1; omega)⟩
  have HB3 := hid (show Below w.heap.size w w3 from below_tr HBP3.out (hbb3.mono (by have := HBL.out.size; omega)))
  have HFB3 := hid (show Fb w3 w.heap.size f va from fb_at HFP3.out HL1.out hbb3)
  have HL3 := hid (Nat.lt_of_lt_of_le HLP3.out hg3.size)
  have HZ3 := hid (Nat.le_trans HZP3.out hg3.size)
  obtain ⟨a3, n3, c3, e3⟩ := src_named (ho3.src (by (try simp only [List.length_append]); omega))
  subst e3
  clear ho3 hg3 hbb3 HP3 HU3 HBP3 HFP3 HLP3 HZP3 
  have xz := HFB3.out.k
  have hz9 := HO3.out.src (by (try simp only [List.length_append]); omega)
  have HSZ := hid (show Src w3 (.slice a3 n3 c3) (sn 4 ++ sn I) by first | exact hz9 | simpa only [List.append_assoc] using hz9)
  clear hz9
  go_wp2
  go_ret
  exact ⟨_, rfl, HSZ.out, HB3.out⟩

set_option maxRecDepth 100000 in
set_option maxHeartbeats 4000000 in
theorem body6_any (f : Fr) (va : Value) (w : World) (hf : f.tool.length = 32) (hk : f.kind = 6) (hB : f.body.length ≤ 2097152) :
    Calls Try.prog 26 #[.agg (fcells f va).toArray] w fun e w' => ∃ v, e = .returned v ∧ Src w' v (sn 6 ++ tx (mk f.body)) ∧ Below w.heap.size w w' := by
  have HNB := hid (hp_new w (.cells (fcells f va).toArray 29))
  have HBL := hid (below_walk w (.cells (fcells f va).toArray 29))
  have HF := hid hf
  have HK := hid hk
  have HTX := hid (tx_len2 (mk f.body))
  rw [mk_size] at HTX
  have len0 := sn_length_le 6
  have w0 : IntKind.u64.wrap 6 = 6 := rfl
  clear hf hk  
  go_enter Try.func26, Try.ntmps26
  go_upto_region 1 with fail
  generalize w.alloc (.cells (fcells f va).toArray 29) = w1 at HNB HBL  ⊢
  have HFB1 := hid (Fb.of HNB.out HF.out)
  have HL1 := hid (hp_lt HNB.out)
  have x0 := HFB1.out.k
  rw [HK.out] at x0
  go_wp2_with fail
  refine (refUint_any 6 w1 (by decide)).mono ?_
  rintro e w2 ⟨v2, rfl, ho2, hb2⟩
  have HO2 := hid ho2
  have HB2 := hid (below_then HBL.out hb2)
  have HFB2 := hid (HFB1.out.below HL1.out hb2)
  have HL2 := hid (Nat.lt_of_lt_of_le HL1.out hb2.size)
  have HZ2 := hid hb2.size
  have x1 := HFB2.out.k
  rw [HK.out] at x1
  obtain ⟨a2, n2, c2, e2⟩ := src_named (ho2.src (by omega))
  subst e2
  clear ho2 hb2 x0 HFB1 HNB
  have y3 := HFB2.out.bd
  go_wp2_with fail
  refine (refText_any (mk f.body) w2 (by rw [mk_size]; omega)).mono ?_
  rintro e p3 ⟨u3, rfl, hou3, hbu3⟩
  have HU3 := hid (hou3.src (by have := HTX.out; omega))
  have HP3 := hid (HO2.out.below hbu3)
  have HBP3 := hid (below_then HB2.out hbu3)
  have HFP3 := hid (HFB2.out.below HL2.out hbu3)
  have HLP3 := hid (Nat.lt_of_lt_of_le HL2.out hbu3.size)
  have HZP3 := hid (Nat.le_trans HZ2.out hbu3.size)
  obtain ⟨au3, nu3, cu3, eu3⟩ := src_named HU3.out
  subst eu3
  clear hou3 hbu3 y3 HO2 HB2 HFB2 HL2 HZ2  x1
  go_wp2_with (at_builtin; refine app_src rfl _ _ rfl w1.heap.size _ _ rfl HP3.out _ _ rfl HU3.out (by (try simp only [List.length_append]); have := HTX.out; omega) HZP3.out ?_)
  intro v3 w3 ho3 hg3
  have HO3 := hid ho3
  have hbb3 : Below w1.heap.size p3 w3 := ⟨hg3.os, hg3.tape, hg3.output, hg3.size, fun k hk => hg3.block k (by have := HZP3.out; omega) (fun e => by have := (HP3.out.lt k e.symm).1; omega)⟩
  have HB3 := hid (show Below w.heap.size w w3 from below_tr HBP3.out (hbb3.mono (by have := HBL.out.size; omega)))
  have HFB3 := hid (show Fb w3 w.heap.size f va from fb_at HFP3.out HL1.out hbb3)
  have HL3 := hid (Nat.lt_of_lt_of_le HLP3.out hg3.size)
  have HZ3 := hid (Nat.le_trans HZP3.out hg3.size)
  obtain ⟨a3, n3, c3, e3⟩ := src_named (ho3.src (by (try simp only [List.length_append]); have := HTX.out; omega))
  subst e3
  clear ho3 hg3 hbb3 HP3 HU3 HBP3 HFP3 HLP3 HZP3 
  have xz := HFB3.out.k
  have hz9 := HO3.out.src (by (try simp only [List.length_append]); have := HTX.out; omega)
  have HSZ := hid (show Src w3 (.slice a3 n3 c3) (sn 6 ++ tx (mk f.body)) by first | exact hz9 | simpa only [List.append_assoc] using hz9)
  clear hz9
  go_wp2
  go_ret
  exact ⟨_, rfl, HSZ.out, HB3.out⟩

set_option maxRecDepth 100000 in
set_option maxHeartbeats 4000000 in
theorem body3_any (f : Fr) (va : Value) (w : World) (hf : f.tool.length = 32) (hk : f.kind = 3) (I S : Nat) (hi : f.id = (I : Int)) (hI : I < 18446744073709551616) (hst : f.status = (S : Int)) (kS : S ≤ 9223372036854775807) (hB : f.body.length ≤ 2097152) :
    Calls Try.prog 26 #[.agg (fcells f va).toArray] w fun e w' => ∃ v, e = .returned v ∧ Src w' v (sn 3 ++ sn I ++ sn S ++ tx (mk f.body)) ∧ Below w.heap.size w w' := by
  have HNB := hid (hp_new w (.cells (fcells f va).toArray 29))
  have HBL := hid (below_walk w (.cells (fcells f va).toArray 29))
  have HF := hid hf
  have HK := hid hk
  have E_i := hid hi
  have E_st := hid hst
  have HTX := hid (tx_len2 (mk f.body))
  rw [mk_size] at HTX
  have len_I := sn_length_le I
  have len_S := sn_length_le S
  have wr_S : IntKind.u64.wrap (S : Int) = (S : Int) := by rw [IntKind.wrap_u64]; omega
  have len0 := sn_length_le 3
  have w0 : IntKind.u64.wrap 3 = 3 := rfl
  clear hf hk hi hst 
  go_enter Try.func26, Try.ntmps26
  go_upto_region 1 with fail
  generalize w.alloc (.cells (fcells f va).toArray 29) = w1 at HNB HBL  ⊢
  have HFB1 := hid (Fb.of HNB.out HF.out)
  have HL1 := hid (hp_lt HNB.out)
  have x0 := HFB1.out.k
  rw [HK.out] at x0
  go_wp2_with fail
  refine (refUint_any 3 w1 (by decide)).mono ?_
  rintro e w2 ⟨v2, rfl, ho2, hb2⟩
  have HO2 := hid ho2
  have HB2 := hid (below_then HBL.out hb2)
  have HFB2 := hid (HFB1.out.below HL1.out hb2)
  have HL2 := hid (Nat.lt_of_lt_of_le HL1.out hb2.size)
  have HZ2 := hid hb2.size
  have x1 := HFB2.out.k
  rw [HK.out] at x1
  obtain ⟨a2, n2, c2, e2⟩ := src_named (ho2.src (by omega))
  subst e2
  clear ho2 hb2 x0 HFB1 HNB
  have y3 := HFB2.out.i
  rw [E_i.out] at y3
  go_wp2_with fail
  refine (refUint_any I w2 (by omega)).mono ?_
  rintro e p3 ⟨u3, rfl, hou3, hbu3⟩
  have HU3 := hid (hou3.src (by omega))
  have HP3 := hid (HO2.out.below hbu3)
  have HBP3 := hid (below_then HB2.out hbu3)
  have HFP3 := hid (HFB2.out.below HL2.out hbu3)
  have HLP3 := hid (Nat.lt_of_lt_of_le HL2.out hbu3.size)
  have HZP3 := hid (Nat.le_trans HZ2.out hbu3.size)
  obtain ⟨au3, nu3, cu3, eu3⟩ := src_named HU3.out
  subst eu3
  clear hou3 hbu3 y3 HO2 HB2 HFB2 HL2 HZ2  x1
  go_wp2_with (at_builtin; refine app_src rfl _ _ rfl w1.heap.size _ _ rfl HP3.out _ _ rfl HU3.out (by (try simp only [List.length_append]); have := HTX.out; omega) HZP3.out ?_)
  intro v3 w3 ho3 hg3
  have HO3 := hid ho3
  have hbb3 : Below w1.heap.size p3 w3 := ⟨hg3.os, hg3.tape, hg3.output, hg3.size, fun k hk => hg3.block k (by have := HZP3.out; omega) (fun e => by have := (HP3.out.lt k e.symm).1; omega)⟩
  have HB3 := hid (show Below w.heap.size w w3 from below_tr HBP3.out (hbb3.mono (by have := HBL.out.size; omega)))
  have HFB3 := hid (show Fb w3 w.heap.size f va from fb_at HFP3.out HL1.out hbb3)
  have HL3 := hid (Nat.lt_of_lt_of_le HLP3.out hg3.size)
  have HZ3 := hid (Nat.le_trans HZP3.out hg3.size)
  obtain ⟨a3, n3, c3, e3⟩ := src_named (ho3.src (by (try simp only [List.length_append]); have := HTX.out; omega))
  subst e3
  clear ho3 hg3 hbb3 HP3 HU3 HBP3 HFP3 HLP3 HZP3 
  have y4 := HFB3.out.st
  rw [E_st.out] at y4
  go_wp2_with fail
  refine (refUint_any S w3 (by omega)).mono ?_
  rintro e p4 ⟨u4, rfl, hou4, hbu4⟩
  have HU4 := hid (hou4.src (by omega))
  have HP4 := hid (HO3.out.below hbu4)
  have HBP4 := hid (below_then HB3.out hbu4)
  have HFP4 := hid (HFB3.out.below HL3.out hbu4)
  have HLP4 := hid (Nat.lt_of_lt_of_le HL3.out hbu4.size)
  have HZP4 := hid (Nat.le_trans HZ3.out hbu4.size)
  obtain ⟨au4, nu4, cu4, eu4⟩ := src_named HU4.out
  subst eu4
  clear hou4 hbu4 y4 HO3 HB3 HFB3 HL3 HZ3  
  go_wp2_with (at_builtin; refine app_src rfl _ _ rfl w1.heap.size _ _ rfl HP4.out _ _ rfl HU4.out (by (try simp only [List.length_append]); have := HTX.out; omega) HZP4.out ?_)
  intro v4 w4 ho4 hg4
  have HO4 := hid ho4
  have hbb4 : Below w1.heap.size p4 w4 := ⟨hg4.os, hg4.tape, hg4.output, hg4.size, fun k hk => hg4.block k (by have := HZP4.out; omega) (fun e => by have := (HP4.out.lt k e.symm).1; omega)⟩
  have HB4 := hid (show Below w.heap.size w w4 from below_tr HBP4.out (hbb4.mono (by have := HBL.out.size; omega)))
  have HFB4 := hid (show Fb w4 w.heap.size f va from fb_at HFP4.out HL1.out hbb4)
  have HL4 := hid (Nat.lt_of_lt_of_le HLP4.out hg4.size)
  have HZ4 := hid (Nat.le_trans HZP4.out hg4.size)
  obtain ⟨a4, n4, c4, e4⟩ := src_named (ho4.src (by (try simp only [List.length_append]); have := HTX.out; omega))
  subst e4
  clear ho4 hg4 hbb4 HP4 HU4 HBP4 HFP4 HLP4 HZP4 
  have y5 := HFB4.out.bd
  go_wp2_with fail
  refine (refText_any (mk f.body) w4 (by rw [mk_size]; omega)).mono ?_
  rintro e p5 ⟨u5, rfl, hou5, hbu5⟩
  have HU5 := hid (hou5.src (by have := HTX.out; omega))
  have HP5 := hid (HO4.out.below hbu5)
  have HBP5 := hid (below_then HB4.out hbu5)
  have HFP5 := hid (HFB4.out.below HL4.out hbu5)
  have HLP5 := hid (Nat.lt_of_lt_of_le HL4.out hbu5.size)
  have HZP5 := hid (Nat.le_trans HZ4.out hbu5.size)
  obtain ⟨au5, nu5, cu5, eu5⟩ := src_named HU5.out
  subst eu5
  clear hou5 hbu5 y5 HO4 HB4 HFB4 HL4 HZ4  
  go_wp2_with (at_builtin; refine app_src rfl _ _ rfl w1.heap.size _ _ rfl HP5.out _ _ rfl HU5.out (by (try simp only [List.length_append]); have := HTX.out; omega) HZP5.out ?_)
  intro v5 w5 ho5 hg5
  have HO5 := hid ho5
  have hbb5 : Below w1.heap.size p5 w5 := ⟨hg5.os, hg5.tape, hg5.output, hg5.size, fun k hk => hg5.block k (by have := HZP5.out; omega) (fun e => by have := (HP5.out.lt k e.symm).1; omega)⟩
  have HB5 := hid (show Below w.heap.size w w5 from below_tr HBP5.out (hbb5.mono (by have := HBL.out.size; omega)))
  have HFB5 := hid (show Fb w5 w.heap.size f va from fb_at HFP5.out HL1.out hbb5)
  have HL5 := hid (Nat.lt_of_lt_of_le HLP5.out hg5.size)
  have HZ5 := hid (Nat.le_trans HZP5.out hg5.size)
  obtain ⟨a5, n5, c5, e5⟩ := src_named (ho5.src (by (try simp only [List.length_append]); have := HTX.out; omega))
  subst e5
  clear ho5 hg5 hbb5 HP5 HU5 HBP5 HFP5 HLP5 HZP5 
  have xz := HFB5.out.k
  have hz9 := HO5.out.src (by (try simp only [List.length_append]); have := HTX.out; omega)
  have HSZ := hid (show Src w5 (.slice a5 n5 c5) (sn 3 ++ sn I ++ sn S ++ tx (mk f.body)) by first | exact hz9 | simpa only [List.append_assoc] using hz9)
  clear hz9
  go_wp2
  go_ret
  exact ⟨_, rfl, HSZ.out, HB5.out⟩

set_option maxRecDepth 100000 in
set_option maxHeartbeats 4000000 in
theorem body2_any (f : Fr) (va : Value) (w : World) (hf : f.tool.length = 32) (hk : f.kind = 2) (I a b c : Nat) (hi : f.id = (I : Int)) (hI : I < 18446744073709551616) (h1 : f.lim.1 = (a : Int)) (h2 : f.lim.2.1 = (b : Int)) (h3 : f.lim.2.2 = (c : Int)) (ka : a ≤ 9223372036854775807) (kb : b ≤ 9223372036854775807) (kc : c ≤ 9223372036854775807) (ha : Strs w va f.args) (hA : (txs (f.args.map mk)).length ≤ 100000) (hB : f.body.length ≤ 2097152) :
    Calls Try.prog 26 #[.agg (fcells f va).toArray] w fun e w' => ∃ v, e = .returned v ∧ Src w' v (sn 2 ++ sn I ++ sn a ++ sn b ++ sn c ++ ls (f.args.map mk) ++ tx (mk f.body)) ∧ Below w.heap.size w w' := by
  obtain ⟨av, cv, ev⟩ := ha.shape
  have HEV := hid ev
  clear ev
  have HNB := hid (hp_new w (.cells (fcells f va).toArray 29))
  have HBL := hid (below_walk w (.cells (fcells f va).toArray 29))
  have HSA := hid (ha.below HBL.out)
  have HF := hid hf
  have HK := hid hk
  have E_i := hid hi
  have E_l1 := hid h1
  have E_l2 := hid h2
  have E_l3 := hid h3
  have HTX := hid (tx_len2 (mk f.body))
  rw [mk_size] at HTX
  have hll : (ls (f.args.map mk)).length ≤ 100010 := by
    have := sn_length_le (f.args.map mk).length
    unfold ls
    rw [List.length_append]
    omega
  have len_I := sn_length_le I
  have len_a := sn_length_le a
  have wr_a : IntKind.u64.wrap (a : Int) = (a : Int) := by rw [IntKind.wrap_u64]; omega
  have len_b := sn_length_le b
  have wr_b : IntKind.u64.wrap (b : Int) = (b : Int) := by rw [IntKind.wrap_u64]; omega
  have len_c := sn_length_le c
  have wr_c : IntKind.u64.wrap (c : Int) = (c : Int) := by rw [IntKind.wrap_u64]; omega
  have len0 := sn_length_le 2
  have w0 : IntKind.u64.wrap 2 = 2 := rfl
  clear hf hk hi h1 h2 h3 ha
  go_enter Try.func26, Try.ntmps26
  go_upto_region 1 with fail
  generalize w.alloc (.cells (fcells f va).toArray 29) = w1 at HNB HBL HSA ⊢
  have HFB1 := hid (Fb.of HNB.out HF.out)
  have HL1 := hid (hp_lt HNB.out)
  have x0 := HFB1.out.k
  rw [HK.out] at x0
  go_wp2_with fail
  refine (refUint_any 2 w1 (by decide)).mono ?_
  rintro e w2 ⟨v2, rfl, ho2, hb2⟩
  have HO2 := hid ho2
  have HB2 := hid (below_then HBL.out hb2)
  have HFB2 := hid (HFB1.out.below HL1.out hb2)
  have HL2 := hid (Nat.lt_of_lt_of_le HL1.out hb2.size)
  have HZ2 := hid hb2.size
  have HSA2 := hid (HSA.out.below hb2)
  have x1 := HFB2.out.k
  rw [HK.out] at x1
  obtain ⟨a2, n2, c2, e2⟩ := src_named (ho2.src (by omega))
  subst e2
  clear ho2 hb2 x0 HFB1 HNB
  have y3 := HFB2.out.i
  rw [E_i.out] at y3
  go_wp2_with fail
  refine (refUint_any I w2 (by omega)).mono ?_
  rintro e p3 ⟨u3, rfl, hou3, hbu3⟩
  have HU3 := hid (hou3.src (by omega))
  have HP3 := hid (HO2.out.below hbu3)
  have HBP3 := hid (below_then HB2.out hbu3)
  have HFP3 := hid (HFB2.out.below HL2.out hbu3)
  have HLP3 := hid (Nat.lt_of_lt_of_le HL2.out hbu3.size)
  have HZP3 := hid (Nat.le_trans HZ2.out hbu3.size)
  have HSP3 := hid (HSA2.out.below hbu3)
  obtain ⟨au3, nu3, cu3, eu3⟩ := src_named HU3.out
  subst eu3
  clear hou3 hbu3 y3 HO2 HB2 HFB2 HL2 HZ2 HSA2 x1
  go_wp2_with (at_builtin; refine app_src rfl _ _ rfl w1.heap.size _ _ rfl HP3.out _ _ rfl HU3.out (by (try simp only [List.length_append]); have := HTX.out; omega) HZP3.out ?_)
  intro v3 w3 ho3 hg3
  have HO3 := hid ho3
  have hbb3 : Below w1.heap.size p3 w3 := ⟨hg3.os, hg3.tape, hg3.output, hg3.size, fun k hk => hg3.block k (by have := HZP3.out; omega) (fun e => by have := (HP3.out.lt k e.symm).1; omega)⟩
  have HB3 := hid (show Below w.heap.size w w3 from below_tr HBP3.out (hbb3.mono (by have := HBL.out.size; omega)))
  have HFB3 := hid (show Fb w3 w.heap.size f va from fb_at HFP3.out HL1.out hbb3)
  have HL3 := hid (Nat.lt_of_lt_of_le HLP3.out hg3.size)
  have HZ3 := hid (Nat.le_trans HZP3.out hg3.size)
  have HSA3 := hid (strs_at HSP3.out HSA.out hbb3)
  obtain ⟨a3, n3, c3, e3⟩ := src_named (ho3.src (by (try simp only [List.length_append]); have := HTX.out; omega))
  subst e3
  clear ho3 hg3 hbb3 HP3 HU3 HBP3 HFP3 HLP3 HZP3 HSP3
  have y4 := HFB3.out.l1
  rw [E_l1.out] at y4
  go_wp2_with fail
  refine (refUint_any a w3 (by omega)).mono ?_
  rintro e p4 ⟨u4, rfl, hou4, hbu4⟩
  have HU4 := hid (hou4.src (by omega))
  have HP4 := hid (HO3.out.below hbu4)
  have HBP4 := hid (below_then HB3.out hbu4)
  have HFP4 := hid (HFB3.out.below HL3.out hbu4)
  have HLP4 := hid (Nat.lt_of_lt_of_le HL3.out hbu4.size)
  have HZP4 := hid (Nat.le_trans HZ3.out hbu4.size)
  have HSP4 := hid (HSA3.out.below hbu4)
  obtain ⟨au4, nu4, cu4, eu4⟩ := src_named HU4.out
  subst eu4
  clear hou4 hbu4 y4 HO3 HB3 HFB3 HL3 HZ3 HSA3 
  go_wp2_with (at_builtin; refine app_src rfl _ _ rfl w1.heap.size _ _ rfl HP4.out _ _ rfl HU4.out (by (try simp only [List.length_append]); have := HTX.out; omega) HZP4.out ?_)
  intro v4 w4 ho4 hg4
  have HO4 := hid ho4
  have hbb4 : Below w1.heap.size p4 w4 := ⟨hg4.os, hg4.tape, hg4.output, hg4.size, fun k hk => hg4.block k (by have := HZP4.out; omega) (fun e => by have := (HP4.out.lt k e.symm).1; omega)⟩
  have HB4 := hid (show Below w.heap.size w w4 from below_tr HBP4.out (hbb4.mono (by have := HBL.out.size; omega)))
  have HFB4 := hid (show Fb w4 w.heap.size f va from fb_at HFP4.out HL1.out hbb4)
  have HL4 := hid (Nat.lt_of_lt_of_le HLP4.out hg4.size)
  have HZ4 := hid (Nat.le_trans HZP4.out hg4.size)
  have HSA4 := hid (strs_at HSP4.out HSA.out hbb4)
  obtain ⟨a4, n4, c4, e4⟩ := src_named (ho4.src (by (try simp only [List.length_append]); have := HTX.out; omega))
  subst e4
  clear ho4 hg4 hbb4 HP4 HU4 HBP4 HFP4 HLP4 HZP4 HSP4
  have y5 := HFB4.out.l2
  rw [E_l2.out] at y5
  go_wp2_with fail
  refine (refUint_any b w4 (by omega)).mono ?_
  rintro e p5 ⟨u5, rfl, hou5, hbu5⟩
  have HU5 := hid (hou5.src (by omega))
  have HP5 := hid (HO4.out.below hbu5)
  have HBP5 := hid (below_then HB4.out hbu5)
  have HFP5 := hid (HFB4.out.below HL4.out hbu5)
  have HLP5 := hid (Nat.lt_of_lt_of_le HL4.out hbu5.size)
  have HZP5 := hid (Nat.le_trans HZ4.out hbu5.size)
  have HSP5 := hid (HSA4.out.below hbu5)
  obtain ⟨au5, nu5, cu5, eu5⟩ := src_named HU5.out
  subst eu5
  clear hou5 hbu5 y5 HO4 HB4 HFB4 HL4 HZ4 HSA4 
  go_wp2_with (at_builtin; refine app_src rfl _ _ rfl w1.heap.size _ _ rfl HP5.out _ _ rfl HU5.out (by (try simp only [List.length_append]); have := HTX.out; omega) HZP5.out ?_)
  intro v5 w5 ho5 hg5
  have HO5 := hid ho5
  have hbb5 : Below w1.heap.size p5 w5 := ⟨hg5.os, hg5.tape, hg5.output, hg5.size, fun k hk => hg5.block k (by have := HZP5.out; omega) (fun e => by have := (HP5.out.lt k e.symm).1; omega)⟩
  have HB5 := hid (show Below w.heap.size w w5 from below_tr HBP5.out (hbb5.mono (by have := HBL.out.size; omega)))
  have HFB5 := hid (show Fb w5 w.heap.size f va from fb_at HFP5.out HL1.out hbb5)
  have HL5 := hid (Nat.lt_of_lt_of_le HLP5.out hg5.size)
  have HZ5 := hid (Nat.le_trans HZP5.out hg5.size)
  have HSA5 := hid (strs_at HSP5.out HSA.out hbb5)
  obtain ⟨a5, n5, c5, e5⟩ := src_named (ho5.src (by (try simp only [List.length_append]); have := HTX.out; omega))
  subst e5
  clear ho5 hg5 hbb5 HP5 HU5 HBP5 HFP5 HLP5 HZP5 HSP5
  have y6 := HFB5.out.l3
  rw [E_l3.out] at y6
  go_wp2_with fail
  refine (refUint_any c w5 (by omega)).mono ?_
  rintro e p6 ⟨u6, rfl, hou6, hbu6⟩
  have HU6 := hid (hou6.src (by omega))
  have HP6 := hid (HO5.out.below hbu6)
  have HBP6 := hid (below_then HB5.out hbu6)
  have HFP6 := hid (HFB5.out.below HL5.out hbu6)
  have HLP6 := hid (Nat.lt_of_lt_of_le HL5.out hbu6.size)
  have HZP6 := hid (Nat.le_trans HZ5.out hbu6.size)
  have HSP6 := hid (HSA5.out.below hbu6)
  obtain ⟨au6, nu6, cu6, eu6⟩ := src_named HU6.out
  subst eu6
  clear hou6 hbu6 y6 HO5 HB5 HFB5 HL5 HZ5 HSA5 
  go_wp2_with (at_builtin; refine app_src rfl _ _ rfl w1.heap.size _ _ rfl HP6.out _ _ rfl HU6.out (by (try simp only [List.length_append]); have := HTX.out; omega) HZP6.out ?_)
  intro v6 w6 ho6 hg6
  have HO6 := hid ho6
  have hbb6 : Below w1.heap.size p6 w6 := ⟨hg6.os, hg6.tape, hg6.output, hg6.size, fun k hk => hg6.block k (by have := HZP6.out; omega) (fun e => by have := (HP6.out.lt k e.symm).1; omega)⟩
  have HB6 := hid (show Below w.heap.size w w6 from below_tr HBP6.out (hbb6.mono (by have := HBL.out.size; omega)))
  have HFB6 := hid (show Fb w6 w.heap.size f va from fb_at HFP6.out HL1.out hbb6)
  have HL6 := hid (Nat.lt_of_lt_of_le HLP6.out hg6.size)
  have HZ6 := hid (Nat.le_trans HZP6.out hg6.size)
  have HSA6 := hid (strs_at HSP6.out HSA.out hbb6)
  obtain ⟨a6, n6, c6, e6⟩ := src_named (ho6.src (by (try simp only [List.length_append]); have := HTX.out; omega))
  subst e6
  clear ho6 hg6 hbb6 HP6 HU6 HBP6 HFP6 HLP6 HZP6 HSP6
  have y7 := HFB6.out.a
  rw [HEV.out] at y7
  go_wp2_with fail
  refine (refList_any _ (f.args.map mk) w6 (by rw [← HEV.out]; exact wstrs_of HSA6.out) (by omega)).mono ?_
  rintro e p7 ⟨u7, rfl, hou7, hbu7⟩
  have HU7 := hid (hou7.src (by omega))
  have HP7 := hid (HO6.out.below hbu7)
  have HBP7 := hid (below_then HB6.out hbu7)
  have HFP7 := hid (HFB6.out.below HL6.out hbu7)
  have HLP7 := hid (Nat.lt_of_lt_of_le HL6.out hbu7.size)
  have HZP7 := hid (Nat.le_trans HZ6.out hbu7.size)
  have HSP7 := hid (HSA6.out.below hbu7)
  obtain ⟨au7, nu7, cu7, eu7⟩ := src_named HU7.out
  subst eu7
  clear hou7 hbu7 y7 HO6 HB6 HFB6 HL6 HZ6 HSA6 
  go_wp2_with (at_builtin; refine app_src rfl _ _ rfl w1.heap.size _ _ rfl HP7.out _ _ rfl HU7.out (by (try simp only [List.length_append]); have := HTX.out; omega) HZP7.out ?_)
  intro v7 w7 ho7 hg7
  have HO7 := hid ho7
  have hbb7 : Below w1.heap.size p7 w7 := ⟨hg7.os, hg7.tape, hg7.output, hg7.size, fun k hk => hg7.block k (by have := HZP7.out; omega) (fun e => by have := (HP7.out.lt k e.symm).1; omega)⟩
  have HB7 := hid (show Below w.heap.size w w7 from below_tr HBP7.out (hbb7.mono (by have := HBL.out.size; omega)))
  have HFB7 := hid (show Fb w7 w.heap.size f va from fb_at HFP7.out HL1.out hbb7)
  have HL7 := hid (Nat.lt_of_lt_of_le HLP7.out hg7.size)
  have HZ7 := hid (Nat.le_trans HZP7.out hg7.size)
  have HSA7 := hid (strs_at HSP7.out HSA.out hbb7)
  obtain ⟨a7, n7, c7, e7⟩ := src_named (ho7.src (by (try simp only [List.length_append]); have := HTX.out; omega))
  subst e7
  clear ho7 hg7 hbb7 HP7 HU7 HBP7 HFP7 HLP7 HZP7 HSP7
  have y8 := HFB7.out.bd
  go_wp2_with fail
  refine (refText_any (mk f.body) w7 (by rw [mk_size]; omega)).mono ?_
  rintro e p8 ⟨u8, rfl, hou8, hbu8⟩
  have HU8 := hid (hou8.src (by have := HTX.out; omega))
  have HP8 := hid (HO7.out.below hbu8)
  have HBP8 := hid (below_then HB7.out hbu8)
  have HFP8 := hid (HFB7.out.below HL7.out hbu8)
  have HLP8 := hid (Nat.lt_of_lt_of_le HL7.out hbu8.size)
  have HZP8 := hid (Nat.le_trans HZ7.out hbu8.size)
  have HSP8 := hid (HSA7.out.below hbu8)
  obtain ⟨au8, nu8, cu8, eu8⟩ := src_named HU8.out
  subst eu8
  clear hou8 hbu8 y8 HO7 HB7 HFB7 HL7 HZ7 HSA7 
  go_wp2_with (at_builtin; refine app_src rfl _ _ rfl w1.heap.size _ _ rfl HP8.out _ _ rfl HU8.out (by (try simp only [List.length_append]); have := HTX.out; omega) HZP8.out ?_)
  intro v8 w8 ho8 hg8
  have HO8 := hid ho8
  have hbb8 : Below w1.heap.size p8 w8 := ⟨hg8.os, hg8.tape, hg8.output, hg8.size, fun k hk => hg8.block k (by have := HZP8.out; omega) (fun e => by have := (HP8.out.lt k e.symm).1; omega)⟩
  have HB8 := hid (show Below w.heap.size w w8 from below_tr HBP8.out (hbb8.mono (by have := HBL.out.size; omega)))
  have HFB8 := hid (show Fb w8 w.heap.size f va from fb_at HFP8.out HL1.out hbb8)
  have HL8 := hid (Nat.lt_of_lt_of_le HLP8.out hg8.size)
  have HZ8 := hid (Nat.le_trans HZP8.out hg8.size)
  have HSA8 := hid (strs_at HSP8.out HSA.out hbb8)
  obtain ⟨a8, n8, c8, e8⟩ := src_named (ho8.src (by (try simp only [List.length_append]); have := HTX.out; omega))
  subst e8
  clear ho8 hg8 hbb8 HP8 HU8 HBP8 HFP8 HLP8 HZP8 HSP8
  have xz := HFB8.out.k
  have hz9 := HO8.out.src (by (try simp only [List.length_append]); have := HTX.out; omega)
  have HSZ := hid (show Src w8 (.slice a8 n8 c8) (sn 2 ++ sn I ++ sn a ++ sn b ++ sn c ++ ls (f.args.map mk) ++ tx (mk f.body)) by first | exact hz9 | simpa only [List.append_assoc] using hz9)
  clear hz9
  go_wp2
  go_ret
  exact ⟨_, rfl, HSZ.out, HB8.out⟩

end Go.Proofs.Ytjinkahlfigdcaa

/- The document's body of a hello. -/
namespace Go.Proofs.Ytjinkahlfigdcaa
open Go.RowKit Go.BigFrame

set_option maxRecDepth 100000 in
set_option maxHeartbeats 4000000 in
theorem body1_any (f : Fr) (va : Value) (w : World) (hf : f.tool.length = 32) (hk : f.kind = 1) (V S : Nat) (hv : f.ver = (V : Int)) (hs : f.slots = (S : Int)) (kV : V ≤ 9223372036854775807) (kS : S ≤ 9223372036854775807) :
    Calls Try.prog 26 #[.agg (fcells f va).toArray] w fun e w' => ∃ v, e = .returned v ∧ Src w' v (sn 1 ++ sn V ++ sn S ++ f.tool) ∧ Below w.heap.size w w' := by
  have HNB := hid (hp_new w (.cells (fcells f va).toArray 29))
  have HBL := hid (below_walk w (.cells (fcells f va).toArray 29))
  have HF := hid hf
  have HK := hid hk
  have E_v := hid hv
  have E_s := hid hs
  have len_V := sn_length_le V
  have wr_V : IntKind.u64.wrap (V : Int) = (V : Int) := by rw [IntKind.wrap_u64]; omega
  have len_S := sn_length_le S
  have wr_S : IntKind.u64.wrap (S : Int) = (S : Int) := by rw [IntKind.wrap_u64]; omega
  have len0 := sn_length_le 1
  have w0 : IntKind.u64.wrap 1 = 1 := rfl
  clear hf hk hv hs 
  go_enter Try.func26, Try.ntmps26
  go_upto_region 1 with fail
  generalize w.alloc (.cells (fcells f va).toArray 29) = w1 at HNB HBL  ⊢
  have HFB1 := hid (Fb.of HNB.out HF.out)
  have HL1 := hid (hp_lt HNB.out)
  have x0 := HFB1.out.k
  rw [HK.out] at x0
  go_wp2_with fail
  refine (refUint_any 1 w1 (by decide)).mono ?_
  rintro e w2 ⟨v2, rfl, ho2, hb2⟩
  have HO2 := hid ho2
  have HB2 := hid (below_then HBL.out hb2)
  have HFB2 := hid (HFB1.out.below HL1.out hb2)
  have HL2 := hid (Nat.lt_of_lt_of_le HL1.out hb2.size)
  have HZ2 := hid hb2.size
  have x1 := HFB2.out.k
  rw [HK.out] at x1
  obtain ⟨a2, n2, c2, e2⟩ := src_named (ho2.src (by omega))
  subst e2
  clear ho2 hb2 x0 HFB1 HNB
  have y3 := HFB2.out.v
  rw [E_v.out] at y3
  go_wp2_with fail
  refine (refUint_any V w2 (by omega)).mono ?_
  rintro e p3 ⟨u3, rfl, hou3, hbu3⟩
  have HU3 := hid (hou3.src (by omega))
  have HP3 := hid (HO2.out.below hbu3)
  have HBP3 := hid (below_then HB2.out hbu3)
  have HFP3 := hid (HFB2.out.below HL2.out hbu3)
  have HLP3 := hid (Nat.lt_of_lt_of_le HL2.out hbu3.size)
  have HZP3 := hid (Nat.le_trans HZ2.out hbu3.size)
  obtain ⟨au3, nu3, cu3, eu3⟩ := src_named HU3.out
  subst eu3
  clear hou3 hbu3 y3 HO2 HB2 HFB2 HL2 HZ2  x1
  go_wp2_with (at_builtin; refine app_src rfl _ _ rfl w1.heap.size _ _ rfl HP3.out _ _ rfl HU3.out (by (try simp only [List.length_append]); omega) HZP3.out ?_)
  intro v3 w3 ho3 hg3
  have HO3 := hid ho3
  have hbb3 : Below w1.heap.size p3 w3 := ⟨hg3.os, hg3.tape, hg3.output, hg3.size, fun k hk => hg3.block k (by have := HZP3.out; omega) (fun e => by have := (HP3.out.lt k e.symm).1; omega)⟩
  have HB3 := hid (show Below w.heap.size w w3 from below_tr HBP3.out (hbb3.mono (by have := HBL.out.size; omega)))
  have HFB3 := hid (show Fb w3 w.heap.size f va from fb_at HFP3.out HL1.out hbb3)
  have HL3 := hid (Nat.lt_of_lt_of_le HLP3.out hg3.size)
  have HZ3 := hid (Nat.le_trans HZP3.out hg3.size)
  obtain ⟨a3, n3, c3, e3⟩ := src_named (ho3.src (by (try simp only [List.length_append]); omega))
  subst e3
  clear ho3 hg3 hbb3 HP3 HU3 HBP3 HFP3 HLP3 HZP3 
  have y4 := HFB3.out.s
  rw [E_s.out] at y4
  go_wp2_with fail
  refine (refUint_any S w3 (by omega)).mono ?_
  rintro e p4 ⟨u4, rfl, hou4, hbu4⟩
  have HU4 := hid (hou4.src (by omega))
  have HP4 := hid (HO3.out.below hbu4)
  have HBP4 := hid (below_then HB3.out hbu4)
  have HFP4 := hid (HFB3.out.below HL3.out hbu4)
  have HLP4 := hid (Nat.lt_of_lt_of_le HL3.out hbu4.size)
  have HZP4 := hid (Nat.le_trans HZ3.out hbu4.size)
  obtain ⟨au4, nu4, cu4, eu4⟩ := src_named HU4.out
  subst eu4
  clear hou4 hbu4 y4 HO3 HB3 HFB3 HL3 HZ3  
  go_wp2_with (at_builtin; refine app_src rfl _ _ rfl w1.heap.size _ _ rfl HP4.out _ _ rfl HU4.out (by (try simp only [List.length_append]); omega) HZP4.out ?_)
  intro v4 w4 ho4 hg4
  have HO4 := hid ho4
  have hbb4 : Below w1.heap.size p4 w4 := ⟨hg4.os, hg4.tape, hg4.output, hg4.size, fun k hk => hg4.block k (by have := HZP4.out; omega) (fun e => by have := (HP4.out.lt k e.symm).1; omega)⟩
  have HB4 := hid (show Below w.heap.size w w4 from below_tr HBP4.out (hbb4.mono (by have := HBL.out.size; omega)))
  have HFB4 := hid (show Fb w4 w.heap.size f va from fb_at HFP4.out HL1.out hbb4)
  have HL4 := hid (Nat.lt_of_lt_of_le HLP4.out hg4.size)
  have HZ4 := hid (Nat.le_trans HZP4.out hg4.size)
  obtain ⟨a4, n4, c4, e4⟩ := src_named (ho4.src (by (try simp only [List.length_append]); omega))
  subst e4
  clear ho4 hg4 hbb4 HP4 HU4 HBP4 HFP4 HLP4 HZP4 
  obtain ⟨X, HX⟩ : ∃ X, Hid (sn 1 ++ sn V ++ sn S = X) := ⟨_, rfl⟩
  have HO5 := hid (show OwnB w4 w1.heap.size (.slice a4 n4 c4) X by rw [← HX.out]; first | exact HO4.out | simpa only [List.append_assoc] using HO4.out)
  have hXl : X.length ≤ 30 := by rw [← HX.out]; simp only [List.length_append]; omega
  clear HO4
  go_wp2_with fail
  go_loopw [3, 4] (fun v i wr => ∃ k : Nat, k ≤ 32 ∧ i = .int .i64 k ∧ Hid (OwnB wr w1.heap.size v (X ++ f.tool.take k)) ∧ Hid (Below w.heap.size w wr) ∧ Hid (Fb wr w.heap.size f va) ∧ Hid (w1.heap.size ≤ wr.heap.size)) (fun _ i _ => 32 - (intOf i).toNat)
  case atStart => exact ⟨0, by omega, rfl, hid (by simpa using HO5.out), HB4, HFB4, HZ4⟩
  case round =>
    obtain ⟨k, hk, rfl, HO, HB, HFB, HZ⟩ := hrel
    have HTL := hid (show (f.tool.take k).length ≤ 32 by rw [List.length_take]; omega)
    obtain ⟨av, nv, cv, ev⟩ := src_named (HO.out.src (by rw [List.length_append]; have := HTL.out; omega))
    subst ev
    by_cases hlt : k < 32
    · have hki : (k : Int) < 32 := by omega
      have hd : decide ((k : Int) < 32) = true := by simpa using hki
      have hkt : k < f.tool.length := by rw [HF.out]; exact hlt
      have c1 : wr.cell? ⟨w.heap.size, 4 + k, none⟩ = some (.int .u8 ((f.tool.getD k 0).toNat : Nat)) := HFB.out.t k _ (by rw [bytesV_get, List.getElem?_eq_getElem hkt]; simp [List.getD_eq_getElem?_getD, List.getElem?_eq_getElem hkt])
      have HTK := hid (show f.tool.take k ++ [f.tool.getD k 0] = f.tool.take (k + 1) by rw [List.take_succ_eq_append_getElem hkt, List.getD_eq_getElem?_getD, List.getElem?_eq_getElem hkt]; rfl)
      have hkw : IntKind.i64.wrap ((k : Int) + 1) = (k : Int) + 1 := by rw [IntKind.wrap_i64]; omega
      have hpa : (⟨w.heap.size, 4, none⟩ : Addr).add k = ⟨w.heap.size, 4 + k, none⟩ := Addr.add_mid w.heap.size 4 k
      obtain ⟨T, HT⟩ : ∃ T, Hid (f.tool.getD k 0 = T) := ⟨_, rfl⟩
      rw [HT.out] at c1 HTK
      go_wp2_with (at_builtin; refine app_src rfl _ _ rfl w1.heap.size _ _ rfl (HO.out.below (below_walk wr _)) _ [T] rfl (src_lit (hp_new wr _) rfl (by simp) _ rfl) (by rw [List.length_append]; have := HTL.out; simp; omega) (by have := HZ.out; simp; omega) ?_)
      intro v9 w9 ho9 hg9
      have HO9 := hid (show OwnB w9 w1.heap.size v9 (X ++ f.tool.take (k + 1)) by rw [← HTK.out]; first | exact ho9 | simpa only [List.append_assoc] using ho9)
      have hbb : Below w1.heap.size (wr.alloc (.cells #[.int .u8 (T.toNat : Nat)] 5)) w9 := ⟨hg9.os, hg9.tape, hg9.output, hg9.size, fun j hj => hg9.block j (by have := HZ.out; simp; omega) (fun e => by have := (HO.out.lt j e.symm).1; omega)⟩
      have HB9 := hid (below_tr (below_then HB.out (below_walk wr (.cells #[.int .u8 (T.toNat : Nat)] 5))) (hbb.mono HBL.out.size))
      have HFB9 := hid (show Fb w9 w.heap.size f va from fb_at (HFB.out.below (Nat.lt_of_lt_of_le HL1.out HZ.out) (below_walk wr (.cells #[.int .u8 (T.toNat : Nat)] 5))) HL1.out hbb)
      have HZ9 := hid (show w1.heap.size ≤ w9.heap.size by have := hg9.size; have := HZ.out; simp at *; omega)
      have HT9 := hid (show (f.tool.take (k + 1)).length ≤ 32 by rw [List.length_take]; omega)
      obtain ⟨a9, n9, c9, e9⟩ := src_named (HO9.out.src (by rw [List.length_append]; have := HT9.out; omega))
      subst e9
      clear ho9 hg9 hbb c1 HO HB HFB HZ
      go_wp2
      exact ⟨⟨k + 1, by omega, by simp, HO9, HB9, HFB9, HZ9⟩, by simp [intOf]; omega⟩
    · obtain rfl : k = 32 := by omega
      have HS9 := hid (show Src wr (.slice av nv cv) (sn 1 ++ sn V ++ sn S ++ f.tool) by
        have h9 := HO.out.src (by rw [List.length_append]; have := HTL.out; omega)
        rw [List.take_of_length_le (by rw [HF.out]; omega)] at h9
        rw [HX.out]
        exact h9)
      have xz := HFB.out.k
      rw [HK.out] at xz
      go_wp2
      go_ret
      exact ⟨_, rfl, HS9.out, HB.out⟩

end Go.Proofs.Ytjinkahlfigdcaa

/- The document's Check of every frame. -/
namespace Go.Proofs.Ytjinkahlfigdcaa
open Go.RowKit Go.BigFrame

def bad1 (f : Fr) : Bool := decide (¬ (1 ≤ f.kind ∧ f.kind ≤ 6) ∨ sameP f (ownF f) = false ∨ 8 < f.args.length)
def bad2 (f : Fr) : Bool := bad1 f || decide (f.lim.1 < 0 ∨ f.lim.2.1 < 0 ∨ f.lim.2.2 < 0)
def bad3 (f : Fr) : Bool := bad2 f || decide (f.kind = 1 ∧ (f.ver ≠ 1 ∨ f.slots < 1 ∨ 64 < f.slots))
def bad4 (f : Fr) : Bool := bad3 f || decide (f.kind = 3 ∧ (f.status < 1 ∨ 3 < f.status ∨ (f.status ≠ 1 ∧ f.body ≠ [])))
theorem bad_ok (f : Fr) : (bad4 f || longA f.args) = !okFr f := by
  by_cases hk : 1 ≤ f.kind ∧ f.kind ≤ 6
  · by_cases hs : sameP f (ownF f) = true
    · have e := same_eq hs
      have hc : f.kind = 1 ∨ f.kind = 2 ∨ f.kind = 3 ∨ f.kind = 4 ∨ f.kind = 5 ∨ f.kind = 6 := by omega
      unfold bad4 bad3 bad2 bad1 okFr
      rw [hs, decide_eq_true hk]
      simp only [hk, Bool.true_and]
      rcases hc with k | k | k | k | k | k
      · rw [mayF_1 f k, own_1 f k] at *
        have eA := congrArg Fr.args e
        have eL := congrArg Fr.lim e
        simp only at eA eL
        rw [Bool.eq_iff_iff]
        simp [eA, eL, mayHelloP, longA, k]
        try omega
      · rw [mayF_2 f k]
        rw [Bool.eq_iff_iff]
        cases hl : longA f.args <;> simp [mayReqP, k, hl] <;> omega
      · rw [mayF_3 f k, own_3 f k] at *
        have eA := congrArg Fr.args e
        have eL := congrArg Fr.lim e
        simp only [resF] at eA eL
        rw [Bool.eq_iff_iff]
        by_cases hb : f.body = []
        · simp [eA, eL, mayResP, longA, k, hb]
          omega
        · simp [eA, eL, mayResP, longA, k, hb]
          omega
      · rw [mayF_4 f k, own_4 f k] at *
        have eA := congrArg Fr.args e
        have eL := congrArg Fr.lim e
        simp only [canF] at eA eL
        simp [eA, eL, longA, k]
      · rw [mayF_5 f k, own_5 f k] at *
        have eA := congrArg Fr.args e
        have eL := congrArg Fr.lim e
        simp only [byeF] at eA eL
        simp [eA, eL, longA, k]
      · rw [mayF_6 f k, own_6 f k] at *
        have eA := congrArg Fr.args e
        have eL := congrArg Fr.lim e
        simp only [noteF] at eA eL
        simp [eA, eL, longA, k]
    · have hs' : sameP f (ownF f) = false := by simpa using hs
      unfold bad4 bad3 bad2 bad1 okFr
      simp [hs']
  · unfold bad4 bad3 bad2 bad1 okFr
    rw [decide_eq_true (show ¬ (1 ≤ f.kind ∧ f.kind ≤ 6) ∨ sameP f (ownF f) = false ∨ 8 < f.args.length from Or.inl hk), decide_eq_false hk]
    rfl

set_option maxRecDepth 100000 in
set_option maxHeartbeats 4000000 in
theorem body5_any (f : Fr) (va : Value) (w : World) (hf : f.tool.length = 32) (hk : f.kind = 5) :
    Calls Try.prog 26 #[.agg (fcells f va).toArray] w fun e w' => ∃ v, e = .returned v ∧ Src w' v (sn 5) ∧ Below w.heap.size w w' := by
  have HNB := hid (hp_new w (.cells (fcells f va).toArray 29))
  have HBL := hid (below_walk w (.cells (fcells f va).toArray 29))
  go_enter Try.func26, Try.ntmps26
  go_upto_region 1 with fail
  generalize w.alloc (.cells (fcells f va).toArray 29) = w1 at HNB HBL ⊢
  have x0 : w1.cell? ⟨w.heap.size, 0, none⟩ = some (.int .i64 5) := by have := (Fb.of HNB.out hf).k; rw [hk] at this; exact this
  have hw5 : IntKind.u64.wrap 5 = 5 := rfl
  have HF := hid hf
  have HK := hid hk
  clear hk hf
  go_wp2_with fail
  refine (ruint_five w1).mono ?_
  rintro e w2 ⟨ao, c, rfl, ho2, hb2⟩
  have HS2 := hid (ho2.src (by simp))
  have HN2 := hid ((hb2.block _ (hp_lt HNB.out)).trans HNB.out)
  have HB2 := hid (below_then HBL.out hb2)
  have x1 : w2.cell? ⟨w.heap.size, 0, none⟩ = some (.int .i64 5) := by have := (Fb.of HN2.out HF.out).k; rw [HK.out] at this; exact this
  clear x0 hw5 ho2 hb2 HNB HBL HN2
  go_wp2
  go_ret
  exact ⟨_, rfl, HS2.out, HB2.out⟩

/-- the document's body of a frame that may be -/
theorem rbodyF_any (f : Fr) (va : Value) (W : World) (hr : Rng f) (ha : Strs W va f.args) (hk : 1 ≤ f.kind ∧ f.kind ≤ 6) (hm : mayF f = true) (hB : f.body.length ≤ 2097152) :
    Calls Try.prog 26 #[.agg (fcells f va).toArray] W fun e w' => ∃ v, e = .returned v ∧ Src w' v (bodyP f) ∧ Below W.heap.size W w' := by
  have hc : f.kind = 1 ∨ f.kind = 2 ∨ f.kind = 3 ∨ f.kind = 4 ∨ f.kind = 5 ∨ f.kind = 6 := by omega
  unfold bodyP
  rcases hc with k | k | k | k | k | k
  · rw [mayF_1 f k] at hm
    have h := mayHello_of hm
    rw [lay_1 f k, k, sns_two, ← List.append_assoc, ← List.append_assoc]
    exact body1_any f va W hr.tool k f.ver.toNat f.slots.toNat (toNat_eq (by omega)) (toNat_eq (by omega)) (by have := hr.ver; omega) (by have := hr.slots; omega)
  · rw [mayF_2 f k] at hm
    have h := mayReq_of hm
    rw [lay_2 f k, k]
    unfold layReqP
    rw [sns_thr]
    simp only [← List.append_assoc]
    exact body2_any f va W hr.tool k f.id.toNat f.lim.1.toNat f.lim.2.1.toNat f.lim.2.2.toNat (toNat_eq hr.idl) (by have := hr.idh; omega) (toNat_eq h.1) (toNat_eq h.2.1) (toNat_eq h.2.2.1) (by have := hr.l1; omega) (by have := hr.l2; omega) (by have := hr.l3; omega) ha (args_len h.2.2.2.2 h.2.2.2.1) hB
  · rw [mayF_3 f k] at hm
    have h := mayRes_of hm
    rw [lay_3 f k, k, sns_one]
    simp only [← List.append_assoc]
    exact body3_any f va W hr.tool k f.id.toNat f.status.toNat (toNat_eq hr.idl) (by have := hr.idh; omega) (toNat_eq (by omega)) (by have := hr.status; omega) hB
  · rw [lay_4 f k, k]
    exact body4_any f va W hr.tool k f.id.toNat (toNat_eq hr.idl) (by have := hr.idh; omega)
  · rw [lay_5 f k, k, List.append_nil]
    exact body5_any f va W hr.tool k
  · rw [lay_6 f k, k]
    exact body6_any f va W hr.tool k hB
end Go.Proofs.Ytjinkahlfigdcaa

/- The document's Check of every frame. -/
namespace Go.Proofs.Ytjinkahlfigdcaa
open Go.RowKit Go.BigFrame

theorem body_gt (f : Fr) (ho : okFr f = true) (h : 2097152 < f.body.length) : 2097152 < (bodyP f).length := by
  obtain ⟨hk, hs, hm⟩ := okFr_of ho
  rcases Nat.lt_or_ge 2097152 (bodyP f).length with h1 | h1
  · exact h1
  · exfalso
    have hc : (f.kind = 1 ∨ f.kind = 4 ∨ f.kind = 5) ∨ (f.kind = 2 ∨ f.kind = 3 ∨ f.kind = 6) := by omega
    rcases hc with k | k
    · rw [same_own_body hs k] at h
      simp at h
    · have := body_le f k h1
      omega
theorem bad1_kind (f : Fr) (h : ¬ (1 ≤ f.kind ∧ f.kind ≤ 6)) : bad1 f = true := by
  unfold bad1
  exact decide_eq_true (Or.inl h)
theorem bad1_same (f : Fr) (h : sameP f (ownF f) = false) : bad1 f = true := by
  unfold bad1
  exact decide_eq_true (Or.inr (Or.inl h))
theorem long_take {A : List (List UInt8)} {k : Nat} (h : longA (A.take k) = true) : longA A = true := by
  unfold longA at h ⊢
  rw [List.any_eq_true] at h ⊢
  obtain ⟨x, hx, hp⟩ := h
  exact ⟨x, List.mem_of_mem_take hx, hp⟩

set_option maxRecDepth 100000 in
set_option maxHeartbeats 8000000 in
theorem rcheckF_any (f : Fr) (va : Value) (w : World) (hr : Rng f) (ha : Strs w va f.args) :
    Calls Try.prog 25 #[.agg (fcells f va).toArray] w fun e w' => e = .returned (.int .i64 (chkE f)) ∧ Below w.heap.size w w' := by
  obtain ⟨ao, c, rfl⟩ := ha.shape
  have HNB := hid (hp_new w (.cells (fcells f (.slice ao f.args.length c)).toArray 29))
  have HBL := hid (below_walk w (.cells (fcells f (.slice ao f.args.length c)).toArray 29))
  have HSZ := hid (frame_size f (.slice ao f.args.length c) hr.tool)
  have HR := hid hr
  have HA := hid ha
  clear ha hr
  go_enter Try.func25, Try.ntmps25
  go_upto_region 1 with fail
  have HA1 := hid (HA.out.below HBL.out)
  generalize w.alloc (.cells (fcells f (.slice ao f.args.length c)).toArray 29) = w1 at HNB HBL HA1 ⊢
  have HL := hid (hp_lt HNB.out)
  go_cut [3] from 5 (fun s3 wx => s3 = .bool (bad1 f) ∧ Below w1.heap.size w1 wx)
  case first =>
    as_aux_lemma =>
      have x0 : w1.cell? ⟨w.heap.size, 0, none⟩ = some (.int .i64 f.kind) := (Fb.of HNB.out HR.out.tool).k
      have x7 : w1.cell? ⟨w.heap.size, 40, none⟩ = some (.slice ao f.args.length c) := (Fb.of HNB.out HR.out.tool).a
      have z0 := fun p : Bel w1 => p.cell x0 HL.out
      have z7 := fun p : Bel w1 => p.cell x7 HL.out
      have ib : Nonempty (Bel w1) := bel_some w1
      have HRA := hid (Bel.range (range_row HNB.out) HL.out)
      clear x0 x7
      by_cases h1 : f.kind < 1
      · have q1 : decide (f.kind < 1) = true := decide_eq_true h1
        have HB := hid ((bad1_kind f (fun h => by omega)).symm)
        refine wp_region_quiet_bel (by kernel_rfl) (by kernel_rfl) ?_
        repeat (go_big_quiet_step (fail))
        refine wpQuiet_nil ?_
        rintro w2 ⟨⟨w2', hb2⟩, hw2⟩
        obtain rfl : w2 = w2' := hw2
        go_wp2
        go_meet
        case rel => exact ⟨congrArg Value.bool HB.out, hb2⟩
      · by_cases h6 : 6 < f.kind
        · have q1 : decide (f.kind < 1) = false := decide_eq_false h1
          have q2 : decide (6 < f.kind) = true := decide_eq_true h6
          have HB := hid ((bad1_kind f (fun h => by omega)).symm)
          refine wp_region_quiet_bel (by kernel_rfl) (by kernel_rfl) ?_
          repeat (go_big_quiet_step (fail))
          refine wpQuiet_nil ?_
          rintro w2 ⟨⟨w2', hb2⟩, hw2⟩
          obtain rfl : w2 = w2' := hw2
          go_wp2
          go_meet
          case rel => exact ⟨congrArg Value.bool HB.out, hb2⟩
        · have q1 : decide (f.kind < 1) = false := decide_eq_false h1
          have q2 : decide (6 < f.kind) = false := decide_eq_false h6
          have HON := hid (fun p : Bel w1 => only_any f (.slice ao f.args.length c) p.out ⟨by omega, by omega⟩ HR.out.tool ⟨_, _, _, rfl⟩)
          have HSM := hid (fun p : Bel w1 => rsame_own f (.slice ao f.args.length c) p.out HR.out.tool (HA1.out.below p.bel) HR.out.many)
          obtain ⟨S, HS⟩ : ∃ S, Hid (sameP f (ownF f) = S) := ⟨_, rfl⟩
          rw [HS.out] at HSM
          cases S with
          | false =>
            have HB := hid ((bad1_same f HS.out).symm)
            refine wp_region_quiet_bel (by kernel_rfl) (by kernel_rfl) ?_
            go_big_quiet_step (fail)
            go_big_quiet_step (fail)
            go_big_quiet_step (fail)
            go_big_quiet_step (fail)
            go_big_quiet_step (fail)
            go_big_quiet_step (fail)
            go_big_quiet_step (fail)
            go_big_quiet_step (fail)
            go_big_quiet_step (fail)
            refine wpQuiet_want (by rfl) fun K hK => quiet_ld 29 (.tmp 1) (by rfl) w.heap.size 0 (by rfl) _ _ HRA.out Try.underlying29 rfl HSZ.out (hK _ ?_)
            simp only [Act.put, List.setIfInBounds_toArray, List.set_cons_succ, List.set_cons_zero]
            refine wpQuiet_want (by rfl) fun K hK => quiet_ld 29 (.tmp 1) (by rfl) w.heap.size 0 (by rfl) _ _ HRA.out Try.underlying29 rfl HSZ.out (hK _ ?_)
            simp only [Act.put, List.setIfInBounds_toArray, List.set_cons_succ, List.set_cons_zero]
            go_big_quiet_step (first | (go_at_call 45; exact bel_of (HON.out _)))
            go_big_quiet_step (first | (go_at_call 18; exact bel_of (HSM.out _)))
            go_big_quiet_step (fail)
            go_big_quiet_step (fail)
            go_big_quiet_step (fail)
            go_big_quiet_step (fail)
            go_big_quiet_step (fail)
            go_big_quiet_step (fail)
            go_big_quiet_step (fail)
            go_big_quiet_step (fail)
            go_big_quiet_step (fail)
            refine wpQuiet_nil ?_
            rintro w2 ⟨⟨w2', hb2⟩, hw2⟩
            obtain rfl : w2 = w2' := hw2
            go_wp2
            go_meet
            case rel => exact ⟨congrArg Value.bool HB.out, hb2⟩
          | true =>
            have HB := hid (show decide ((8 : Int) < (f.args.length : Int)) = bad1 f by
              unfold bad1
              rw [HS.out]
              refine decide_eq_decide.2 ⟨fun h => Or.inr (Or.inr (by omega)), fun h => ?_⟩
              rcases h with h | h | h
              · exact absurd (⟨by omega, by omega⟩ : 1 ≤ f.kind ∧ f.kind ≤ 6) h
              · cases h
              · omega)
            refine wp_region_quiet_bel (by kernel_rfl) (by kernel_rfl) ?_
            go_big_quiet_step (fail)
            go_big_quiet_step (fail)
            go_big_quiet_step (fail)
            go_big_quiet_step (fail)
            go_big_quiet_step (fail)
            go_big_quiet_step (fail)
            go_big_quiet_step (fail)
            go_big_quiet_step (fail)
            go_big_quiet_step (fail)
            refine wpQuiet_want (by rfl) fun K hK => quiet_ld 29 (.tmp 1) (by rfl) w.heap.size 0 (by rfl) _ _ HRA.out Try.underlying29 rfl HSZ.out (hK _ ?_)
            simp only [Act.put, List.setIfInBounds_toArray, List.set_cons_succ, List.set_cons_zero]
            refine wpQuiet_want (by rfl) fun K hK => quiet_ld 29 (.tmp 1) (by rfl) w.heap.size 0 (by rfl) _ _ HRA.out Try.underlying29 rfl HSZ.out (hK _ ?_)
            simp only [Act.put, List.setIfInBounds_toArray, List.set_cons_succ, List.set_cons_zero]
            go_big_quiet_step (first | (go_at_call 45; exact bel_of (HON.out _)))
            go_big_quiet_step (first | (go_at_call 18; exact bel_of (HSM.out _)))
            go_big_quiet_step (fail)
            go_big_quiet_step (fail)
            go_big_quiet_step (fail)
            go_big_quiet_step (fail)
            go_big_quiet_step (fail)
            go_big_quiet_step (fail)
            go_big_quiet_step (fail)
            go_big_quiet_step (fail)
            go_big_quiet_step (fail)
            refine wpQuiet_nil ?_
            rintro w2 ⟨⟨w2', hb2⟩, hw2⟩
            obtain rfl : w2 = w2' := hw2
            go_wp2
            go_meet
            case rel => exact ⟨congrArg Value.bool HB.out, hb2⟩
  case rest =>
    as_aux_lemma =>
      obtain ⟨rfl, hb2⟩ := hcut
      have HN2 := hid ((hb2.block _ HL.out).trans HNB.out)
      have HA2 := hid (HA1.out.below hb2)
      have HB2 := hid (below_then HBL.out hb2)
      clear hb2 HA1 HBL HNB HL
      have HFB := hid (Fb.of HN2.out HR.out.tool)
      have x0 := HFB.out.k
      have x2 := HFB.out.v
      have x3 := HFB.out.s
      have x5 := HFB.out.st
      have l1 := HFB.out.l1
      have l2 := HFB.out.l2
      have l3 := HFB.out.l3
      have x7 := HFB.out.a
      have x8 := HFB.out.bd
      clear HFB
      obtain ⟨b1, Hb1⟩ : ∃ b, Hid (bad1 f = b) := ⟨_, rfl⟩
      rw [Hb1.out]
      go_upto_region 2 with fail
      go_cut [3] from 5 (fun s3 wx => s3 = .bool (bad2 f) ∧ wx = wc)
      case first =>
        as_aux_lemma =>
          clear HN2 HA2 HB2 HSZ
          cases b1 with
          | true =>
            have HX := hid (show true = bad2 f from by unfold bad2; rw [Hb1.out]; rfl)
            as_aux_lemma =>
              go_wp2
              go_meet
              case rel => exact ⟨congrArg Value.bool HX.out, rfl⟩
          | false =>
            by_cases a1 : f.lim.1 < 0
            · have da1 : decide (f.lim.1 < 0) = true := decide_eq_true a1
              have HX := hid (show true = bad2 f from by unfold bad2; rw [Hb1.out, decide_eq_true (Or.inl a1)]; rfl)
              as_aux_lemma =>
                go_wp2
                go_meet
                case rel => exact ⟨congrArg Value.bool HX.out, rfl⟩
            · have da1 : decide (f.lim.1 < 0) = false := decide_eq_false a1
              by_cases a2 : f.lim.2.1 < 0
              · have da2 : decide (f.lim.2.1 < 0) = true := decide_eq_true a2
                have HX := hid (show true = bad2 f from by unfold bad2; rw [Hb1.out, decide_eq_true (Or.inr (Or.inl a2))]; rfl)
                as_aux_lemma =>
                  go_wp2
                  go_meet
                  case rel => exact ⟨congrArg Value.bool HX.out, rfl⟩
              · have da2 : decide (f.lim.2.1 < 0) = false := decide_eq_false a2
                by_cases a3 : f.lim.2.2 < 0
                · have da3 : decide (f.lim.2.2 < 0) = true := decide_eq_true a3
                  have HX := hid (show true = bad2 f from by unfold bad2; rw [Hb1.out, decide_eq_true (Or.inr (Or.inr a3))]; rfl)
                  as_aux_lemma =>
                    go_wp2
                    go_meet
                    case rel => exact ⟨congrArg Value.bool HX.out, rfl⟩
                · have da3 : decide (f.lim.2.2 < 0) = false := decide_eq_false a3
                  have HX := hid (show false = bad2 f from by unfold bad2; rw [Hb1.out, decide_eq_false (by rintro (h | h | h) <;> omega)]; rfl)
                  as_aux_lemma =>
                    go_wp2
                    go_meet
                    case rel => exact ⟨congrArg Value.bool HX.out, rfl⟩
      case rest =>
        as_aux_lemma =>
          obtain ⟨rfl, rfl⟩ := hcut
          clear Hb1
          obtain ⟨b2, Hb2⟩ : ∃ b, Hid (bad2 f = b) := ⟨_, rfl⟩
          rw [Hb2.out]
          go_upto_region 3 with fail
          go_cut [3] from 5 (fun s3 wx => s3 = .bool (bad3 f) ∧ wx = wc)
          case first =>
            as_aux_lemma =>
              clear HN2 HA2 HB2 HSZ
              cases b2 with
              | true =>
                have HX := hid (show true = bad3 f from by unfold bad3; rw [Hb2.out]; rfl)
                as_aux_lemma =>
                  go_wp2
                  go_meet
                  case rel => exact ⟨congrArg Value.bool HX.out, rfl⟩
              | false =>
                by_cases a0 : f.kind = 1
                · have da0 : decide (f.kind = 1) = true := decide_eq_true a0
                  have ea0 : (f.kind == 1) = true := by simpa using a0
                  have ga0 : (f.kind != 1) = false := by simpa using a0
                  by_cases a1 : f.ver = 1
                  · have da1 : decide (f.ver = 1) = true := decide_eq_true a1
                    have ea1 : (f.ver == 1) = true := by simpa using a1
                    have ga1 : (f.ver != 1) = false := by simpa using a1
                    by_cases a2 : f.slots < 1
                    · have da2 : decide (f.slots < 1) = true := decide_eq_true a2
                      have HX := hid (show true = bad3 f from by unfold bad3; rw [Hb2.out, decide_eq_true (⟨a0, Or.inr (Or.inl a2)⟩)]; rfl)
                      as_aux_lemma =>
                        go_wp2
                        go_meet
                        case rel => exact ⟨congrArg Value.bool HX.out, rfl⟩
                    · have da2 : decide (f.slots < 1) = false := decide_eq_false a2
                      by_cases a3 : 64 < f.slots
                      · have da3 : decide (64 < f.slots) = true := decide_eq_true a3
                        have HX := hid (show true = bad3 f from by unfold bad3; rw [Hb2.out, decide_eq_true (⟨a0, Or.inr (Or.inr a3)⟩)]; rfl)
                        as_aux_lemma =>
                          go_wp2
                          go_meet
                          case rel => exact ⟨congrArg Value.bool HX.out, rfl⟩
                      · have da3 : decide (64 < f.slots) = false := decide_eq_false a3
                        have HX := hid (show false = bad3 f from by unfold bad3; rw [Hb2.out, decide_eq_false (by rintro ⟨_, h | h | h⟩ <;> omega)]; rfl)
                        as_aux_lemma =>
                          go_wp2
                          go_meet
                          case rel => exact ⟨congrArg Value.bool HX.out, rfl⟩
                  · have da1 : decide (f.ver = 1) = false := decide_eq_false a1
                    have ea1 : (f.ver == 1) = false := by simpa using a1
                    have ga1 : (f.ver != 1) = true := by simpa using a1
                    have HX := hid (show true = bad3 f from by unfold bad3; rw [Hb2.out, decide_eq_true (⟨a0, Or.inl a1⟩)]; rfl)
                    as_aux_lemma =>
                      go_wp2
                      go_meet
                      case rel => exact ⟨congrArg Value.bool HX.out, rfl⟩
                · have da0 : decide (f.kind = 1) = false := decide_eq_false a0
                  have ea0 : (f.kind == 1) = false := by simpa using a0
                  have ga0 : (f.kind != 1) = true := by simpa using a0
                  have HX := hid (show false = bad3 f from by unfold bad3; rw [Hb2.out, decide_eq_false (fun h => a0 h.1)]; rfl)
                  as_aux_lemma =>
                    go_wp2
                    go_meet
                    case rel => exact ⟨congrArg Value.bool HX.out, rfl⟩
          case rest =>
            as_aux_lemma =>
              obtain ⟨rfl, rfl⟩ := hcut
              clear Hb2
              obtain ⟨b3, Hb3⟩ : ∃ b, Hid (bad3 f = b) := ⟨_, rfl⟩
              rw [Hb3.out]
              go_upto_region 4 with fail
              go_cut [3] from 5 (fun s3 wx => s3 = .bool (bad4 f) ∧ wx = wc)
              case first =>
                as_aux_lemma =>
                  clear HN2 HA2 HB2 HSZ
                  cases b3 with
                  | true =>
                    have HX := hid (show true = bad4 f from by unfold bad4; rw [Hb3.out]; rfl)
                    as_aux_lemma =>
                      go_wp2
                      go_meet
                      case rel => exact ⟨congrArg Value.bool HX.out, rfl⟩
                  | false =>
                    by_cases a0 : f.kind = 3
                    · have da0 : decide (f.kind = 3) = true := decide_eq_true a0
                      have ea0 : (f.kind == 3) = true := by simpa using a0
                      have ga0 : (f.kind != 3) = false := by simpa using a0
                      by_cases a1 : f.status < 1
                      · have da1 : decide (f.status < 1) = true := decide_eq_true a1
                        have HX := hid (show true = bad4 f from by unfold bad4; rw [Hb3.out, decide_eq_true (⟨a0, Or.inl a1⟩)]; rfl)
                        as_aux_lemma =>
                          go_wp2
                          go_meet
                          case rel => exact ⟨congrArg Value.bool HX.out, rfl⟩
                      · have da1 : decide (f.status < 1) = false := decide_eq_false a1
                        by_cases a2 : 3 < f.status
                        · have da2 : decide (3 < f.status) = true := decide_eq_true a2
                          have HX := hid (show true = bad4 f from by unfold bad4; rw [Hb3.out, decide_eq_true (⟨a0, Or.inr (Or.inl a2)⟩)]; rfl)
                          as_aux_lemma =>
                            go_wp2
                            go_meet
                            case rel => exact ⟨congrArg Value.bool HX.out, rfl⟩
                        · have da2 : decide (3 < f.status) = false := decide_eq_false a2
                          by_cases a3 : f.status = 1
                          · have da3 : decide (f.status = 1) = true := decide_eq_true a3
                            have ea3 : (f.status == 1) = true := by simpa using a3
                            have ga3 : (f.status != 1) = false := by simpa using a3
                            have HX := hid (show false = bad4 f from by unfold bad4; rw [Hb3.out, decide_eq_false (by rintro ⟨_, h | h | h⟩ <;> omega)]; rfl)
                            as_aux_lemma =>
                              go_wp2
                              go_meet
                              case rel => exact ⟨congrArg Value.bool HX.out, rfl⟩
                          · have da3 : decide (f.status = 1) = false := decide_eq_false a3
                            have ea3 : (f.status == 1) = false := by simpa using a3
                            have ga3 : (f.status != 1) = true := by simpa using a3
                            by_cases a4 : f.body = []
                            · have e4 : (mk f.body).toList = [] := (bl_mk f.body).trans a4
                              have e5 : ((mk f.body).toList == []) = true := by rw [e4]; rfl
                              have e6 : (mk f.body) = ⟨#[]⟩ := by rw [a4]; rfl
                              have e7 : ((mk f.body).toList != []) = false := by rw [e4]; rfl
                              have HX := hid (show false = bad4 f from by unfold bad4; rw [Hb3.out, decide_eq_false (by rintro ⟨_, h | h | h⟩ <;> first | omega | exact h.2 a4)]; rfl)
                              clear a4 e6
                              as_aux_lemma =>
                                go_wp2
                                go_meet
                                case rel => exact ⟨congrArg Value.bool HX.out, rfl⟩
                            · have e4 : ¬ (mk f.body).toList = [] := fun h => a4 ((bl_mk f.body).symm.trans h)
                              have e5 : ((mk f.body).toList == []) = false := by simpa using e4
                              have e7 : ((mk f.body).toList != []) = true := by simpa using e4
                              have e8 : (mk f.body).toList.isEmpty = false := by rw [List.isEmpty_eq_false_iff]; exact e4
                              have HX := hid (show true = bad4 f from by unfold bad4; rw [Hb3.out, decide_eq_true (⟨a0, Or.inr (Or.inr ⟨a3, a4⟩)⟩)]; rfl)
                              as_aux_lemma =>
                                go_wp2
                                go_meet
                                case rel => exact ⟨congrArg Value.bool HX.out, rfl⟩
                    · have da0 : decide (f.kind = 3) = false := decide_eq_false a0
                      have ea0 : (f.kind == 3) = false := by simpa using a0
                      have ga0 : (f.kind != 3) = true := by simpa using a0
                      have HX := hid (show false = bad4 f from by unfold bad4; rw [Hb3.out, decide_eq_false (fun h => a0 h.1)]; rfl)
                      as_aux_lemma =>
                        go_wp2
                        go_meet
                        case rel => exact ⟨congrArg Value.bool HX.out, rfl⟩
              case rest =>
                as_aux_lemma =>
                  obtain ⟨rfl, rfl⟩ := hcut
                  clear Hb3
                  clear x2 x3 x5 l1 l2 l3
                  go_wp2_with fail
                  go_loopw [3, 4] (fun b i wr => ∃ k : Nat, k ≤ f.args.length ∧ i = .int .i64 k ∧ wr = wc ∧ ∃ B, b = .bool B ∧ Hid ((bad4 f || longA (f.args.take k)) = B)) (fun _ i _ => f.args.length - (intOf i).toNat)
                  case atStart => exact ⟨0, by omega, rfl, rfl, _, rfl, hid (by simp [longA])⟩
                  case round =>
                    obtain ⟨k, hk, rfl, rfl, B, rfl, HBK⟩ := hrel
                    by_cases hlt : k < f.args.length
                    · have hki : (k : Int) < (f.args.length : Int) := by omega
                      have hd : decide ((k : Int) < (f.args.length : Int)) = true := by simpa using hki
                      have hkw : IntKind.i64.wrap ((k : Int) + 1) = (k : Int) + 1 := by have := HR.out.many; rw [IntKind.wrap_i64]; omega
                      cases B with
                      | true =>
                        as_aux_lemma =>
                          have HE := hid (show chkE f = 70 by
                            have h : (bad4 f || longA f.args) = true := by
                              have h := HBK.out
                              rw [Bool.or_eq_true] at h ⊢
                              exact h.imp_right long_take
                            rw [bad_ok] at h
                            unfold chkE
                            rw [if_neg (by intro h2; rw [h2] at h; cases h)])
                          go_wp2
                          go_ret
                          exact ⟨by rw [HE.out]; rfl, HB2.out⟩
                      | false =>
                        as_aux_lemma =>
                          obtain ⟨g1, o1, rfl, c1⟩ := HA2.out.at k hlt
                          have HS : (mk (f.args.getD k [])).size = (f.args.getD k []).length := mk_size _
                          have h0 : bad4 f = false ∧ longA (f.args.take k) = false := by
                            have h := HBK.out
                            rw [Bool.or_eq_false_iff] at h
                            exact h
                          by_cases hlg : 4096 < (f.args.getD k []).length
                          · have HY := hid (show (bad4 f || longA (f.args.take (k + 1))) = true by
                              rw [Bool.or_eq_true]
                              refine Or.inr (long_yes (k := k) (by simp; omega) ?_)
                              rw [List.getD_eq_getElem?_getD, List.getElem?_take_of_lt (by omega), ← List.getD_eq_getElem?_getD]
                              exact hlg)
                            obtain ⟨M, HM⟩ : ∃ M : Nat, Hid ((f.args.getD k []).length = M) := ⟨_, rfl⟩
                            rw [HM.out] at HS hlg
                            have q1 : (4096 : Int) < (M : Int) := by omega
                            have q2 : decide ((4096 : Int) < (M : Int)) = true := decide_eq_true q1
                            clear hlg h0 HBK
                            generalize mk (f.args.getD k []) = s at *
                            go_wp2
                            exact ⟨⟨k + 1, by omega, by simp, by first | rfl | trivial, _, rfl, HY⟩, by simp [intOf]; omega⟩
                          · have HY := hid (show (bad4 f || longA (f.args.take (k + 1))) = false by
                              rw [h0.1, long_no hlt h0.2 hlg]
                              rfl)
                            obtain ⟨M, HM⟩ : ∃ M : Nat, Hid ((f.args.getD k []).length = M) := ⟨_, rfl⟩
                            rw [HM.out] at HS hlg
                            have q1 : ¬ (4096 : Int) < (M : Int) := by omega
                            have q2 : decide ((4096 : Int) < (M : Int)) = false := decide_eq_false q1
                            clear hlg h0 HBK
                            generalize mk (f.args.getD k []) = s at *
                            go_wp2
                            exact ⟨⟨k + 1, by omega, by simp, by first | rfl | trivial, _, rfl, HY⟩, by simp [intOf]; omega⟩
                    · obtain rfl : k = f.args.length := by omega
                      rw [List.take_length, bad_ok] at HBK
                      cases B with
                      | true =>
                        as_aux_lemma =>
                          have HE := hid (show chkE f = 70 by
                            unfold chkE
                            rw [if_neg (by intro h2; have h := HBK.out; rw [h2] at h; cases h)])
                          go_wp2
                          go_ret
                          exact ⟨by rw [HE.out]; rfl, HB2.out⟩
                      | false =>
                        as_aux_lemma =>
                          have HO := hid (show okFr f = true by have h := HBK.out; simpa using h)
                          have hbs : (mk f.body).size = f.body.length := mk_size _
                          clear HBK
                          by_cases hB : 2097152 < f.body.length
                          · have HE := hid (show chkE f = 3 by
                              unfold chkE
                              rw [if_pos HO.out, if_pos (body_gt f HO.out hB)])
                            have q1 : (2097152 : Int) < (f.body.length : Int) := by omega
                            have q2 : decide ((2097152 : Int) < (f.body.length : Int)) = true := decide_eq_true q1
                            clear hB
                            go_wp2
                            go_ret
                            exact ⟨by rw [HE.out]; rfl, HB2.out⟩
                          · have q1 : ¬ (2097152 : Int) < (f.body.length : Int) := by omega
                            have q2 : decide ((2097152 : Int) < (f.body.length : Int)) = false := decide_eq_false q1
                            have HBO := hid (rbodyF_any f (.slice ao f.args.length c) wr HR.out HA2.out (okFr_of HO.out).1 (okFr_of HO.out).2.2 (by omega))
                            have HRG := hid (range_row HN2.out)
                            clear hB
                            go_wp2_with (refine ld_gd (by rfl) 29 (.tmp 1) (by rfl) w.heap.size 0 (by rfl) _ _ HRG.out Try.underlying29 rfl HSZ.out ?_)
                            refine HBO.out.mono ?_
                            rintro e w3 ⟨v3, rfl, hs3, hb3⟩
                            obtain ⟨a3, c3, rfl⟩ := src_shape hs3
                            have HB3 := hid (below_then HB2.out hb3)
                            have HE : Hid (chkE f = if 2097152 < (bodyP f).length then 3 else 0) := hid (by unfold chkE; rw [if_pos HO.out])
                            obtain ⟨M, HM⟩ : ∃ M : Nat, Hid ((bodyP f).length = M) := ⟨_, rfl⟩
                            rw [HM.out] at HE ⊢
                            clear hs3 hb3 HB2 HBO HRG HN2 HA2 HO x0 x7 x8 q1 q2
                            by_cases hM : 2097152 < M
                            · have q1 : (2097152 : Int) < (M : Int) := by omega
                              have q2 : decide ((2097152 : Int) < (M : Int)) = true := decide_eq_true q1
                              rw [if_pos hM] at HE
                              clear hM
                              go_wp2
                              go_ret
                              exact ⟨by rw [HE.out]; rfl, HB3.out⟩
                            · have q1 : ¬ (2097152 : Int) < (M : Int) := by omega
                              have q2 : decide ((2097152 : Int) < (M : Int)) = false := decide_eq_false q1
                              rw [if_neg hM] at HE
                              clear hM
                              go_wp2
                              go_ret
                              exact ⟨by rw [HE.out]; rfl, HB3.out⟩
end Go.Proofs.Ytjinkahlfigdcaa

/- The document's Encode of every frame. -/
namespace Go.Proofs.Ytjinkahlfigdcaa
open Go.RowKit Go.BigFrame

set_option maxRecDepth 100000 in
set_option maxHeartbeats 4000000 in
theorem rencF_err (f : Fr) (va : Value) (w : World) (hr : Rng f) (ha : Strs w va f.args) (h : chkE f ≠ 0) :
    Calls Try.prog 10 #[.agg (fcells f va).toArray] w fun e w' => e = .returned (.tuple #[.slice none 0 0, .int .i64 (chkE f)]) ∧ Below w.heap.size w w' := by
  have HNB := hid (hp_new w (.cells (fcells f va).toArray 29))
  have HBL := hid (below_walk w (.cells (fcells f va).toArray 29))
  have HSZ := hid (frame_size f va hr.tool)
  have HCK := hid (rcheckF_any f va _ hr (ha.below HBL.out))
  obtain ⟨E, HE⟩ : ∃ E, Hid (chkE f = E) := ⟨_, rfl⟩
  rw [HE.out] at h HCK
  have q1 : (E != 0) = true := by simpa using h
  have q2 : (E == 0) = false := by simpa using h
  clear ha hr h
  go_enter Try.func10, Try.ntmps10
  go_upto_region 1 with fail
  generalize w.alloc (.cells (fcells f va).toArray 29) = w1 at HNB HBL HCK ⊢
  generalize fcells f va = FF at *
  go_wp2_with (refine ld_row (by rfl) 29 (.tmp 1) (by rfl) w.heap.size (by rfl) FF 29 HNB.out _ Try.underlying29 rfl HSZ.out ?_)
  refine HCK.out.mono ?_
  rintro e w2 ⟨rfl, hb2⟩
  have HB2 := hid (below_then HBL.out hb2)
  clear hb2 HNB HBL HCK
  go_wp2
  go_ret2
  exact ⟨by rw [HE.out]; rfl, HB2.out⟩

set_option maxRecDepth 100000 in
set_option maxHeartbeats 4000000 in
theorem rencF_ok (f : Fr) (va : Value) (w : World) (hr : Rng f) (ha : Strs w va f.args) (h : chkE f = 0) :
    Calls Try.prog 10 #[.agg (fcells f va).toArray] w fun e w' => ∃ v, e = .returned (.tuple #[v, .int .i64 0]) ∧ OwnB w' w.heap.size v (encP f) ∧ Below w.heap.size w w' := by
  have HNB := hid (hp_new w (.cells (fcells f va).toArray 29))
  have HBL := hid (below_walk w (.cells (fcells f va).toArray 29))
  have HSZ := hid (frame_size f va hr.tool)
  have HCK := hid (rcheckF_any f va _ hr (ha.below HBL.out))
  rw [h] at HCK
  obtain ⟨ho, hl⟩ := chk_ok h
  have hBl : f.body.length ≤ 2097152 := by
    rcases Nat.lt_or_ge 2097152 f.body.length with h1 | h1
    · have := body_gt f ho h1
      omega
    · exact h1
  have HBO := hid (fun W (hW : Strs W va f.args) => rbodyF_any f va W hr hW (okFr_of ho).1 (okFr_of ho).2.2 hBl)
  have HA := hid (ha.below HBL.out)
  obtain ⟨EP, HEP⟩ : ∃ E, Hid (encP f = E) := ⟨_, rfl⟩
  have HEN : Hid (EP = sealP (sn (bodyP f).length ++ bodyP f)) := hid (HEP.out.symm)
  have hsl := sn_length_le (bodyP f).length
  clear ha hr h ho hBl
  go_enter Try.func10, Try.ntmps10
  go_upto_region 1 with fail
  generalize w.alloc (.cells (fcells f va).toArray 29) = w1 at HNB HBL HCK HA ⊢
  generalize fcells f va = FF at *
  generalize bodyP f = BP at *
  obtain ⟨M, HM⟩ : ∃ M : Nat, Hid (BP.length = M) := ⟨_, rfl⟩
  rw [HM.out] at hl hsl HEN
  go_wp2_with (refine ld_row (by rfl) 29 (.tmp 1) (by rfl) w.heap.size (by rfl) FF 29 HNB.out _ Try.underlying29 rfl HSZ.out ?_)
  refine HCK.out.mono ?_
  rintro e w2 ⟨rfl, hb2⟩
  have HN2 := hid ((hb2.block _ (hp_lt HNB.out)).trans HNB.out)
  have HB2 := hid (below_then HBL.out hb2)
  have HA2 := hid (HA.out.below hb2)
  clear hb2 HNB HBL HCK HA
  go_wp2_with (refine ld_row (by rfl) 29 (.tmp 1) (by rfl) w.heap.size (by rfl) FF 29 HN2.out _ Try.underlying29 rfl HSZ.out ?_)
  refine (HBO.out w2 HA2.out).mono ?_
  rintro e w3 ⟨v3, rfl, hs3, hb3⟩
  obtain ⟨ao, c, rfl⟩ := src_shape hs3
  have HS3 := hid hs3
  have HB3 := hid (below_then HB2.out hb3)
  have hw1 : IntKind.u64.wrap (M : Int) = (M : Int) := by rw [IntKind.wrap_u64]; omega
  rw [HM.out] at HS3 ⊢
  clear hs3 hb3 HN2 HB2 HBO HA2
  go_wp2_with fail
  refine (refUint_any M w3 (by omega)).mono ?_
  rintro e w4 ⟨v4, rfl, ho4, hb4⟩
  have HO4 := hid ho4
  have HS4 := hid (HS3.out.below hb4)
  have HB4 := hid (below_then HB3.out hb4)
  have HZ4 := hid hb4.size
  obtain ⟨a4, c4, e4⟩ := src_shape (ho4.src (by omega))
  subst e4
  clear ho4 hb4 HS3 hw1
  go_wp2_with (at_builtin; refine app_src rfl _ _ rfl w3.heap.size _ (sn M) rfl HO4.out _ BP rfl HS4.out (by rw [HM.out]; omega) HZ4.out ?_)
  intro v5 w5 ho5 hg5
  have hs5 : Src w5 v5 (sn M ++ BP) := ho5.src (by rw [List.length_append, HM.out]; omega)
  have HB5 := hid (show Below w.heap.size w w5 from below_tr HB4.out ⟨hg5.os, hg5.tape, hg5.output, hg5.size, fun k hk => hg5.block k (by have := HB3.out.size; have := HZ4.out; omega) (fun e => by have := (HO4.out.lt k e.symm).1; have := HB3.out.size; omega)⟩)
  have HSE := hid (rseal_any w5 v5 (sn M ++ BP) hs5 (by rw [List.length_append, HM.out]; omega))
  obtain ⟨a5, c5, e5⟩ := src_shape hs5
  obtain ⟨M5, HM5⟩ : ∃ M5, Hid ((sn M ++ BP).length = M5) := ⟨_, rfl⟩
  rw [HM5.out] at e5
  subst e5
  clear ho5 hg5 hs5 HB4 HB3 HZ4 HO4 HS4
  go_wp2_with fail
  refine HSE.out.mono ?_
  rintro e w6 ⟨v6, rfl, ho6, hb6⟩
  rw [← HEN.out] at ho6
  have HO6 := hid (ho6.le HB5.out.size)
  have HB7 := hid (below_then HB5.out hb6)
  obtain ⟨a6, c6, e6⟩ := src_shape (ho6.src (by rw [HEN.out, sealP_length, List.length_append, HM.out]; omega))
  obtain ⟨M6, HM6⟩ : ∃ M6, Hid (EP.length = M6) := ⟨_, rfl⟩
  rw [HM6.out] at e6
  subst e6
  clear ho6 hb6
  go_wp2
  go_ret2
  refine ⟨_, rfl, ?_, HB7.out⟩
  rw [HEP.out]
  exact HO6.out

end Go.Proofs.Ytjinkahlfigdcaa

/- FrameWrites answers true. -/
namespace Go.Proofs.Ytjinkahlfigdcaa
open Go.RowKit Go.BigFrame

theorem enc_len {f : Fr} (h : chkE f = 0) : (encP f).length ≤ 3000000 := by
  have hl := (chk_ok h).2
  have := sn_length_le (bodyP f).length
  unfold encP
  rw [sealP_length, List.length_append]
  omega

set_option maxRecDepth 100000 in
set_option maxHeartbeats 4000000 in
theorem lawWrites_any (f : Fr) (va : Value) (w : World) (hr : Rng f) (ha : Strs w va f.args) :
    Calls Try.prog 3 #[.agg (fcells f va).toArray] w fun e w' => e = .returned (.bool true) ∧ Below w.heap.size w w' := by
  have HNB := hid (hp_new w (.cells (fcells f va).toArray 29))
  have HBL := hid (below_walk w (.cells (fcells f va).toArray 29))
  have HSZ := hid (frame_size f va hr.tool)
  have HA := hid (ha.below HBL.out)
  have HSI := hid (fun W (hW : Strs W va f.args) => sizeF_any f va W hr hW)
  have HCK := hid (fun W (hW : Strs W va f.args) => checkF_any f va W hr hW)
  by_cases h : chkE f = 0
  · have HEN := hid (fun W (hW : Strs W va f.args) => encF_ok f va W hr hW h)
    have HRE := hid (fun W (hW : Strs W va f.args) => rencF_ok f va W hr hW h)
    have hl := enc_len h
    unfold sizeN at HSI
    rw [if_pos h] at HSI
    rw [h] at HSI HCK
    clear ha hr h
    as_aux_lemma =>
      go_enter Try.func3, Try.ntmps3
      go_upto_region 1 with fail
      generalize w.alloc (.cells (fcells f va).toArray 29) = w1 at HNB HBL HA ⊢
      generalize fcells f va = FF at *
      generalize encP f = EP at *
      obtain ⟨M, HM⟩ : ∃ M : Nat, Hid (EP.length = M) := ⟨_, rfl⟩
      rw [HM.out] at hl HSI
      go_wp2_with (refine ld_row (by rfl) 29 (.tmp 1) (by rfl) w.heap.size (by rfl) FF 29 HNB.out _ Try.underlying29 rfl HSZ.out ?_)
      refine (HEN.out w1 HA.out).mono ?_
      rintro e w2 ⟨v2, rfl, ho2, hb2⟩
      have HN2 := hid ((hb2.block _ (hp_lt HNB.out)).trans HNB.out)
      have HB2 := hid (below_then HBL.out hb2)
      have HA2 := hid (HA.out.below hb2)
      have HS2 := hid (ho2.src (by rw [HM.out]; omega))
      obtain ⟨a2, c2, e2⟩ := src_shape HS2.out
      rw [HM.out] at e2
      subst e2
      clear ho2 hb2 HNB HBL HA HEN
      go_wp2_with (refine ld_row (by rfl) 29 (.tmp 1) (by rfl) w.heap.size (by rfl) FF 29 HN2.out _ Try.underlying29 rfl HSZ.out ?_)
      refine (HRE.out w2 HA2.out).mono ?_
      rintro e w3 ⟨v3, rfl, ho3, hb3⟩
      have HN3 := hid ((hb3.block _ (hp_lt HN2.out)).trans HN2.out)
      have HB3 := hid (below_then HB2.out hb3)
      have HA3 := hid (HA2.out.below hb3)
      have HT3 := hid (HS2.out.below hb3)
      have HS3 := hid (ho3.src (by rw [HM.out]; omega))
      obtain ⟨a3, c3, e3⟩ := src_shape HS3.out
      rw [HM.out] at e3
      subst e3
      clear ho3 hb3 HN2 HB2 HA2 HRE HS2
      go_wp2_with (refine ld_row (by rfl) 29 (.tmp 1) (by rfl) w.heap.size (by rfl) FF 29 HN3.out _ Try.underlying29 rfl HSZ.out ?_)
      refine (HSI.out w3 HA3.out).mono ?_
      rintro e w4 ⟨rfl, hb4⟩
      have HN4 := hid ((hb4.block _ (hp_lt HN3.out)).trans HN3.out)
      have HB4 := hid (below_then HB3.out hb4)
      have HA4 := hid (HA3.out.below hb4)
      have HT4 := hid (HT3.out.below hb4)
      have HS4 := hid (HS3.out.below hb4)
      clear hb4 HN3 HB3 HA3 HT3 HS3 HSI
      go_wp2_with fail
      refine (equal_true _ _ _ w4 HT4.out HS4.out).mono ?_
      rintro e w5 ⟨rfl, hw5⟩
      have hw5 := hw5.symm
      subst hw5
      have HRG := hid (range_row HN4.out)
      go_wp2_with (refine ld_gd (by rfl) 29 (.tmp 1) (by rfl) w.heap.size 0 (by rfl) _ _ HRG.out Try.underlying29 rfl HSZ.out ?_)
      refine (HCK.out w4 HA4.out).mono ?_
      rintro e w6 ⟨rfl, hb6⟩
      have HB6 := hid (below_then HB4.out hb6)
      clear hb6 HN4 HB4 HA4 HT4 HS4 HCK HRG
      go_wp2_with fail
      refine (alive_any w6).mono ?_
      rintro e w7 ⟨rfl, hb7⟩
      have HB7 := hid (below_then HB6.out hb7)
      clear hb7 HB6
      go_wp2
      go_ret
      exact ⟨rfl, HB7.out⟩
  · have HEN := hid (fun W (hW : Strs W va f.args) => encF_err f va W hr hW h)
    have HRE := hid (fun W (hW : Strs W va f.args) => rencF_err f va W hr hW h)
    unfold sizeN at HSI
    rw [if_neg h] at HSI
    clear ha hr h
    as_aux_lemma =>
      go_enter Try.func3, Try.ntmps3
      go_upto_region 1 with fail
      generalize w.alloc (.cells (fcells f va).toArray 29) = w1 at HNB HBL HA ⊢
      generalize fcells f va = FF at *
      generalize chkE f = EE at *
      have q1 : (EE == EE) = true := by simp
      go_wp2_with (refine ld_row (by rfl) 29 (.tmp 1) (by rfl) w.heap.size (by rfl) FF 29 HNB.out _ Try.underlying29 rfl HSZ.out ?_)
      refine (HEN.out w1 HA.out).mono ?_
      rintro e w2 ⟨rfl, hb2⟩
      have HN2 := hid ((hb2.block _ (hp_lt HNB.out)).trans HNB.out)
      have HB2 := hid (below_then HBL.out hb2)
      have HA2 := hid (HA.out.below hb2)
      clear hb2 HNB HBL HA HEN
      go_wp2_with (refine ld_row (by rfl) 29 (.tmp 1) (by rfl) w.heap.size (by rfl) FF 29 HN2.out _ Try.underlying29 rfl HSZ.out ?_)
      refine (HRE.out w2 HA2.out).mono ?_
      rintro e w3 ⟨rfl, hb3⟩
      have HN3 := hid ((hb3.block _ (hp_lt HN2.out)).trans HN2.out)
      have HB3 := hid (below_then HB2.out hb3)
      have HA3 := hid (HA2.out.below hb3)
      clear hb3 HN2 HB2 HA2 HRE
      go_wp2_with (refine ld_row (by rfl) 29 (.tmp 1) (by rfl) w.heap.size (by rfl) FF 29 HN3.out _ Try.underlying29 rfl HSZ.out ?_)
      refine (HSI.out w3 HA3.out).mono ?_
      rintro e w4 ⟨rfl, hb4⟩
      have HN4 := hid ((hb4.block _ (hp_lt HN3.out)).trans HN3.out)
      have HB4 := hid (below_then HB3.out hb4)
      have HA4 := hid (HA3.out.below hb4)
      clear hb4 HN3 HB3 HA3 HSI
      go_wp2_with fail
      refine (equal_true _ _ _ w4 (srcNil w4) (srcNil w4)).mono ?_
      rintro e w5 ⟨rfl, hw5⟩
      have hw5 := hw5.symm
      subst hw5
      have HRG := hid (range_row HN4.out)
      go_wp2_with (refine ld_gd (by rfl) 29 (.tmp 1) (by rfl) w.heap.size 0 (by rfl) _ _ HRG.out Try.underlying29 rfl HSZ.out ?_)
      refine (HCK.out w4 HA4.out).mono ?_
      rintro e w6 ⟨rfl, hb6⟩
      have HB6 := hid (below_then HB4.out hb6)
      clear hb6 HN4 HB4 HA4 HCK HRG
      go_wp2_with fail
      refine (alive_any w6).mono ?_
      rintro e w7 ⟨rfl, hb7⟩
      have HB7 := hid (below_then HB6.out hb7)
      clear hb7 HB6
      go_wp2
      go_ret
      exact ⟨rfl, HB7.out⟩

end Go.Proofs.Ytjinkahlfigdcaa

/- FrameForm answers true. -/
namespace Go.Proofs.Ytjinkahlfigdcaa
open Go.RowKit Go.BigFrame

theorem faultG : Try.prog.eqGuardType Try.prog.depth 47 = false := by kernel_rfl
theorem fault_run (a b x y : Int) (w : World) : (Op.equalIn 10000 47 (.agg #[.int .i64 a, .int .i64 b]) (.agg #[.int .i64 x, .int .i64 y])).run Try.prog w = .ok (a == x && b == y) w := by
  have hS : Try.prog.underlying 47 = some (.struct (Try.prog.fieldsOf 47)) := by kernel_rfl
  have hp : Try.prog.stoodInHeld 47 = false := by kernel_rfl
  have u3 := Try.underlying3
  have a3 := Try.isAgg3
  have z3 := Try.sizeOf3
  have u4 := Try.underlying31
  have a4 := Try.isAgg31
  have z4 := Try.sizeOf31
  rw [show (10000 : Nat) = 9999 + 1 from rfl, run_equalIn_agg w 9999 47 _ _ hS hp]
  simp only [Program.fieldsOf, Try.underlying47]
  go_simp
  by_cases h1 : a = x <;> by_cases h2 : b = y <;> simp [h1, h2]
theorem fault_neq (a b x y : Int) (w : World) : (binOp .neq 47 (.agg #[.int .i64 a, .int .i64 b]) (.agg #[.int .i64 x, .int .i64 y])).run Try.prog w = .ok (.bool (!decide ((a, b) = (x, y)))) w := by
  rw [run_neq_struct, fault_run]
  have : (a == x && b == y) = decide ((a, b) = (x, y)) := by
    rw [Bool.eq_iff_iff]
    simp
  rw [this]
  rfl
theorem fault_eql (a b x y : Int) (w : World) : (binOp .eql 47 (.agg #[.int .i64 a, .int .i64 b]) (.agg #[.int .i64 x, .int .i64 y])).run Try.prog w = .ok (.bool (decide ((a, b) = (x, y)))) w := by
  rw [run_eql_struct, fault_run]
  have : (a == x && b == y) = decide ((a, b) = (x, y)) := by
    rw [Bool.eq_iff_iff]
    simp
  rw [this]
  rfl

set_option maxRecDepth 100000 in
set_option maxHeartbeats 4000000 in
theorem lawForm_any (v : Value) (bs : List UInt8) (w : World) (hs : Src w v bs) :
    Calls Try.prog 6 #[v] w fun e w' => e = .returned (.bool true) ∧ Below w.heap.size w w' := by
  obtain ⟨av, cv, rfl⟩ := src_shape hs
  have HDE := hid (decode_any _ bs w hs)
  have HS := hid hs
  have hsl := hs.1
  have hg := faultG
  obtain ⟨f, HF⟩ : ∃ f, Hid ((decP bs).1 = f) := ⟨_, rfl⟩
  obtain ⟨E1, HE1⟩ : ∃ f, Hid ((decP bs).2.1 = f) := ⟨_, rfl⟩
  obtain ⟨E2, HE2⟩ : ∃ f, Hid ((decP bs).2.2 = f) := ⟨_, rfl⟩
  rw [HF.out, HE1.out, HE2.out] at HDE
  obtain ⟨L, HL⟩ : ∃ n, Hid (bs.length = n) := ⟨_, rfl⟩
  clear hs
  go_enter Try.func6, Try.ntmps6
  go_wp2_with fail
  refine HDE.out.mono ?_
  rintro e w1 ⟨va, rfl, hoa, hb1⟩
  have HRN := hid (show Rng f by rw [← HF.out]; exact dec_rng bs hsl (by rw [HF.out]; exact wowns_len hoa))
  have HST := hid (wowns_strs hoa)
  have HS1 := hid (HS.out.below hb1)
  have HB1 := hid hb1
  obtain ⟨aV, cV, eV⟩ := wowns_shape hoa
  have HSZ := hid (frame_size f va HRN.out.tool)
  have HON := hid (fcells_one f va (by rw [eV]; rfl))
  have HOS := hid (show (fcells zF nS).toArray.size = (fcells f va).length by rw [fcells_length _ _ HRN.out.tool]; rfl)
  have HCH := hid (fun W (hW : Strs W va f.args) => checkF_any f va W HRN.out hW)
  have HSM := hid (fun W (hW : Strs W va f.args) => rsame_any f zF va nS W HRN.out.tool rfl hW (strs_nil W) HRN.out.many)
  have HEN := hid (fun (h9 : chkE f = 0) W (hW : Strs W va f.args) => encF_ok f va W HRN.out hW h9)
  obtain ⟨FF, HFF⟩ : ∃ L, Hid (fcells f va = L) := ⟨_, rfl⟩
  rw [HFF.out] at HSZ HON HOS HCH HSM HEN ⊢
  clear hoa hb1 HDE HS eV
  -- the two answers, in variables of their own
  go_upto_region 2 with (first
    | (refine al_row (by rfl) 29 (by rfl) _ zeroFrame ?_)
    | (refine st_row (by rfl) 29 _ _ (by rfl) w1.heap.size FF (by rfl) (by rfl) 29 _ (hp_two w1 _ _).1 HSZ.out HOS.out HON.out ?_; intro w2 hw2)
    | (refine st_row (by rfl) 47 _ _ (by rfl) (w1.heap.size + 1) [Value.int .i64 E1, .int .i64 E2] (by rfl) (by rfl) 47 _ (gb_keep hw2.grown (hp_two w1 _ _).2 (by omega)) faultSize rfl (fault_one _ _) ?_; intro w3 hw3))
  have HA := hid (gb_keep hw3.grown hw2.blk (by omega))
  have HT := hid hw3.blk
  have HB3 := hid (Below.of_gb (Below.of_gb (below_then HB1.out (below_walk2 w1 (.cells (fcells zF nS).toArray 29) (.cells #[.int .i64 0, .int .i64 0] 47))) hw2.grown HB1.out.size) hw3.grown (by have := HB1.out.size; omega))
  have HQ3 := hid (Below.of_gb (Below.of_gb (below_walk2 w1 (.cells (fcells zF nS).toArray 29) (.cells #[.int .i64 0, .int .i64 0] 47)) hw2.grown (Nat.le_refl _)) hw3.grown (by omega))
  have HST3 := hid (HST.out.below HQ3.out)
  have HS3 := hid (HS1.out.below HQ3.out)
  obtain ⟨A, HAe⟩ : ∃ n, Hid (w1.heap.size = n) := ⟨_, rfl⟩
  rw [HAe.out] at HA HT ⊢
  clear hw2 hw3 HST HS1 HB1 HQ3 HOS HON
  have n1 := fun W => fault_neq E1 E2 0 0 W
  have t0 : w3.cell? ⟨A + 1, 0, none⟩ = some (.int .i64 E1) := by simp [World.cell?, HT.out]
  have t1 : w3.cell? ⟨A + 1, 1, none⟩ = some (.int .i64 E2) := by simp [World.cell?, HT.out]
  by_cases h0 : E1 = 0
  · as_aux_lemma =>
      obtain ⟨d1, d2, d3⟩ := dec_form bs (by rw [HE1.out]; exact h0)
      rw [HF.out] at d1 d2
      have hE2 : E2 = 0 := by rw [← HE2.out, d3]
      subst h0 hE2
      have n2 : ∀ W, (binOp .neq 47 (.agg #[.int .i64 0, .int .i64 0]) (.agg #[.int .i64 0, .int .i64 0])).run Try.prog W = .ok (.bool false) W := fun W => n1 W
      have HE := hid (HEN.out d1)
      have HC := hid HCH.out
      rw [d1] at HC
      have HD2 := hid d2
      have HSM0 := hid hsl
      clear d1 d2 d3 n1 HEN HCH HSM
      go_wp2_with (refine ld_row (by rfl) 29 (.tmp 3) (by rfl) A (by rfl) FF 29 HA.out _ Try.underlying29 rfl HSZ.out ?_)
      refine (HE.out w3 HST3.out).mono ?_
      rintro e w4 ⟨v4, rfl, ho4, hb4⟩
      rw [HD2.out] at ho4
      have HS4 := hid (ho4.src HSM0.out)
      have HT4 := hid (HS3.out.below hb4)
      have HST4 := hid (HST3.out.below hb4)
      have HA4 := hid (bel_keep hb4 HA.out)
      have HB4 := hid (below_then HB3.out hb4)
      obtain ⟨a4, c4, e4⟩ := src_shape HS4.out
      rw [HL.out] at e4
      subst e4
      clear ho4 hb4 HE HS3 HST3 HA HB3 t0 t1 HT
      go_wp2_with fail
      refine (equal_true _ _ _ w4 HT4.out HS4.out).mono ?_
      rintro e w5 ⟨rfl, hw5⟩
      have hw5 := hw5.symm
      subst hw5
      have HRG := hid (range_row HA4.out)
      go_wp2_with (refine ld_gd (by rfl) 29 (.tmp 3) (by rfl) A 0 (by rfl) _ _ HRG.out Try.underlying29 rfl HSZ.out ?_)
      refine (HC.out w4 HST4.out).mono ?_
      rintro e w6 ⟨rfl, hb6⟩
      have HB6 := hid (below_then HB4.out hb6)
      clear hb6 HB4 HRG HST4 HS4 HT4 HA4
      go_wp2_with fail
      refine (alive_any w6).mono ?_
      rintro e w7 ⟨rfl, hb7⟩
      have HB7 := hid (below_then HB6.out hb7)
      clear hb7 HB6
      go_wp2
      go_ret
      exact ⟨rfl, HB7.out⟩
  · as_aux_lemma =>
      have HZ := hid (dec_none bs (by rw [HE1.out]; exact h0))
      rw [HF.out] at HZ
      have q1 : (E1 != 0) = true := by simpa using h0
      have q2 : (E1 == 0) = false := by simpa using h0
      have n2 : ∀ W, (binOp .neq 47 (.agg #[.int .i64 E1, .int .i64 E2]) (.agg #[.int .i64 0, .int .i64 0])).run Try.prog W = .ok (.bool true) W := fun W => by
        rw [n1 W]
        have : decide ((E1, E2) = ((0 : Int), (0 : Int))) = false := decide_eq_false (fun h => h0 (congrArg Prod.fst h))
        rw [this]
        rfl
      have HSA := hid HSM.out
      rw [HZ.out, sameP_self] at HSA
      clear n1 HEN HCH HSM h0
      go_wp2_with (first
        | (refine ld_row (by rfl) 29 (.tmp 3) (by rfl) A (by rfl) FF 29 HA.out _ Try.underlying29 rfl HSZ.out ?_)
        | (refine bd_row (by rfl) 29 #[] (by rfl) _ (by simp) _ built_zf ?_))
      refine (HSA.out w3 (HZ.out ▸ HST3.out)).mono ?_
      rintro e w4 ⟨rfl, hb4⟩
      have HT4 := hid (bel_keep hb4 HT.out)
      have HB4 := hid (below_then HB3.out hb4)
      clear hb4 HB3 t0 t1 HT HSA
      have t0 : w4.cell? ⟨A + 1, 0, none⟩ = some (.int .i64 E1) := by simp [World.cell?, HT4.out]
      go_wp2_with fail
      refine (alive_any w4).mono ?_
      rintro e w7 ⟨rfl, hb7⟩
      have HB7 := hid (below_then HB4.out hb7)
      clear hb7 HB4
      go_wp2
      go_ret
      exact ⟨rfl, HB7.out⟩
end Go.Proofs.Ytjinkahlfigdcaa

/- Need of rows that may be very long; append that makes them. -/
namespace Go.Proofs.Ytjinkahlfigdcaa
open Go.RowKit Go.BigFrame

/-- append(own, bytes...), far past what a reading may bear -/
theorem app_srcw {w : World} {ops : Array Oper} {rest : List Oper} {o : Oper} {a : Act} {Q : Exit → Act → World → Prop} (hgd : o.guard = none) (s x : Operand)
    (ho : o.op = .call { callee := .builtin .append, args := #[s, x], argTypes := #[30, 30] })
    (base : Nat) (v : Value) (bs : List UInt8) (hs : a.eval s = v) (hown : OwnB w base v bs) (vx : Value) (cs : List UInt8) (hx : a.eval x = vx) (hsrc : Src w vx cs)
    (hlen : bs.length ≤ 3000000) (hbase : base ≤ w.heap.size)
    (h : ∀ v' w', OwnB w' base v' (bs ++ cs) → w.grownBy w' v.ownBlock → wpList Try.prog ops Q rest (a.put o.dst v') w') : wpList Try.prog ops Q (o :: rest) a w := by
  obtain ⟨i0, hi, hz0, hz1, hz2⟩ := info_parts Try.infoU8
  obtain ⟨hcl, ⟨rfl, rfl⟩ | ⟨ad, cap, rfl, h1, h2, hlt, hc⟩⟩ := hsrc
  · refine wpList_append_own_none hgd s x 30 ho base 5 i0 1 Try.underlying30 hi v bs.length (bytesV bs) hs hown hx ?_
    exact h v w (by simpa using hown) (gb_refl _ _)
  · refine wpList_append_own_wide w hgd s x 30 ho base 5 i0 (.int .u8 0) 1 1 Try.underlying30 hi hz0 hz1 hz2 rfl (by decide) v bs.length (bytesV bs) hs hown ad cs.length cap (bytesV cs) hx (by simp [bytesV]) (src_cells hc) (bytesV_one cs) (by unfold maxLen; omega) (by omega) hbase ?_
    intro v' w' h3 h4 _
    exact h v' w' (by unfold OwnB; rw [bytesV_append, List.length_append]; exact h3) h4
theorem cut_own {w : World} {base : Nat} {v : Value} {bs : List UInt8} (h : OwnB w base v bs) (k : Nat) (hk : k ≤ bs.length) (hk2 : k ≤ 140737488355327) :
    ∃ vx, Src w vx (bs.take k) ∧ (∀ W, (Instr.slice 30 v none (some (.int .i64 (k : Int))) none).run Try.prog W = .ok vx W) := by
  have hm := h.len
  rcases h.forms with ⟨rfl, rfl⟩ | ⟨g, cap, rfl, h0, hlt, h1, h2, _, hc⟩
  · simp at hk
    subst hk
    exact ⟨.slice none 0 0, ⟨by simp, Or.inl ⟨rfl, rfl⟩⟩, fun W => by go_simp⟩
  · have hlen : (bs.take k).length = k := by simp; omega
    refine ⟨.slice (some ⟨g, 0, none⟩) k cap, ⟨by omega, Or.inr ⟨⟨g, 0, none⟩, cap, by rw [hlen], by omega, h2, fun h0 => hlt, fun j hj => ?_⟩⟩, fun W => ?_⟩
    · rw [hlen] at hj
      rw [addr_add, hc j (by omega)]
      simp [List.getD_eq_getElem?_getD, hj]
    · have hk2 : (k : Int) ≤ (cap : Int) := by omega
      go_simp

set_option maxRecDepth 100000 in
set_option maxHeartbeats 4000000 in
theorem need_long (av : Option Addr) (cv : Nat) (bs : List UInt8) (w : World) (vx : Value) (hx : Src w vx (bs.take (min bs.length 10))) (cut : ∀ W, (Instr.slice 30 (.slice av bs.length cv) none (some (.int .i64 ((min bs.length 10 : Nat) : Int))) none).run Try.prog W = .ok vx W) (hsl : bs.length ≤ 9223372036854775807) :
    Calls Try.prog 19 #[.slice av bs.length cv] w fun e w' => e = .returned (.tuple #[.int .i64 (needP bs).1, .int .i64 (needP bs).2.2]) ∧ Below w.heap.size w w' := by
  have HN := hid (newReader_any vx _ w hx)
  have hd := dec_head bs
  obtain ⟨E, N, K, hdec⟩ : ∃ E N K, dec bs 0 0 = (E, N, K) := ⟨_, _, _, rfl⟩
  rw [hdec] at hd
  have HU : Hid (uintF (bs.take (min bs.length 10)) 0 0 0 = (N, K, (E : Int), watOf E 0 0)) := hid (by unfold uintF; rw [if_neg (by simp), List.drop_zero, hd]; simp)
  have HLE := hid (dec_le bs hdec)
  have HTEN : Hid (K ≤ 10) := hid (by have := (dec_le _ hd).1; rw [List.length_take] at this; omega)
  have HP : Hid (needP bs = if E = 4 then (0, 0, 0) else if E ≠ 0 then (0, 0, E) else if 2097152 < N then (0, 0, 3) else if N = 0 then (0, 0, 70) else (K + N + 4, K, 0)) := hid (by unfold needP; rw [hdec])
  have hfw := fault_why
  clear hdec hd hx
  generalize bs.take (min bs.length 10) = X at *
  obtain ⟨M, HM⟩ : ∃ M : Nat, Hid (min bs.length 10 = M) := ⟨_, rfl⟩
  rw [HM.out] at cut
  have hm : min (bs.length : Int) 10 = (M : Int) := by have := HM.out; omega
  go_enter Try.func19, Try.ntmps19
  go_wp2_with fail
  refine HN.out.mono ?_
  rintro e w1 ⟨b, v1, rfl, hr1, hb1⟩
  have HB1 := hid hb1
  have HUI := hid (uint_R (h := hr1))
  rw [HU.out] at HUI
  clear hr1 hb1 HN cut hm
  go_wp2_with fail
  refine HUI.out.mono ?_
  rintro e w2 ⟨rfl, hr2, hg2⟩
  have HR2 := hid hr2
  have HB2 := hid (Below.of_gb HB1.out hg2 hr2.lo)
  have HFA := hid (rfault_any (h := hr2))
  clear hr2 hg2 HUI HB1
  go_wp2_with fail
  refine HFA.out.mono ?_
  rintro e w3 ⟨rfl, hb3⟩
  have HR3 := hid (HR2.out.below hb3)
  have HB3 := hid (below_then HB2.out hb3)
  clear hb3 HR2 HB2 HFA
  by_cases h4 : E = 4
  · have HV := hid (show needP bs = (0, 0, 0) by rw [HP.out, if_pos h4])
    have q1 : ((E : Int) == 4) = true := by simp [h4]
    have q2 : (E : Int) = 4 := by omega
    clear h4
    go_wp2
    go_ret2
    rw [HV.out]
    exact ⟨rfl, HB3.out⟩
  · have q1 : ((E : Int) == 4) = false := by simp; omega
    have q2 : ¬ (E : Int) = 4 := by omega
    by_cases h0 : E = 0
    · have q3 : ((E : Int) != 0) = false := by simp [h0]
      have q4 : (E : Int) = 0 := by omega
      by_cases hN : 2097152 < N
      · have HV := hid (show needP bs = (0, 0, 3) by rw [HP.out, if_neg h4, if_neg (by simpa using h0), if_pos hN])
        have q5 : (2097152 : Int) < (N : Int) := by omega
        have q6 : decide ((2097152 : Int) < (N : Int)) = true := by simpa using q5
        clear h4 h0 hN
        go_wp2
        go_ret2
        rw [HV.out]
        exact ⟨rfl, HB3.out⟩
      · have q5 : ¬ (2097152 : Int) < (N : Int) := by omega
        have q6 : decide ((2097152 : Int) < (N : Int)) = false := by simpa using q5
        by_cases hz : N = 0
        · have HV := hid (show needP bs = (0, 0, 70) by rw [HP.out, if_neg h4, if_neg (by simpa using h0), if_neg hN, if_pos hz])
          have q7 : ((N : Int) == 0) = true := by simp [hz]
          have q8 : (N : Int) = 0 := by omega
          clear h4 h0 hN hz
          go_wp2
          go_ret2
          rw [HV.out]
          exact ⟨rfl, HB3.out⟩
        · have HV := hid (show needP bs = (K + N + 4, K, 0) by rw [HP.out, if_neg h4, if_neg (by simpa using h0), if_neg hN, if_neg hz])
          have q7 : ((N : Int) == 0) = false := by simp; omega
          have q8 : ¬ (N : Int) = 0 := by omega
          have HAT := hid (rat_any (h := HR3.out))
          have w1 : IntKind.i64.wrap (N : Int) = (N : Int) := by rw [IntKind.wrap_i64]; omega
          have w2 : IntKind.i64.wrap ((K : Int) + (N : Int)) = (K : Int) + (N : Int) := by rw [IntKind.wrap_i64]; have := HTEN.out; omega
          have w4 : IntKind.i64.wrap ((K : Int) + (N : Int) + 4) = (K : Int) + (N : Int) + 4 := by rw [IntKind.wrap_i64]; have := HTEN.out; omega
          clear h4 h0 hN hz
          go_wp2_with fail
          refine HAT.out.mono ?_
          rintro e w5 ⟨rfl, hw5⟩
          subst hw5
          go_wp2
          go_ret2
          rw [HV.out]
          exact ⟨by simp, HB3.out⟩
    · have HV := hid (show needP bs = (0, 0, E) by rw [HP.out, if_neg h4, if_pos h0])
      have q3 : ((E : Int) != 0) = true := by simp; omega
      have q4 : ¬ (E : Int) = 0 := by omega
      clear h4 h0
      go_wp2
      go_ret2
      rw [HV.out]
      exact ⟨rfl, HB3.out⟩

theorem need_own {w : World} {base : Nat} {av : Option Addr} {cv : Nat} {bs : List UInt8} (h : OwnB w base (.slice av bs.length cv) bs) :
    Calls Try.prog 19 #[.slice av bs.length cv] w fun e w' => e = .returned (.tuple #[.int .i64 (needP bs).1, .int .i64 (needP bs).2.2]) ∧ Below w.heap.size w w' := by
  obtain ⟨vx, hx, cut⟩ := cut_own h (min bs.length 10) (Nat.min_le_left _ _) (by omega)
  exact need_long av cv bs w vx hx cut (by have := h.len; unfold maxLen at this; omega)
end Go.Proofs.Ytjinkahlfigdcaa

/- FrameBack answers true. -/
namespace Go.Proofs.Ytjinkahlfigdcaa
open Go.RowKit Go.BigFrame

theorem ungd {P : Program} {ops : Array Oper} {Q : Exit → Act → World → Prop} {a : Act} {w : World} {rest : List Oper} {d : Option Tmp} {op : Op} {ty : TypeId} {pos : String} {af : Array Edge} {g : Option (Nat × Bool)}
    (hw : Region.wanted ⟨d, op, ty, pos, af, g⟩ (yielded ops a.tmps) = true) (h : wpList P ops Q (⟨d, op, ty, pos, af, none⟩ :: rest) a w) : wpList P ops Q (⟨d, op, ty, pos, af, g⟩ :: rest) a w := by
  have hn : Region.wanted ⟨d, op, ty, pos, af, none⟩ (yielded ops a.tmps) = true := by simp [Region.wanted]
  simp only [wpList] at h ⊢
  rw [if_pos hn] at h
  rw [if_pos hw]
  exact h

set_option maxRecDepth 100000 in
set_option maxHeartbeats 8000000 in
theorem lawBack_any (f : Fr) (va vh : Value) (hd : List UInt8) (cut : Int) (w : World) (hr : Rng f) (ha : Strs w va f.args) (hh : Src w vh hd) (hc1 : -9223372036854775808 ≤ cut) (hc2 : cut ≤ 9223372036854775807) :
    Calls Try.prog 5 #[.agg (fcells f va).toArray, vh, .int .i64 cut] w fun e w' => e = .returned (.bool true) ∧ Below w.heap.size w w' := by
  obtain ⟨ah, chh, rfl⟩ := src_shape hh
  obtain ⟨LH, HLH⟩ : ∃ n, Hid (hd.length = n) := ⟨_, rfl⟩
  have HNB := hid (hp_new w (.cells (fcells f va).toArray 29))
  have HBL := hid (below_walk w (.cells (fcells f va).toArray 29))
  have HSZ := hid (frame_size f va hr.tool)
  have HA := hid (ha.below HBL.out)
  have HH := hid (hh.below HBL.out)
  have HRN := hid hr
  have hg := faultG
  have HCK := hid (fun W (hW : Strs W va f.args) => checkF_any f va W hr hW)
  have HEE := hid (fun (h9 : chkE f ≠ 0) W (hW : Strs W va f.args) => encF_err f va W hr hW h9)
  have HEO := hid (fun (h9 : chkE f = 0) W (hW : Strs W va f.args) => encF_ok f va W hr hW h9)
  clear ha hr hh
  go_enter Try.func5, Try.ntmps5
  go_upto_region 1 with fail
  generalize w.alloc (.cells (fcells f va).toArray 29) = w1 at HNB HBL HA HH ⊢
  rw [HLH.out] at HH ⊢
  go_wp2_with fail
  refine (alive_any w1).mono ?_
  rintro e w2 ⟨rfl, hb2⟩
  have HN2 := hid (bel_keep hb2 HNB.out)
  have HB2 := hid (below_then HBL.out hb2)
  have HA2 := hid (HA.out.below hb2)
  have HH2 := hid (HH.out.below hb2)
  clear hb2 HNB HBL HA HH
  by_cases h : chkE f = 0
  · have HE := hid (HEO.out h)
    have hl := enc_len h
    obtain ⟨M, HM⟩ : ∃ M : Nat, Hid ((encP f).length = M) := ⟨_, rfl⟩
    rw [HM.out] at hl
    have hM1 : 1 ≤ M := by
      have h9 := HM.out
      unfold encP at h9
      rw [sealP_length] at h9
      omega
    have HDE := hid (dec_enc f HRN.out h)
    have HCU := hid (dec_cut f h)
    have HNE := hid (need_enc f h hd)
    rw [HM.out] at HCU HNE
    clear HEE HEO HCK
    go_wp2_with (refine ld_row (by rfl) 29 (.tmp 3) (by rfl) w.heap.size (by rfl) (fcells f va) 29 HN2.out _ Try.underlying29 rfl HSZ.out ?_)
    refine (HE.out w2 HA2.out).mono ?_
    rintro e w3 ⟨vb, rfl, ho3, hb3⟩
    have HN3 := hid (bel_keep hb3 HN2.out)
    have HB3 := hid (below_then HB2.out hb3)
    have HA3 := hid (HA2.out.below hb3)
    have HH3 := hid (HH2.out.below hb3)
    have HS3 := hid (ho3.src (by rw [HM.out]; omega))
    obtain ⟨ab, cb, eb⟩ := src_shape HS3.out
    rw [HM.out] at eb
    subst eb
    have HFB := hid (Fb.of HN3.out HRN.out.tool)
    have l1 := HFB.out.l1
    have l2 := HFB.out.l2
    have l3 := HFB.out.l3
    clear ho3 hb3 HN2 HB2 HA2 HH2 HE HFB
    go_upto_region 7 with fail
    have HW3 := hid (below_walk w3 (.cells #[.int .i64 f.lim.1, .int .i64 f.lim.2.1, .int .i64 f.lim.2.2] 26))
    have HN4 := hid (bel_keep HW3.out HN3.out)
    have HB4 := hid (below_then HB3.out HW3.out)
    have HA4 := hid (HA3.out.below HW3.out)
    have HH4 := hid (HH3.out.below HW3.out)
    have HS4 := hid (HS3.out.below HW3.out)
    have HLB := hid (hp_new w3 (.cells #[.int .i64 f.lim.1, .int .i64 f.lim.2.1, .int .i64 f.lim.2.2] 26))
    obtain ⟨lb, HLBe⟩ : ∃ n, Hid (w3.heap.size = n) := ⟨_, rfl⟩
    rw [HLBe.out] at HLB ⊢
    generalize w3.alloc (.cells #[.int .i64 f.lim.1, .int .i64 f.lim.2.1, .int .i64 f.lim.2.2] 26) = w4 at HW3 HN4 HB4 HA4 HH4 HS4 HLB ⊢
    clear HN3 HB3 HA3 HH3 HS3 l1 l2 l3 HW3 HLBe
    have HDC := hid (decode_any _ (encP f) w4 HS4.out)

    obtain ⟨g, HG⟩ : ∃ x, Hid ((decP (encP f)).1 = x) := ⟨_, rfl⟩
    obtain ⟨E1, HE1⟩ : ∃ x, Hid ((decP (encP f)).2.1 = x) := ⟨_, rfl⟩
    obtain ⟨E2, HE2⟩ : ∃ x, Hid ((decP (encP f)).2.2 = x) := ⟨_, rfl⟩
    rw [HG.out, HE1.out, HE2.out] at HDC
    go_wp2_with fail
    refine HDC.out.mono ?_
    rintro e w5 ⟨vg, rfl, hog, hb5⟩
    have HRG := hid (show Rng g by rw [← HG.out]; exact dec_rng _ (by rw [HM.out]; omega) (by rw [HG.out]; exact wowns_len hog))
    have HSTG := hid (wowns_strs hog)
    have HN5 := hid (bel_keep hb5 HN4.out)
    have HLB5 := hid (bel_keep hb5 HLB.out)
    have HB5 := hid (below_then HB4.out hb5)
    have HA5 := hid (HA4.out.below hb5)
    have HH5 := hid (HH4.out.below hb5)
    have HS5 := hid (HS4.out.below hb5)
    obtain ⟨aV, cV, eV⟩ := wowns_shape hog
    have HSZg := hid (frame_size g vg HRG.out.tool)
    have HONg := hid (fcells_one g vg (by rw [eV]; rfl))
    have HOSg := hid (show (fcells zF nS).toArray.size = (fcells g vg).length by rw [fcells_length _ _ HRG.out.tool]; rfl)
    have HSZr := hid (fun W (h1 : Strs W vg g.args) => rsame_any g zF vg nS W HRG.out.tool rfl h1 (strs_nil W) HRG.out.many)
    have HSMr := hid (fun W (h1 : Strs W vg g.args) (h2 : Strs W va f.args) => rsame_any g f vg va W HRG.out.tool HRN.out.tool h1 h2 HRG.out.many)
    have HSMp := hid (fun W (h1 : Strs W vg g.args) (h2 : Strs W va f.args) => same_any g f vg va W HRG.out.tool HRN.out.tool h1 h2 HRG.out.many)
    obtain ⟨GG, HGG⟩ : ∃ L, Hid (fcells g vg = L) := ⟨_, rfl⟩
    rw [HGG.out] at HSZg HONg HOSg HSZr HSMr HSMp ⊢
    clear hog hb5 HN4 HLB HB4 HA4 HH4 HS4 HDC eV
    go_upto_region 8 with (first
      | (refine al_row (by rfl) 29 (by rfl) _ zeroFrame ?_)
      | (refine st_row (by rfl) 29 _ _ (by rfl) w5.heap.size GG (by rfl) (by rfl) 29 _ (hp_two w5 _ _).1 HSZg.out HOSg.out HONg.out ?_; intro w6 hw6)
      | (refine st_row (by rfl) 47 _ _ (by rfl) (w5.heap.size + 1) [Value.int .i64 E1, .int .i64 E2] (by rfl) (by rfl) 47 _ (gb_keep hw6.grown (hp_two w5 _ _).2 (by omega)) faultSize rfl (fault_one _ _) ?_; intro w7 hw7))
    have HQ7 := hid (Below.of_gb (Below.of_gb (below_walk2 w5 (.cells (fcells zF nS).toArray 29) (.cells #[.int .i64 0, .int .i64 0] 47)) hw6.grown (Nat.le_refl _)) hw7.grown (by omega))
    have HGb := hid (gb_keep hw7.grown hw6.blk (by omega))
    have HTb := hid hw7.blk
    have HN7 := hid (bel_keep HQ7.out HN5.out)
    have HLB7 := hid (bel_keep HQ7.out HLB5.out)
    have HB7 := hid (below_then HB5.out HQ7.out)
    have HA7 := hid (HA5.out.below HQ7.out)
    have HH7 := hid (HH5.out.below HQ7.out)
    have HS7 := hid (HS5.out.below HQ7.out)
    have HSG7 := hid (HSTG.out.below HQ7.out)
    obtain ⟨B, HBe⟩ : ∃ n, Hid (w5.heap.size = n) := ⟨_, rfl⟩
    rw [HBe.out] at HGb HTb ⊢
    clear hw6 hw7 HQ7 HN5 HLB5 HB5 HA5 HH5 HS5 HSTG HONg HOSg HBe
    have m1 : w7.cell? ⟨lb, 0, none⟩ = some (.int .i64 f.lim.1) := by simp [World.cell?, HLB7.out]
    have m2 : w7.cell? ⟨lb, 1, none⟩ = some (.int .i64 f.lim.2.1) := by simp [World.cell?, HLB7.out]
    have m3 : w7.cell? ⟨lb, 2, none⟩ = some (.int .i64 f.lim.2.2) := by simp [World.cell?, HLB7.out]
    have t0 : w7.cell? ⟨B + 1, 0, none⟩ = some (.int .i64 E1) := by simp [World.cell?, HTb.out]
    have t1 : w7.cell? ⟨B + 1, 1, none⟩ = some (.int .i64 E2) := by simp [World.cell?, HTb.out]
    obtain ⟨X, hmx⟩ : ∃ X, (if (if f.lim.1 < f.lim.2.1 then f.lim.2.1 else f.lim.1) < f.lim.2.2 then f.lim.2.2 else if f.lim.1 < f.lim.2.1 then f.lim.2.1 else f.lim.1) = X := ⟨_, rfl⟩
    have hXl : limOk f = decide (X ≤ 2147483648) := by
      rw [← hmx]
      unfold limOk
      refine decide_eq_decide.2 ?_
      repeat' split
      all_goals omega
    have HRB := hid (range_row HGb.out)
    have HRF := hid (range_row HN7.out)
    cases hlim : limOk f with
    | false =>
      as_aux_lemma =>
        rw [hlim] at hXl
        have hX1 : (2147483648 : Int) < X := by have := of_decide_eq_false hXl.symm; omega
        have hX2 : decide ((2147483648 : Int) < X) = true := decide_eq_true hX1
        have hDE := HDE.out
        rw [hlim, if_neg (by decide)] at hDE
        have hE : E1 = 11 := by rw [← HE1.out]; exact hDE.2
        subst hE
        have HZ := hid (show g = zF by rw [← HG.out]; exact hDE.1)
        have HSA := hid HSZr.out
        rw [HZ.out, sameP_self] at HSA
        clear hDE hlim hXl HSZr HSMr HSMp HDE HCU HNE hX1
        go_wp2_with (first
          | (refine ld_gd (by rfl) 29 (.tmp 10) (by rfl) B 0 (by rfl) _ _ HRB.out Try.underlying29 rfl HSZg.out ?_)
          | (refine ungd (by rfl) ?_; refine bd_row (by rfl) 29 #[] (by rfl) _ (by simp) _ built_zf ?_))
        refine (HSA.out w7 (HZ.out ▸ HSG7.out)).mono ?_
        rintro e w8 ⟨rfl, hb8⟩
        have HB8 := hid (below_then HB7.out hb8)
        clear hb8
        go_wp2
        go_ret
        exact ⟨rfl, HB8.out⟩
    | true =>
      as_aux_lemma =>
        rw [hlim] at hXl
        have hX1 : ¬ (2147483648 : Int) < X := by have := of_decide_eq_true hXl.symm; omega
        have hX2 : decide ((2147483648 : Int) < X) = false := decide_eq_false hX1
        have hDE := HDE.out
        rw [hlim, if_pos rfl] at hDE
        have hE1 : E1 = 0 := by rw [← HE1.out, hDE]
        have hE2 : E2 = 0 := by rw [← HE2.out, hDE]
        have hgf : g = f := by rw [← HG.out, hDE]
        subst hE1 hE2
        have HSMr2 := hid HSMr.out
        have HSMp2 := hid HSMp.out
        rw [hgf, sameP_self] at HSMr2 HSMp2
        rw [hgf] at HSG7
        clear hDE hlim hXl HSZr HSMr HSMp HDE hgf hX1
        go_upto_region 10 with fail
        clear hmx hX2 m1 m2 m3
        go_wp2_with (at_builtin; refine app_src rfl _ _ rfl w7.heap.size _ [] rfl (OwnB.nil _ _) _ (encP f) rfl HS7.out (by rw [HM.out]; simp; omega) (Nat.le_refl _) ?_)
        intro v8 w8 ho8 hg8
        have HQ8 := hid (gb_below hg8)
        have HO8 := hid ho8
        have HH8 := hid (HH7.out.below HQ8.out)
        obtain ⟨a8, c8, e8⟩ := ho8.shape
        rw [HM.out] at e8
        subst e8
        clear ho8 hg8
        go_wp2_with (at_builtin; refine app_srcw rfl _ _ rfl w7.heap.size _ (encP f) rfl HO8.out _ hd rfl HH8.out (by rw [HM.out]; omega) HQ8.out.size ?_)
        intro v9 w9 ho9 hg9
        have HQ9 := hid (show Below w7.heap.size w7 w9 from below_tr HQ8.out ⟨hg9.os, hg9.tape, hg9.output, hg9.size, fun k hk => hg9.block k (by have := HQ8.out.size; omega) (fun e => by have := (HO8.out.lt k e.symm).1; omega)⟩)
        obtain ⟨a9, c9, e9⟩ := ho9.shape
        subst e9
        have HND := hid (need_own ho9)
        rw [HNE.out] at HND
        obtain ⟨L9, HL9⟩ : ∃ n, Hid ((encP f ++ hd).length = n) := ⟨_, rfl⟩
        rw [HL9.out] at HND ⊢
        clear ho9 hg9 HO8 HQ8 HH8
        go_wp2_with fail
        refine HND.out.mono ?_
        rintro e w10 ⟨rfl, hb10⟩
        have HQ10 := hid (below_then HQ9.out hb10)
        have HS10 := hid (HS7.out.below HQ10.out)
        have HB10 := hid (below_then HB7.out HQ10.out)
        have HA10 := hid (HA7.out.below HQ10.out)
        have HG10 := hid (HSG7.out.below HQ10.out)
        have HGb10 := hid (bel_keep HQ10.out HGb.out)
        have HTb10 := hid (bel_keep HQ10.out HTb.out)
        have HN10 := hid (bel_keep HQ10.out HN7.out)
        clear hb10 HQ9 HQ10 HS7 HB7 HA7 HSG7 HGb HTb HN7 HLB7 HH7 HND t0 t1 HRB HRF
        obtain ⟨D, HD⟩ : ∃ d : Int, Hid ((M : Int) - 1 = d) := ⟨_, rfl⟩
        have wD : IntKind.i64.wrap ((M : Int) - 1) = D := by rw [IntKind.wrap_i64, ← HD.out]; omega
        obtain ⟨C, hC0⟩ : ∃ C : Nat, min (max cut 0) D = (C : Int) := ⟨(min (max cut 0) D).toNat, by have := HD.out; omega⟩
        have hCM : C < M := by have := HD.out; omega
        obtain ⟨vx, hsx, cx⟩ := cut_at HS10.out C (by rw [HM.out]; omega)
        have HDX := hid (decode_any vx _ w10 hsx)
        rw [HCU.out C hCM] at HDX
        have HCMh := hid hCM
        obtain ⟨ax, nx, ccx, ex⟩ := src_named hsx
        subst ex
        clear hsx hCM
        go_wp2_with fail
        refine HDX.out.mono ?_
        rintro e w11 ⟨vy, rfl, hoy, hb11⟩
        have HB11 := hid (below_then HB10.out hb11)
        have HA11 := hid (HA10.out.below hb11)
        have HG11 := hid (HG10.out.below hb11)
        have HGb11 := hid (bel_keep hb11 HGb10.out)
        have HTb11 := hid (bel_keep hb11 HTb10.out)
        have HN11 := hid (bel_keep hb11 HN10.out)
        obtain ⟨aY, cY, eY⟩ := wowns_shape hoy
        have HSZy := hid (frame_size zF vy rfl)
        have HONy := hid (fcells_one zF vy (by rw [eY]; rfl))
        have HOSy := hid (show (fcells zF nS).toArray.size = (fcells zF vy).length from rfl)
        obtain ⟨YY, HYY⟩ : ∃ L, Hid (fcells zF vy = L) := ⟨_, rfl⟩
        rw [HYY.out] at HSZy HONy HOSy ⊢
        clear hoy hb11 HB10 HA10 HG10 HGb10 HTb10 HN10 HS10 HDX eY cx
        go_upto_region 13 with (first
          | (refine al_row (by rfl) 29 (by rfl) _ zeroFrame ?_)
          | (refine st_row (by rfl) 29 _ _ (by rfl) w11.heap.size YY (by rfl) (by rfl) 29 _ (hp_two w11 _ _).1 HSZy.out HOSy.out HONy.out ?_; intro w12 hw12)
          | (refine st_row (by rfl) 47 _ _ (by rfl) (w11.heap.size + 1) [Value.int .i64 4, .int .i64 (C : Int)] (by rfl) (by rfl) 47 _ (gb_keep hw12.grown (hp_two w11 _ _).2 (by omega)) faultSize rfl (fault_one _ _) ?_; intro w13 hw13))
        have HQ13 := hid (Below.of_gb (Below.of_gb (below_walk2 w11 (.cells (fcells zF nS).toArray 29) (.cells #[.int .i64 0, .int .i64 0] 47)) hw12.grown (Nat.le_refl _)) hw13.grown (by omega))
        have HYb := hid hw13.blk
        have HB13 := hid (below_then HB11.out HQ13.out)
        have HA13 := hid (HA11.out.below HQ13.out)
        have HG13 := hid (HG11.out.below HQ13.out)
        have HGb13 := hid (bel_keep HQ13.out HGb11.out)
        have HTb13 := hid (bel_keep HQ13.out HTb11.out)
        have HN13 := hid (bel_keep HQ13.out HN11.out)
        obtain ⟨BY, HBYe⟩ : ∃ n, Hid (w11.heap.size = n) := ⟨_, rfl⟩
        rw [HBYe.out] at HYb ⊢
        clear hw12 hw13 HQ13 HB11 HA11 HG11 HGb11 HTb11 HN11 HSZy HONy HOSy HBYe hC0 wD
        have t0 : w13.cell? ⟨B + 1, 0, none⟩ = some (.int .i64 0) := by simp [World.cell?, HTb13.out]
        have t1 : w13.cell? ⟨B + 1, 1, none⟩ = some (.int .i64 0) := by simp [World.cell?, HTb13.out]
        have n1 : ∀ W, (binOp .eql 47 (.agg #[.int .i64 0, .int .i64 0]) (.agg #[.int .i64 0, .int .i64 0])).run Try.prog W = .ok (.bool true) W := fun W => fault_eql 0 0 0 0 W
        have n2 : ∀ W, (binOp .eql 47 (.agg #[.int .i64 4, .int .i64 (C : Int)]) (.agg #[.int .i64 4, .int .i64 (C : Int)])).run Try.prog W = .ok (.bool true) W := fun W => by rw [fault_eql]; simp
        have HRB := hid (range_row HGb13.out)
        have HRF := hid (range_row HN13.out)
        go_wp2_with (first
          | (refine ld_gd (by rfl) 29 (.tmp 10) (by rfl) B 0 (by rfl) _ _ HRB.out Try.underlying29 rfl HSZg.out ?_)
          | (refine ld_gd (by rfl) 29 (.tmp 3) (by rfl) w.heap.size 0 (by rfl) _ _ HRF.out Try.underlying29 rfl HSZ.out ?_))
        refine (HSMp2.out w13 HG13.out HA13.out).mono ?_
        rintro e w14 ⟨rfl, hb14⟩
        have HB14 := hid (below_then HB13.out hb14)
        have HA14 := hid (HA13.out.below hb14)
        have HG14 := hid (HG13.out.below hb14)
        have HGb14 := hid (bel_keep hb14 HGb13.out)
        have HN14 := hid (bel_keep hb14 HN13.out)
        have HYb14 := hid (bel_keep hb14 HYb.out)
        clear hb14 HB13 HA13 HG13 HGb13 HTb13 HN13 HYb t0 t1 HRB HRF
        have HRB := hid (range_row HGb14.out)
        have HRF := hid (range_row HN14.out)
        go_wp2_with (first
          | (refine ld_gd (by rfl) 29 (.tmp 10) (by rfl) B 0 (by rfl) _ _ HRB.out Try.underlying29 rfl HSZg.out ?_)
          | (refine ld_gd (by rfl) 29 (.tmp 3) (by rfl) w.heap.size 0 (by rfl) _ _ HRF.out Try.underlying29 rfl HSZ.out ?_))
        refine (HSMr2.out w14 HG14.out HA14.out).mono ?_
        rintro e w15 ⟨rfl, hb15⟩
        have HB15 := hid (below_then HB14.out hb15)
        have HYb15 := hid (bel_keep hb15 HYb14.out)
        clear hb15 HB14 HA14 HG14 HGb14 HN14 HYb14 HRB HRF
        have y0 : w15.cell? ⟨BY + 1, 0, none⟩ = some (.int .i64 4) := by simp [World.cell?, HYb15.out]
        have y1 : w15.cell? ⟨BY + 1, 1, none⟩ = some (.int .i64 (C : Int)) := by simp [World.cell?, HYb15.out]
        go_wp2
        go_ret
        exact ⟨rfl, HB15.out⟩
  · as_aux_lemma =>
      have HE := hid (HEE.out h)
      obtain ⟨E, HE9⟩ : ∃ E, Hid (chkE f = E) := ⟨_, rfl⟩
      rw [HE9.out] at HE HCK h
      have q1 : (E != 0) = true := by simpa using h
      have q2 : (E == 0) = false := by simpa using h
      have q3 : (E == E) = true := by simp
      clear HEE HEO h
      go_wp2_with (refine ld_row (by rfl) 29 (.tmp 3) (by rfl) w.heap.size (by rfl) (fcells f va) 29 HN2.out _ Try.underlying29 rfl HSZ.out ?_)
      refine (HE.out w2 HA2.out).mono ?_
      rintro e w3 ⟨rfl, hb3⟩
      have HN3 := hid (bel_keep hb3 HN2.out)
      have HB3 := hid (below_then HB2.out hb3)
      have HA3 := hid (HA2.out.below hb3)
      have HRX := hid (range_row HN3.out)
      clear hb3 HN2 HB2 HA2 HH2 HE
      go_wp2_with (refine ld_gd (by rfl) 29 (.tmp 3) (by rfl) w.heap.size 0 (by rfl) _ _ HRX.out Try.underlying29 rfl HSZ.out ?_)
      refine (HCK.out w3 HA3.out).mono ?_
      rintro e w4 ⟨rfl, hb4⟩
      have HB4 := hid (below_then HB3.out hb4)
      clear hb4
      go_wp2
      go_ret
      exact ⟨rfl, HB4.out⟩
end Go.Proofs.Ytjinkahlfigdcaa

/- FrameOwn answers true. -/
namespace Go.Proofs.Ytjinkahlfigdcaa
open Go.RowKit Go.BigFrame

theorem blk_keep {w w' : World} {b : Nat} {o : Obj} (h : Below w.heap.size w w') (hb : w.heap[b]? = some o) : w'.heap[b]? = some o := (h.block b (hp_lt hb)).trans hb
/-- two texts, laid as a slice -/
theorem strs_two (w : World) (p q : ByteArray) : Strs (w.alloc (.cells #[.string p, .string q] 9)) (.slice (some ⟨w.heap.size, 0, none⟩) 2 2) [bl p, bl q] := by
  refine Or.inr ⟨w.heap.size, 0, 2, rfl, by simp, Nat.le_refl _, fun j hj => ?_⟩
  have hh := hp_new w (.cells #[.string p, .string q] 9)
  match j, hj with
  | 0, _ => rw [cell_of_row _ _ _ _ _ _ hh]; simp [mk_bl]
  | 1, _ => rw [cell_of_row _ _ _ _ _ _ hh]; simp [mk_bl]

theorem ownb_put {w : World} {base g n cap : Nat} {bs : List UInt8} (h : OwnB w base (.slice (some ⟨g, 0, none⟩) n cap) bs) (k : Nat) (m : UInt8) : OwnB (w.setCell ⟨g, k, none⟩ (.int .u8 (m.toNat : Int))) base (.slice (some ⟨g, 0, none⟩) n cap) (bs.set k m) := by
  obtain ⟨h1, ⟨h2, _⟩ | ⟨g', cap', cur, hv, hb, hh, r1, r2, r3, r4⟩⟩ := h
  · cases h2
  · injection hv with hv1 hv2 hv3
    injection hv1 with hv1
    injection hv1 with hv1
    subst hv1 hv2 hv3
    refine ⟨by simp [bytesV], Or.inr ⟨g, cap, cur.setIfInBounds k (.int .u8 (m.toNat : Int)), by rw [List.length_set], hb, blk_set hh _, by rw [List.length_set]; exact r1, r2, by simpa using r3, ?_⟩⟩
    rw [List.length_set, Array.toList_setIfInBounds, List.take_set, r4]
    simp [bytesV, List.map_set]
theorem apart_up {v : Value} {b : Nat} {row : Option Nat} (h : ∀ k, v.ownBlock = some k → b ≤ k) (hr : ∀ k, row = some k → k < b) : v.ownBlock = none ∨ v.ownBlock ≠ row := by
  cases e : v.ownBlock with
  | none => exact Or.inl rfl
  | some k => exact Or.inr (fun x => by have := hr k x.symm; have := h k e; omega)
/-- two bytes, laid as a slice -/
theorem src_two (w : World) (a b : UInt8) : Src (w.alloc (.cells #[.int .u8 a.toNat, .int .u8 b.toNat] 5)) (.slice (some ⟨w.heap.size, 0, none⟩) 2 2) [a, b] := by
  have hh := hp_new w (.cells #[.int .u8 a.toNat, .int .u8 b.toNat] 5)
  refine ⟨by simp, Or.inr ⟨⟨w.heap.size, 0, none⟩, 2, rfl, Nat.le_refl _, by decide, fun _ => by simp, fun j hj => ?_⟩⟩
  rw [addr_add]
  match j, hj with
  | 0, _ => rw [cell_of_row _ _ _ _ _ _ hh]; rfl
  | 1, _ => rw [cell_of_row _ _ _ _ _ _ hh]; rfl
/-- a text of a row of one's own is written over -/
theorem owns_put {w : World} {base g cap j : Nat} {ts : List (List UInt8)} (h : OwnS w base (.slice (some ⟨g, 0, none⟩) ts.length cap) ts) (p : List UInt8) :
    OwnS (w.setCell ⟨g, j, none⟩ (.string (mk p))) base (.slice (some ⟨g, 0, none⟩) ts.length cap) (ts.set j p) ∧ w.grownBy (w.setCell ⟨g, j, none⟩ (.string (mk p))) (some g) := by
  have h2 := World.ownsRow.stored h j (.string (mk p))
  refine ⟨?_, h2.2⟩
  unfold OwnS
  have e : strV (ts.set j p) = (strV ts).set j (.string (mk p)) := by simp [strV, List.map_set]
  rw [e, List.length_set]
  exact h2.1

set_option maxRecDepth 100000 in
set_option maxHeartbeats 1000000 in
theorem lawOwn_any (f : Fr) (va : Value) (w : World) (hr : Rng f) (ha : Strs w va f.args) (hn : f.args.length ≤ 8796093022000) (hA : ∀ t ∈ f.args, t.length ≤ 281474976710656) (hB : f.body.length ≤ 281474976710656) :
    Calls Try.prog 8 #[.agg (fcells f va).toArray] w fun e w' => e = .returned (.bool true) ∧ Below w.heap.size w w' := by
  have HNB := hid (hp_new w (.cells (fcells f va).toArray 29))
  have HBL := hid (below_walk w (.cells (fcells f va).toArray 29))
  have HSZ := hid (frame_size f va hr.tool)
  have HA := hid (ha.below HBL.out)
  have HRN := hid hr
  obtain ⟨aa, ca, hv⟩ := ha.shape
  have HVA := hid hv
  have HRQ := hid (fun v W (hW : Strs W v f.args) => request_own f.id f.lim.1 f.lim.2.1 f.lim.2.2 v f.args f.body W hW (by omega) hA hB)
  have HA0 := hid ha
  clear ha hr hv
  go_enter Try.func8, Try.ntmps8
  go_upto_region 1 with fail
  generalize w.alloc (.cells (fcells f va).toArray 29) = w1 at HNB HBL HA ⊢
  go_wp2_with fail
  refine (alive_any w1).mono ?_
  rintro e w2 ⟨rfl, hb2⟩
  have HN2 := hid (blk_keep hb2 HNB.out)
  have HB2 := hid (below_then HBL.out hb2)
  have HA2 := hid (HA.out.below hb2)
  have hf2 := Fb.of HN2.out HRN.out.tool
  have c7 := hf2.a
  rw [HVA.out] at c7
  clear hb2 HNB HBL HA hf2
  rw [HVA.out] at HA2
  go_wp2_with (at_builtin; refine app_text rfl _ _ rfl w2.heap.size _ [] rfl (OwnS.nil _ _) f.args _ rfl HA2.out ?c1 (Nat.le_refl _) ?_)
  case c1 => simp; omega
  intro v3 w3 ho3 hg3 _
  have ho3 : OwnS w3 w2.heap.size v3 f.args := ho3
  have hb3 : Below w2.heap.size w2 w3 := ⟨hg3.os, hg3.tape, hg3.output, hg3.size, fun q hq => hg3.block q hq (by simp [Value.ownBlock])⟩
  have HO4 := hid (ho3.alloc (.cells #[.string ⟨#[109, 97, 114, 107]⟩, .string ⟨#[109, 97, 114, 107]⟩] 9))
  have HB4 := hid ((HB2.out.trans (hb3.mono HB2.out.size)).alloc (Nat.le_trans HB2.out.size hb3.size) (.cells #[.string ⟨#[109, 97, 114, 107]⟩, .string ⟨#[109, 97, 114, 107]⟩] 9))
  have HZ4 := hid (show w2.heap.size ≤ (w3.alloc (.cells #[.string ⟨#[109, 97, 114, 107]⟩, .string ⟨#[109, 97, 114, 107]⟩] 9)).heap.size from by rw [World.size_alloc]; exact Nat.le_succ_of_le hb3.size)
  have HN4 := hid (blk_keep (below_walk w3 (.cells #[.string ⟨#[109, 97, 114, 107]⟩, .string ⟨#[109, 97, 114, 107]⟩] 9)) (blk_keep hb3 HN2.out))
  have HK4 := hid (strs_two w3 ⟨#[109, 97, 114, 107]⟩ ⟨#[109, 97, 114, 107]⟩)
  obtain ⟨av3, cv3, e3⟩ := ho3.strs.shape
  subst e3
  have HZW := hid (show w.heap.size < w2.heap.size from hp_lt HN2.out)
  have HC4 := hid (show f.args.length + 2 ≤ 8796093022208 by omega)
  clear ho3 hg3 hb3 HB2 HN2 HA2 c7
  go_wp2_with (at_builtin; refine app_text rfl _ _ rfl w2.heap.size _ f.args rfl HO4.out _ _ rfl HK4.out HC4.out HZ4.out ?_)
  intro v5 w5 ho5 hg5 _
  obtain ⟨MK, HMK⟩ : ∃ l, Hid ([bl ⟨#[109, 97, 114, 107]⟩, bl ⟨#[109, 97, 114, 107]⟩] = l) := ⟨_, hid rfl⟩
  have HML := hid (show MK.length = 2 from by rw [← HMK.out]; rfl)
  rw [HMK.out] at ho5
  rcases ho5.forms with ⟨_, h0⟩ | ⟨ga, cpa, rfl, hga1, hga2, hga3, hga4, _, hcell⟩
  · exact absurd (congrArg List.length h0) (by rw [List.length_append, HML.out]; simp)
  have HL5 := hid (show (f.args ++ MK).length = f.args.length + 2 from by rw [List.length_append, HML.out])
  have HO5 := hid ho5
  have HB5 := hid (HB4.out.grown hg5 HB4.out.size (fun k hk => by have := (HO4.out.lt k hk).1; have := HZW.out; omega))
  have HN5 := hid (show w5.heap[w.heap.size]? = _ from (hg5.block _ (hp_lt HN4.out) (fun e => by have := (HO4.out.lt _ e.symm).1; have := HZW.out; omega)).trans HN4.out)
  rw [HL5.out] at ho5
  have HTK := hid (show OwnS w5 w2.heap.size (.slice (some ⟨ga, 0, none⟩) f.args.length cpa) f.args from by
    have h9 := HO5.out
    have h8 := h9.take f.args.length (by rw [HL5.out]; omega)
    rwa [List.take_left] at h8)
  have hf5 := Fb.of HN5.out HRN.out.tool
  have c1 := hf5.i
  have c2 := hf5.l1
  have c3 := hf5.l2
  have c4 := hf5.l3
  have c5 := hf5.bd
  have c7 := hf5.a
  rw [HVA.out] at c7
  have hcp : (f.args.length : Int) ≤ (cpa : Int) := by rw [HL5.out] at hga3; omega
  rw [HL5.out]
  clear ho5 hg5 HO4 HB4 HN4 HK4 HZ4 HC4 hcell hf5
  obtain ⟨G, HG⟩ : ∃ G, Hid (reqF f.id (f.lim.1, f.lim.2.1, f.lim.2.2) f.args f.body = G) := ⟨_, hid rfl⟩
  rw [HG.out] at HRQ
  have HGT := hid (show G.tool.length = 32 from by rw [← HG.out]; rfl)
  have HGA := hid (show G.args = f.args from by rw [← HG.out]; rfl)
  have HSZG := hid (fun v => frame_size G v HGT.out)
  have HONG := hid (fun a n c => fcells_one G (.slice a n c) rfl)
  have HOSG := hid (fun v => show (fcells zF nS).toArray.size = (fcells G v).length by rw [fcells_length _ _ HGT.out]; rfl)
  have HA5 := hid (show Strs w5 va f.args from HA0.out.below HB5.out)
  go_wp2_with fail
  refine (HRQ.out _ w5 HTK.out.strs).mono ?_
  rintro e w6 ⟨vg, rfl, hog, hb6⟩
  obtain ⟨ag, cg, e6⟩ := hog.strs.shape
  subst e6
  have hG6 := hid (hp_new w6 (.cells (fcells G (.slice ag f.args.length cg)).toArray 29))
  have HO7 := hid (hog.alloc (.cells (fcells G (.slice ag f.args.length cg)).toArray 29))
  have HB7 := hid (hb6.alloc hb6.size (.cells (fcells G (.slice ag f.args.length cg)).toArray 29))
  have HZ7 := hid (show w5.heap.size ≤ w6.heap.size from hb6.size)
  have HOG := hid (fun k hk => (hog.lt k hk).2)
  clear hog hb6 c1 c2 c3 c4 c5 c7
  go_upto_region 6 with (first
    | (refine al_row (by rfl) 29 (by rfl) _ zeroFrame ?_)
    | (refine st_new (by rfl) 29 _ _ (by rfl) (fcells G (.slice ag f.args.length cg)) (by rfl) (by rfl) 29 _ (HSZG.out _) (HOSG.out _) (HONG.out _ _ _) ?_))
  obtain ⟨gb, HGB⟩ : ∃ n, Hid (w6.heap.size = n) := ⟨_, hid rfl⟩
  rw [HGB.out] at hG6 HZ7 HOG ⊢
  generalize w6.alloc (.cells (fcells G (.slice ag f.args.length cg)).toArray 29) = w7 at hG6 HO7 HB7 ⊢
  have hf7 := Fb.of hG6.out HGT.out
  have c40 := hf7.a
  clear hf7
  go_wp2_with fail
  go_loopw [44] (fun i wr => ∃ (k : Nat) (ts : List (List UInt8)), i = .int .i64 k ∧ k ≤ f.args.length ∧ ts.length = f.args.length ∧ Hid (OwnS wr w5.heap.size (.slice ag f.args.length cg) ts) ∧ Hid (wr.heap[gb]? = some (.cells (fcells G (.slice ag f.args.length cg)).toArray 29 (0, 0))) ∧ Hid (Below w5.heap.size w5 wr)) (fun i _ => f.args.length - (intOf i).toNat)
  case atStart => exact ⟨0, f.args, rfl, Nat.zero_le _, rfl, HO7, hG6, HB7⟩
  case round =>
    clear hG6 HO7 HB7 c40
    obtain ⟨k, ts, rfl, hk, hts, HO, HGb, HB⟩ := hrel
    have c40 := (Fb.of HGb.out HGT.out).a
    by_cases hlt : k < f.args.length
    · have q2 : (k : Int) < (f.args.length : Int) := by omega
      have hw1 : IntKind.i64.wrap ((k : Int) + 1) = ((k + 1 : Nat) : Int) := by rw [IntKind.wrap_i64]; omega
      rcases HO.out.forms with ⟨_, h0⟩ | ⟨g, cap, hv, hg1, hg2, _, _, hfz, hcl⟩
      · rw [h0] at hts; simp at hts; omega
      injection hv with e1 e2 e3
      subst e1
      subst e3
      have HOt : OwnS wr w5.heap.size (.slice (some ⟨g, 0, none⟩) ts.length cg) ts := by rw [hts]; exact HO.out
      have hp := owns_put HOt (j := k) [111, 116, 104, 101, 114]
      rw [hts] at hp
      have c9 := hcl k (by omega)
      have f9 := hfz k
      have HP := hid hp.1
      have HGb2 := hid (show (wr.setCell ⟨g, k, none⟩ (.string (mk [111, 116, 104, 101, 114]))).heap[gb]? = _ from (hp.2.block gb (hp_lt HGb.out) (fun e => by have := HOG.out g rfl; have := Option.some.inj e; omega)).trans HGb.out)
      have HB2' := hid (HB.out.grown hp.2 HB.out.size (fun j hj => by cases hj; exact hg1))
      clear hcl hfz HOt hp HO HB e2
      go_wp2_with fail
      exact ⟨⟨k + 1, ts.set k [111, 116, 104, 101, 114], by simp, by omega, by rw [List.length_set]; exact hts, HP, HGb2, HB2'⟩, by simp [intOf]; omega⟩
    · have q2 : ¬ (k : Int) < (f.args.length : Int) := by omega
      have HO8 := hid (HO.out.alloc (.cells #[.string ⟨#[109, 111, 114, 101]⟩, .string ⟨#[109, 111, 114, 101]⟩] 9))
      have HB8 := hid (HB.out.alloc HB.out.size (.cells #[.string ⟨#[109, 111, 114, 101]⟩, .string ⟨#[109, 111, 114, 101]⟩] 9))
      have HZ8 := hid (show w5.heap.size ≤ (wr.alloc (.cells #[.string ⟨#[109, 111, 114, 101]⟩, .string ⟨#[109, 111, 114, 101]⟩] 9)).heap.size from HB8.out.size)
      have HK8 := hid (strs_two wr ⟨#[109, 111, 114, 101]⟩ ⟨#[109, 111, 114, 101]⟩)
      have HC8 := hid (show ts.length + 2 ≤ 8796093022208 by omega)
      clear HO HB
      go_wp2_with (at_builtin; refine app_text rfl _ _ rfl w5.heap.size _ ts rfl HO8.out _ _ rfl HK8.out HC8.out HZ8.out ?_)
      intro v9 w9 ho9 hg9 _
      have HB9 := hid (HB8.out.grown hg9 HB8.out.size (fun k hk => (HO8.out.lt k hk).1))
      have HN9 := hid ((HB9.out.block _ (hp_lt HN5.out)).trans HN5.out)
      have HTK9 := hid (HTK.out.below HB9.out)
      have hf9 := Fb.of HN9.out HRN.out.tool
      have c1 := hf9.i
      have c2 := hf9.l1
      have c3 := hf9.l2
      have c4 := hf9.l3
      have c5 := hf9.bd
      have c7 := hf9.a
      rw [HVA.out] at c7
      clear ho9 hg9 HO8 HB8 HZ8 HK8 HC8 hf9 HGb c40
      go_wp2_with fail
      refine (HRQ.out _ w9 HTK9.out.strs).mono ?_
      rintro e w10 ⟨vh, rfl, hoh, hb10⟩
      obtain ⟨ah, ch, e10⟩ := hoh.strs.shape
      subst e10
      have hH11 := hid (hp_new w10 (.cells (fcells G (.slice ah f.args.length ch)).toArray 29))
      have HO11 := hid (hoh.alloc (.cells (fcells G (.slice ah f.args.length ch)).toArray 29))
      have HB11 := hid ((HB9.out.trans (hb10.mono HB9.out.size)).alloc (Nat.le_trans HB9.out.size hb10.size) (.cells (fcells G (.slice ah f.args.length ch)).toArray 29))
      have HZ11 := hid (show w5.heap.size ≤ w10.heap.size from Nat.le_trans HB9.out.size hb10.size)
      clear hoh hb10 c1 c2 c3 c4 c5 c7 HN9 HTK9 HB9
      go_upto_region 13 with (first
        | (refine al_row (by rfl) 29 (by rfl) _ zeroFrame ?_)
        | (refine st_new (by rfl) 29 _ _ (by rfl) (fcells G (.slice ah f.args.length ch)) (by rfl) (by rfl) 29 _ (HSZG.out _) (HOSG.out _) (HONG.out _ _ _) ?_))
      obtain ⟨hb, HHB⟩ : ∃ n, Hid (w10.heap.size = n) := ⟨_, hid rfl⟩
      rw [HHB.out] at hH11 HZ11 ⊢
      generalize w10.alloc (.cells (fcells G (.slice ah f.args.length ch)).toArray 29) = w11 at hH11 HO11 HB11 ⊢
      have HN11 := hid ((HB11.out.block _ (hp_lt HN5.out)).trans HN5.out)
      have hf11 := Fb.of HN11.out HRN.out.tool
      have c1 := hf11.i
      have c2 := hf11.l1
      have c3 := hf11.l2
      have c4 := hf11.l3
      have c5 := hf11.bd
      have c7 := hf11.a
      rw [HVA.out] at c7
      have HH12 := hid ((below_walk w11 (.cells (fcells G (.slice aa f.args.length ca)).toArray 29)).block hb (hp_lt hH11.out) |>.trans hH11.out)
      have hW12 := hid (hp_new w11 (.cells (fcells G (.slice aa f.args.length ca)).toArray 29))
      have HO12 := hid (HO11.out.alloc (.cells (fcells G (.slice aa f.args.length ca)).toArray 29))
      have HB12 := hid (HB11.out.alloc HB11.out.size (.cells (fcells G (.slice aa f.args.length ca)).toArray 29))
      have HZ12 := hid (show hb < w11.heap.size from hp_lt hH11.out)
      have hbq := built_req f.id f.lim.1 f.lim.2.1 f.lim.2.2 aa f.args.length ca f.body f.args
      rw [HG.out] at hbq
      clear hf11 HO11 HB11 hH11
      go_upto_region 14 with (first
        | (refine bd_row (by rfl) 29 #[(0, .const (.int .i64 2)), (1, .tmp 65), (6, .tmp 67), (7, .tmp 69), (8, .tmp 71)] (by rfl) _ (by simp [Act.eval]) _ hbq ?_)
        | (refine al_row (by rfl) 29 (by rfl) _ zeroFrame ?_)
        | (refine st_new (by rfl) 29 _ _ (by rfl) (fcells G (.slice aa f.args.length ca)) (by rfl) (by rfl) 29 _ (HSZG.out _) (HOSG.out _) (HONG.out _ _ _) ?_))
      obtain ⟨wb, HWB⟩ : ∃ n, Hid (w11.heap.size = n) := ⟨_, hid rfl⟩
      rw [HWB.out] at hW12 HZ12 ⊢
      generalize w11.alloc (.cells (fcells G (.slice aa f.args.length ca)).toArray 29) = w12 at HH12 hW12 HO12 HB12 ⊢
      clear c1 c2 c3 c4 c5 c7 HN11 hbq
      have HAW := hid (show Strs w12 (.slice aa f.args.length ca) G.args from by rw [HGA.out, ← HVA.out]; exact HA5.out.below HB12.out)
      have HHS := hid (show Strs w12 (.slice ah f.args.length ch) G.args from by rw [HGA.out]; exact HO12.out.strs)
      have HSM := hid (rsame_any G G (.slice ah f.args.length ch) (.slice aa f.args.length ca) w12 HGT.out HGT.out HHS.out HAW.out (by rw [HGA.out]; omega))
      rw [sameP_self] at HSM
      go_wp2_with (first
        | (refine ld_row (by rfl) 29 (.tmp 7) (by rfl) hb (by rfl) (fcells G (.slice ah f.args.length ch)) 29 HH12.out _ Try.underlying29 rfl (HSZG.out _) ?_)
        | (refine ld_row (by rfl) 29 (.tmp 8) (by rfl) wb (by rfl) (fcells G (.slice aa f.args.length ca)) 29 hW12.out _ Try.underlying29 rfl (HSZG.out _) ?_))
      refine HSM.out.mono ?_
      rintro e w13 ⟨rfl, hb13⟩
      have HB13 := hid (HB12.out.trans (hb13.mono HB12.out.size))
      have HH13 := hid (blk_keep hb13 HH12.out)
      have HW13 := hid (blk_keep hb13 hW12.out)
      have HO13 := hid (HO12.out.below hb13)
      have c7 := (Fb.of ((HB13.out.block _ (hp_lt HN5.out)).trans HN5.out) HRN.out.tool).a
      rw [HVA.out] at c7
      have hrow := (HO5.out.below HB13.out).strs
      obtain ⟨g1, o1, e1, d0⟩ := hrow.at f.args.length (by rw [HL5.out]; omega)
      obtain ⟨g2, o2, e2, d1⟩ := hrow.at (f.args.length + 1) (by rw [HL5.out]; omega)
      injection e1 with e1
      injection e1 with e1 e1'
      injection e2 with e2
      injection e2 with e2 e2'
      subst e1
      subst e1'
      subst e2
      subst e2'
      have hm0 : mk ((f.args ++ MK).getD f.args.length []) = ⟨#[109, 97, 114, 107]⟩ := by
        rw [← HMK.out, List.getD_eq_getElem?_getD, List.getElem?_append_right (Nat.le_refl _), Nat.sub_self]
        exact mk_bl _
      have hm1 : mk ((f.args ++ MK).getD (f.args.length + 1) []) = ⟨#[109, 97, 114, 107]⟩ := by
        rw [← HMK.out, List.getD_eq_getElem?_getD, List.getElem?_append_right (Nat.le_succ _), show f.args.length + 1 - f.args.length = 1 by omega]
        exact mk_bl _
      rw [hm0, Nat.zero_add] at d0
      rw [hm1, Nat.zero_add] at d1
      have hw1 : IntKind.i64.wrap ((f.args.length : Int) + 1) = ((f.args.length + 1 : Nat) : Int) := by rw [IntKind.wrap_i64]; omega
      have q8 : (f.args.length : Int) < ((f.args.length + 2 : Nat) : Int) := by omega
      have q9 : ((f.args.length + 1 : Nat) : Int) < ((f.args.length + 2 : Nat) : Int) := by omega
      clear hb13 HSM HAW HHS HH12 hW12 HO12 HB12 hrow hm0 hm1
      go_wp2_with (first
        | (refine ld_row (by rfl) 29 (.tmp 7) (by rfl) hb (by rfl) (fcells G (.slice ah f.args.length ch)) 29 HH13.out _ Try.underlying29 rfl (HSZG.out _) ?_))
      have HRG := hid (show Rng G from by
        rw [← HG.out]
        exact ⟨rfl, HRN.out.idl, HRN.out.idh, by show (0 : Int) ≤ _; omega, by show (0 : Int) ≤ _; omega, by show (0 : Int) ≤ _; omega, HRN.out.l1, HRN.out.l2, HRN.out.l3, HRN.out.body, HRN.out.many⟩)
      have HT13 := hid (show Strs w13 (.slice ah f.args.length ch) G.args from by rw [HGA.out]; exact HO13.out.strs)
      by_cases hE : chkE G = 0
      · have HE := hid (fun W (hW : Strs W (.slice ah f.args.length ch) G.args) => encF_ok G (.slice ah f.args.length ch) W HRG.out hW hE)
        have hle := enc_len hE
        obtain ⟨M, HM⟩ : ∃ M : Nat, Hid ((encP G).length = M) := ⟨_, hid rfl⟩
        rw [HM.out] at hle
        have HDE := hid (dec_enc G HRG.out hE)
        clear hE d0 d1 c7 hw1 q8 q9
        refine (HE.out w13 HT13.out).mono ?_
        rintro e w14 ⟨vb, rfl, hob, hb14⟩
        obtain ⟨ab, cb, eb⟩ := hob.shape
        rw [HM.out] at eb
        subst eb
        have HH14 := hid (blk_keep hb14 HH13.out)
        have HW14 := hid (blk_keep hb14 HW13.out)
        have HT14 := hid (HT13.out.below hb14)
        have HB14 := hid hb14
        have HOB14 := hid hob
        have HBL := hid (fun k hk => (HOB14.out.lt k hk).2)
        clear hob hb14 HH13 HT13
        go_wp2_with (first
          | (refine ld_row (by rfl) 29 (.tmp 7) (by rfl) hb (by rfl) (fcells G (.slice ah f.args.length ch)) 29 HH14.out _ Try.underlying29 rfl (HSZG.out _) ?_))
        refine (HE.out w14 HT14.out).mono ?_
        rintro e w15 ⟨vc, rfl, hoc, hb15⟩
        obtain ⟨ac, cc, ec⟩ := hoc.shape
        rw [HM.out] at ec
        subst ec
        have HW15 := hid (blk_keep hb15 HW14.out)
        have HB15 := hid (HB14.out.trans (hb15.mono HB14.out.size))
        have HOB15 := hid (HOB14.out.below hb15)
        have HOC15 := hid hoc
        have HSC15 := hid (hoc.src (by rw [HM.out]; omega))
        have HZ15 := hid (show w14.heap.size ≤ w15.heap.size from hb15.size)
        clear hoc hb15 HT14 HH14 HW14 HOB14 HE
        go_wp2_with (at_builtin; refine app_srcw rfl _ _ rfl w15.heap.size _ [] rfl (OwnB.nil _ _) _ (encP G) rfl HSC15.out (by simp) (Nat.le_refl _) ?_)
        intro v16 w16 ho16 hg16
        have ho16 : OwnB w16 w15.heap.size v16 (encP G) := ho16
        have hb16 : Below w15.heap.size w15 w16 := ⟨hg16.os, hg16.tape, hg16.output, hg16.size, fun q hq => hg16.block q hq (by simp [Value.ownBlock])⟩
        obtain ⟨ad, cd, ed⟩ := ho16.shape
        rw [HM.out] at ed
        subst ed
        have HW16 := hid (blk_keep hb16 HW15.out)
        have HB16 := hid (HB15.out.trans (hb16.mono HB15.out.size))
        have HOB16 := hid (HOB15.out.below hb16)
        have HOC16 := hid (HOC15.out.below hb16)
        have HOD16 := hid ho16
        have HBT := hid (fun k (hk : (Value.slice ab M cb).ownBlock = some k) => (HOB16.out.lt k hk).1)
        clear ho16 hg16 hb16 HW15 HB15 HOB15 HOC15 HSC15
        go_wp2_with fail
        go_loopw [120] (fun i wr => ∃ (k : Nat) (bs : List UInt8), i = .int .i64 k ∧ k ≤ M ∧ bs.length = M ∧ Hid (OwnB wr w13.heap.size (.slice ab M cb) bs) ∧ Hid (OwnB wr w14.heap.size (.slice ac M cc) (encP G)) ∧ Hid (OwnB wr w15.heap.size (.slice ad M cd) (encP G)) ∧ Hid (Below w13.heap.size w13 wr)) (fun i _ => M - (intOf i).toNat)
        case atStart => exact ⟨0, encP G, rfl, Nat.zero_le _, HM.out, HOB16, HOC16, HOD16, HB16⟩
        case round =>
          clear HOB16 HOC16 HOD16 HB16
          obtain ⟨k, bs, rfl, hk, hbs, HOB, HOC, HOD, HB⟩ := hrel
          by_cases hlt : k < M
          · have q2 : (k : Int) < (M : Int) := by omega
            have hw1 : IntKind.i64.wrap ((k : Int) + 1) = ((k + 1 : Nat) : Int) := by rw [IntKind.wrap_i64]; omega
            rcases HOB.out.forms with ⟨_, h0⟩ | ⟨g, cap, hv, hg1, hg2, _, _, hfz, hcl⟩
            · rw [h0] at hbs; simp at hbs; omega
            injection hv with e1 e2 e3
            subst e1
            subst e3
            have c9 := hcl k (by omega)
            have f9 := hfz k
            have hgl := HBL.out g rfl
            have gb9 := gb_set wr ⟨g, k, none⟩ (.int .u8 170)
            have HP := hid (show OwnB (wr.setCell ⟨g, k, none⟩ (.int .u8 170)) w13.heap.size (.slice (some ⟨g, 0, none⟩) M cb) (bs.set k 170) from ownb_put HOB.out k 170)
            have HC2 := hid (HOC.out.kept gb9 (apart_up (fun j hj => (HOC.out.lt j hj).1) (fun j hj => by cases hj; exact hgl)))
            have HD2 := hid (HOD.out.kept gb9 (apart_up (fun j hj => (HOD.out.lt j hj).1) (fun j hj => by cases hj; exact Nat.lt_of_lt_of_le hgl HZ15.out)))
            have HB2' := hid (HB.out.grown gb9 HB.out.size (fun j hj => by cases hj; exact hg1))
            clear hcl hfz gb9 HOB HOC HOD HB e2
            go_wp2_with fail
            exact ⟨⟨k + 1, bs.set k 170, by simp, by omega, by rw [List.length_set]; exact hbs, HP, HC2, HD2, HB2'⟩, by simp [intOf]; omega⟩
          · have q2 : ¬ (k : Int) < (M : Int) := by omega
            have HA17 := hid (below_walk wr (.cells #[.int .u8 171, .int .u8 172] 5))
            have HOBa := hid (HOB.out.below HA17.out)
            have HSa := hid (show Src (wr.alloc (.cells #[.int .u8 171, .int .u8 172] 5)) (.slice (some ⟨wr.heap.size, 0, none⟩) 2 2) [171, 172] from src_two wr 171 172)
            have HZa := hid (show w13.heap.size ≤ (wr.alloc (.cells #[.int .u8 171, .int .u8 172] 5)).heap.size from Nat.le_trans HB.out.size HA17.out.size)
            have hbl9 : bs.length ≤ 3000000 := by omega
            go_wp2_with (at_builtin; refine app_srcw rfl _ _ rfl w13.heap.size _ bs rfl HOBa.out _ _ rfl HSa.out hbl9 HZa.out ?_)
            intro v17 w17 ho17 hg17
            have HOC17 := hid ((HOC.out.below HA17.out).kept hg17 (apart_up (fun j hj => (HOC.out.lt j hj).1) (fun j hj => HBL.out j hj)))
            have HOD17 := hid ((HOD.out.below HA17.out).kept hg17 (apart_up (fun j hj => (HOD.out.lt j hj).1) (fun j hj => Nat.lt_of_lt_of_le (HBL.out j hj) HZ15.out)))
            have HB17 := hid ((HB.out.trans (HA17.out.mono HB.out.size)).grown hg17 HZa.out (fun j hj => (HOBa.out.lt j hj).1))
            clear ho17 hg17 HOB HOC HOD HB HA17 HOBa HSa HZa
            go_wp2_with fail
            obtain ⟨D, HD⟩ : ∃ x, Hid ((decP (encP G)).1 = x) := ⟨_, hid rfl⟩
            obtain ⟨E1, HE1⟩ : ∃ x, Hid ((decP (encP G)).2.1 = x) := ⟨_, hid rfl⟩
            obtain ⟨E2, HE2⟩ : ∃ x, Hid ((decP (encP G)).2.2 = x) := ⟨_, hid rfl⟩
            have HDW : Hid (D = G ∨ (D = zF ∧ ¬ (G.lim.1 ≤ 2147483648 ∧ G.lim.2.1 ≤ 2147483648 ∧ G.lim.2.2 ≤ 2147483648))) := hid (by
              have h9 := HDE.out
              by_cases hl : limOk G = true
              · rw [if_pos hl] at h9
                exact Or.inl (by rw [← HD.out, h9])
              · rw [if_neg hl] at h9
                refine Or.inr ⟨by rw [← HD.out]; exact h9.1, fun hc => hl ?_⟩
                unfold limOk
                exact decide_eq_true hc)
            have HDT : Hid (D.tool.length = 32) := hid (by rcases HDW.out with e | e; · rw [e]; exact HGT.out
                                                           · rw [e.1]; rfl)
            have HDL : Hid (D.args.length ≤ f.args.length) := hid (by rcases HDW.out with e | e; · rw [e, HGA.out]; exact Nat.le_refl _
                                                                      · rw [e.1]; exact Nat.zero_le _)
            have HDC := hid (fun W (h : Src W (.slice ac M cc) (encP G)) => decode_any _ (encP G) W h)
            rw [HD.out, HE1.out, HE2.out] at HDC
            have HSC17 := hid (HOC17.out.src (by rw [HM.out]; omega))
            have HSD17 := hid (HOD17.out.src (by rw [HM.out]; omega))
            have HW17 := hid ((HB17.out.block wb (hp_lt HW13.out)).trans HW13.out)
            have HBw := hid (HB13.out.trans (HB17.out.mono HB13.out.size))
            have HSZD := hid (fun v => frame_size D v HDT.out)
            have HONs := hid (fun a n c => fcells_one D (.slice a n c) rfl)
            have HOSs := hid (fun v => show (fcells zF nS).toArray.size = (fcells D v).length by rw [fcells_length _ _ HDT.out]; rfl)
            obtain ⟨L, HL⟩ : ∃ l, Hid (D.args.length = l) := ⟨_, hid rfl⟩
            clear HD HE1 HE2 HDE HOC17 HOD17 HB17
            refine (HDC.out w17 HSC17.out).mono ?_
            rintro e w18 ⟨vx, rfl, hox, hb18⟩
            have hox : OwnS w18 w17.heap.size vx D.args := hox
            obtain ⟨ax, cx, ex⟩ := hox.strs.shape
            rw [HL.out] at ex
            subst ex
            have HXL := hid (fun k hk => (hox.lt k hk).2)
            have HOX18 := hid hox
            have HSC18 := hid (HSC17.out.below hb18)
            have HB18 := hid hb18
            clear hox hb18
            go_upto_region 28 with (first
              | (refine al_row (by rfl) 29 (by rfl) _ zeroFrame ?_)
              | (refine st_row (by rfl) 29 _ _ (by rfl) w18.heap.size (fcells D (.slice ax L cx)) (by rfl) (by rfl) 29 _ (hp_two w18 _ _).1 (HSZD.out _) (HOSs.out _) (HONs.out _ _ _) ?_; intro w19 hw19)
              | (refine st_row (by rfl) 47 _ _ (by rfl) (w18.heap.size + 1) [Value.int .i64 E1, .int .i64 E2] (by rfl) (by rfl) 47 _ (gb_keep hw19.grown (hp_two w18 _ _).2 (by omega)) faultSize rfl (fault_one _ _) ?_; intro w20 hw20))
            have HQ20 := hid (Below.of_gb (Below.of_gb (below_walk2 w18 (.cells (fcells zF nS).toArray 29) (.cells #[.int .i64 0, .int .i64 0] 47)) hw19.grown (Nat.le_refl _)) hw20.grown (by omega))
            have HX20 := hid (gb_keep hw20.grown hw19.blk (by omega))
            have HOX20 := hid (HOX18.out.below HQ20.out)
            have HSC20 := hid (HSC18.out.below HQ20.out)
            have HB20 := hid (HB18.out.trans (HQ20.out.mono HB18.out.size))
            clear hw19 hw20 HOX18 HSC18 HB18 HQ20
            obtain ⟨xb, HXB⟩ : ∃ n, Hid (w18.heap.size = n) := ⟨_, hid rfl⟩
            rw [HXB.out] at HX20 HXL
            try rw [HXB.out]
            go_wp2_with fail
            refine (HDC.out w20 HSC20.out).mono ?_
            rintro e w21 ⟨vy, rfl, hoy, hb21⟩
            have hoy : OwnS w21 w20.heap.size vy D.args := hoy
            obtain ⟨ay, cy, ey⟩ := hoy.strs.shape
            rw [HL.out] at ey
            subst ey
            have HOY21 := hid hoy
            have HX21 := hid (blk_keep hb21 HX20.out)
            have HOX21 := hid (HOX20.out.below hb21)
            have HB21 := hid (HB20.out.trans (hb21.mono HB20.out.size))
            have HXZ := hid (show xb < w20.heap.size from hp_lt HX20.out)
            have HYZ0 := hid (show w20.heap.size ≤ w21.heap.size from hb21.size)
            have HOX23z := hid (fun k hk => (HOX20.out.lt k hk).1)
            clear hoy hb21 HDC HSC20 HX20 HOX20 HB20
            go_upto_region 29 with (first
              | (refine al_row (by rfl) 29 (by rfl) _ zeroFrame ?_)
              | (refine st_row (by rfl) 29 _ _ (by rfl) w21.heap.size (fcells D (.slice ay L cy)) (by rfl) (by rfl) 29 _ (hp_two w21 _ _).1 (HSZD.out _) (HOSs.out _) (HONs.out _ _ _) ?_; intro w22 hw22)
              | (refine st_row (by rfl) 47 _ _ (by rfl) (w21.heap.size + 1) [Value.int .i64 E1, .int .i64 E2] (by rfl) (by rfl) 47 _ (gb_keep hw22.grown (hp_two w21 _ _).2 (by omega)) faultSize rfl (fault_one _ _) ?_; intro w23 hw23))
            have HQ23 := hid (Below.of_gb (Below.of_gb (below_walk2 w21 (.cells (fcells zF nS).toArray 29) (.cells #[.int .i64 0, .int .i64 0] 47)) hw22.grown (Nat.le_refl _)) hw23.grown (by omega))
            have HY23 := hid (gb_keep hw23.grown hw22.blk (by omega))
            have HOX23 := hid (HOX21.out.below HQ23.out)
            have HOY23 := hid (HOY21.out.below HQ23.out)
            have HX23 := hid (blk_keep HQ23.out HX21.out)
            have HB23 := hid (HB21.out.trans (HQ23.out.mono HB21.out.size))
            have HYZ := hid HYZ0.out
            clear hw22 hw23 HOY21 HX21 HOX21 HB21 HQ23
            obtain ⟨yb, HYB⟩ : ∃ n, Hid (w21.heap.size = n) := ⟨_, hid rfl⟩
            rw [HYB.out] at HY23 HYZ ⊢
            have c40 := (Fb.of HX23.out HDT.out).a
            have hLm : L ≤ f.args.length := by rw [← HL.out]; exact HDL.out
            go_wp2_with fail
            go_loopw [143] (fun i wr => ∃ (k : Nat) (ts : List (List UInt8)), i = .int .i64 k ∧ k ≤ L ∧ ts.length = L ∧ Hid (OwnS wr w17.heap.size (.slice ax L cx) ts) ∧ Hid (w23.grownBy wr (Value.slice ax L cx).ownBlock)) (fun i _ => L - (intOf i).toNat)
            case atStart => exact ⟨0, D.args, rfl, Nat.zero_le _, HL.out, HOX23, hid (gb_refl _ _)⟩
            case round =>
              clear HOX23 c40
              obtain ⟨k, ts, rfl, hk, hts, HO, HG9⟩ := hrel
              have HXr := hid (show wr.heap[xb]? = some (.cells (fcells D (.slice ax L cx)).toArray 29 (0, 0)) from (HG9.out.block xb (hp_lt HX23.out) (fun e => by have := HXL.out xb e.symm; omega)).trans HX23.out)
              have c40 := (Fb.of HXr.out HDT.out).a
              by_cases hlt : k < L
              · have q2 : (k : Int) < (L : Int) := by omega
                have hw1 : IntKind.i64.wrap ((k : Int) + 1) = ((k + 1 : Nat) : Int) := by rw [IntKind.wrap_i64]; omega
                rcases HO.out.forms with ⟨_, h0⟩ | ⟨g, cap, hv, hg1, hg2, _, _, hfz, hcl⟩
                · rw [h0] at hts; simp at hts; omega
                injection hv with e1 e2 e3
                subst e1
                subst e3
                have HOt : OwnS wr w17.heap.size (.slice (some ⟨g, 0, none⟩) ts.length cx) ts := by rw [hts]; exact HO.out
                have hp := owns_put HOt (j := k) [116, 104, 105, 114, 100]
                rw [hts] at hp
                have c9 := hcl k (by omega)
                have f9 := hfz k
                have HP := hid hp.1
                have HG10 := hid (gb_trans HG9.out hp.2)
                clear hcl hfz HOt hp HO HG9 e2
                go_wp2_with fail
                exact ⟨⟨k + 1, ts.set k [116, 104, 105, 114, 100], by simp, by omega, by rw [List.length_set]; exact hts, HP, HG10⟩, by simp [intOf]; omega⟩
              · have q2 : ¬ (k : Int) < (L : Int) := by omega
                have HO8 := hid (HO.out.alloc (.cells #[.string ⟨#[102, 111, 117, 114, 116, 104]⟩] 9))
                have HK8 := hid (strs_one wr ⟨#[102, 111, 117, 114, 116, 104]⟩)
                have HC8 := hid (show ts.length + 1 ≤ 8796093022208 by omega)
                have HZ8 := hid (show w17.heap.size ≤ (wr.alloc (.cells #[.string ⟨#[102, 111, 117, 114, 116, 104]⟩] 9)).heap.size from Nat.le_trans HB23.out.size (Nat.le_trans HG9.out.size (by simp)))
                go_wp2_with (at_builtin; refine app_text rfl _ _ rfl w17.heap.size _ ts rfl HO8.out _ _ rfl HK8.out HC8.out HZ8.out ?_)
                intro v25 w25 _ hg25 _
                have HG25 := hid (gb_trans (gb_trans HG9.out (below_gb (below_walk wr (.cells #[.string ⟨#[102, 111, 117, 114, 116, 104]⟩] 9)) _)) hg25)
                clear hg25 HO8 HK8 HC8 HZ8 HO HG9 HXr c40
                have HXR := hid (fun b (h1 : b < w23.heap.size) (h2 : b < w17.heap.size ∨ xb ≤ b) => HG25.out.block b h1 (fun e => by
                  have h3 := (HOX23z.out b e.symm)
                  have h4 := HXL.out b e.symm
                  omega))
                have HB25 := hid (HB23.out.grown HG25.out HB23.out.size (fun k hk => HOX23z.out k hk))
                have HBf := hid (HBw.out.trans (HB25.out.mono HBw.out.size))
                have HN25 := hid ((HBf.out.block _ (hp_lt HN5.out)).trans HN5.out)
                have hf25 := Fb.of HN25.out HRN.out.tool
                have c2 := hf25.l1
                have c3 := hf25.l2
                have c4 := hf25.l3
                have HY25 := hid ((HXR.out yb (hp_lt HY23.out) (Or.inr (by have := HYZ.out; have := HXZ.out; omega))).trans HY23.out)
                have HOY25 := hid (HOY23.out.kept HG25.out (apart_up (fun j hj => (HOY23.out.lt j hj).1) (fun j hj => Nat.lt_trans (HXL.out j hj) HXZ.out)))
                have HW25 := hid ((HB25.out.block wb (hp_lt HW17.out)).trans HW17.out)
                have HA26 := hid (below_walk w25 (.cells #[.int .i64 f.lim.1, .int .i64 f.lim.2.1, .int .i64 f.lim.2.2] 26))
                have HLB26 := hid (hp_new w25 (.cells #[.int .i64 f.lim.1, .int .i64 f.lim.2.1, .int .i64 f.lim.2.2] 26))
                have HSC26 := hid ((HSC17.out.below HB25.out).below HA26.out)
                have HSD26 := hid ((HSD17.out.below HB25.out).below HA26.out)
                have HY26 := hid (blk_keep HA26.out HY25.out)
                have HW26 := hid (blk_keep HA26.out HW25.out)
                have HS1 := hid (show Strs (w25.alloc (.cells #[.int .i64 f.lim.1, .int .i64 f.lim.2.1, .int .i64 f.lim.2.2] 26)) (.slice ay L cy) D.args from HOY25.out.strs.below HA26.out)
                have HS2 := hid (show Strs (w25.alloc (.cells #[.int .i64 f.lim.1, .int .i64 f.lim.2.1, .int .i64 f.lim.2.2] 26)) (.slice aa f.args.length ca) G.args from by rw [HGA.out, ← HVA.out]; exact (HA5.out.below HBf.out).below HA26.out)
                have HBz := hid (HBf.out.trans (HA26.out.mono HBf.out.size))
                clear hf25 HXR HG25 HB25 HBf HN25 HY25 HOY25 HW25 HA26
                obtain ⟨lb, HLBe⟩ : ∃ n, Hid (w25.heap.size = n) := ⟨_, hid rfl⟩
                go_wp2_with fail
                rw [HLBe.out] at HLB26
                try rw [HLBe.out]
                generalize w25.alloc (.cells #[.int .i64 f.lim.1, .int .i64 f.lim.2.1, .int .i64 f.lim.2.2] 26) = w26 at *
                refine (equal_true (.slice ac M cc) (.slice ad M cd) (encP G) w26 HSC26.out HSD26.out).mono ?_
                rintro e w27 ⟨rfl, hw27⟩
                have hw27 := hw27.symm
                subst hw27
                have HSM := hid (rsame_any D G (.slice ay L cy) (.slice aa f.args.length ca) w26 HDT.out HGT.out HS1.out HS2.out (by rw [HL.out]; omega))
                clear c2 c3 c4
                go_wp2_with (first
                  | (refine ungd (by rfl) ?_; refine ld_row (by rfl) 29 (.tmp 17) (by rfl) yb (by rfl) (fcells D (.slice ay L cy)) 29 HY26.out _ Try.underlying29 rfl (HSZD.out _) ?_)
                  | (refine ungd (by rfl) ?_; refine ld_row (by rfl) 29 (.tmp 8) (by rfl) wb (by rfl) (fcells G (.slice aa f.args.length ca)) 29 HW26.out _ Try.underlying29 rfl (HSZG.out _) ?_))
                refine HSM.out.mono ?_
                rintro e w28 ⟨rfl, hb28⟩
                have HLB28 := hid (blk_keep hb28 HLB26.out)
                have HB28 := hid (HB5.out.trans ((HBz.out.trans (hb28.mono HBz.out.size)).mono HB5.out.size))
                clear hb28 HSM
                rcases HDW.out with e | ⟨e, hlim⟩
                · rw [show sameP D G = true from by rw [e]; exact sameP_self G]
                  go_wp2
                  go_ret
                  exact ⟨rfl, HB28.out⟩
                · have hsf : sameP D G = false := by
                    rw [e, ← HG.out]
                    unfold sameP
                    refine decide_eq_false (fun h9 => ?_)
                    exact absurd (show (0 : Int) = 2 from h9.1) (by decide)
                  rw [hsf]
                  rw [← HG.out] at hlim
                  have hlim : ¬ (f.lim.1 ≤ 2147483648 ∧ f.lim.2.1 ≤ 2147483648 ∧ f.lim.2.2 ≤ 2147483648) := hlim
                  have x0 := cell_of_row w28 lb 0 _ _ _ HLB28.out
                  have x1 := cell_of_row w28 lb 1 _ _ _ HLB28.out
                  have x2 := cell_of_row w28 lb 2 _ _ _ HLB28.out
                  simp at x0 x1 x2
                  have HLIM := hid hlim
                  clear hlim hsf e
                  go_wp2
                  all_goals
                    go_ret
                    refine ⟨?_, HB28.out⟩
                    first
                      | rfl
                      | exact congrArg (fun b => Ending.returned (Value.bool b)) (decide_eq_true (by have := HLIM.out; omega))
      · have HE := hid (fun W (hW : Strs W (.slice ah f.args.length ch) G.args) => encF_err G (.slice ah f.args.length ch) W HRG.out hW hE)
        have hE2 : (chkE G == 0) = false := by simpa using hE
        have hE3 : (chkE G != 0) = true := by simpa using hE
        clear d0 d1 c7 hw1 q8 q9
        refine (HE.out w13 HT13.out).mono ?_
        rintro e w14 ⟨rfl, hb14⟩
        have HH14 := hid (blk_keep hb14 HH13.out)
        have HT14 := hid (HT13.out.below hb14)
        have HB14 := hid (HB13.out.trans (hb14.mono HB13.out.size))
        clear hb14 HH13 HW13 HT13 HB13
        go_wp2_with (first
          | (refine ld_row (by rfl) 29 (.tmp 7) (by rfl) hb (by rfl) (fcells G (.slice ah f.args.length ch)) 29 HH14.out _ Try.underlying29 rfl (HSZG.out _) ?_))
        refine (HE.out w14 HT14.out).mono ?_
        rintro e w15 ⟨rfl, hb15⟩
        have HB15 := hid (HB14.out.trans (hb15.mono HB14.out.size))
        clear hb15 HE
        go_wp2
        go_ret
        exact ⟨rfl, HB5.out.trans (HB15.out.mono HB5.out.size)⟩

end Go.Proofs.Ytjinkahlfigdcaa
