/- Tagged of both sides. -/
import Derived.Test.YticmdmnjajjpbaaDoorSPreC
import Derived.Test.YticmdmnjajjpbaaDoorSRefS
import Derived.Test.YticmdmnjajjpbaaDoorSClone
namespace Go.Proofs.YticmdmnjajjpbaaDoor
open Go.RowKit

/-- the digest of a preimage; noughts for what is no tag -/
def tgD (l : List UInt8) (pss : List (List UInt8)) : List Int := if tagP l then ofP (preP l pss) else zeros 32
def tgE (l : List UInt8) : Int := if tagP l then 0 else 22
theorem tgD_length (l : List UInt8) (pss : List (List UInt8)) : (tgD l pss).length = 32 := by
  unfold tgD
  split
  · exact ofP_length _
  · exact zeros_length _

set_option maxRecDepth 100000 in
set_option maxHeartbeats 1000000 in
theorem tagged_any (X : Nat → Prop) (w : World) (s : ByteArray) (l : List UInt8) (v : Value) (pss : List (List UInt8)) (hT : Tabs w) (hs : s.data.toList = l) (hv : Lists X w v pss) (hn : pss.length ≤ 1048576) (hN : (fl pss).length ≤ 1048576) :
    Calls Tryd.prog 22 #[.string s, v] w fun e w' => e = .returned (.tuple #[.agg (u8V (tgD l pss)).toArray, .int .i64 (tgE l)]) ∧ Below w.heap.size w w' := by
  obtain ⟨z41, s41⟩ := zero_of_info (P := Tryd.prog) (t := 41) (v := .agg (u8V (zeros 32)).toArray) (n := 32) (by kernel_rfl)
  have HZ41 := hid s41
  clear s41
  have HB0 := hid (below_walk w (.cells (u8V (zeros 32)).toArray 41))
  have HR0 := hid (hp_new w (.cells (u8V (zeros 32)).toArray 41))
  have HV := hid (hv.below HB0.out)
  have HT := hid hT
  have HS := hid hs
  have HL32 : Hid ((Tryd.prog.info? 41).map (·.size) = some (u8V (tgD l pss)).length) := by rw [u8V_length, tgD_length]; exact HZ41.out
  obtain ⟨ao, cv, rfl⟩ := lists_shape hv
  clear hv hT hs
  cases ht : tagP l with
  | false =>
    have HTG := hid ht
    have HD := hid (show tgD l pss = zeros 32 by unfold tgD; rw [ht]; rfl)
    have HE := hid (show tgE l = 22 by unfold tgE; rw [ht]; rfl)
    have HBU := hid (show Tryd.prog.built 41 [] = some (u8V (zeros 32)).toArray by kernel_rfl)
    rw [HD.out] at HL32 ⊢
    rw [HE.out]
    clear ht
    go_enter Tryd.func22, Tryd.ntmps22
    go_upto_region 1 with fail
    generalize w.alloc (.cells (u8V (zeros 32)).toArray 41) = wv at HB0 HR0 HV ⊢
    go_wp2_with fail
    refine (pre_no wv s l _ HS.out HTG.out).mono ?_
    rintro e w1 ⟨rfl, h1⟩
    subst w1
    go_upto_region 3 with fail
    refine wp_region_list ?_
    show wpList _ _ _ (_ :: _) _ _
    refine bd_row (by rfl) 41 _ (by rfl) [] (by simp) _ HBU.out ?_
    refine mv_row (by rfl) (.tmp 7) (by rfl) (.int .i64 22) (by rfl) ?_
    refine st_row (by rfl) 41 (.tmp 4) (.tmp 16) (by rfl) w.heap.size (u8V (zeros 32)) (by rfl) (by rfl) 41 _ HR0.out HL32.out (by rw [List.size_toArray]) (u8V_one _) ?_
    intro w6 hw6
    have HW := hid hw6
    clear hw6
    go_wp2
    refine ret_row2 4 5 41 rfl w.heap.size rfl _ 41 HW.out.blk _ Tryd.underlying41 rfl HL32.out _ rfl rfl ⟨rfl, ?_⟩
    exact HB0.out.grown HW.out.grown HB0.out.size (by intro k hk; cases hk; exact Nat.le_refl _)
  | true =>
    have HTG := hid ht
    have HD := hid (show tgD l pss = ofP (fl [preP l pss]) by unfold tgD; rw [ht]; simp [fl])
    have HE := hid (show tgE l = 0 by unfold tgE; rw [ht]; rfl)
    have HPL := hid (show (preP l pss).length ≤ 140737488355327 by
      have h1 := preQ_len pss
      have h2 := tag_len ht
      unfold preP
      simp only [List.length_cons, List.length_append]
      omega)
    rw [HE.out]
    obtain ⟨D, HDD⟩ : ∃ D, Hid (D = u8V (tgD l pss)) := ⟨_, rfl⟩
    rw [← HDD.out] at HL32 ⊢
    have HDL := hid (show D.length = 32 by rw [HDD.out, u8V_length, tgD_length])
    clear ht
    go_enter Tryd.func22, Tryd.ntmps22
    go_upto_region 1 with fail
    generalize w.alloc (.cells (u8V (zeros 32)).toArray 41) = wv at HB0 HR0 HV ⊢
    go_wp2_with fail
    refine (pre_ok X wv s l _ pss HS.out HTG.out HV.out hn hN).mono ?_
    rintro e w1 ⟨v1, rfl, ho1, hb1⟩
    obtain ⟨a1, k1, hv1⟩ := ho1.shape
    obtain ⟨n1, HN1⟩ : ∃ n : Nat, Hid (n = (preP l pss).length) := ⟨_, rfl⟩
    rw [← HN1.out] at hv1
    subst hv1
    have HO1 := hid ho1
    have HB1 := hid (HB0.out.trans (hb1.mono HB0.out.size))
    have HR1 := hid ((hb1.block _ (hp_lt HR0.out)).trans HR0.out)
    clear ho1 hb1
    go_wp2_with fail
    refine (of_any _ _ [preP l pss] ?t1 ?t2 ?t3 ?t4).mono ?_
    case t1 => exact HT.out.below (HB1.out.alloc HB1.out.size _)
    case t2 => exact lists_one (HO1.out.src HPL.out) (fun k _ hk => by first | trivial | (have := (HO1.out.lt k hk).2; rw [hp_size]; omega)) (by first | trivial | (rw [hp_size]; omega))
    case t3 => simp
    case t4 => rw [show fl [preP l pss] = preP l pss by simp [fl]]; have := HPL.out; omega
    rintro e w2 ⟨rfl, hb2⟩
    rw [← HD.out, ← HDD.out]
    have HB2 := hid ((HB1.out.alloc HB1.out.size _).trans (hb2.mono (by rw [hp_size]; exact Nat.le_succ_of_le HB1.out.size)))
    have HR2 := hid ((hb2.block _ (by rw [hp_size]; exact Nat.lt_succ_of_lt (hp_lt HR1.out))).trans ((hp_old w1 _ _ (hp_lt HR1.out)).trans HR1.out))
    clear hb2
    rename_i Kx hKx
    refine hKx _ _ ?_
    clear hKx
    refine st_row (by rfl) 41 (.tmp 4) (.tmp 20) (by rfl) w.heap.size D (by rfl) (by rfl) 41 _ HR2.out HL32.out (by rw [List.size_toArray, HDL.out, u8V_length, zeros_length]) (by rw [HDD.out]; exact u8V_one _) ?_
    intro w6 hw6
    have HW := hid hw6
    clear hw6
    go_wp2
    refine ret_row2 4 5 41 rfl w.heap.size rfl _ 41 HW.out.blk _ Tryd.underlying41 rfl HL32.out _ rfl rfl ⟨rfl, ?_⟩
    exact HB2.out.grown HW.out.grown HB2.out.size (by intro k hk; cases hk; exact Nat.le_refl _)

set_option maxRecDepth 100000 in
set_option maxHeartbeats 1000000 in
theorem rtagged_any (X : Nat → Prop) (w : World) (s : ByteArray) (l : List UInt8) (v : Value) (pss : List (List UInt8)) (hT : TabR w) (hs : s.data.toList = l) (hlen : s.size ≤ 1048576) (hv : Lists X w v pss) (hn : pss.length ≤ 1048576) (hN : (fl pss).length ≤ 1048576) :
    Calls Tryd.prog 23 #[.string s, v] w fun e w' => e = .returned (.tuple #[.agg (u8V (tgD l pss)).toArray, .int .i64 (tgE l)]) ∧ Below w.heap.size w w' := by
  obtain ⟨z41, s41⟩ := zero_of_info (P := Tryd.prog) (t := 41) (v := .agg (u8V (zeros 32)).toArray) (n := 32) (by kernel_rfl)
  have HZ41 := hid s41
  clear s41
  have HB0 := hid (below_walk w (.cells (u8V (zeros 32)).toArray 41))
  have HR0 := hid (hp_new w (.cells (u8V (zeros 32)).toArray 41))
  have HV := hid (hv.below HB0.out)
  have HT := hid hT
  have HS := hid hs
  have HL32 : Hid ((Tryd.prog.info? 41).map (·.size) = some (u8V (tgD l pss)).length) := by rw [u8V_length, tgD_length]; exact HZ41.out
  obtain ⟨ao, cv, rfl⟩ := lists_shape hv
  clear hv hT hs
  cases ht : tagP l with
  | false =>
    have HTG := hid ht
    have HD := hid (show tgD l pss = zeros 32 by unfold tgD; rw [ht]; rfl)
    have HE := hid (show tgE l = 22 by unfold tgE; rw [ht]; rfl)
    have HBU := hid (show Tryd.prog.built 41 [] = some (u8V (zeros 32)).toArray by kernel_rfl)
    rw [HD.out] at HL32 ⊢
    rw [HE.out]
    clear ht
    go_enter Tryd.func23, Tryd.ntmps23
    go_upto_region 1 with fail
    generalize w.alloc (.cells (u8V (zeros 32)).toArray 41) = wv at HB0 HR0 HV ⊢
    go_wp2_with fail
    refine (rpre_no wv s l _ HS.out hlen HTG.out).mono ?_
    rintro e w1 ⟨rfl, h1⟩
    subst w1
    go_upto_region 3 with fail
    refine wp_region_list ?_
    show wpList _ _ _ (_ :: _) _ _
    refine bd_row (by rfl) 41 _ (by rfl) [] (by simp) _ HBU.out ?_
    refine mv_row (by rfl) (.tmp 7) (by rfl) (.int .i64 22) (by rfl) ?_
    refine st_row (by rfl) 41 (.tmp 4) (.tmp 16) (by rfl) w.heap.size (u8V (zeros 32)) (by rfl) (by rfl) 41 _ HR0.out HL32.out (by rw [List.size_toArray]) (u8V_one _) ?_
    intro w6 hw6
    have HW := hid hw6
    clear hw6
    go_wp2
    refine ret_row2 4 5 41 rfl w.heap.size rfl _ 41 HW.out.blk _ Tryd.underlying41 rfl HL32.out _ rfl rfl ⟨rfl, ?_⟩
    exact HB0.out.grown HW.out.grown HB0.out.size (by intro k hk; cases hk; exact Nat.le_refl _)
  | true =>
    have HTG := hid ht
    have HD := hid (show tgD l pss = ofP (fl [preP l pss]) by unfold tgD; rw [ht]; simp [fl])
    have HE := hid (show tgE l = 0 by unfold tgE; rw [ht]; rfl)
    have HPL := hid (show (preP l pss).length ≤ 140737488355327 by
      have h1 := preQ_len pss
      have h2 := tag_len ht
      unfold preP
      simp only [List.length_cons, List.length_append]
      omega)
    rw [HE.out]
    obtain ⟨D, HDD⟩ : ∃ D, Hid (D = u8V (tgD l pss)) := ⟨_, rfl⟩
    rw [← HDD.out] at HL32 ⊢
    have HDL := hid (show D.length = 32 by rw [HDD.out, u8V_length, tgD_length])
    clear ht
    go_enter Tryd.func23, Tryd.ntmps23
    go_upto_region 1 with fail
    generalize w.alloc (.cells (u8V (zeros 32)).toArray 41) = wv at HB0 HR0 HV ⊢
    go_wp2_with fail
    refine (rpre_ok X wv s l _ pss HS.out HTG.out HV.out hn hN).mono ?_
    rintro e w1 ⟨v1, rfl, ho1, hb1⟩
    obtain ⟨a1, k1, hv1⟩ := ho1.shape
    obtain ⟨n1, HN1⟩ : ∃ n : Nat, Hid (n = (preP l pss).length) := ⟨_, rfl⟩
    rw [← HN1.out] at hv1
    subst hv1
    have HO1 := hid ho1
    have HB1 := hid (HB0.out.trans (hb1.mono HB0.out.size))
    have HR1 := hid ((hb1.block _ (hp_lt HR0.out)).trans HR0.out)
    clear ho1 hb1
    go_wp2_with fail
    refine (rof_any (fun _ => True) _ _ [preP l pss] ?t1 ?t2 ?t3 ?t4).mono ?_
    case t1 => exact HT.out.below (HB1.out.alloc HB1.out.size _)
    case t2 => exact lists_one (HO1.out.src HPL.out) (fun k _ hk => by first | trivial | (have := (HO1.out.lt k hk).2; rw [hp_size]; omega)) (by first | trivial | (rw [hp_size]; omega))
    case t3 => simp
    case t4 => rw [show fl [preP l pss] = preP l pss by simp [fl]]; have := HPL.out; omega
    rintro e w2 ⟨rfl, hb2⟩
    rw [← HD.out, ← HDD.out]
    have HB2 := hid ((HB1.out.alloc HB1.out.size _).trans (hb2.mono (by rw [hp_size]; exact Nat.le_succ_of_le HB1.out.size)))
    have HR2 := hid ((hb2.block _ (by rw [hp_size]; exact Nat.lt_succ_of_lt (hp_lt HR1.out))).trans ((hp_old w1 _ _ (hp_lt HR1.out)).trans HR1.out))
    clear hb2
    rename_i Kx hKx
    refine hKx _ _ ?_
    clear hKx
    refine st_row (by rfl) 41 (.tmp 4) (.tmp 20) (by rfl) w.heap.size D (by rfl) (by rfl) 41 _ HR2.out HL32.out (by rw [List.size_toArray, HDL.out, u8V_length, zeros_length]) (by rw [HDD.out]; exact u8V_one _) ?_
    intro w6 hw6
    have HW := hid hw6
    clear hw6
    go_wp2
    refine ret_row2 4 5 41 rfl w.heap.size rfl _ 41 HW.out.blk _ Tryd.underlying41 rfl HL32.out _ rfl rfl ⟨rfl, ?_⟩
    exact HB2.out.grown HW.out.grown HB2.out.size (by intro k hk; cases hk; exact Nat.le_refl _)

end Go.Proofs.YticmdmnjajjpbaaDoor
