/- The document's Seal; Open: the program's and the document's. -/
import Derived.Test.YtljppkpieoejlabCSeal2
namespace Go.Proofs.Ytljppkpieoejlab
open Go.RowKit

/-- four bytes that a literal lays -/
theorem src_four (w : World) (c : Nat) : Src (w.alloc (.cells (bytesV (le4 c)).toArray 5)) (.slice (some ⟨w.heap.size, 0, none⟩) 4 4) (le4 c) := src_lit (hp_new _ _) rfl (by rw [le4_length]; omega) _ rfl

set_option maxRecDepth 100000 in
set_option maxHeartbeats 1000000 in
theorem rseal_any (w : World) (v : Value) (bs : List UInt8) (hv : Src w v bs) (hl : bs.length ≤ 140737488355000) :
    Calls Try.prog 12 #[v] w fun e w' => ∃ v', e = .returned v' ∧ OwnB w' w.heap.size v' (sealP bs) ∧ Below w.heap.size w w' := by
  obtain ⟨av, cv, rfl⟩ := src_shape hv
  have HV := hid hv
  clear hv
  go_enter Try.func12, Try.ntmps12
  go_wp2_with (at_builtin; refine app_src rfl _ _ rfl w.heap.size _ [] rfl (OwnB.nil _ _) _ bs rfl HV.out (by simp; omega) (Nat.le_refl _) ?_)
  intro v1 w1 ho1 hg1
  have HO1 := hid (show OwnB w1 w.heap.size v1 bs from ho1)
  have HB1 := hid (gb_below hg1)
  have HV1 := hid (HV.out.below HB1.out)
  clear ho1 hg1 HV
  go_wp2_with fail
  refine (rmore_any w1 0 _ bs (by omega) HV1.out).mono ?_
  rintro e w2 ⟨rfl, rfl⟩
  go_wp2_with fail
  refine (rbytes_any w2 _).mono ?_
  rintro e w3 ⟨rfl, hb3⟩
  have HO3 := hid (HO1.out.below hb3)
  have HB3 := hid (HB1.out.trans (hb3.mono HB1.out.size))
  clear hb3 HO1 HB1 HV1
  rw [show moreP 0 bs = sumP bs from rfl]
  rename_i Kx hKx
  refine hKx _ _ ?_
  clear hKx
  obtain ⟨z, s⟩ := zero_of_info (P := Try.prog) (t := 23) (v := .agg (bytesV [0, 0, 0, 0]).toArray) (n := 4) (by kernel_rfl)
  refine al_row (by rfl) 23 (by rfl) _ z ?_
  refine st_new (by rfl) 23 (.tmp 4) (.tmp 9) (by rfl) (bytesV (le4 (sumP bs))) (by rfl) (by rfl) _ _ (by rw [bytesV_length]; exact s) (by rw [List.size_toArray]; rfl) (bytesV_one _) ?_
  have HN := hid (hp_new w3 (.cells (bytesV (le4 (sumP bs))).toArray 23))
  have HB5 := hid (HB3.out.alloc HB3.out.size (.cells (bytesV (le4 (sumP bs))).toArray 23))
  have HO5 := hid (HO3.out.below (below_walk w3 (.cells (bytesV (le4 (sumP bs))).toArray 23)))
  clear z s HO3 HB3
  generalize w3.alloc (.cells (bytesV (le4 (sumP bs))).toArray 23) = w5 at HN HB5 HO5 ⊢
  have HC := hid (le4_V (sumP bs))
  obtain ⟨q0, q1, q2, q3, HQ⟩ : ∃ q0 q1 q2 q3, Hid (bytesV (le4 (sumP bs)) = [.int .u8 q0, .int .u8 q1, .int .u8 q2, .int .u8 q3]) := ⟨_, _, _, _, HC.out⟩
  rw [HQ.out] at HN
  have c0 : w5.cell? ⟨w3.heap.size, 0, none⟩ = some (.int .u8 q0) := by rw [cell_of_row _ _ _ _ _ _ HN.out]; rfl
  have c1 : w5.cell? ⟨w3.heap.size, 1, none⟩ = some (.int .u8 q1) := by rw [cell_of_row _ _ _ _ _ _ HN.out]; rfl
  have c2 : w5.cell? ⟨w3.heap.size, 2, none⟩ = some (.int .u8 q2) := by rw [cell_of_row _ _ _ _ _ _ HN.out]; rfl
  have c3 : w5.cell? ⟨w3.heap.size, 3, none⟩ = some (.int .u8 q3) := by rw [cell_of_row _ _ _ _ _ _ HN.out]; rfl
  have HS := hid (src_four w5 (sumP bs))
  rw [HQ.out] at HS
  have HSZ := HB5.out.size
  clear HC
  go_wp2_with (at_builtin; refine app_src rfl _ _ rfl w.heap.size _ bs rfl (HO5.out.below (below_walk w5 _)) _ (le4 (sumP bs)) rfl HS.out ?e1 ?e2 ?_)
  case e1 => rw [le4_length]; omega
  case e2 => rw [hp_size]; omega
  intro v6 w6 ho6 hg6
  have HO6 := hid (show OwnB w6 w.heap.size v6 (sealP bs) from ho6)
  have HB6 := hid ((HB5.out.alloc HSZ (.cells #[.int .u8 q0, .int .u8 q1, .int .u8 q2, .int .u8 q3] 5)).grown hg6 (by rw [hp_size]; omega) (fun q hq => (HO5.out.lt q hq).1))
  clear ho6 hg6
  go_wp2
  go_ret
  exact ⟨_, rfl, HO6.out, HB6.out⟩

/-- these bytes are sealed -/
def okP (p : List UInt8) : Bool := decide (p.drop (p.length - 4) = le4 (sumP (p.take (p.length - 4))))

set_option maxRecDepth 100000 in
set_option maxHeartbeats 1000000 in
theorem open_short (w : World) (v : Value) (bs : List UInt8) (hv : Src w v bs) (h4 : bs.length < 4) :
    Calls Try.prog 13 #[v] w fun e w' => e = .returned (.tuple #[.slice none 0 0, .int .i64 4]) ∧ w' = w := by
  obtain ⟨av, cv, rfl⟩ := src_shape hv
  have h4' : (bs.length : Int) < 4 := by omega
  clear hv
  go_enter Try.func13, Try.ntmps13
  go_wp2
  exact bodyPost_ret (results_tmp2 rfl _ _ _) rfl ⟨rfl, rfl⟩

set_option maxRecDepth 100000 in
set_option maxHeartbeats 1000000 in
theorem ropen_short (w : World) (v : Value) (bs : List UInt8) (hv : Src w v bs) (h4 : bs.length < 4) :
    Calls Try.prog 14 #[v] w fun e w' => e = .returned (.tuple #[.slice none 0 0, .int .i64 4]) ∧ w' = w := by
  obtain ⟨av, cv, rfl⟩ := src_shape hv
  have h4' : (bs.length : Int) - 4 < 0 := by omega
  clear hv
  go_enter Try.func14, Try.ntmps14
  go_wp2
  exact bodyPost_ret (results_tmp2 rfl _ _ _) rfl ⟨rfl, rfl⟩

/-- what Open says of at least four bytes -/
def OpenPost (w : World) (bs : List UInt8) (e : Ending) (w' : World) : Prop :=
  (if okP bs then ∃ v', e = .returned (.tuple #[v', .int .i64 0]) ∧ OwnB w' w.heap.size v' (bs.take (bs.length - 4)) else e = .returned (.tuple #[.slice none 0 0, .int .i64 71])) ∧ Below w.heap.size w w'
theorem OpenPost.bad {w w' : World} {bs : List UInt8} (h : okP bs = false) (hb : Below w.heap.size w w') : OpenPost w bs (.returned (.tuple #[.slice none 0 0, .int .i64 71])) w' := by
  unfold OpenPost
  rw [h]
  exact ⟨rfl, hb⟩
theorem OpenPost.good {w w' : World} {bs : List UInt8} {v' : Value} (h : okP bs = true) (hb : Below w.heap.size w w') (ho : OwnB w' w.heap.size v' (bs.take (bs.length - 4))) : OpenPost w bs (.returned (.tuple #[v', .int .i64 0])) w' := by
  unfold OpenPost
  rw [h]
  exact ⟨⟨v', rfl, ho⟩, hb⟩
theorem okP_at (bs : List UInt8) (n : Nat) (hn : bs.length = n + 4) : okP bs = decide (bs.drop n = le4 (sumP (bs.take n))) := by
  unfold okP
  rw [show bs.length - 4 = n by omega]

set_option maxRecDepth 100000 in
set_option maxHeartbeats 1000000 in
theorem open_any (w : World) (v : Value) (bs : List UInt8) (hv : Src w v bs) (h4 : 4 ≤ bs.length) :
    Calls Try.prog 13 #[v] w (OpenPost w bs) := by
  obtain ⟨n, HNN⟩ : ∃ n, Hid (n = bs.length - 4) := ⟨_, rfl⟩
  have hn : bs.length = n + 4 := by rw [HNN.out]; omega
  have hl := hv.1
  obtain ⟨vx, hsx, hcx⟩ := cut_begin hv n (by omega)
  obtain ⟨vy, hsy, _, hcy⟩ := cut_end hv n (by omega)
  obtain ⟨av, cv, rfl⟩ := src_shape hv
  obtain ⟨ax, cx, rfl⟩ := src_shape hsx
  have HV := hid hv
  have HX := hid hsx
  have HY := hid hsy
  clear hv hsx hsy
  have hxl : (bs.take n).length = n := by rw [List.length_take]; omega
  rw [hxl] at hcx HX
  rw [hn] at hcx hcy HV
  rw [hn]
  have hln : ((n : Int) + 4) - 4 = (n : Int) := by omega
  have HOK := hid (okP_at bs n hn)
  have HHN := hid hn
  have hnl : n ≤ 140737488355323 := by omega
  clear hn hxl hl h4
  go_enter Try.func13, Try.ntmps13
  go_wp2_with fail
  refine (sum_one w _ (bs.take n) HX.out).mono ?_
  rintro e w1 ⟨rfl, hb1⟩
  have HB1 := hid hb1
  clear hb1
  go_wp2_with fail
  refine (bytes_any w1 _).mono ?_
  rintro e w2 ⟨rfl, hb2⟩
  have HB2 := hid (HB1.out.trans (hb2.mono HB1.out.size))
  clear hb2 HB1
  rename_i Kx hKx
  refine hKx _ _ ?_
  clear hKx
  obtain ⟨z, s⟩ := zero_of_info (P := Try.prog) (t := 23) (v := .agg (bytesV [0, 0, 0, 0]).toArray) (n := 4) (by kernel_rfl)
  refine al_row (by rfl) 23 (by rfl) _ z ?_
  refine st_new (by rfl) 23 (.tmp 5) (.tmp 18) (by rfl) (bytesV (le4 (sumP (bs.take n)))) (by rfl) (by rfl) _ _ (by rw [bytesV_length]; exact s) (by rw [List.size_toArray]; rfl) (bytesV_one _) ?_
  have HN := hid (hp_new w2 (.cells (bytesV (le4 (sumP (bs.take n)))).toArray 23))
  have HB5 := hid (HB2.out.alloc HB2.out.size (.cells (bytesV (le4 (sumP (bs.take n)))).toArray 23))
  clear z s HB2
  generalize w2.alloc (.cells (bytesV (le4 (sumP (bs.take n)))).toArray 23) = w5 at HN HB5 ⊢
  have HS4 := hid (cut_array HN.out (le4_length _))
  have HY5 := hid (HY.out.below HB5.out)
  have HE := hid (fun (k : Nat) => sequal_any (w5.drewN k) vy (.slice (some ⟨w2.heap.size, 0, none⟩) 4 4) _ _ (show Src (w5.drewN k) _ _ from HY5.out) (show Src (w5.drewN k) _ _ from HS4.out))
  cases hok : okP bs with
  | false =>
    have HO := hid hok
    rw [← HOK.out, hok] at HE
    clear hok HOK
    go_upto_region 5 with fail
    go_quiet (first | (go_at_call 19; exact Calls.quiet_of (HE.out _)))
    go_wp2
    refine bodyPost_ret (results_tmp2 rfl _ _ _) rfl (OpenPost.bad HO.out ?_)
    exact ⟨HB5.out.os, HB5.out.tape, HB5.out.output, HB5.out.size, HB5.out.block⟩
  | true =>
    have HO := hid hok
    rw [← HOK.out, hok] at HE
    clear hok HOK
    go_upto_region 5 with fail
    go_quiet (first | (go_at_call 19; exact Calls.quiet_of (HE.out _)))
    obtain ⟨w6, HW6⟩ : ∃ w6, Hid (w6 = w5.drewN nq) := ⟨_, rfl⟩
    rw [← HW6.out]
    have HB6 := hid (show Below w.heap.size w w6 by rw [HW6.out]; exact ⟨HB5.out.os, HB5.out.tape, HB5.out.output, HB5.out.size, HB5.out.block⟩)
    have HX6 := hid (HX.out.below HB6.out)
    have HV6 := hid (HV.out.below HB6.out)
    clear HW6 HE HY5 HS4 HB5 HN HX HV HY hcx hcy
    go_wp2_with (at_make; refine make_len rfl _ _ rfl _ _ _ _ n n rfl rfl ?c1 ?c2 ?c3 ?c4 ?_)
    case c1 => rfl
    case c2 => rfl
    case c3 => exact Nat.le_refl _
    case c4 => omega
    intro w7 ho7 hb7
    have HO7 := hid ho7
    have HB7 := hid (HB6.out.trans (hb7.mono HB6.out.size))
    have HSZ := hid HB6.out.size
    have HV7 := hid (HV6.out.below hb7)
    clear ho7 hb7
    obtain ⟨cur, hcb, hcl⟩ : ∃ cur : List Value, w7.heap[w6.heap.size]? = some (.cells cur.toArray 5 (0, 0)) ∧ cur.length = n := by
      obtain ⟨_, ⟨h2, _⟩ | ⟨g', cap', cur, hv, hb, hh, h3, h4, h5, h6⟩⟩ := HO7.out
      · simp at h2
      · simp only [Value.slice.injEq, Option.some.injEq, Addr.mk.injEq, and_true] at hv
        obtain ⟨rfl, _, rfl⟩ := hv
        exact ⟨cur.toList, by simpa using hh, by simpa using h5⟩
    have HCB := hid hcb
    have HCL := hid hcl
    clear hcb hcl HO7
    obtain ⟨X1, HX1⟩ : ∃ X1, Hid (X1 = bytesV (bs.take n)) := ⟨_, rfl⟩
    have HXL := hid (show X1.length = n by rw [HX1.out, bytesV_length, List.length_take, HHN.out]; omega)
    have HX1C := hid (show ∀ u ∈ X1, u.oneCell' = true by rw [HX1.out]; exact bytesV_one _)
    have HU := hid (show (Try.prog.info? 5).map (·.size) = some 1 by kernel_rfl)
    have HXS := hid (show 0 < X1.length → (some (⟨w6.heap.size, 0, none⟩ : Addr)) = some ⟨w6.heap.size, 0, none⟩ ∧ ∃ ad, av = some ad ∧ ∀ j u, X1[j]? = some u → w7.cell? (ad.add j) = some u by
      intro hp
      refine ⟨rfl, ?_⟩
      rcases HV7.out.2 with ⟨_, h0⟩ | ⟨ad, cap, hv, _, _, _, hc⟩
      · have := HHN.out
        rw [h0] at this
        simp at this
      · injection hv with h1
        refine ⟨ad, h1, fun j u hj => ?_⟩
        rw [HX1.out, bytesV_get] at hj
        refine src_cells hc j u ?_
        rw [bytesV_get]
        by_cases hjn : j < n
        · rwa [List.getElem?_take_of_lt hjn] at hj
        · rw [List.getElem?_eq_none (by rw [List.length_take]; omega)] at hj
          cases hj)
    go_upto_region 8 with fail
    refine wp_region_list ?_
    show wpList _ _ _ (_ :: _) _ _
    refine mv_row (by rfl) (.tmp 6) (by rfl) (.slice (some ⟨w6.heap.size, 0, none⟩) n n) (by rfl) ?_
    refine mv_row (by rfl) (.tmp 0) (by rfl) (.slice av (n + 4) cv) (by rfl) ?_
    refine wpList_copy_splice (by rfl) (.tmp 27) (.tmp 28) 22 22 (by rfl) 5 Try.underlying22 HU.out _ _ _ _ _ _ (by rfl) (by rfl) w6.heap.size 0 cur 5 HCB.out X1 (by rw [HXL.out]; exact (Nat.min_eq_right (Nat.le_add_right _ _)).symm) HXS.out (by have := HXL.out; have := HCL.out; omega) HX1C.out w.heap.size w HB7.out HSZ.out ?_
    intro w8 HC8 hb8
    have HB8 := hid hb8
    clear hb8 HXS HX1C HCB HB7
    go_wp2
    refine bodyPost_ret (results_tmp2 rfl _ _ _) rfl (OpenPost.good HO.out HB8.out ?_)
    rw [HHN.out, Nat.add_sub_cancel]
    refine own_splice HC8.out HSZ.out (by rw [List.length_take, HHN.out]; omega) (Nat.le_refl _) (by unfold maxLen; omega) ?_ ?_
    · rw [length_splice _ _ _ (by have := HXL.out; have := HCL.out; omega), HCL.out]
    · rw [← HX1.out]
      have e := HXL.out
      simp [splice, ← e]

set_option maxRecDepth 100000 in
set_option maxHeartbeats 1000000 in
theorem ropen_any (w : World) (v : Value) (bs : List UInt8) (hv : Src w v bs) (h4 : 4 ≤ bs.length) :
    Calls Try.prog 14 #[v] w (OpenPost w bs) := by
  obtain ⟨n, HNN⟩ : ∃ n, Hid (n = bs.length - 4) := ⟨_, rfl⟩
  have hn : bs.length = n + 4 := by rw [HNN.out]; omega
  have hl := hv.1
  obtain ⟨vx, hsx, hcx⟩ := cut_begin hv n (by omega)
  obtain ⟨av, cv, rfl⟩ := src_shape hv
  have HV := hid hv
  have HX := hid hsx
  clear hv hsx
  rw [hn] at hcx HV
  rw [hn]
  have hln : ((n : Int) + 4) - 4 = (n : Int) := by omega
  have HOK := hid (okP_at bs n hn)
  have HHN := hid hn
  have hnl : n ≤ 140737488355323 := by omega
  clear hn hl h4
  go_enter Try.func14, Try.ntmps14
  go_wp2_with fail
  refine (rmore_any w 0 _ (bs.take n) (by omega) HX.out).mono ?_
  rintro e w1 ⟨rfl, rfl⟩
  go_wp2_with fail
  refine (rbytes_any w1 _).mono ?_
  rintro e w2 ⟨rfl, hb2⟩
  have HB2 := hid hb2
  clear hb2
  rw [show moreP 0 (bs.take n) = sumP (bs.take n) from rfl]
  rename_i Kx hKx
  refine hKx _ _ ?_
  clear hKx
  obtain ⟨z, s⟩ := zero_of_info (P := Try.prog) (t := 23) (v := .agg (bytesV [0, 0, 0, 0]).toArray) (n := 4) (by kernel_rfl)
  refine al_row (by rfl) 23 (by rfl) _ z ?_
  refine st_new (by rfl) 23 (.tmp 5) (.tmp 16) (by rfl) (bytesV (le4 (sumP (bs.take n)))) (by rfl) (by rfl) _ _ (by rw [bytesV_length]; exact s) (by rw [List.size_toArray]; rfl) (bytesV_one _) ?_
  have HN := hid (hp_new w2 (.cells (bytesV (le4 (sumP (bs.take n)))).toArray 23))
  have HB5 := hid (HB2.out.alloc HB2.out.size (.cells (bytesV (le4 (sumP (bs.take n)))).toArray 23))
  clear z s HB2
  generalize w2.alloc (.cells (bytesV (le4 (sumP (bs.take n)))).toArray 23) = w5 at HN HB5 ⊢
  have HS4 := hid (cut_array HN.out (le4_length _))
  have HV5 := hid (HV.out.below HB5.out)
  have HX5 := hid (HX.out.below HB5.out)
  obtain ⟨L4, HL4⟩ : ∃ L, Hid (L = le4 (sumP (bs.take n))) := ⟨_, rfl⟩
  rw [← HL4.out] at HOK HS4
  have HLL := hid (show L4.length = 4 by rw [HL4.out, le4_length])
  clear HN HX HV
  rw [← HL4.out]
  go_wp2
  go_loopw [6] (fun i wr => ∃ k q : Nat, k ≤ 4 ∧ i = .int .i64 k ∧ wr = w5.drewN q ∧ Hid ((bs.drop n).take k = L4.take k)) (fun i _ => 4 - (intOf i).toNat)
  case atStart => exact ⟨0, 0, by omega, rfl, rfl, rfl⟩
  case round =>
    obtain ⟨k, q, hk, rfl, rfl, HT⟩ := hrel
    by_cases hlt : k < 4
    · obtain ⟨I, HI⟩ : ∃ I, Hid (I = n + k) := ⟨_, rfl⟩
      obtain ⟨ad, rfl, c1⟩ := src_at HV5.out I (by rw [HHN.out, HI.out]; omega)
      obtain ⟨bd, hbd, c2⟩ := src_at HS4.out k (by rw [HLL.out]; omega)
      obtain rfl : (⟨w2.heap.size, 0, none⟩ : Addr) = bd := by injection hbd
      rw [addr_add] at c2
      have hw : IntKind.i64.wrap ((n : Int) + (k : Int)) = (I : Int) := by rw [IntKind.wrap_i64, HI.out]; omega
      have hI1 : (I : Int) < (n : Int) + 4 := by rw [HI.out]; omega
      have hI0 : (0 : Int) ≤ (I : Int) := by omega
      obtain ⟨x, HX1⟩ : ∃ x : UInt8, Hid (x = bs.getD I 0) := ⟨_, rfl⟩
      obtain ⟨y, HY1⟩ : ∃ y : UInt8, Hid (y = L4.getD k 0) := ⟨_, rfl⟩
      rw [← HX1.out] at c1
      rw [← HY1.out] at c2
      have HXD := hid (show (bs.drop n).getD k 0 = x by rw [HX1.out, HI.out]; simp [List.getD_eq_getElem?_getD])
      have HDL := hid (show (bs.drop n).length = L4.length by rw [List.length_drop, HHN.out, HLL.out]; omega)
      by_cases hxy : x = y
      · subst hxy
        have HN := hid (take_eq_succ HDL.out (by rw [HDL.out, HLL.out]; omega) HT.out (by rw [HXD.out, HY1.out]))
        go_wp2
        go_quiet (fail)
        go_wp2
        exact ⟨⟨k + 1, _, by omega, by simp, rfl, HN⟩, by simp [intOf]; omega⟩
      · have hd : ((((x.toNat : Nat) : Int)) != ((y.toNat : Nat) : Int)) = true := by
          simp only [bne_iff_ne, ne_eq]
          intro e
          exact hxy (UInt8.toNat_inj.1 (by omega))
        have HNE := hid (show okP bs = false by rw [HOK.out]; exact decide_eq_false (fun e => hxy (by rw [← HXD.out, HY1.out, e])))
        clear hxy
        go_wp2
        go_quiet (fail)
        go_wp2
        refine bodyPost_ret (results_tmp2 rfl _ _ _) rfl (OpenPost.bad HNE.out ?_)
        exact ⟨HB5.out.os, HB5.out.tape, HB5.out.output, HB5.out.size, HB5.out.block⟩
    · obtain rfl : k = 4 := by omega
      have HE := hid (show okP bs = true by
        rw [HOK.out]
        refine decide_eq_true ?_
        have h1 := HT.out
        rwa [List.take_of_length_le (by rw [List.length_drop, HHN.out]; omega), List.take_of_length_le (by rw [HLL.out]; omega)] at h1)
      have HXq := hid (show Src (w5.drewN q) vx (bs.take n) from HX5.out)
      have HBq := hid (show Below w1.heap.size w1 (w5.drewN q) from ⟨HB5.out.os, HB5.out.tape, HB5.out.output, HB5.out.size, HB5.out.block⟩)
      clear HT HOK
      generalize w5.drewN q = w6 at HXq HBq ⊢
      go_wp2_with (at_builtin; refine app_src rfl _ _ rfl w6.heap.size _ [] rfl (OwnB.nil _ _) _ (bs.take n) rfl HXq.out (by simp; omega) (Nat.le_refl _) ?_)
      intro v7 w7 ho7 hg7
      have HO7 := hid ((show OwnB w7 w6.heap.size v7 (bs.take n) from ho7).le HBq.out.size)
      have HB7 := hid (HBq.out.trans ((gb_below hg7).mono HBq.out.size))
      clear ho7 hg7
      go_wp2
      refine bodyPost_ret (results_tmp2 rfl _ _ _) rfl (OpenPost.good HE.out HB7.out ?_)
      rw [HHN.out, Nat.add_sub_cancel]
      exact HO7.out

end Go.Proofs.Ytljppkpieoejlab
