/- Contracts and pure facts that the proof needs, joined. -/
import Derived.Test.YtgoalfiinfkldaaG2
import Derived.Test.YtgoalfiinfkldaaG1
import Derived.OrdersHeld
import Derived.Deep.RegionWith

/- The document's Seal; Open: the program's and the document's. -/
namespace Go.Proofs.Ytgoalfiinfkldaa
open Go.RowKit

/-- four bytes that a literal lays -/
theorem src_four (w : World) (c : Nat) : Src (w.alloc (.cells (bytesV (le4 c)).toArray 5)) (.slice (some ⟨w.heap.size, 0, none⟩) 4 4) (le4 c) := src_lit (hp_new _ _) rfl (by rw [le4_length]; omega) _ rfl

set_option maxRecDepth 100000 in
set_option maxHeartbeats 1000000 in
theorem rseal_any (w : World) (v : Value) (bs : List UInt8) (hv : Src w v bs) (hl : bs.length ≤ 140737488355000) :
    Calls Try.prog 27 #[v] w fun e w' => ∃ v', e = .returned v' ∧ OwnB w' w.heap.size v' (sealP bs) ∧ Below w.heap.size w w' := by
  obtain ⟨av, cv, rfl⟩ := src_shape hv
  have HV := hid hv
  clear hv
  go_enter Try.func27, Try.ntmps27
  go_wp2_with (at_builtin; refine app_src rfl _ _ rfl w.heap.size _ [] rfl (OwnB.nil _ _) _ bs rfl HV.out (by simp; omega) (Nat.le_refl _) ?_)
  intro v1 w1 ho1 hg1
  have HO1 := hid (show OwnB w1 w.heap.size v1 bs from ho1)
  have HB1 := hid (gb_below hg1)
  have HV1 := hid (HV.out.below HB1.out)
  clear ho1 hg1 HV
  go_wp2_with fail
  refine (rmore_any w1 0 _ bs (by omega) HV1.out).mono ?_
  rintro e w2 ⟨rfl, rfl⟩
  go_wp2_with fail
  refine (rbytes_any w2 _).mono ?_
  rintro e w3 ⟨rfl, hb3⟩
  have HO3 := hid (HO1.out.below hb3)
  have HB3 := hid (HB1.out.trans (hb3.mono HB1.out.size))
  clear hb3 HO1 HB1 HV1
  rw [show moreP 0 bs = sumP bs from rfl]
  rename_i Kx hKx
  refine hKx _ _ ?_
  clear hKx
  obtain ⟨z, s⟩ := zero_of_info (P := Try.prog) (t := 85) (v := .agg (bytesV [0, 0, 0, 0]).toArray) (n := 4) (by kernel_rfl)
  refine al_row (by rfl) 85 (by rfl) _ z ?_
  refine st_new (by rfl) 85 (.tmp 4) (.tmp 9) (by rfl) (bytesV (le4 (sumP bs))) (by rfl) (by rfl) _ _ (by rw [bytesV_length]; exact s) (by rw [List.size_toArray]; rfl) (bytesV_one _) ?_
  have HN := hid (hp_new w3 (.cells (bytesV (le4 (sumP bs))).toArray 85))
  have HB5 := hid (HB3.out.alloc HB3.out.size (.cells (bytesV (le4 (sumP bs))).toArray 85))
  have HO5 := hid (HO3.out.below (below_walk w3 (.cells (bytesV (le4 (sumP bs))).toArray 85)))
  clear z s HO3 HB3
  generalize w3.alloc (.cells (bytesV (le4 (sumP bs))).toArray 85) = w5 at HN HB5 HO5 ⊢
  have HC := hid (le4_V (sumP bs))
  obtain ⟨q0, q1, q2, q3, HQ⟩ : ∃ q0 q1 q2 q3, Hid (bytesV (le4 (sumP bs)) = [.int .u8 q0, .int .u8 q1, .int .u8 q2, .int .u8 q3]) := ⟨_, _, _, _, HC.out⟩
  rw [HQ.out] at HN
  have c0 : w5.cell? ⟨w3.heap.size, 0, none⟩ = some (.int .u8 q0) := by rw [cell_of_row _ _ _ _ _ _ HN.out]; rfl
  have c1 : w5.cell? ⟨w3.heap.size, 1, none⟩ = some (.int .u8 q1) := by rw [cell_of_row _ _ _ _ _ _ HN.out]; rfl
  have c2 : w5.cell? ⟨w3.heap.size, 2, none⟩ = some (.int .u8 q2) := by rw [cell_of_row _ _ _ _ _ _ HN.out]; rfl
  have c3 : w5.cell? ⟨w3.heap.size, 3, none⟩ = some (.int .u8 q3) := by rw [cell_of_row _ _ _ _ _ _ HN.out]; rfl
  have HS := hid (src_four w5 (sumP bs))
  rw [HQ.out] at HS
  have HSZ := HB5.out.size
  clear HC
  go_wp2_with (at_builtin; refine app_src rfl _ _ rfl w.heap.size _ bs rfl (HO5.out.below (below_walk w5 _)) _ (le4 (sumP bs)) rfl HS.out ?e1 ?e2 ?_)
  case e1 => rw [le4_length]; omega
  case e2 => rw [hp_size]; omega
  intro v6 w6 ho6 hg6
  have HO6 := hid (show OwnB w6 w.heap.size v6 (sealP bs) from ho6)
  have HB6 := hid ((HB5.out.alloc HSZ (.cells #[.int .u8 q0, .int .u8 q1, .int .u8 q2, .int .u8 q3] 5)).grown hg6 (by rw [hp_size]; omega) (fun q hq => (HO5.out.lt q hq).1))
  clear ho6 hg6
  go_wp2
  go_ret
  exact ⟨_, rfl, HO6.out, HB6.out⟩

/-- these bytes are sealed -/
def cokP (p : List UInt8) : Bool := decide (p.drop (p.length - 4) = le4 (sumP (p.take (p.length - 4))))

set_option maxRecDepth 100000 in
set_option maxHeartbeats 1000000 in
theorem open_short (w : World) (v : Value) (bs : List UInt8) (hv : Src w v bs) (h4 : bs.length < 4) :
    Calls Try.prog 58 #[v] w fun e w' => e = .returned (.tuple #[.slice none 0 0, .int .i64 4]) ∧ w' = w := by
  obtain ⟨av, cv, rfl⟩ := src_shape hv
  have h4' : (bs.length : Int) < 4 := by omega
  clear hv
  go_enter Try.func58, Try.ntmps58
  go_wp2
  exact bodyPost_ret (results_tmp2 rfl _ _ _) rfl ⟨rfl, rfl⟩

/-- what Open says of at least four bytes -/
def OpenPost (w : World) (bs : List UInt8) (e : Ending) (w' : World) : Prop :=
  (if cokP bs then ∃ v', e = .returned (.tuple #[v', .int .i64 0]) ∧ OwnB w' w.heap.size v' (bs.take (bs.length - 4)) else e = .returned (.tuple #[.slice none 0 0, .int .i64 71])) ∧ Below w.heap.size w w'
theorem OpenPost.bad {w w' : World} {bs : List UInt8} (h : cokP bs = false) (hb : Below w.heap.size w w') : OpenPost w bs (.returned (.tuple #[.slice none 0 0, .int .i64 71])) w' := by
  unfold OpenPost
  rw [h]
  exact ⟨rfl, hb⟩
theorem OpenPost.good {w w' : World} {bs : List UInt8} {v' : Value} (h : cokP bs = true) (hb : Below w.heap.size w w') (ho : OwnB w' w.heap.size v' (bs.take (bs.length - 4))) : OpenPost w bs (.returned (.tuple #[v', .int .i64 0])) w' := by
  unfold OpenPost
  rw [h]
  exact ⟨⟨v', rfl, ho⟩, hb⟩
theorem okP_at (bs : List UInt8) (n : Nat) (hn : bs.length = n + 4) : cokP bs = decide (bs.drop n = le4 (sumP (bs.take n))) := by
  unfold cokP
  rw [show bs.length - 4 = n by omega]

set_option maxRecDepth 100000 in
set_option maxHeartbeats 1000000 in
theorem open_any (w : World) (v : Value) (bs : List UInt8) (hv : Src w v bs) (h4 : 4 ≤ bs.length) :
    Calls Try.prog 58 #[v] w (OpenPost w bs) := by
  obtain ⟨n, HNN⟩ : ∃ n, Hid (n = bs.length - 4) := ⟨_, rfl⟩
  have hn : bs.length = n + 4 := by rw [HNN.out]; omega
  have hl := hv.1
  obtain ⟨vx, hsx, hcx⟩ := cut_begin hv n (by omega)
  obtain ⟨vy, hsy, _, hcy⟩ := cut_end hv n (by omega)
  obtain ⟨av, cv, rfl⟩ := src_shape hv
  obtain ⟨ax, cx, rfl⟩ := src_shape hsx
  have HV := hid hv
  have HX := hid hsx
  have HY := hid hsy
  clear hv hsx hsy
  have hxl : (bs.take n).length = n := by rw [List.length_take]; omega
  rw [hxl] at hcx HX
  rw [hn] at hcx hcy HV
  rw [hn]
  have hln : ((n : Int) + 4) - 4 = (n : Int) := by omega
  have HOK := hid (okP_at bs n hn)
  have HHN := hid hn
  have hnl : n ≤ 140737488355323 := by omega
  clear hn hxl hl h4
  go_enter Try.func58, Try.ntmps58
  go_wp2_with fail
  refine (sum_one w _ (bs.take n) HX.out).mono ?_
  rintro e w1 ⟨rfl, hb1⟩
  have HB1 := hid hb1
  clear hb1
  go_wp2_with fail
  refine (bytes_any w1 _).mono ?_
  rintro e w2 ⟨rfl, hb2⟩
  have HB2 := hid (HB1.out.trans (hb2.mono HB1.out.size))
  clear hb2 HB1
  rename_i Kx hKx
  refine hKx _ _ ?_
  clear hKx
  obtain ⟨z, s⟩ := zero_of_info (P := Try.prog) (t := 85) (v := .agg (bytesV [0, 0, 0, 0]).toArray) (n := 4) (by kernel_rfl)
  refine al_row (by rfl) 85 (by rfl) _ z ?_
  refine st_new (by rfl) 85 (.tmp 5) (.tmp 18) (by rfl) (bytesV (le4 (sumP (bs.take n)))) (by rfl) (by rfl) _ _ (by rw [bytesV_length]; exact s) (by rw [List.size_toArray]; rfl) (bytesV_one _) ?_
  have HN := hid (hp_new w2 (.cells (bytesV (le4 (sumP (bs.take n)))).toArray 85))
  have HB5 := hid (HB2.out.alloc HB2.out.size (.cells (bytesV (le4 (sumP (bs.take n)))).toArray 85))
  clear z s HB2
  generalize w2.alloc (.cells (bytesV (le4 (sumP (bs.take n)))).toArray 85) = w5 at HN HB5 ⊢
  have HS4 := hid (cut_array HN.out (le4_length _))
  have HY5 := hid (HY.out.below HB5.out)
  have HE := hid (fun (k : Nat) => sequal_any (w5.drewN k) vy (.slice (some ⟨w2.heap.size, 0, none⟩) 4 4) _ _ (show Src (w5.drewN k) _ _ from HY5.out) (show Src (w5.drewN k) _ _ from HS4.out))
  cases hok : cokP bs with
  | false =>
    have HO := hid hok
    rw [← HOK.out, hok] at HE
    clear hok HOK
    go_upto_region 5 with fail
    go_quiet (first | (go_at_call 70; exact Calls.quiet_of (HE.out _)))
    go_wp2
    refine bodyPost_ret (results_tmp2 rfl _ _ _) rfl (OpenPost.bad HO.out ?_)
    exact ⟨HB5.out.os, HB5.out.tape, HB5.out.output, HB5.out.size, HB5.out.block⟩
  | true =>
    have HO := hid hok
    rw [← HOK.out, hok] at HE
    clear hok HOK
    go_upto_region 5 with fail
    go_quiet (first | (go_at_call 70; exact Calls.quiet_of (HE.out _)))
    obtain ⟨w6, HW6⟩ : ∃ w6, Hid (w6 = w5.drewN nq) := ⟨_, rfl⟩
    rw [← HW6.out]
    have HB6 := hid (show Below w.heap.size w w6 by rw [HW6.out]; exact ⟨HB5.out.os, HB5.out.tape, HB5.out.output, HB5.out.size, HB5.out.block⟩)
    have HX6 := hid (HX.out.below HB6.out)
    have HV6 := hid (HV.out.below HB6.out)
    clear HW6 HE HY5 HS4 HB5 HN HX HV HY hcx hcy
    go_wp2_with (at_make; refine make_len rfl _ _ rfl _ _ _ _ n n rfl rfl ?c1 ?c2 ?c3 ?c4 ?_)
    case c1 => rfl
    case c2 => rfl
    case c3 => exact Nat.le_refl _
    case c4 => omega
    intro w7 ho7 hb7
    have HO7 := hid ho7
    have HB7 := hid (HB6.out.trans (hb7.mono HB6.out.size))
    have HSZ := hid HB6.out.size
    have HV7 := hid (HV6.out.below hb7)
    clear ho7 hb7
    obtain ⟨cur, hcb, hcl⟩ : ∃ cur : List Value, w7.heap[w6.heap.size]? = some (.cells cur.toArray 5 (0, 0)) ∧ cur.length = n := by
      obtain ⟨_, ⟨h2, _⟩ | ⟨g', cap', cur, hv, hb, hh, h3, h4, h5, h6⟩⟩ := HO7.out
      · simp at h2
      · simp only [Value.slice.injEq, Option.some.injEq, Addr.mk.injEq, and_true] at hv
        obtain ⟨rfl, _, rfl⟩ := hv
        exact ⟨cur.toList, by simpa using hh, by simpa using h5⟩
    have HCB := hid hcb
    have HCL := hid hcl
    clear hcb hcl HO7
    obtain ⟨X1, HX1⟩ : ∃ X1, Hid (X1 = bytesV (bs.take n)) := ⟨_, rfl⟩
    have HXL := hid (show X1.length = n by rw [HX1.out, bytesV_length, List.length_take, HHN.out]; omega)
    have HX1C := hid (show ∀ u ∈ X1, u.oneCell' = true by rw [HX1.out]; exact bytesV_one _)
    have HU := hid (show (Try.prog.info? 5).map (·.size) = some 1 by kernel_rfl)
    have HXS := hid (show 0 < X1.length → (some (⟨w6.heap.size, 0, none⟩ : Addr)) = some ⟨w6.heap.size, 0, none⟩ ∧ ∃ ad, av = some ad ∧ ∀ j u, X1[j]? = some u → w7.cell? (ad.add j) = some u by
      intro hp
      refine ⟨rfl, ?_⟩
      rcases HV7.out.2 with ⟨_, h0⟩ | ⟨ad, cap, hv, _, _, _, hc⟩
      · have := HHN.out
        rw [h0] at this
        simp at this
      · injection hv with h1
        refine ⟨ad, h1, fun j u hj => ?_⟩
        rw [HX1.out, bytesV_get] at hj
        refine src_cells hc j u ?_
        rw [bytesV_get]
        by_cases hjn : j < n
        · rwa [List.getElem?_take_of_lt hjn] at hj
        · rw [List.getElem?_eq_none (by rw [List.length_take]; omega)] at hj
          cases hj)
    go_upto_region 8 with fail
    refine wp_region_list ?_
    show wpList _ _ _ (_ :: _) _ _
    refine mv_row (by rfl) (.tmp 6) (by rfl) (.slice (some ⟨w6.heap.size, 0, none⟩) n n) (by rfl) ?_
    refine mv_row (by rfl) (.tmp 0) (by rfl) (.slice av (n + 4) cv) (by rfl) ?_
    refine wpList_copy_splice (by rfl) (.tmp 27) (.tmp 28) 30 30 (by rfl) 5 Try.underlying30 HU.out _ _ _ _ _ _ (by rfl) (by rfl) w6.heap.size 0 cur 5 HCB.out X1 (by rw [HXL.out]; exact (Nat.min_eq_right (Nat.le_add_right _ _)).symm) HXS.out (by have := HXL.out; have := HCL.out; omega) HX1C.out w.heap.size w HB7.out HSZ.out ?_
    intro w8 HC8 hb8
    have HB8 := hid hb8
    clear hb8 HXS HX1C HCB HB7
    go_wp2
    refine bodyPost_ret (results_tmp2 rfl _ _ _) rfl (OpenPost.good HO.out HB8.out ?_)
    rw [HHN.out, Nat.add_sub_cancel]
    refine own_splice HC8.out HSZ.out (by rw [List.length_take, HHN.out]; omega) (Nat.le_refl _) (by unfold maxLen; omega) ?_ ?_
    · rw [length_splice _ _ _ (by have := HXL.out; have := HCL.out; omega), HCL.out]
    · rw [← HX1.out]
      have e := HXL.out
      simp [splice, ← e]

end Go.Proofs.Ytgoalfiinfkldaa

/- A region in which no step can panic. -/
namespace Go.Proofs.Ytgoalfiinfkldaa
open Go.RowKit
variable {P : Program}

/-- what must be shown where no step can panic -/
def noPanic (Q : Exit → Act → World → Prop) : Exit → Act → World → Prop := fun e a w => match e with
  | .panic _ => False
  | e => Q e a w
theorem wp_noPanic {c : Code} {Q : Exit → Act → World → Prop} {a : Act} {w : World} (h : c.wp P (noPanic Q) a w) : c.wp P Q a w :=
  Code.wp_mono (fun e a w h => by
    cases e
    all_goals first | exact h | exact h.elim) h

end Go.Proofs.Ytgoalfiinfkldaa

/- Toward a Bye, written by the program. -/
namespace Go.Proofs.Ytgoalfiinfkldaa
open Go.RowKit Go.BigFrame

theorem strs_nil (w : World) : Strs w nS [] := Or.inl ⟨none, 0, rfl, rfl, fun _ => rfl⟩

set_option maxRecDepth 100000 in
set_option maxHeartbeats 1000000 in
theorem ownBye_any (f : Fr) (va : Value) (w : World) (hk : f.kind = 5) (hf : f.tool.length = 32) :
    Calls Try.prog 90 #[.agg (fcells f va).toArray] w fun e w' => e = .returned (.agg (fcells byeF nS).toArray) ∧ Below w.heap.size w w' := by
  have HNB := hid (hp_two w (.cells (fcells f va).toArray 29) (.cells (fcells zF nS).toArray 29))
  have HBL := hid (below_walk2 w (.cells (fcells f va).toArray 29) (.cells (fcells zF nS).toArray 29))
  have HZ : Hid ((w.alloc (.cells (fcells f va).toArray 29)).heap.size = w.heap.size + 1) := hid (by simp)
  have HK := hid hk
  have HF := hid hf
  clear hk hf
  go_enter Try.func90, Try.ntmps90
  go_upto_region 1 with (refine al_row (by rfl) 29 (by rfl) _ zeroFrame ?_)
  try rw [HZ.out]
  generalize (w.alloc (.cells (fcells f va).toArray 29)).alloc (.cells (fcells zF nS).toArray 29) = w2 at HNB HBL ⊢
  have x0 := (Fb.of HNB.out.1 HF.out).k
  rw [HK.out] at x0
  go_wp2_with (first
    | (refine bd_row (by rfl) 29 #[(0, .tmp 4)] (by rfl) _ (by simp [Act.eval]) _ built_bye ?_)
    | (refine st_row (by rfl) 29 _ _ (by rfl) (w.heap.size + 1) (fcells byeF nS) (by rfl) (by rfl) 29 _ HNB.out.2 (frame_size byeF nS rfl) rfl (fcells_one byeF nS rfl) ?_; intro w3 hw3))
  refine ret_row 2 29 rfl (w.heap.size + 1) rfl (fcells byeF nS) 29 hw3.blk _ Try.underlying29 rfl (frame_size byeF nS rfl) rfl ⟨rfl, Below.of_gb HBL.out hw3.grown (by omega)⟩

set_option maxHeartbeats 1000000 in
theorem mayAlways_any (v : Array Value) (w : World) :
    Calls Try.prog 87 #[.agg v] w fun e w' => e = .returned (.bool true) ∧ Below w.heap.size w w' := by
  go_enter Try.func87, Try.ntmps87
  go_wp2
  go_ret
  exact ⟨rfl, below_walk w _⟩

set_option maxHeartbeats 1000000 in
theorem layBye_any (ao : Option Addr) (n c : Nat) (v : Array Value) (w : World) :
    Calls Try.prog 91 #[.slice ao n c, .agg v] w fun e w' => e = .returned (.slice ao n c) ∧ Below w.heap.size w w' := by
  go_enter Try.func91, Try.ntmps91
  go_wp2
  go_ret
  exact ⟨rfl, below_walk w _⟩

theorem below_tr {w w' w'' : World} {a : Nat} (h : Below a w w') (k : Below a w' w'') : Below a w w'' :=
  ⟨k.os.trans h.os, k.tape.trans h.tape, k.output.trans h.output, Nat.le_trans h.size k.size, fun i hi => (k.block i hi).trans (h.block i hi)⟩
theorem srcNil (w : World) : Src w nS [] := ⟨by simp, Or.inl ⟨rfl, rfl⟩⟩
theorem nums_five (w : World) : Nums (w.alloc (.cells #[.int .i64 5] 3)) (.slice (some ⟨w.heap.size, 0, none⟩) 1 1) [5] := nums_one w 5
theorem nums_bye (w : World) : Nums (w.alloc (.cells #[.int .i64 1, .int .i64 5] 3)) (.slice (some ⟨w.heap.size, 0, none⟩) 2 2) [1, 5] := nums_two w 1 5
theorem size_zero (w : World) : Calls Try.prog 28 #[.int .u64 0] w fun e w' => e = .returned (.int .i64 1) ∧ w' = w := size_any 0 w (by decide)
theorem put_five (w : World) : Calls Try.prog 22 #[.slice none 0 0, .slice (some ⟨w.heap.size, 0, none⟩) 1 1] (w.alloc (.cells #[.int .i64 5] 3)) fun e w' => ∃ ao c, e = .returned (.slice ao 1 c) ∧ Src w' (.slice ao 1 c) [5] ∧ Below w.heap.size w w' := by
  refine (putCounts_any nS _ [] [5] _ (srcNil _) (nums_five w) (by simp) (by simp) (by simp)).mono ?_
  rintro e w' ⟨v, rfl, hs, hb⟩
  have hs' : Src w' v [5] := hs
  obtain ⟨ao, c, rfl⟩ := src_shape hs'
  exact ⟨ao, c, rfl, hs', below_then (below_walk w _) hb⟩
theorem put_bye (w : World) : Calls Try.prog 22 #[.slice none 0 0, .slice (some ⟨w.heap.size, 0, none⟩) 2 2] (w.alloc (.cells #[.int .i64 1, .int .i64 5] 3)) fun e w' => ∃ ao c, e = .returned (.slice ao 2 c) ∧ Src w' (.slice ao 2 c) [1, 5] ∧ Below w.heap.size w w' := by
  refine (putCounts_any nS _ [] [1, 5] _ (srcNil _) (nums_bye w) (by simp) (by simp) (by simp)).mono ?_
  rintro e w' ⟨v, rfl, hs, hb⟩
  have hs' : Src w' v [1, 5] := hs
  obtain ⟨ao, c, rfl⟩ := src_shape hs'
  exact ⟨ao, c, rfl, hs', below_then (below_walk w _) hb⟩

end Go.Proofs.Ytgoalfiinfkldaa

/- How many bytes a Bye's body has, told by the program. -/
namespace Go.Proofs.Ytgoalfiinfkldaa
open Go.RowKit Go.BigFrame

set_option maxRecDepth 100000 in
set_option maxHeartbeats 4000000 in
theorem sizeBye_any (w : World) :
    Calls Try.prog 41 #[.agg k5.toArray, .agg (fcells byeF nS).toArray] w fun e w' => e = .returned (.int .i64 1) ∧ Below w.heap.size w w' := by
  have HNB := hid (hp_two w (.cells k5.toArray 60) (.cells (fcells byeF nS).toArray 29))
  have HBL := hid (below_walk2 w (.cells k5.toArray 60) (.cells (fcells byeF nS).toArray 29))
  have HZ : Hid ((w.alloc (.cells k5.toArray 60)).heap.size = w.heap.size + 1) := hid (by simp)
  go_enter Try.func41, Try.ntmps41
  go_upto_region 1 with fail
  try rw [HZ.out]
  generalize (w.alloc (.cells k5.toArray 60)).alloc (.cells (fcells byeF nS).toArray 29) = w2 at HNB HBL ⊢
  have x41 := (Fb.of HNB.out.2 rfl).bd
  have f41 := row_fz HNB.out.2 41
  rw [show mk byeF.body = ⟨#[]⟩ from rfl] at x41
  go_upto_region 3 with fail
  have HN3 := hid (show (w2.setCell ⟨w.heap.size + 1, 41, none⟩ (.string ⟨#[]⟩)).heap[w.heap.size + 1]? = some (.cells (fcells byeF nS).toArray 29 (0, 0)) from blk_set HNB.out.2 _)
  have HN1 := hid (show (w2.setCell ⟨w.heap.size + 1, 41, none⟩ (.string ⟨#[]⟩)).heap[w.heap.size]? = some (.cells k5.toArray 60 (0, 0)) from (Below.heap_setCell w2 _ _ w.heap.size (by simp)).trans HNB.out.1)
  have HB3 := hid (show Below w.heap.size w (w2.setCell ⟨w.heap.size + 1, 41, none⟩ (.string ⟨#[]⟩)) from HBL.out.setCell (by simp) _)
  generalize w2.setCell ⟨w.heap.size + 1, 41, none⟩ (.string ⟨#[]⟩) = w3 at HN3 HN1 HB3 ⊢
  clear x41 f41 HNB HBL
  have HL1 := hid (hp_lt HN1.out)
  have HL2 := hid (hp_lt HN3.out)
  have HC3 : Hid (w3.cell? ⟨w.heap.size, 3, none⟩ = some (.func (.func 91) #[] #[])) := hid (by rw [cell_of_row w3 w.heap.size 3 _ _ _ HN1.out]; rfl)
  have HC0 : Hid (w3.cell? ⟨w.heap.size + 1, 0, none⟩ = some (.int .i64 5)) := hid (Fb.of HN3.out rfl).k
  have HRW := hid (range_row HN3.out)
  refine wp_noPanic (wp_region_held_drew (S := fun W => Below w3.heap.size w3 W) (by kernel_rfl) ⟨rfl, rfl, rfl, Nat.le_refl _, fun _ _ => rfl⟩ ?_)
  intro hHeld
  refine wpAnyH_take (i := 0) (v := .pointer (some ⟨w.heap.size, 3, none⟩)) rfl (by kernel_rfl) (by kernel_rfl) (by kernel_rfl) (fun _ _ _ h => h) (Or.inl ⟨by rfl, fun W _ => by go_simp⟩) hHeld ?_
  simp only [Act.put, List.getElem_toArray, List.getElem_cons_zero, List.setIfInBounds_toArray, List.set_cons_succ, List.set_cons_zero]
  refine wpAnyH_take (i := 1) (v := .func (.func 91) #[] #[]) rfl (by kernel_rfl) (by kernel_rfl) (by kernel_rfl) (fun _ _ _ h => h) (Or.inl ⟨by rfl, fun W hW => by have hcell := (hW.cell (p := ⟨w.heap.size, 3, none⟩) HL1.out).trans HC3.out; clear hW; go_simp⟩) hHeld ?_
  simp only [Act.put, List.getElem_toArray, List.getElem_cons_zero, List.getElem_cons_succ, List.setIfInBounds_toArray, List.set_cons_succ, List.set_cons_zero]
  refine wpAnyH_take (i := 2) (v := .pointer (some ⟨w.heap.size + 1, 0, none⟩)) rfl (by kernel_rfl) (by kernel_rfl) (by kernel_rfl) (fun _ _ _ h => h) (Or.inl ⟨by rfl, fun W _ => by go_simp⟩) hHeld ?_
  simp only [Act.put, List.getElem_toArray, List.getElem_cons_zero, List.getElem_cons_succ, List.setIfInBounds_toArray, List.set_cons_succ, List.set_cons_zero]
  refine wpAnyH_take (i := 3) (v := .int .i64 5) rfl (by kernel_rfl) (by kernel_rfl) (by kernel_rfl) (fun _ _ _ h => h) (Or.inl ⟨by rfl, fun W hW => by have hcell := (hW.cell (p := ⟨w.heap.size + 1, 0, none⟩) HL2.out).trans HC0.out; clear hW; go_simp⟩) hHeld ?_
  simp only [Act.put, List.getElem_toArray, List.getElem_cons_zero, List.getElem_cons_succ, List.setIfInBounds_toArray, List.set_cons_succ, List.set_cons_zero]
  refine wpAnyH_take (i := 6) (v := .agg (fcells byeF nS).toArray) rfl (by kernel_rfl) (by kernel_rfl) (by kernel_rfl) (fun _ _ _ h => h) (yieldsIf_load_mid (by rfl) 29 (.tmp 3) rfl (w.heap.size + 1) 0 rfl (fcells byeF nS) _ (fun W hW => fun j v hv => (hW.cell (p := ⟨w.heap.size + 1, 0 + j, none⟩) HL2.out).trans (HRW.out j v hv)) Try.underlying29 rfl (frame_size byeF nS rfl)) hHeld ?_
  simp only [Act.put, List.getElem_toArray, List.getElem_cons_zero, List.getElem_cons_succ, List.setIfInBounds_toArray, List.set_cons_succ, List.set_cons_zero]
  refine wpAnyH_take (i := 9) (v := .int .i64 0) rfl (by kernel_rfl) (by kernel_rfl) (by kernel_rfl) (fun _ _ _ h => h) (Or.inl ⟨by rfl, fun W _ => by go_simp⟩) hHeld ?_
  simp only [Act.put, List.getElem_toArray, List.getElem_cons_zero, List.getElem_cons_succ, List.setIfInBounds_toArray, List.set_cons_succ, List.set_cons_zero]
  refine wpAnyH_take (i := 10) (v := .int .u64 0) rfl (by kernel_rfl) (by kernel_rfl) (by kernel_rfl) (fun _ _ _ h => h) (Or.inl ⟨by rfl, fun W _ => by have hfact : IntKind.u64.wrap 0 = 0 := rfl; go_simp; first | done | simp [hfact]⟩) hHeld ?_
  simp only [Act.put, List.getElem_toArray, List.getElem_cons_zero, List.getElem_cons_succ, List.setIfInBounds_toArray, List.set_cons_succ, List.set_cons_zero]
  refine wpAnyH_take (i := 15) (v := .int .i64 0) rfl (by kernel_rfl) (by kernel_rfl) (by kernel_rfl) (fun _ _ _ h => h) (Or.inl ⟨by rfl, fun W _ => by go_simp⟩) hHeld ?_
  simp only [Act.put, List.getElem_toArray, List.getElem_cons_zero, List.getElem_cons_succ, List.setIfInBounds_toArray, List.set_cons_succ, List.set_cons_zero]
  obtain ⟨w3x, HW3⟩ : ∃ x, Hid (w3.drew = x) := ⟨_, rfl⟩
  rw [HW3.out] at hHeld ⊢
  have hHeld0 := hHeld
  refine wpAnyH_ready (rs := [4]) (by kernel_rfl) (by simp) ?_
  refine (AllReadyH.cons rfl (fun K hK => ?_) AllReadyH.nil)
  go_simp
  have hq1 := (below_tr hHeld0 ((below_walk w3x (.cells #[.int .i64 5] 3)).mono hHeld0.size))
  refine hK.out _ _ hq1 (fun hHeld => ?_)
  clear hK K
  try simp only [Act.put, List.getElem_toArray, List.getElem_cons_zero, List.getElem_cons_succ, List.setIfInBounds_toArray, List.set_cons_succ, List.set_cons_zero]
  refine wpAnyH_ready (rs := [5]) (by kernel_rfl) (by simp) ?_
  refine (AllReadyH.cons rfl (fun K hK => ?_) AllReadyH.nil)
  go_simp
  refine (put_five w3x).mono ?_
  rintro e wp2 ⟨ap2, cp2, rfl, hs2, hb2⟩
  have hq2 := below_tr hHeld0 (hb2.mono hHeld0.size)
  go_wp2_with fail
  refine hK.out _ _ hq2 (fun hHeld => ?_)
  clear hK K hs2
  try simp only [Act.put, List.getElem_toArray, List.getElem_cons_zero, List.getElem_cons_succ, List.setIfInBounds_toArray, List.set_cons_succ, List.set_cons_zero]
  refine wpAnyH_ready (rs := [7]) (by kernel_rfl) (by simp) ?_
  refine (AllReadyH.cons rfl (fun K hK => ?_) AllReadyH.nil)
  go_simp
  refine (layBye_any _ _ _ _ wp2).mono ?_
  rintro e wl3 ⟨rfl, hb3⟩
  have hq3 := below_tr hq2 (hb3.mono hq2.size)
  go_wp2_with fail
  refine hK.out _ _ hq3 (fun hHeld => ?_)
  clear hK K
  try simp only [Act.put, List.getElem_toArray, List.getElem_cons_zero, List.getElem_cons_succ, List.setIfInBounds_toArray, List.set_cons_succ, List.set_cons_zero]
  refine wpAnyH_take (i := 8) (v := .int .i64 1) rfl (by kernel_rfl) (by kernel_rfl) (by kernel_rfl) (fun _ _ _ h => h) (Or.inl ⟨by rfl, fun W _ => by go_simp⟩) hHeld ?_
  simp only [Act.put, List.getElem_toArray, List.getElem_cons_zero, List.getElem_cons_succ, List.setIfInBounds_toArray, List.set_cons_succ, List.set_cons_zero]
  refine wpAnyH_ready (rs := [11]) (by kernel_rfl) (by simp) ?_
  refine (AllReadyH.cons rfl (fun K hK => ?_) AllReadyH.nil)
  go_simp
  refine (size_zero _).mono ?_
  rintro e wz4 ⟨rfl, ez4⟩
  have ey4 := ez4.symm
  subst ey4
  go_wp2_with fail
  refine hK.out _ _ hHeld (fun hHeld => ?_)
  clear hK K
  try simp only [Act.put, List.getElem_toArray, List.getElem_cons_zero, List.getElem_cons_succ, List.setIfInBounds_toArray, List.set_cons_succ, List.set_cons_zero]
  refine wpAnyH_take (i := 12) (v := .int .i64 2) rfl (by kernel_rfl) (by kernel_rfl) (by kernel_rfl) (fun _ _ _ h => h) (Or.inl ⟨by rfl, fun W _ => by have hfact : IntKind.i64.wrap 2 = 2 := rfl; go_simp; first | done | simp [hfact]⟩) hHeld ?_
  simp only [Act.put, List.getElem_toArray, List.getElem_cons_zero, List.getElem_cons_succ, List.setIfInBounds_toArray, List.set_cons_succ, List.set_cons_zero]
  refine wpAnyH_ready (rs := [13]) (by kernel_rfl) (by simp) ?_
  refine (AllReadyH.cons rfl (fun K hK => ?_) AllReadyH.nil)
  go_simp
  refine (size_zero _).mono ?_
  rintro e wz5 ⟨rfl, ez5⟩
  have ey5 := ez5.symm
  subst ey5
  go_wp2_with fail
  refine hK.out _ _ hHeld (fun hHeld => ?_)
  clear hK K
  try simp only [Act.put, List.getElem_toArray, List.getElem_cons_zero, List.getElem_cons_succ, List.setIfInBounds_toArray, List.set_cons_succ, List.set_cons_zero]
  refine wpAnyH_take (i := 14) (v := .int .i64 1) rfl (by kernel_rfl) (by kernel_rfl) (by kernel_rfl) (fun _ _ _ h => h) (Or.inl ⟨by rfl, fun W _ => by have hfact : IntKind.i64.wrap 1 = 1 := rfl; go_simp; first | done | simp [hfact]⟩) hHeld ?_
  simp only [Act.put, List.getElem_toArray, List.getElem_cons_zero, List.getElem_cons_succ, List.setIfInBounds_toArray, List.set_cons_succ, List.set_cons_zero]
  refine wpAnyH_take (i := 16) (v := .int .i64 1) rfl (by kernel_rfl) (by kernel_rfl) (by kernel_rfl) (fun _ _ _ h => h) (Or.inl ⟨by rfl, fun W _ => by have hfact : IntKind.i64.wrap 1 = 1 := rfl; go_simp; first | done | simp [hfact]⟩) hHeld ?_
  simp only [Act.put, List.getElem_toArray, List.getElem_cons_zero, List.getElem_cons_succ, List.setIfInBounds_toArray, List.set_cons_succ, List.set_cons_zero]
  refine wpAnyH_take (i := 17) (v := .int .i64 1) rfl (by kernel_rfl) (by kernel_rfl) (by kernel_rfl) (fun _ _ _ h => h) (Or.inl ⟨by rfl, fun W _ => by go_simp⟩) hHeld ?_
  simp only [Act.put, List.getElem_toArray, List.getElem_cons_zero, List.getElem_cons_succ, List.setIfInBounds_toArray, List.set_cons_succ, List.set_cons_zero]
  refine wpAnyH_done (by kernel_rfl) ?_ _
  simp only [noPanic]
  clear hHeld
  go_wp2
  go_ret
  exact ⟨rfl, below_then HB3.out hq3⟩

end Go.Proofs.Ytgoalfiinfkldaa

/- A Bye, written by the program: its plan, its bytes. -/
namespace Go.Proofs.Ytgoalfiinfkldaa
open Go.RowKit Go.BigFrame

theorem results_cell3 {fn : Func} {p q s : Tmp} {ty : TypeId} (h : fn.results = #[.cell p ty, .tmp q, .tmp s]) (tmps : Array Value) (P : Program) (w : World) :
    (results fn tmps).run P w = ((asAddr (tmps.getD p undef)).run P w).andThen fun a w₁ => ((loadVar ty a).run P w₁).andThen fun v w₂ => .ok (.tuple #[v, tmps.getD q undef, tmps.getD s undef]) w₂ := by
  simp only [results, h]
  simp [Sem.run_bind, Result.andThen]
/-- the answer is a whole row that lies in a variable, and two values -/
theorem ret_row3 {P : Program} {fn : Func} {R : Ending → World → Prop} {a : Act} {w : World} (p q s : Tmp) (ty : TypeId) (h : fn.results = #[.cell p ty, .tmp q, .tmp s]) (g : Nat) (hp : a.tmps.getD p undef = .pointer (some ⟨g, 0, none⟩))
    (cs : List Value) (t : TypeId) (hb : w.heap[g]? = some (.cells cs.toArray t (0, 0))) (d : TypeDesc) (hu : P.underlying ty = some d) (hd : d.isRow = true) (hi : (P.info? ty).map (·.size) = some cs.length)
    (v u : Value) (hq : a.tmps.getD q undef = v) (hs : a.tmps.getD s undef = u) (hdf : a.defers = []) (hR : R (.returned (.tuple #[.agg cs.toArray, v, u])) w) : bodyPost P fn R .ret a w := by
  refine bodyPost_ret (v := .tuple #[.agg cs.toArray, v, u]) ?_ hdf hR
  rw [results_cell3 h, hp, hq, hs]
  have := run_loadVar_mid (P := P) w g 0 ty cs d (fun j v hv => by rw [Nat.zero_add, cell_of_row w g j cs.toArray t (0, 0) hb]; simpa using hv) hu hd hi
  simp [asAddr, this]

theorem kindOf_five (w : World) : Calls Try.prog 40 #[.int .i64 5] w fun e w' => e = .returned (.tuple #[.agg k5.toArray, .bool true]) ∧ Below w.heap.size w w' := kindOf_any 5 w
theorem same_bye (w : World) : Calls Try.prog 20 #[.agg (fcells byeF nS).toArray, .agg (fcells byeF nS).toArray] w fun e w' => e = .returned (.bool true) ∧ Below w.heap.size w w' := by
  have := same_any byeF byeF nS nS w rfl rfl (strs_nil w) (strs_nil w) (by simp [byeF])
  rwa [sameP_self] at this

set_option maxRecDepth 100000 in
set_option maxHeartbeats 4000000 in
theorem planBye_any (w : World) :
    Calls Try.prog 21 #[.agg (fcells byeF nS).toArray] w fun e w' => e = .returned (.tuple #[.agg k5.toArray, .int .i64 1, .int .i64 0]) ∧ Below w.heap.size w w' := by
  have HNB := hid (hp_two w (.cells (fcells byeF nS).toArray 29) (.cells zRow.toArray 60))
  have HBL := hid (below_walk2 w (.cells (fcells byeF nS).toArray 29) (.cells zRow.toArray 60))
  have HZ : Hid ((w.alloc (.cells (fcells byeF nS).toArray 29)).heap.size = w.heap.size + 1) := hid (by simp)
  have HOWN := hid (fun W => ownBye_any byeF nS W rfl rfl)
  have HSZ := hid (frame_size byeF nS rfl)
  go_enter Try.func21, Try.ntmps21
  go_upto_region 1 with (refine al_row (by rfl) 60 (by rfl) _ zeroKind ?_)
  try rw [HZ.out]
  generalize (w.alloc (.cells (fcells byeF nS).toArray 29)).alloc (.cells zRow.toArray 60) = w2 at HNB HBL ⊢
  have x0 : w2.cell? ⟨w.heap.size, 0, none⟩ = some (.int .i64 5) := (Fb.of HNB.out.1 rfl).k
  have HL2 := hid (hp_lt HNB.out.2)
  go_wp2_with fail
  refine (kindOf_five w2).mono ?_
  rintro e w3 ⟨rfl, hb3⟩
  have HN1 := hid ((hb3.block _ (by have := HL2.out; omega)).trans HNB.out.1)
  have HN2 := hid ((hb3.block _ HL2.out).trans HNB.out.2)
  have HB3 := hid (below_then HBL.out hb3)
  have HL3 := hid (hp_lt HN2.out)
  clear hb3 x0 HNB HBL HL2
  go_upto_region 2 with (first
    | (refine al_row (by rfl) 60 (by rfl) _ zeroKind ?_)
    | (refine st_new (by rfl) 60 _ _ (by rfl) k5 (by rfl) (by rfl) 60 _ kindSize rfl (kOne _ _ _ _ _) ?_))
  have HN4 := hid ((below_walk w3 (.cells k5.toArray 60)).block _ (by have := HL3.out; omega) |>.trans HN1.out)
  have HN5 := hid ((below_walk w3 (.cells k5.toArray 60)).block _ HL3.out |>.trans HN2.out)
  have HN6 := hid (hp_new w3 (.cells k5.toArray 60))
  have HB4 := hid (below_then HB3.out (below_walk w3 (.cells k5.toArray 60)))
  obtain ⟨B5, HB5⟩ : ∃ b : Nat, Hid (w3.heap.size = b) := ⟨_, rfl⟩
  rw [HB5.out] at HN6 ⊢
  generalize w3.alloc (.cells k5.toArray 60) = w4 at HN4 HN5 HN6 HB4 ⊢
  clear HN1 HN2 HB3 HL3
  have HL6 := hid (hp_lt HN6.out)
  have HL4 := hid (hp_lt HN4.out)
  have y1 : w4.cell? ⟨B5, 1, none⟩ = some (.func (.func 90) #[] #[]) := by rw [cell_of_row w4 B5 1 _ _ _ HN6.out]; rfl
  have y2 : w4.cell? ⟨B5, 2, none⟩ = some (.func (.func 87) #[] #[]) := by rw [cell_of_row w4 B5 2 _ _ _ HN6.out]; rfl
  have z1 := fun p : Bel w4 => p.cell y1 HL6.out
  have z2 := fun p : Bel w4 => p.cell y2 HL6.out
  have ib : Nonempty (Bel w4) := bel_some w4
  have HRA := hid (Bel.range (range_row HN4.out) HL4.out)
  clear y1 y2
  refine wp_region_quiet_bel (by kernel_rfl) (by kernel_rfl) ?_
  go_big_quiet_step (fail)
  go_big_quiet_step (fail)
  go_big_quiet_step (fail)
  refine wpQuiet_want (by rfl) fun K hK => quiet_ld 29 (.tmp 1) (by rfl) w.heap.size 0 (by rfl) _ _ HRA.out Try.underlying29 rfl HSZ.out (hK _ ?_)
  simp only [Act.put, List.setIfInBounds_toArray, List.set_cons_succ, List.set_cons_zero]
  go_big_quiet_step (fail)
  go_big_quiet_step (fail)
  refine wpQuiet_want (by rfl) fun K hK => quiet_ld 29 (.tmp 1) (by rfl) w.heap.size 0 (by rfl) _ _ HRA.out Try.underlying29 rfl HSZ.out (hK _ ?_)
  simp only [Act.put, List.setIfInBounds_toArray, List.set_cons_succ, List.set_cons_zero]
  go_big_quiet_step (first | (go_at_call 90; exact bel_of (HOWN.out _)))
  go_big_quiet_step (first | (go_at_call 20; exact bel_of (same_bye _)))
  go_big_quiet_step (fail)
  go_big_quiet_step (fail)
  go_big_quiet_step (fail)
  go_big_quiet_step (fail)
  go_big_quiet_step (fail)
  refine wpQuiet_want (by rfl) fun K hK => quiet_ld 29 (.tmp 1) (by rfl) w.heap.size 0 (by rfl) _ _ HRA.out Try.underlying29 rfl HSZ.out (hK _ ?_)
  simp only [Act.put, List.setIfInBounds_toArray, List.set_cons_succ, List.set_cons_zero]
  go_big_quiet_step (first | (go_at_call 87; exact bel_of (mayAlways_any _ _)))
  go_big_quiet_step (fail)
  go_big_quiet_step (fail)
  refine wpQuiet_nil ?_
  rintro w5 ⟨⟨w5', hb5⟩, hw5⟩
  obtain rfl : w5 = w5' := hw5
  have HN7 := hid ((hb5.block _ HL4.out).trans HN4.out)
  have HN8 := hid ((hb5.block _ (hp_lt HN5.out)).trans HN5.out)
  have HN9 := hid ((hb5.block _ HL6.out).trans HN6.out)
  have HB5' := hid (below_then HB4.out hb5)
  clear hb5 z1 z2 ib HRA HN4 HN5 HN6 HB4 HL4 HL6
  go_wp2_with (first
    | (refine ld_row (by rfl) 60 (.tmp 5) (by rfl) B5 (by rfl) k5 60 HN9.out _ Try.underlying60 rfl kindSize ?_)
    | (refine ld_row (by rfl) 29 (.tmp 1) (by rfl) w.heap.size (by rfl) (fcells byeF nS) 29 HN7.out _ Try.underlying29 rfl HSZ.out ?_))
  refine (sizeBye_any w5).mono ?_
  rintro e w6 ⟨rfl, hb6⟩
  have HNA := hid ((hb6.block _ (hp_lt HN8.out)).trans HN8.out)
  have HNB := hid ((hb6.block _ (hp_lt HN9.out)).trans HN9.out)
  have HB6 := hid (below_then HB5'.out hb6)
  clear hb6 HN7 HN8 HN9 HB5'
  go_wp2_with (first
    | (refine ld_row (by rfl) 60 (.tmp 5) (by rfl) B5 (by rfl) k5 60 HNB.out _ Try.underlying60 rfl kindSize ?_)
    | (refine st_row (by rfl) 60 _ _ (by rfl) (w.heap.size + 1) k5 (by rfl) (by rfl) 60 _ HNA.out kindSize rfl (kOne _ _ _ _ _) ?_; intro w7 hw7))
  refine ret_row3 2 3 4 60 rfl (w.heap.size + 1) rfl k5 60 hw7.blk _ Try.underlying60 rfl kindSize _ _ rfl rfl rfl ⟨rfl, Below.of_gb HB6.out hw7.grown (by omega)⟩

set_option maxRecDepth 100000 in
set_option maxHeartbeats 4000000 in
theorem encodeBye_any (w : World) :
    Calls Try.prog 8 #[.agg (fcells byeF nS).toArray] w fun e w' => ∃ v, e = .returned (.tuple #[v, .int .i64 0]) ∧ OwnB w' w.heap.size v (sealP [1, 5]) ∧ Below w.heap.size w w' := by
  have HNB := hid (hp_new w (.cells (fcells byeF nS).toArray 29))
  have HBL := hid (below_walk w (.cells (fcells byeF nS).toArray 29))
  have HSZ := hid (frame_size byeF nS rfl)
  go_enter Try.func8, Try.ntmps8
  go_upto_region 1 with fail
  generalize w.alloc (.cells (fcells byeF nS).toArray 29) = w1 at HNB HBL ⊢
  go_wp2_with (refine ld_row (by rfl) 29 (.tmp 1) (by rfl) w.heap.size (by rfl) (fcells byeF nS) 29 HNB.out _ Try.underlying29 rfl HSZ.out ?_)
  refine (planBye_any w1).mono ?_
  rintro e w2 ⟨rfl, hb2⟩
  have HN2 := hid ((hb2.block _ (hp_lt HNB.out)).trans HNB.out)
  have HB2 := hid (below_then HBL.out hb2)
  clear hb2 HNB HBL
  go_upto_region 4 with (first
    | (refine al_row (by rfl) 60 (by rfl) _ zeroKind ?_)
    | (refine st_new (by rfl) 60 _ _ (by rfl) k5 (by rfl) (by rfl) 60 _ kindSize rfl (kOne _ _ _ _ _) ?_))
  have HN3 := hid ((below_walk w2 (.cells k5.toArray 60)).block _ (hp_lt HN2.out) |>.trans HN2.out)
  have HN4 := hid (hp_new w2 (.cells k5.toArray 60))
  have HB3 := hid (below_then HB2.out (below_walk w2 (.cells k5.toArray 60)))
  obtain ⟨B4, HB4⟩ : ∃ b : Nat, Hid (w2.heap.size = b) := ⟨_, rfl⟩
  rw [HB4.out] at HN4 ⊢
  generalize w2.alloc (.cells k5.toArray 60) = w3 at HN3 HN4 HB3 ⊢
  have x0 : w3.cell? ⟨w.heap.size, 0, none⟩ = some (.int .i64 5) := (Fb.of HN3.out rfl).k
  clear HN2 HB2
  go_wp2_with fail
  refine (put_bye w3).mono ?_
  rintro e w4 ⟨ao, c, rfl, hs4, hb4⟩
  have HS4 := hid hs4
  have HN5 := hid ((hb4.block _ (hp_lt HN3.out)).trans HN3.out)
  have HN6 := hid ((hb4.block _ (hp_lt HN4.out)).trans HN4.out)
  have HB5 := hid (below_then HB3.out hb4)
  have y3 : w4.cell? ⟨B4, 3, none⟩ = some (.func (.func 91) #[] #[]) := by rw [cell_of_row w4 B4 3 _ _ _ HN6.out]; rfl
  clear x0 hs4 hb4 HN3 HN4 HB3
  go_wp2_with (refine ld_row (by rfl) 29 (.tmp 1) (by rfl) w.heap.size (by rfl) (fcells byeF nS) 29 HN5.out _ Try.underlying29 rfl HSZ.out ?_)
  refine (layBye_any _ _ _ _ w4).mono ?_
  rintro e w5 ⟨rfl, hb5⟩
  have HS5 := hid (HS4.out.below hb5)
  have HB6 := hid (below_then HB5.out hb5)
  clear hb5 y3 HN5 HN6 HB5 HS4
  go_wp2_with fail
  refine (seal_any w5 _ [1, 5] HS5.out (by simp)).mono ?_
  rintro e w6 ⟨v6, rfl, ho6, hb6⟩
  have HO6 := hid (ho6.le HB6.out.size)
  have HB7 := hid (below_then HB6.out hb6)
  obtain ⟨a6, c6, e6⟩ := src_shape (ho6.src (by rw [sealP_length]; simp))
  subst e6
  clear ho6 hb6
  go_wp2
  go_ret2
  exact ⟨_, rfl, HO6.out, HB7.out⟩

end Go.Proofs.Ytgoalfiinfkldaa

/- Whether all fields of two frames are the same. -/
namespace Go.Proofs.Ytgoalfiinfkldaa
open Go.RowKit

set_option maxRecDepth 100000 in
set_option maxHeartbeats 4000000 in
theorem rsame_any (f g : Fr) (va vb : Value) (w : World) (hf : f.tool.length = 32) (hg : g.tool.length = 32) (ha : Strs w va f.args) (hb : Strs w vb g.args) (hn : f.args.length ≤ 9223372036854775807) :
    Calls Try.prog 19 #[.agg (fcells f va).toArray, .agg (fcells g vb).toArray] w fun e w' => e = .returned (.bool (sameP f g)) ∧ Below w.heap.size w w' := by
  have HNA := hid (hp_two w (.cells (fcells f va).toArray 29) (.cells (fcells g vb).toArray 29))
  have HBL := hid (below_walk2 w (.cells (fcells f va).toArray 29) (.cells (fcells g vb).toArray 29))
  have HSA := hid ha
  have HSB := hid hb
  have HN := hid hn
  have HF := hid hf
  have HG := hid hg
  clear ha hb hn hf hg
  go_enter Try.func19, Try.ntmps19
  go_upto_region 1 with fail
  generalize (w.alloc (.cells (fcells f va).toArray 29)).alloc (.cells (fcells g vb).toArray 29) = w2 at HNA HBL ⊢
  have HA := hid (Fb.of HNA.out.1 HF.out)
  have HB := hid (Fb.of HNA.out.2 HG.out)
  clear HNA
  have HSA2 := hid (HSA.out.below HBL.out)
  have HSB2 := hid (HSB.out.below HBL.out)
  clear HSA HSB
  have hlg := limG
  have hdg := digG
  have HEQ := hid (wsame_any va vb f.args g.args w2 HSA2.out HSB2.out HN.out)
  obtain ⟨fk, fi, fv, fs, ft, fst, fl, fa, fb⟩ := f
  obtain ⟨gk, gi, gv, gs, gt, gst, gl, ga, gb⟩ := g
  obtain ⟨fl1, fl2, fl3⟩ := fl
  obtain ⟨gl1, gl2, gl3⟩ := gl
  obtain ⟨B2, HB2⟩ : ∃ b : Nat, Hid (w.heap.size + 1 = b) := ⟨_, rfl⟩
  obtain ⟨B1, HB1⟩ : ∃ b : Nat, Hid (w.heap.size = b) := ⟨_, rfl⟩
  rw [HB2.out] at HB ⊢
  rw [HB1.out] at HA ⊢
  clear HB1 HB2
  by_cases hne : fk = gk
  · subst hne
    by_cases hne : fi = gi
    · subst hne
      by_cases hne : fv = gv
      · subst hne
        by_cases hne : fs = gs
        · subst hne
          by_cases hne : ft = gt
          · subst hne
            by_cases hne : fst = gst
            · subst hne
              by_cases hne : (fl1, fl2, fl3) = (gl1, gl2, gl3)
              · injection hne with h1 h2; injection h2 with h2 h3; subst h1; subst h2; subst h3
                by_cases hne : fa = ga
                · subst hne
                  by_cases hne : fb = gb
                  · subst hne
                    have HR : Hid (sameP ⟨fk, fi, fv, fs, ft, fst, (fl1, fl2, fl3), fa, fb⟩ ⟨fk, fi, fv, fs, ft, fst, (fl1, fl2, fl3), fa, fb⟩ = true) := hid (sameP_self _)
                    have a0 := HA.out.k
                    have b0 := HB.out.k
                    have a1 := HA.out.i
                    have b1 := HB.out.i
                    have a2 := HA.out.v
                    have b2 := HB.out.v
                    have a3 := HA.out.s
                    have b3 := HB.out.s
                    have a4 := hid HA.out.t
                    have b4 := hid HB.out.t
                    have HS1 := hid (tool_size ft HF.out)
                    have HS2 := hid (tool_size ft HG.out)
                    have a5 := HA.out.st
                    have b5 := HB.out.st
                    have a61 := HA.out.l1
                    have b61 := HB.out.l1
                    have a62 := HA.out.l2
                    have b62 := HB.out.l2
                    have a63 := HA.out.l3
                    have b63 := HB.out.l3
                    have a7 := HA.out.a
                    have b7 := HB.out.a
                    have e4 := dig_eql ft ft HF.out HF.out
                    rw [decide_eq_true rfl] at e4
                    have e6 := lim_eql fl1 fl2 fl3 fl1 fl2 fl3
                    rw [decide_eq_true rfl] at e6
                    have HE2 := hid HEQ.out
                    simp only [decide_true] at HE2
                    have HA8 := hid (fun n => (show (w2.drewN n).cell? ⟨B1, 41, none⟩ = _ from HA.out.bd))
                    have HB8 := hid (fun n => (show (w2.drewN n).cell? ⟨B2, 41, none⟩ = _ from HB.out.bd))
                    clear HA HB HEQ HF HG
                    go_wp2_with (first | (refine ld_gd (by rfl) 24 (.tmp 32) (by rfl) B1 4 (by rfl) _ _ a4.out Try.underlying24 rfl HS1.out ?_) | (refine ld_gd (by rfl) 24 (.tmp 34) (by rfl) B2 4 (by rfl) _ _ b4.out Try.underlying24 rfl HS2.out ?_))
                    refine HE2.out.mono ?_
                    rintro e w3 ⟨rfl, n, rfl⟩
                    have a8 := HA8.out n
                    have b8 := HB8.out n
                    clear HA8 HB8
                    clear HE2
                    go_wp2
                    go_ret
                    exact ⟨ret_eq HR.out.symm, HBL.out.trans ⟨rfl, rfl, rfl, Nat.le_refl _, fun _ _ => rfl⟩⟩
                  · have HR : Hid (sameP ⟨fk, fi, fv, fs, ft, fst, (fl1, fl2, fl3), fa, fb⟩ ⟨fk, fi, fv, fs, ft, fst, (fl1, fl2, fl3), fa, gb⟩ = false) := hid (decide_eq_false (fun h9 => hne (by exact h9.2.2.2.2.2.2.2.2)))
                    have a0 := HA.out.k
                    have b0 := HB.out.k
                    have a1 := HA.out.i
                    have b1 := HB.out.i
                    have a2 := HA.out.v
                    have b2 := HB.out.v
                    have a3 := HA.out.s
                    have b3 := HB.out.s
                    have a4 := hid HA.out.t
                    have b4 := hid HB.out.t
                    have HS1 := hid (tool_size ft HF.out)
                    have HS2 := hid (tool_size ft HG.out)
                    have a5 := HA.out.st
                    have b5 := HB.out.st
                    have a61 := HA.out.l1
                    have b61 := HB.out.l1
                    have a62 := HA.out.l2
                    have b62 := HB.out.l2
                    have a63 := HA.out.l3
                    have b63 := HB.out.l3
                    have a7 := HA.out.a
                    have b7 := HB.out.a
                    have e4 := dig_eql ft ft HF.out HF.out
                    rw [decide_eq_true rfl] at e4
                    have e6 := lim_eql fl1 fl2 fl3 fl1 fl2 fl3
                    rw [decide_eq_true rfl] at e6
                    have HE2 := hid HEQ.out
                    simp only [decide_true] at HE2
                    have HA8 := hid (fun n => (show (w2.drewN n).cell? ⟨B1, 41, none⟩ = _ from HA.out.bd))
                    have HB8 := hid (fun n => (show (w2.drewN n).cell? ⟨B2, 41, none⟩ = _ from HB.out.bd))
                    have t1 : ¬ (mk fb).toList = (mk gb).toList := fun h9 => hne ((bl_mk fb).symm.trans (h9.trans (bl_mk gb)))
                    have t2 : ((mk fb).toList == (mk gb).toList) = false := by simpa using t1
                    clear HA HB HEQ HF HG
                    clear hne
                    go_wp2_with (first | (refine ld_gd (by rfl) 24 (.tmp 32) (by rfl) B1 4 (by rfl) _ _ a4.out Try.underlying24 rfl HS1.out ?_) | (refine ld_gd (by rfl) 24 (.tmp 34) (by rfl) B2 4 (by rfl) _ _ b4.out Try.underlying24 rfl HS2.out ?_))
                    refine HE2.out.mono ?_
                    rintro e w3 ⟨rfl, n, rfl⟩
                    have a8 := HA8.out n
                    have b8 := HB8.out n
                    clear HA8 HB8
                    clear HE2
                    go_wp2
                    go_ret
                    exact ⟨ret_eq HR.out.symm, HBL.out.trans ⟨rfl, rfl, rfl, Nat.le_refl _, fun _ _ => rfl⟩⟩
                · have HR : Hid (sameP ⟨fk, fi, fv, fs, ft, fst, (fl1, fl2, fl3), fa, fb⟩ ⟨fk, fi, fv, fs, ft, fst, (fl1, fl2, fl3), ga, gb⟩ = false) := hid (decide_eq_false (fun h9 => hne (by exact h9.2.2.2.2.2.2.2.1)))
                  have a0 := HA.out.k
                  have b0 := HB.out.k
                  have a1 := HA.out.i
                  have b1 := HB.out.i
                  have a2 := HA.out.v
                  have b2 := HB.out.v
                  have a3 := HA.out.s
                  have b3 := HB.out.s
                  have a4 := hid HA.out.t
                  have b4 := hid HB.out.t
                  have HS1 := hid (tool_size ft HF.out)
                  have HS2 := hid (tool_size ft HG.out)
                  have a5 := HA.out.st
                  have b5 := HB.out.st
                  have a61 := HA.out.l1
                  have b61 := HB.out.l1
                  have a62 := HA.out.l2
                  have b62 := HB.out.l2
                  have a63 := HA.out.l3
                  have b63 := HB.out.l3
                  have a7 := HA.out.a
                  have b7 := HB.out.a
                  have e4 := dig_eql ft ft HF.out HF.out
                  rw [decide_eq_true rfl] at e4
                  have e6 := lim_eql fl1 fl2 fl3 fl1 fl2 fl3
                  rw [decide_eq_true rfl] at e6
                  have HE2 := hid HEQ.out
                  simp only [decide_eq_false hne] at HE2
                  clear HA HB HEQ HF HG
                  clear hne
                  go_wp2_with (first | (refine ld_gd (by rfl) 24 (.tmp 32) (by rfl) B1 4 (by rfl) _ _ a4.out Try.underlying24 rfl HS1.out ?_) | (refine ld_gd (by rfl) 24 (.tmp 34) (by rfl) B2 4 (by rfl) _ _ b4.out Try.underlying24 rfl HS2.out ?_))
                  refine HE2.out.mono ?_
                  rintro e w3 ⟨rfl, n, rfl⟩
                  clear HE2
                  go_wp2
                  go_ret
                  exact ⟨ret_eq HR.out.symm, HBL.out.trans ⟨rfl, rfl, rfl, Nat.le_refl _, fun _ _ => rfl⟩⟩
              · have HR : Hid (sameP ⟨fk, fi, fv, fs, ft, fst, (fl1, fl2, fl3), fa, fb⟩ ⟨fk, fi, fv, fs, ft, fst, (gl1, gl2, gl3), ga, gb⟩ = false) := hid (decide_eq_false (fun h9 => hne (by exact h9.2.2.2.2.2.2.1)))
                have a0 := HA.out.k
                have b0 := HB.out.k
                have a1 := HA.out.i
                have b1 := HB.out.i
                have a2 := HA.out.v
                have b2 := HB.out.v
                have a3 := HA.out.s
                have b3 := HB.out.s
                have a4 := hid HA.out.t
                have b4 := hid HB.out.t
                have HS1 := hid (tool_size ft HF.out)
                have HS2 := hid (tool_size ft HG.out)
                have a5 := HA.out.st
                have b5 := HB.out.st
                have a61 := HA.out.l1
                have b61 := HB.out.l1
                have a62 := HA.out.l2
                have b62 := HB.out.l2
                have a63 := HA.out.l3
                have b63 := HB.out.l3
                have e4 := dig_eql ft ft HF.out HF.out
                rw [decide_eq_true rfl] at e4
                have e6 := lim_eql fl1 fl2 fl3 gl1 gl2 gl3
                rw [decide_eq_false hne] at e6
                clear HA HB HEQ HF HG
                clear hne
                go_wp2_with (first | (refine ld_gd (by rfl) 24 (.tmp 32) (by rfl) B1 4 (by rfl) _ _ a4.out Try.underlying24 rfl HS1.out ?_) | (refine ld_gd (by rfl) 24 (.tmp 34) (by rfl) B2 4 (by rfl) _ _ b4.out Try.underlying24 rfl HS2.out ?_))
                go_ret
                exact ⟨ret_eq HR.out.symm, HBL.out⟩
            · have HR : Hid (sameP ⟨fk, fi, fv, fs, ft, fst, (fl1, fl2, fl3), fa, fb⟩ ⟨fk, fi, fv, fs, ft, gst, (gl1, gl2, gl3), ga, gb⟩ = false) := hid (decide_eq_false (fun h9 => hne (by exact h9.2.2.2.2.2.1)))
              have a0 := HA.out.k
              have b0 := HB.out.k
              have a1 := HA.out.i
              have b1 := HB.out.i
              have a2 := HA.out.v
              have b2 := HB.out.v
              have a3 := HA.out.s
              have b3 := HB.out.s
              have a4 := hid HA.out.t
              have b4 := hid HB.out.t
              have HS1 := hid (tool_size ft HF.out)
              have HS2 := hid (tool_size ft HG.out)
              have a5 := HA.out.st
              have b5 := HB.out.st
              have e4 := dig_eql ft ft HF.out HF.out
              rw [decide_eq_true rfl] at e4
              have q1 : (fst == gst) = false := by simpa using hne
              clear HA HB HEQ HF HG
              go_wp2_with (first | (refine ld_gd (by rfl) 24 (.tmp 32) (by rfl) B1 4 (by rfl) _ _ a4.out Try.underlying24 rfl HS1.out ?_) | (refine ld_gd (by rfl) 24 (.tmp 34) (by rfl) B2 4 (by rfl) _ _ b4.out Try.underlying24 rfl HS2.out ?_))
              go_ret
              exact ⟨ret_eq HR.out.symm, HBL.out⟩
          · have HR : Hid (sameP ⟨fk, fi, fv, fs, ft, fst, (fl1, fl2, fl3), fa, fb⟩ ⟨fk, fi, fv, fs, gt, gst, (gl1, gl2, gl3), ga, gb⟩ = false) := hid (decide_eq_false (fun h9 => hne (by exact h9.2.2.2.2.1)))
            have a0 := HA.out.k
            have b0 := HB.out.k
            have a1 := HA.out.i
            have b1 := HB.out.i
            have a2 := HA.out.v
            have b2 := HB.out.v
            have a3 := HA.out.s
            have b3 := HB.out.s
            have a4 := hid HA.out.t
            have b4 := hid HB.out.t
            have HS1 := hid (tool_size ft HF.out)
            have HS2 := hid (tool_size gt HG.out)
            have e4 := dig_eql ft gt HF.out HG.out
            rw [decide_eq_false hne] at e4
            clear HA HB HEQ HF HG
            clear hne
            go_wp2_with (first | (refine ld_gd (by rfl) 24 (.tmp 32) (by rfl) B1 4 (by rfl) _ _ a4.out Try.underlying24 rfl HS1.out ?_) | (refine ld_gd (by rfl) 24 (.tmp 34) (by rfl) B2 4 (by rfl) _ _ b4.out Try.underlying24 rfl HS2.out ?_))
            go_ret
            exact ⟨ret_eq HR.out.symm, HBL.out⟩
        · have HR : Hid (sameP ⟨fk, fi, fv, fs, ft, fst, (fl1, fl2, fl3), fa, fb⟩ ⟨fk, fi, fv, gs, gt, gst, (gl1, gl2, gl3), ga, gb⟩ = false) := hid (decide_eq_false (fun h9 => hne (by exact h9.2.2.2.1)))
          have a0 := HA.out.k
          have b0 := HB.out.k
          have a1 := HA.out.i
          have b1 := HB.out.i
          have a2 := HA.out.v
          have b2 := HB.out.v
          have a3 := HA.out.s
          have b3 := HB.out.s
          have q1 : (fs == gs) = false := by simpa using hne
          clear HA HB HEQ HF HG
          go_wp2
          go_ret
          exact ⟨ret_eq HR.out.symm, HBL.out⟩
      · have HR : Hid (sameP ⟨fk, fi, fv, fs, ft, fst, (fl1, fl2, fl3), fa, fb⟩ ⟨fk, fi, gv, gs, gt, gst, (gl1, gl2, gl3), ga, gb⟩ = false) := hid (decide_eq_false (fun h9 => hne (by exact h9.2.2.1)))
        have a0 := HA.out.k
        have b0 := HB.out.k
        have a1 := HA.out.i
        have b1 := HB.out.i
        have a2 := HA.out.v
        have b2 := HB.out.v
        have q1 : (fv == gv) = false := by simpa using hne
        clear HA HB HEQ HF HG
        go_wp2
        go_ret
        exact ⟨ret_eq HR.out.symm, HBL.out⟩
    · have HR : Hid (sameP ⟨fk, fi, fv, fs, ft, fst, (fl1, fl2, fl3), fa, fb⟩ ⟨fk, gi, gv, gs, gt, gst, (gl1, gl2, gl3), ga, gb⟩ = false) := hid (decide_eq_false (fun h9 => hne (by exact h9.2.1)))
      have a0 := HA.out.k
      have b0 := HB.out.k
      have a1 := HA.out.i
      have b1 := HB.out.i
      have q1 : (fi == gi) = false := by simpa using hne
      clear HA HB HEQ HF HG
      go_wp2
      go_ret
      exact ⟨ret_eq HR.out.symm, HBL.out⟩
  · have HR : Hid (sameP ⟨fk, fi, fv, fs, ft, fst, (fl1, fl2, fl3), fa, fb⟩ ⟨gk, gi, gv, gs, gt, gst, (gl1, gl2, gl3), ga, gb⟩ = false) := hid (decide_eq_false (fun h9 => hne (by exact h9.1)))
    have a0 := HA.out.k
    have b0 := HB.out.k
    have q1 : (fk == gk) = false := by simpa using hne
    clear HA HB HEQ HF HG
    go_wp2
    go_ret
    exact ⟨ret_eq HR.out.symm, HBL.out⟩

end Go.Proofs.Ytgoalfiinfkldaa

/- A Bye, written by the document. -/
namespace Go.Proofs.Ytgoalfiinfkldaa
open Go.RowKit Go.BigFrame

set_option maxRecDepth 100000 in
set_option maxHeartbeats 4000000 in
theorem onlyBye_any (w : World) :
    Calls Try.prog 45 #[.agg (fcells byeF nS).toArray] w fun e w' => e = .returned (.agg (fcells byeF nS).toArray) ∧ Below w.heap.size w w' := by
  have HNB := hid (hp_two w (.cells (fcells byeF nS).toArray 29) (.cells (fcells zF nS).toArray 29))
  have HBL := hid (below_walk2 w (.cells (fcells byeF nS).toArray 29) (.cells (fcells zF nS).toArray 29))
  have HZ : Hid ((w.alloc (.cells (fcells byeF nS).toArray 29)).heap.size = w.heap.size + 1) := hid (by simp)
  have HSZ := hid (frame_size byeF nS rfl)
  go_enter Try.func45, Try.ntmps45
  go_upto_region 1 with (refine al_row (by rfl) 29 (by rfl) _ zeroFrame ?_)
  try rw [HZ.out]
  generalize (w.alloc (.cells (fcells byeF nS).toArray 29)).alloc (.cells (fcells zF nS).toArray 29) = w2 at HNB HBL ⊢
  have x0 : w2.cell? ⟨w.heap.size, 0, none⟩ = some (.int .i64 5) := (Fb.of HNB.out.1 rfl).k
  have HL2 := hid (hp_lt HNB.out.2)
  go_upto_region 2 with (first
    | (refine bd_row (by rfl) 29 #[(0, .tmp 5)] (by rfl) _ (by simp [Act.eval]) _ built_bye ?_)
    | (refine al_row (by rfl) 29 (by rfl) _ zeroFrame ?_)
    | (refine st_new (by rfl) 29 _ _ (by rfl) (fcells byeF nS) (by rfl) (by rfl) 29 _ HSZ.out rfl (fcells_one byeF nS rfl) ?_))
  have HN1 := hid ((below_walk w2 (.cells (fcells byeF nS).toArray 29)).block _ (by have := HL2.out; omega) |>.trans HNB.out.1)
  have HN2 := hid ((below_walk w2 (.cells (fcells byeF nS).toArray 29)).block _ HL2.out |>.trans HNB.out.2)
  have HN3 := hid (hp_new w2 (.cells (fcells byeF nS).toArray 29))
  have HB3 := hid (below_then HBL.out (below_walk w2 (.cells (fcells byeF nS).toArray 29)))
  obtain ⟨B3, HE3⟩ : ∃ b : Nat, Hid (w2.heap.size = b) := ⟨_, rfl⟩
  rw [HE3.out] at HN3 ⊢
  generalize w2.alloc (.cells (fcells byeF nS).toArray 29) = w3 at HN1 HN2 HN3 HB3 ⊢
  clear x0 HNB HBL HL2
  have x1 : w3.cell? ⟨w.heap.size, 0, none⟩ = some (.int .i64 5) := (Fb.of HN1.out rfl).k
  go_wp2_with (first
    | (refine ld_row (by rfl) 29 (.tmp 3) (by rfl) B3 (by rfl) (fcells byeF nS) 29 HN3.out _ Try.underlying29 rfl HSZ.out ?_)
    | (refine st_row (by rfl) 29 _ _ (by rfl) (w.heap.size + 1) (fcells byeF nS) (by rfl) (by rfl) 29 _ HN2.out HSZ.out rfl (fcells_one byeF nS rfl) ?_; intro w4 hw4))
  refine ret_row 2 29 rfl (w.heap.size + 1) rfl (fcells byeF nS) 29 hw4.blk _ Try.underlying29 rfl HSZ.out rfl ⟨rfl, Below.of_gb HB3.out hw4.grown (by omega)⟩

theorem ruint_five (w : World) : Calls Try.prog 26 #[.int .u64 5] w fun e w' => ∃ ao c, e = .returned (.slice ao 1 c) ∧ OwnB w' w.heap.size (.slice ao 1 c) [5] ∧ Below w.heap.size w w' := by
  refine (refUint_any 5 w (by decide)).mono ?_
  rintro e w' ⟨v, rfl, ho, hb⟩
  have ho' : OwnB w' w.heap.size v [5] := ho
  obtain ⟨ao, c, rfl⟩ := src_shape (ho'.src (by simp))
  exact ⟨ao, c, rfl, ho', hb⟩
theorem ruint_one (w : World) : Calls Try.prog 26 #[.int .u64 1] w fun e w' => ∃ ao c, e = .returned (.slice ao 1 c) ∧ OwnB w' w.heap.size (.slice ao 1 c) [1] ∧ Below w.heap.size w w' := by
  refine (refUint_any 1 w (by decide)).mono ?_
  rintro e w' ⟨v, rfl, ho, hb⟩
  have ho' : OwnB w' w.heap.size v [1] := ho
  obtain ⟨ao, c, rfl⟩ := src_shape (ho'.src (by simp))
  exact ⟨ao, c, rfl, ho', hb⟩

set_option maxRecDepth 100000 in
set_option maxHeartbeats 4000000 in
theorem bodyBye_any (w : World) :
    Calls Try.prog 25 #[.agg (fcells byeF nS).toArray] w fun e w' => ∃ ao c, e = .returned (.slice ao 1 c) ∧ Src w' (.slice ao 1 c) [5] ∧ Below w.heap.size w w' := by
  have HNB := hid (hp_new w (.cells (fcells byeF nS).toArray 29))
  have HBL := hid (below_walk w (.cells (fcells byeF nS).toArray 29))
  go_enter Try.func25, Try.ntmps25
  go_upto_region 1 with fail
  generalize w.alloc (.cells (fcells byeF nS).toArray 29) = w1 at HNB HBL ⊢
  have x0 : w1.cell? ⟨w.heap.size, 0, none⟩ = some (.int .i64 5) := (Fb.of HNB.out rfl).k
  have hw5 : IntKind.u64.wrap 5 = 5 := rfl
  go_wp2_with fail
  refine (ruint_five w1).mono ?_
  rintro e w2 ⟨ao, c, rfl, ho2, hb2⟩
  have HS2 := hid (ho2.src (by simp))
  have HN2 := hid ((hb2.block _ (hp_lt HNB.out)).trans HNB.out)
  have HB2 := hid (below_then HBL.out hb2)
  have x1 : w2.cell? ⟨w.heap.size, 0, none⟩ = some (.int .i64 5) := (Fb.of HN2.out rfl).k
  clear x0 hw5 ho2 hb2 HNB HBL HN2
  go_wp2
  go_ret
  exact ⟨_, _, rfl, HS2.out, HB2.out⟩

theorem rsame_bye (w : World) : Calls Try.prog 19 #[.agg (fcells byeF nS).toArray, .agg (fcells byeF nS).toArray] w fun e w' => e = .returned (.bool true) ∧ Below w.heap.size w w' := by
  have := rsame_any byeF byeF nS nS w rfl rfl (strs_nil w) (strs_nil w) (by simp [byeF])
  rwa [sameP_self] at this

set_option maxRecDepth 100000 in
set_option maxHeartbeats 4000000 in
theorem checkBye_any (w : World) :
    Calls Try.prog 24 #[.agg (fcells byeF nS).toArray] w fun e w' => e = .returned (.int .i64 0) ∧ Below w.heap.size w w' := by
  have HNB := hid (hp_new w (.cells (fcells byeF nS).toArray 29))
  have HBL := hid (below_walk w (.cells (fcells byeF nS).toArray 29))
  have HSZ := hid (frame_size byeF nS rfl)
  go_enter Try.func24, Try.ntmps24
  go_upto_region 1 with fail
  generalize w.alloc (.cells (fcells byeF nS).toArray 29) = w1 at HNB HBL ⊢
  have HL := hid (hp_lt HNB.out)
  have x0 : w1.cell? ⟨w.heap.size, 0, none⟩ = some (.int .i64 5) := (Fb.of HNB.out rfl).k
  have x7 : w1.cell? ⟨w.heap.size, 40, none⟩ = some (.slice none 0 0) := (Fb.of HNB.out rfl).a
  have z0 := fun p : Bel w1 => p.cell x0 HL.out
  have z7 := fun p : Bel w1 => p.cell x7 HL.out
  have ib : Nonempty (Bel w1) := bel_some w1
  have HRA := hid (Bel.range (range_row HNB.out) HL.out)
  clear x0 x7
  refine wp_region_quiet_bel (by kernel_rfl) (by kernel_rfl) ?_
  go_big_quiet_step (fail)
  go_big_quiet_step (fail)
  go_big_quiet_step (fail)
  go_big_quiet_step (fail)
  go_big_quiet_step (fail)
  go_big_quiet_step (fail)
  go_big_quiet_step (fail)
  go_big_quiet_step (fail)
  go_big_quiet_step (fail)
  refine wpQuiet_want (by rfl) fun K hK => quiet_ld 29 (.tmp 1) (by rfl) w.heap.size 0 (by rfl) _ _ HRA.out Try.underlying29 rfl HSZ.out (hK _ ?_)
  simp only [Act.put, List.setIfInBounds_toArray, List.set_cons_succ, List.set_cons_zero]
  refine wpQuiet_want (by rfl) fun K hK => quiet_ld 29 (.tmp 1) (by rfl) w.heap.size 0 (by rfl) _ _ HRA.out Try.underlying29 rfl HSZ.out (hK _ ?_)
  simp only [Act.put, List.setIfInBounds_toArray, List.set_cons_succ, List.set_cons_zero]
  go_big_quiet_step (first | (go_at_call 45; exact bel_of (onlyBye_any _)))
  go_big_quiet_step (first | (go_at_call 19; exact bel_of (rsame_bye _)))
  go_big_quiet_step (fail)
  go_big_quiet_step (fail)
  go_big_quiet_step (fail)
  go_big_quiet_step (fail)
  go_big_quiet_step (fail)
  go_big_quiet_step (fail)
  go_big_quiet_step (fail)
  go_big_quiet_step (fail)
  go_big_quiet_step (fail)
  refine wpQuiet_nil ?_
  rintro w2 ⟨⟨w2', hb2⟩, hw2⟩
  obtain rfl : w2 = w2' := hw2
  have HN2 := hid ((hb2.block _ HL.out).trans HNB.out)
  have HB2 := hid (below_then HBL.out hb2)
  clear hb2 z0 z7 ib HRA HNB HBL HL
  have x0 : w2.cell? ⟨w.heap.size, 0, none⟩ = some (.int .i64 5) := (Fb.of HN2.out rfl).k
  have l1 : w2.cell? ⟨w.heap.size, 37, none⟩ = some (.int .i64 0) := (Fb.of HN2.out rfl).l1
  have l2 : w2.cell? ⟨w.heap.size, 38, none⟩ = some (.int .i64 0) := (Fb.of HN2.out rfl).l2
  have l3 : w2.cell? ⟨w.heap.size, 39, none⟩ = some (.int .i64 0) := (Fb.of HN2.out rfl).l3
  have x7 : w2.cell? ⟨w.heap.size, 40, none⟩ = some (.slice none 0 0) := (Fb.of HN2.out rfl).a
  have x8 : w2.cell? ⟨w.heap.size, 41, none⟩ = some (.string ⟨#[]⟩) := (Fb.of HN2.out rfl).bd
  go_wp2_with fail
  go_loopw [3, 4] (fun b i wr => b = .bool false ∧ i = .int .i64 0 ∧ wr = w2) (fun _ _ _ => 0)
  case atStart => exact ⟨rfl, rfl, rfl⟩
  case round =>
    obtain ⟨rfl, rfl, rfl⟩ := hrel
    have HRG := hid (range_row HN2.out)
    go_wp2_with (refine ld_gd (by rfl) 29 (.tmp 1) (by rfl) w.heap.size 0 (by rfl) _ _ HRG.out Try.underlying29 rfl HSZ.out ?_)
    refine (bodyBye_any wr).mono ?_
    rintro e w3 ⟨ao, c, rfl, hs3, hb3⟩
    have HB3 := hid (below_then HB2.out hb3)
    clear hs3 hb3 x0 l1 l2 l3 x7 x8 HN2 HB2
    go_wp2
    go_ret
    exact ⟨rfl, HB3.out⟩

set_option maxRecDepth 100000 in
set_option maxHeartbeats 4000000 in
theorem rencodeBye_any (w : World) :
    Calls Try.prog 9 #[.agg (fcells byeF nS).toArray] w fun e w' => ∃ v, e = .returned (.tuple #[v, .int .i64 0]) ∧ OwnB w' w.heap.size v (sealP [1, 5]) ∧ Below w.heap.size w w' := by
  have HNB := hid (hp_new w (.cells (fcells byeF nS).toArray 29))
  have HBL := hid (below_walk w (.cells (fcells byeF nS).toArray 29))
  have HSZ := hid (frame_size byeF nS rfl)
  go_enter Try.func9, Try.ntmps9
  go_upto_region 1 with fail
  generalize w.alloc (.cells (fcells byeF nS).toArray 29) = w1 at HNB HBL ⊢
  go_wp2_with (refine ld_row (by rfl) 29 (.tmp 1) (by rfl) w.heap.size (by rfl) (fcells byeF nS) 29 HNB.out _ Try.underlying29 rfl HSZ.out ?_)
  refine (checkBye_any w1).mono ?_
  rintro e w2 ⟨rfl, hb2⟩
  have HN2 := hid ((hb2.block _ (hp_lt HNB.out)).trans HNB.out)
  have HB2 := hid (below_then HBL.out hb2)
  clear hb2 HNB HBL
  go_wp2_with (refine ld_row (by rfl) 29 (.tmp 1) (by rfl) w.heap.size (by rfl) (fcells byeF nS) 29 HN2.out _ Try.underlying29 rfl HSZ.out ?_)
  refine (bodyBye_any w2).mono ?_
  rintro e w3 ⟨ao, c, rfl, hs3, hb3⟩
  have HS3 := hid hs3
  have HB3 := hid (below_then HB2.out hb3)
  have hw1 : IntKind.u64.wrap 1 = 1 := rfl
  clear hs3 hb3 HN2 HB2
  go_wp2_with fail
  refine (ruint_one w3).mono ?_
  rintro e w4 ⟨a4, c4, rfl, ho4, hb4⟩
  have HO4 := hid ho4
  have HS4 := hid (HS3.out.below hb4)
  have HB4 := hid (below_then HB3.out hb4)
  have HZ4 := hid hb4.size
  clear ho4 hb4 HS3
  go_wp2_with (at_builtin; refine app_src rfl _ _ rfl w3.heap.size _ [1] rfl HO4.out _ [5] rfl HS4.out (by simp) HZ4.out ?_)
  intro v5 w5 ho5 hg5
  have hs5 : Src w5 v5 [1, 5] := ho5.src (by simp)
  have HB5 := hid (show Below w.heap.size w w5 from below_tr HB4.out ⟨hg5.os, hg5.tape, hg5.output, hg5.size, fun k hk => hg5.block k (by have := HB3.out.size; have := HZ4.out; omega) (fun e => by have := (HO4.out.lt k e.symm).1; have := HB3.out.size; omega)⟩)
  have HSE := hid (rseal_any w5 v5 [1, 5] hs5 (by simp))
  obtain ⟨a5, c5, e5⟩ := src_shape hs5
  subst e5
  clear ho5 hg5 hs5 HB4 HB3 HZ4 HO4 HS4
  go_wp2_with fail
  refine HSE.out.mono ?_
  rintro e w6 ⟨v6, rfl, ho6, hb6⟩
  have HO6 := hid (ho6.le HB5.out.size)
  have HB7 := hid (below_then HB5.out hb6)
  obtain ⟨a6, c6, e6⟩ := src_shape (ho6.src (by rw [sealP_length]; simp))
  subst e6
  clear ho6 hb6
  go_wp2
  go_ret2
  exact ⟨_, rfl, HO6.out, HB7.out⟩

end Go.Proofs.Ytgoalfiinfkldaa

/- The law's alive answers true. -/
namespace Go.Proofs.Ytgoalfiinfkldaa
open Go.RowKit Go.BigFrame

set_option maxRecDepth 100000 in
set_option maxHeartbeats 4000000 in
theorem alive_any (w : World) :
    Calls Try.prog 13 #[] w fun e w' => e = .returned (.bool true) ∧ Below w.heap.size w w' := by
  have hl6 : (sealP [1, 5]).length = 6 := rfl
  go_enter Try.func13, Try.ntmps13
  go_wp2_with fail
  refine (bye_any w).mono ?_
  rintro e w1 ⟨rfl, hb1⟩
  have HB1 := hid hb1
  clear hb1
  go_wp2_with fail
  refine (encodeBye_any w1).mono ?_
  rintro e w2 ⟨v2, rfl, ho2, hb2⟩
  have HS2 := hid (ho2.src (by rw [sealP_length]; simp))
  have HB2 := hid (below_then HB1.out hb2)
  obtain ⟨a2, c2, e2⟩ := src_shape HS2.out
  rw [hl6] at e2
  subst e2
  clear ho2 hb2 HB1
  go_wp2_with (refine bd_row (by rfl) 29 #[(0, .const (.int .i64 5))] (by rfl) _ (by simp [Act.eval]) _ built_bye ?_)
  refine (rencodeBye_any w2).mono ?_
  rintro e w3 ⟨v3, rfl, ho3, hb3⟩
  have HS3 := hid (ho3.src (by rw [sealP_length]; simp))
  have HS2b := hid (HS2.out.below hb3)
  have HB3 := hid (below_then HB2.out hb3)
  obtain ⟨a3, c3, e3⟩ := src_shape HS3.out
  rw [hl6] at e3
  subst e3
  clear ho3 hb3 HB2 HS2
  go_wp2_with fail
  refine (equal_true _ _ _ w3 HS2b.out HS3.out).mono ?_
  rintro e w4 ⟨rfl, hw4⟩
  subst hw4
  go_wp2
  go_ret
  exact ⟨rfl, HB3.out⟩

end Go.Proofs.Ytgoalfiinfkldaa

/- FrameNeeds answers true. -/
namespace Go.Proofs.Ytgoalfiinfkldaa
open Go.RowKit Go.BigFrame

set_option maxRecDepth 100000 in
set_option maxHeartbeats 4000000 in
theorem lawNeeds_any (v : Value) (bs : List UInt8) (w : World) (hs : Src w v bs) :
    Calls Try.prog 5 #[v] w fun e w' => e = .returned (.bool true) ∧ Below w.heap.size w w' := by
  have hsl := hs.1
  have HS := hid hs
  obtain ⟨av, cv, rfl⟩ := src_shape hs
  obtain ⟨M, HM⟩ : ∃ M : Nat, Hid (min bs.length 12 = M) := ⟨_, rfl⟩
  have hm : min (bs.length : Int) 12 = (M : Int) := by have := HM.out; omega
  clear hs
  go_enter Try.func5, Try.ntmps5
  go_wp2_with fail
  go_loopw [3] (fun i wr => ∃ k : Nat, k ≤ M + 1 ∧ i = .int .i64 k ∧ Hid (Below w.heap.size w wr)) (fun i _ => M + 1 - (intOf i).toNat)
  case atStart => exact ⟨0, by omega, rfl, hid (Below.refl _ _)⟩
  case round =>
    obtain ⟨k, hk, rfl, HB⟩ := hrel
    by_cases hlt : k ≤ M
    · have hki : (k : Int) ≤ (M : Int) := by omega
      have hd : decide ((k : Int) ≤ (M : Int)) = true := by simpa using hki
      obtain ⟨vx, hx, cut⟩ := cut_at (HS.out.below HB.out) k (by have := HM.out; omega)
      have HN1 := hid (need_any vx _ wr hx)
      have HX := hid hx
      have hM12 : M ≤ 12 := by have := HM.out; omega
      have hkw : IntKind.i64.wrap ((k : Int) + 1) = (k : Int) + 1 := by rw [IntKind.wrap_i64]; omega
      generalize bs.take k = X at *
      obtain ⟨⟨n, a, x⟩, HNP⟩ : ∃ t, Hid (needP X = t) := ⟨_, rfl⟩
      rw [HNP.out] at HN1
      clear hx
      go_wp2_with fail
      refine HN1.out.mono ?_
      rintro e w1 ⟨rfl, hb1⟩
      have HB1 := hid (below_then HB.out hb1)
      have HN2 := hid (rneed_any vx _ w1 (HX.out.below hb1))
      rw [HNP.out] at HN2
      clear hb1 HN1 HB
      go_wp2_with fail
      refine HN2.out.mono ?_
      rintro e w2 ⟨rfl, hb2⟩
      have HB2 := hid (below_then HB1.out hb2)
      clear hb2 HN2 HB1 HX cut
      go_wp2
      exact ⟨⟨k + 1, by omega, by simp, HB2⟩, by simp [intOf]; omega⟩
    · have hki : ¬ (k : Int) ≤ (M : Int) := by omega
      have hd : decide ((k : Int) ≤ (M : Int)) = false := by simpa using hki
      have HN1 := hid (need_any _ bs wr (HS.out.below HB.out))
      obtain ⟨⟨n, a, x⟩, HNP⟩ : ∃ t, Hid (needP bs = t) := ⟨_, rfl⟩
      rw [HNP.out] at HN1
      go_wp2_with fail
      refine HN1.out.mono ?_
      rintro e w1 ⟨rfl, hb1⟩
      have HB1 := hid (below_then HB.out hb1)
      have HN2 := hid (rneed_any _ bs w1 (HS.out.below HB1.out))
      rw [HNP.out] at HN2
      clear hb1 HN1 HB
      go_wp2_with fail
      refine HN2.out.mono ?_
      rintro e w2 ⟨rfl, hb2⟩
      have HB2 := hid (below_then HB1.out hb2)
      clear hb2 HN2 HB1
      go_wp2_with fail
      refine (alive_any w2).mono ?_
      rintro e w3 ⟨rfl, hb3⟩
      have HB3 := hid (below_then HB2.out hb3)
      clear hb3 HB2
      go_wp2
      go_ret
      exact ⟨rfl, HB3.out⟩

end Go.Proofs.Ytgoalfiinfkldaa
