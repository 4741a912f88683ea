/- CrcSeals answers true. -/
import Derived.Test.YtljppkpieoejlabCSeal3
import Derived.Test.YtljppkpieoejlabCEq
namespace Go.Proofs.Ytljppkpieoejlab
open Go.RowKit

/-- what Open says: the bytes, and the error's number -/
def opB (bs : List UInt8) : List UInt8 := if bs.length < 4 then [] else if okP bs then bs.take (bs.length - 4) else []
def opE (bs : List UInt8) : Int := if bs.length < 4 then 4 else if okP bs then 0 else 71
theorem src_nil (w : World) : Src w (.slice none 0 0) [] := ⟨by simp, Or.inl ⟨rfl, rfl⟩⟩
theorem say_of {w w' : World} {bs : List UInt8} {e : Ending} (hl : bs.length ≤ 140737488355327) (h4 : 4 ≤ bs.length) (h : OpenPost w bs e w') : ∃ v', e = .returned (.tuple #[v', .int .i64 (opE bs)]) ∧ Src w' v' (opB bs) ∧ Below w.heap.size w w' := by
  unfold OpenPost at h
  unfold opE opB
  have hn : ¬ bs.length < 4 := by omega
  rw [if_neg hn, if_neg hn]
  cases hok : okP bs with
  | true =>
    rw [hok] at h
    obtain ⟨⟨v', he, ho⟩, hb⟩ := h
    exact ⟨v', he, ho.src (by rw [List.length_take]; omega), hb⟩
  | false =>
    rw [hok] at h
    obtain ⟨he, hb⟩ := h
    exact ⟨_, he, src_nil _, hb⟩
theorem open_say (w : World) (v : Value) (bs : List UInt8) (hv : Src w v bs) :
    Calls Try.prog 13 #[v] w fun e w' => ∃ v', e = .returned (.tuple #[v', .int .i64 (opE bs)]) ∧ Src w' v' (opB bs) ∧ Below w.heap.size w w' := by
  by_cases h4 : bs.length < 4
  · refine (open_short w v bs hv h4).mono ?_
    rintro e w' ⟨rfl, rfl⟩
    unfold opE opB
    rw [if_pos h4, if_pos h4]
    exact ⟨_, rfl, src_nil _, Below.refl _ _⟩
  · exact (open_any w v bs hv (by omega)).mono fun e w' h => say_of hv.1 (by omega) h
theorem ropen_say (w : World) (v : Value) (bs : List UInt8) (hv : Src w v bs) :
    Calls Try.prog 14 #[v] w fun e w' => ∃ v', e = .returned (.tuple #[v', .int .i64 (opE bs)]) ∧ Src w' v' (opB bs) ∧ Below w.heap.size w w' := by
  by_cases h4 : bs.length < 4
  · refine (ropen_short w v bs hv h4).mono ?_
    rintro e w' ⟨rfl, rfl⟩
    unfold opE opB
    rw [if_pos h4, if_pos h4]
    exact ⟨_, rfl, src_nil _, Below.refl _ _⟩
  · exact (ropen_any w v bs hv (by omega)).mono fun e w' h => say_of hv.1 (by omega) h
theorem okP_seal (bs : List UInt8) : okP (sealP bs) = true := by
  rw [okP_at _ bs.length (sealP_length bs)]
  unfold sealP
  rw [List.drop_left' rfl, List.take_left' rfl]
  exact decide_eq_true rfl
theorem op_seal (bs : List UInt8) : opB (sealP bs) = bs ∧ opE (sealP bs) = 0 := by
  have h := okP_seal bs
  have hl := sealP_length bs
  unfold opB opE
  have hn : ¬ (sealP bs).length < 4 := by omega
  rw [if_neg hn, if_neg hn, h, hl]
  refine ⟨?_, rfl⟩
  simp [sealP]
theorem four_neq (bs : List UInt8) (h : bs.length = 4) (W : World) : (binOp .neq 23 (.agg (bytesV bs).toArray) (.agg (bytesV bs).toArray)).run Try.prog W = .ok (.bool false) W := by
  have e : bytesV bs = (bs.map fun c => (c.toNat : Int)).map (Value.int .u8) := by simp [bytesV]
  rw [e]
  exact neq_row W 23 5 4 .u8 Try.underlying23 Try.underlying5 (by kernel_rfl) _ (by simpa using h)

set_option maxRecDepth 100000 in
set_option maxHeartbeats 1000000 in
theorem lawSeals_any (w : World) (v : Value) (bs : List UInt8) (hv : Src w v bs) (hl : bs.length ≤ 140737488355000) :
    Calls Try.prog 3 #[v] w fun e w' => e = .returned (.bool true) ∧ Below w.heap.size w w' := by
  obtain ⟨av, cv, rfl⟩ := src_shape hv
  have HV := hid hv
  clear hv
  have hneq := four_neq (le4 (sumP bs)) (le4_length _)
  have HM := hid (show moreP 0 bs = sumP bs from rfl)
  have HLS := hid (sealP_length bs)
  have HOP := hid (op_seal bs)
  go_enter Try.func3, Try.ntmps3
  go_wp2_with fail
  refine (sum_one w _ bs HV.out).mono ?_
  rintro e w1 ⟨rfl, hb1⟩
  have HB1 := hid hb1
  clear hb1
  go_wp2_with fail
  refine (bytes_any w1 _).mono ?_
  rintro e w2 ⟨rfl, hb2⟩
  have HB2 := hid (HB1.out.trans (hb2.mono HB1.out.size))
  clear hb2 HB1
  go_wp2_with fail
  refine (rmore_any w2 0 _ bs (by omega) (HV.out.below HB2.out)).mono ?_
  rintro e w3 ⟨rfl, rfl⟩
  rw [HM.out]
  go_wp2_with fail
  refine (rbytes_any w3 _).mono ?_
  rintro e w4 ⟨rfl, hb4⟩
  have HB4 := hid (HB2.out.trans (hb4.mono HB2.out.size))
  clear hb4 HB2
  go_wp2_with fail
  refine (seal_any w4 _ bs (HV.out.below HB4.out) hl).mono ?_
  rintro e w5 ⟨v5, rfl, ho5, hb5⟩
  have HB5 := hid (HB4.out.trans (hb5.mono HB4.out.size))
  have HO5 := hid ho5
  clear hb5 ho5 HB4
  go_wp2_with fail
  refine (rseal_any w5 _ bs (HV.out.below HB5.out) hl).mono ?_
  rintro e w6 ⟨v6, rfl, ho6, hb6⟩
  have HB6 := hid (HB5.out.trans (hb6.mono HB5.out.size))
  have HO6 := hid ho6
  have HO56 := hid (HO5.out.below hb6)
  clear hb6 ho6 HB5 HO5
  go_wp2_with fail
  refine (bequal_true w6 _ _ (sealP bs) (HO56.out.src (by rw [HLS.out]; omega)) (HO6.out.src (by rw [HLS.out]; omega))).mono ?_
  rintro e w7 ⟨rfl, rfl⟩
  clear HO6 HO56
  go_wp2_with fail
  refine (open_say w7 _ bs (HV.out.below HB6.out)).mono ?_
  rintro e w8 ⟨v8, rfl, hs8, hb8⟩
  have HB8 := hid (HB6.out.trans (hb8.mono HB6.out.size))
  have HS8 := hid hs8
  clear hb8 hs8 HB6
  go_wp2_with fail
  refine (ropen_say w8 _ bs (HV.out.below HB8.out)).mono ?_
  rintro e w9 ⟨v9, rfl, hs9, hb9⟩
  have HB9 := hid (HB8.out.trans (hb9.mono HB8.out.size))
  have HS89 := hid (HS8.out.below hb9)
  have HS9 := hid hs9
  clear hb9 hs9 HB8 HS8
  go_wp2_with fail
  refine (bequal_true w9 _ _ (opB bs) HS89.out HS9.out).mono ?_
  rintro e w10 ⟨rfl, rfl⟩
  clear HS89 HS9
  go_wp2_with fail
  refine (seal_any w10 _ bs (HV.out.below HB9.out) hl).mono ?_
  rintro e w11 ⟨v11, rfl, ho11, hb11⟩
  have HB11 := hid (HB9.out.trans (hb11.mono HB9.out.size))
  have HO11 := hid ho11
  clear hb11 ho11 HB9
  go_wp2_with fail
  refine (open_say w11 _ (sealP bs) (HO11.out.src (by rw [HLS.out]; omega))).mono ?_
  rintro e w12 ⟨v12, rfl, hs12, hb12⟩
  rw [HOP.out.1] at hs12
  rw [HOP.out.2]
  have HB12 := hid (HB11.out.trans (hb12.mono HB11.out.size))
  have HS12 := hid hs12
  clear hb12 hs12 HB11 HO11
  go_wp2_with fail
  refine (bequal_true w12 _ _ bs HS12.out (HV.out.below HB12.out)).mono ?_
  rintro e w13 ⟨rfl, rfl⟩
  go_wp2
  go_ret
  exact ⟨rfl, HB12.out⟩

end Go.Proofs.Ytljppkpieoejlab
