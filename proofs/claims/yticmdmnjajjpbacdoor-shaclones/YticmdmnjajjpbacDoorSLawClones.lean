/- ShaClones answers true. -/
import Derived.Test.YticmdmnjajjpbacDoorSAwake
import Derived.Test.YticmdmnjajjpbacDoorSClone
import Derived.Test.YticmdmnjajjpbacDoorSEq
namespace Go.Proofs.YticmdmnjajjpbacDoor
open Go.RowKit

/-- where a slice of the caller's lies -/
def Low (n : Nat) (v : Value) (bs : List UInt8) : Prop := ∀ k, 0 < bs.length → v.ownBlock = some k → k < n
theorem src_low {w : World} {v : Value} {bs : List UInt8} (h : Src w v bs) : Low w.heap.size v bs := by
  intro k hp hk
  rcases h.2 with ⟨rfl, rfl⟩ | ⟨ad, cap, rfl, _, _, hlt, _⟩
  · simp at hp
  · have : ad.block = k := by simpa [Value.ownBlock] using hk
    rw [← this]
    exact hlt hp

theorem fl_one (m : List UInt8) : fl [m] = m := by simp [fl]
theorem fl_two (m a : List UInt8) : fl [m, a] = m ++ a := by simp [fl]
theorem sum_two (m a : List UInt8) : sumP (absorb (absorb (Hs, []) m) a).1 (absorb (absorb (Hs, []) m) a).2 (m.length + a.length) = ofP (m ++ a) := by
  unfold ofP
  rw [absorb_append, List.length_append]

/-- Sum behind two writes -/
theorem sum_of (w : World) (b : Nat) (m a : List UInt8) (D : List Value) (hD : D = u8V (ofP (m ++ a))) (hT : Tabs w) (hs : Hst w b (absorb (absorb (Hs, []) m) a).1 (absorb (absorb (Hs, []) m) a).2 (m.length + a.length)) (h : m.length + a.length ≤ 2305843009213693951) :
    Calls Tryd.prog 13 #[.pointer (some ⟨b, 0, none⟩)] w fun e w' => e = .returned (.agg D.toArray) ∧ Below w.heap.size w w' := by
  have := sum_any w b _ _ _ hT hs.hg h
  rw [sum_two, ← hD] at this
  exact this
/-- Of of two -/
theorem of_two (w : World) (v u : Value) (m a : List UInt8) (D : List Value) (hD : D = u8V (ofP (m ++ a))) (hT : Tabs w) (h : Src w v m) (g : Src w u a) :
    Calls Tryd.prog 14 #[.slice (some ⟨w.heap.size, 0, none⟩) 2 2] (w.alloc (.cells #[v, u] 28)) fun e w' => e = .returned (.agg D.toArray) ∧ Below w.heap.size w w' := by
  have hl := h.1
  have gl := g.1
  have := of_any (w.alloc (.cells #[v, u] 28)) _ [m, a] (hT.below (below_walk _ _)) (lists_two h g (fun k hp hk => by have := src_low h k hp hk; rw [hp_size]; omega) (fun k hp hk => by have := src_low g k hp hk; rw [hp_size]; omega) (by rw [hp_size]; omega)) (by simp) (by rw [fl_two, List.length_append]; omega)
  rw [fl_two, ← hD] at this
  exact this.mono fun e w' ⟨he, hb⟩ => ⟨he, (below_walk w _).trans (hb.mono (by rw [hp_size]; omega))⟩

set_option maxRecDepth 100000 in
set_option maxHeartbeats 2000000 in
theorem clones_any (w : World) (vm va vb : Value) (m a b : List UInt8) (hT : Tabs w) (hm : Src w vm m) (ha : Src w va a) (hb : Src w vb b) :
    Calls Tryd.prog 4 #[vm, va, vb] w fun e w' => e = .returned (.bool true) ∧ Below w.heap.size w w' := by
  have HEQ := fun (bs : List UInt8) (W : World) => eql_row (P := Tryd.prog) W 23 5 32 .u8 Tryd.underlying23 Tryd.underlying5 (by kernel_rfl) (ofP bs) (ofP_length bs)
  have HNE := fun (bs : List UInt8) (W : World) => neq_row (P := Tryd.prog) W 23 5 32 .u8 Tryd.underlying23 Tryd.underlying5 (by kernel_rfl) (ofP bs) (ofP_length bs)
  obtain ⟨D1, hD1⟩ : ∃ D, D = u8V (ofP (m ++ a)) := ⟨_, rfl⟩
  obtain ⟨D2, hD2⟩ : ∃ D, D = u8V (ofP (m ++ b)) := ⟨_, rfl⟩
  obtain ⟨D3, hD3⟩ : ∃ D, D = u8V (ofP []) := ⟨_, rfl⟩
  have n1 := HNE (m ++ a)
  have n2 := HNE (m ++ b)
  have q2 := HEQ (m ++ b)
  have q3 := HEQ []
  rw [show List.map (Value.int .u8) (ofP (m ++ a)) = D1 from hD1.symm] at n1
  rw [show List.map (Value.int .u8) (ofP (m ++ b)) = D2 from hD2.symm] at n2 q2
  rw [show List.map (Value.int .u8) (ofP []) = D3 from hD3.symm] at q3
  have HD1 := hid hD1
  have HD2 := hid hD2
  have HD3 := hid hD3
  clear hD1 hD2 hD3 HEQ HNE
  obtain ⟨am, cm, rfl⟩ := src_shape hm
  obtain ⟨aa, ca, rfl⟩ := src_shape ha
  obtain ⟨ab, cb, rfl⟩ := src_shape hb
  have HM := hid hm
  have HA := hid ha
  have HBB := hid hb
  have LM := hid (src_low hm)
  have LA := hid (src_low ha)
  have LB := hid (src_low hb)
  have lm := hm.1
  have la := ha.1
  have lb := hb.1
  have HT := hid hT
  clear hm ha hb hT
  go_enter Tryd.func4, Tryd.ntmps4
  go_wp2_with fail
  refine (new_any w HT.out).mono ?_
  rintro e w1 ⟨rfl, hw1⟩
  have HS1 := hid (new_hst HT.out)
  have HB1 := hid (below_walk w (.cells (hcells Hs (zeros 64) 0 true).toArray 47))
  rw [← hw1] at HS1 HB1
  clear hw1
  have s1 : w.heap.size < w1.heap.size := HS1.out.lt
  go_wp2_with fail
  -- Write(m)
  have HT1 := hid ((HT.out.below HB1.out).below (below_walk w1 (.cells #[.slice am m.length cm] 28)))
  have HL1 := hid (lists_one (X := (· ≠ w.heap.size)) (HM.out.below HB1.out) (fun k hp hk => by have := LM.out k hp hk; omega) (by omega))
  have HS1' := hid (HS1.out.below (below_walk w1 (.cells #[.slice am m.length cm] 28)))
  refine (write_ok _ w.heap.size Hs [] 0 _ [m] HT1.out HS1'.out.hg HL1.out (by simp) (by rw [fl_one]; omega)).mono ?_
  rintro e w2 ⟨rfl, hs2, ht2, hg2⟩
  rw [fl_one, Nat.zero_add] at hs2
  have HS2 := hid hs2
  have HT2 := hid ht2
  have HB2 := hid ((HB1.out.alloc HB1.out.size (.cells #[.slice am m.length cm] 28)).grown hg2 (by rw [hp_size]; omega) (by intro k hk; cases hk; exact Nat.le_refl _))
  have s2 : w.heap.size < w2.heap.size := HS2.out.lt
  clear hs2 ht2 hg2 HT1 HL1 HS1' HS1 HB1 s1
  go_wp2_with fail
  -- Clone
  refine (clone_any w2 w.heap.size _ _ _ HT2.out HS2.out.hg).mono ?_
  rintro e w3 ⟨rfl, hg3, hb3⟩
  have HG3 := hid hg3
  have HS3 := hid (HS2.out.below hb3)
  have HT3 := hid (HT2.out.below hb3)
  have HB3 := hid (HB2.out.trans (hb3.mono HB2.out.size))
  have s3 : w2.heap.size < w3.heap.size := HG3.out.lt
  clear hg3 hb3 HS2 HT2 HB2
  obtain ⟨c, hc⟩ : ∃ c, c = w2.heap.size := ⟨_, rfl⟩
  rw [← hc] at HG3 s3 ⊢
  have hcw : w.heap.size < c := by omega
  clear hc s2
  go_wp2_with fail
  -- h.Write(a)
  have HT3' := hid (HT3.out.below (below_walk w3 (.cells #[.slice aa a.length ca] 28)))
  have HL3 := hid (lists_one (X := (· ≠ w.heap.size)) (HA.out.below HB3.out) (fun k hp hk => by have := LA.out k hp hk; omega) (by omega))
  have HS3' := hid (HS3.out.below (below_walk w3 (.cells #[.slice aa a.length ca] 28)))
  refine (write_ok _ w.heap.size _ _ _ _ [a] HT3'.out HS3'.out.hg HL3.out (by simp) (by rw [fl_one]; omega)).mono ?_
  rintro e w4 ⟨rfl, hs4, ht4, hg4⟩
  rw [fl_one] at hs4
  have HS4 := hid hs4
  have HT4 := hid ht4
  have HG4 := hid ((HG3.out.below (below_walk w3 (.cells #[.slice aa a.length ca] 28))).grown hg4 (by intro e; injection e; omega))
  have HB4 := hid ((HB3.out.alloc HB3.out.size (.cells #[.slice aa a.length ca] 28)).grown hg4 (by rw [hp_size]; omega) (by intro k hk; cases hk; exact Nat.le_refl _))
  have s4 : c < w4.heap.size := HG4.out.lt
  clear hs4 ht4 hg4 HT3' HL3 HS3' HS3 HT3 HG3 HB3 s3
  go_wp2_with fail
  -- c.Write(b)
  have HT4' := hid (HT4.out.below (below_walk w4 (.cells #[.slice ab b.length cb] 28)))
  have HL4 := hid (lists_one (X := (· ≠ c)) (HBB.out.below HB4.out) (fun k hp hk => by have := LB.out k hp hk; omega) (by omega))
  have HG4' := hid (HG4.out.below (below_walk w4 (.cells #[.slice ab b.length cb] 28)))
  refine (write_ok _ c _ _ _ _ [b] HT4'.out HG4'.out HL4.out (by simp) (by rw [fl_one]; omega)).mono ?_
  rintro e w5 ⟨rfl, hs5, ht5, hg5⟩
  rw [fl_one] at hs5
  have HC5 := hid hs5
  have HT5 := hid ht5
  have HS5 := hid ((HS4.out.below (below_walk w4 (.cells #[.slice ab b.length cb] 28))).grown hg5 (by intro e; injection e; omega))
  have HB5 := hid ((HB4.out.alloc HB4.out.size (.cells #[.slice ab b.length cb] 28)).grown hg5 (by rw [hp_size]; omega) (by intro k hk; cases hk; omega))
  clear hs5 ht5 hg5 HT4' HL4 HG4' HG4 HS4 HT4 HB4 s4
  go_wp2_with fail
  -- region 7
  refine (sum_of w5 w.heap.size m a D1 HD1.out HT5.out HS5.out (by omega)).mono ?_
  rintro e w6 ⟨rfl, hb6⟩
  have HB6 := hid hb6
  clear hb6
  have HM6 := hid ((HM.out.below HB5.out).below HB6.out)
  have HA6 := hid ((HA.out.below HB5.out).below HB6.out)
  go_wp2_with fail
  refine (of_two w6 _ _ m a D1 HD1.out (HT5.out.below HB6.out) HM6.out HA6.out).mono ?_
  rintro e w7 ⟨rfl, hb7⟩
  have HB7 := hid (HB6.out.trans (hb7.mono HB6.out.size))
  clear hb7 HM6 HA6 HB6
  go_wp2_with fail
  refine (sum_of w7 c m b D2 HD2.out (HT5.out.below HB7.out) (HC5.out.below HB7.out) (by omega)).mono ?_
  rintro e w8 ⟨rfl, hb8⟩
  have HB8 := hid (HB7.out.trans (hb8.mono HB7.out.size))
  clear hb8 HB7
  have HM8 := hid ((HM.out.below HB5.out).below HB8.out)
  have HBB8 := hid ((HBB.out.below HB5.out).below HB8.out)
  go_wp2_with fail
  refine (of_two w8 _ _ m b D2 HD2.out (HT5.out.below HB8.out) HM8.out HBB8.out).mono ?_
  rintro e w9 ⟨rfl, hb9⟩
  have HB9 := hid (HB8.out.trans (hb9.mono HB8.out.size))
  clear hb9 HM8 HBB8 HB8
  go_wp2_with fail
  -- Reset
  have HT9 := hid (HT5.out.below HB9.out)
  have HS9 := hid (HS5.out.below HB9.out)
  have HC9 := hid (HC5.out.below HB9.out)
  have HBW9 := hid (HB5.out.trans (HB9.out.mono HB5.out.size))
  clear HT5 HS5 HC5 HB5 HB9
  refine (reset_any w9 w.heap.size _ _ _ HT9.out HS9.out.hg).mono ?_
  rintro e w10 ⟨rfl, hs10, ht10, hg10⟩
  have HS10 := hid hs10
  have HT10 := hid ht10
  have HC10 := hid (HC9.out.grown hg10 (by intro e; injection e; omega))
  have HB10 := hid (HBW9.out.grown hg10 HBW9.out.size (by intro k hk; cases hk; exact Nat.le_refl _))
  clear hs10 ht10 hg10 HT9 HS9 HC9 HBW9
  go_wp2_with fail
  refine (sum_of w10 w.heap.size [] [] D3 (by rw [HD3.out]; rfl) HT10.out HS10.out (by simp)).mono ?_
  rintro e w11 ⟨rfl, hb11⟩
  have HB11 := hid hb11
  clear hb11
  go_wp2_with fail
  have HOF : Hid (Calls Tryd.prog 14 #[.slice none 0 0] w11 fun e w' => e = .returned (.agg D3.toArray) ∧ Below w11.heap.size w11 w') := by
    have := of_any w11 (.slice none 0 0) [] (HT10.out.below HB11.out) (Or.inl ⟨_, _, rfl, rfl⟩) (by simp) (by simp [fl])
    rw [fl_nil, ← HD3.out] at this
    exact hid this
  refine HOF.out.mono ?_
  rintro e w12 ⟨rfl, hb12⟩
  have HB12 := hid (HB11.out.trans (hb12.mono HB11.out.size))
  clear hb12 HOF HB11
  go_wp2_with fail
  refine (len_any w12 w.heap.size _ _ _ _ (HS10.out.below HB12.out).hb).mono ?_
  rintro e w13 ⟨rfl, hh⟩
  replace hh := hh.symm
  subst hh
  go_wp2_with fail
  refine (sum_of w12 c m b D2 HD2.out (HT10.out.below HB12.out) (HC10.out.below HB12.out) (by omega)).mono ?_
  rintro e w14 ⟨rfl, hb14⟩
  have HB14 := hid (HB12.out.trans (hb14.mono HB12.out.size))
  clear hb14 HB12
  have HM14 := hid ((HM.out.below HB10.out).below HB14.out)
  have HBB14 := hid ((HBB.out.below HB10.out).below HB14.out)
  go_wp2_with fail
  refine (of_two w14 _ _ m b D2 HD2.out (HT10.out.below HB14.out) HM14.out HBB14.out).mono ?_
  rintro e w15 ⟨rfl, hb15⟩
  have HB15 := hid (HB14.out.trans (hb15.mono HB14.out.size))
  clear hb15 HB14 HM14 HBB14
  go_wp2_with fail
  refine (awake_any _ (HT10.out.below HB15.out)).mono ?_
  rintro e w16 ⟨rfl, hb16⟩
  have HB16 := hid (HB15.out.trans (hb16.mono HB15.out.size))
  clear hb16
  go_wp2
  go_ret
  exact ⟨rfl, HB10.out.trans (HB16.out.mono HB10.out.size)⟩

end Go.Proofs.YticmdmnjajjpbacDoor
