/- CrcOwn answers true. -/
import Derived.Test.YtljppkpieoejlabCLaw4
namespace Go.Proofs.Ytljppkpieoejlab
open Go.RowKit

theorem OwnB.setAt {w : World} {base g n cap : Nat} {bs : List UInt8} (h : OwnB w base (.slice (some ⟨g, 0, none⟩) n cap) bs) (k : Nat) (m : UInt8) :
    OwnB (w.setCell ⟨g, k, none⟩ (.int .u8 m.toNat)) base (.slice (some ⟨g, 0, none⟩) n cap) (bs.set k m) := by
  obtain ⟨h1, ⟨h2, _⟩ | ⟨g', cap', cur, hv, hb, hh, h3, h4, h5, h6⟩⟩ := h
  · simp at h2
  · simp only [Value.slice.injEq, Option.some.injEq, Addr.mk.injEq, and_true] at hv
    obtain ⟨rfl, rfl, rfl⟩ := hv
    refine ⟨by simp [bytesV], Or.inr ⟨g, cap, cur.setIfInBounds k (.int .u8 m.toNat), by simp, hb, blk_set hh _, by simpa using h3, h4, by simpa using h5, ?_⟩⟩
    rw [Array.toList_setIfInBounds, List.length_set, List.take_set, h6]
    simp [bytesV, List.map_set]
theorem unguard {P : Program} {ops : Array Oper} {Q : Exit → Act → World → Prop} {a : Act} {w : World} {rest : List Oper} {d : Option Tmp} {op : Op} {ty : TypeId} {pos : String} {af : Array Edge} {g : Option (Nat × Bool)}
    (hw : Region.wanted ⟨d, op, ty, pos, af, g⟩ (yielded ops a.tmps) = true) (h : wpList P ops Q (⟨d, op, ty, pos, af, none⟩ :: rest) a w) : wpList P ops Q (⟨d, op, ty, pos, af, g⟩ :: rest) a w := by
  have hn : Region.wanted ⟨d, op, ty, pos, af, none⟩ (yielded ops a.tmps) = true := by simp [Region.wanted]
  simp only [wpList] at h ⊢
  rw [if_pos hn] at h
  rw [if_pos hw]
  exact h
theorem own_at {w : World} {base : Nat} {ao : Option Addr} {n cap : Nat} {bs : List UInt8} (h : OwnB w base (.slice ao n cap) bs) (k : Nat) (hk : k < bs.length) :
    ∃ g, ao = some ⟨g, 0, none⟩ ∧ base ≤ g ∧ g < w.heap.size ∧ w.frozen? ⟨g, k, none⟩ = false ∧ ∃ x : Int, w.cell? ⟨g, k, none⟩ = some (.int .u8 x) := by
  rcases h.forms with ⟨_, h0⟩ | ⟨g, cap', hv, hb, hlt, _, _, hf, hc⟩
  · rw [h0] at hk; simp at hk
  · injection hv with h1
    exact ⟨g, h1, hb, hlt, hf k, _, hc k hk⟩
theorem open_own (w : World) (v : Value) (bs : List UInt8) (hv : Src w v (sealP bs)) :
    Calls Try.prog 13 #[v] w fun e w' => ∃ v', e = .returned (.tuple #[v', .int .i64 0]) ∧ OwnB w' w.heap.size v' bs ∧ Below w.heap.size w w' := by
  have hl := sealP_length bs
  refine (open_any w v _ hv (by omega)).mono ?_
  intro e w' h
  unfold OpenPost at h
  rw [okP_seal bs] at h
  obtain ⟨⟨v', he, ho⟩, hb⟩ := h
  refine ⟨v', he, ?_, hb⟩
  rw [hl, Nat.add_sub_cancel] at ho
  have e2 : (sealP bs).take bs.length = bs := by simp [sealP]
  rw [e2] at ho
  exact ho
def six : List UInt8 := [1, 2, 3, 4, 5, 6]
theorem src_six (w : World) : Src (w.alloc (.cells #[.int .u8 1, .int .u8 2, .int .u8 3, .int .u8 4, .int .u8 5, .int .u8 6] 5)) (.slice (some ⟨w.heap.size, 0, none⟩) 6 6) six := src_lit (hp_new _ _) rfl (by decide) _ rfl
theorem src_a2 (w : World) : Src (w.alloc (.cells #[.int .u8 171, .int .u8 172] 5)) (.slice (some ⟨w.heap.size, 0, none⟩) 2 2) [171, 172] := src_lit (hp_new _ _) rfl (by decide) _ rfl
theorem src_a4 (w : World) : Src (w.alloc (.cells #[.int .u8 174, .int .u8 175, .int .u8 176, .int .u8 177] 5)) (.slice (some ⟨w.heap.size, 0, none⟩) 4 4) [174, 175, 176, 177] := src_lit (hp_new _ _) rfl (by decide) _ rfl

/-- while the first of two sealed texts is written over -/
structure Ov (w3 : World) (B : Nat) (va vb : Value) (n : Nat) (bs : List UInt8) (wr : World) : Prop where
  a : ∃ S : List UInt8, S.length = n ∧ OwnB wr w3.heap.size va S
  b : OwnB wr B vb bs
  bel : Below w3.heap.size w3 wr

/-- so many bytes of one's own -/
def SomeC (B : Nat) (v : Value) (n : Nat) (wr : World) : Prop := ∃ S : List UInt8, S.length = n ∧ OwnB wr B v S

set_option maxRecDepth 100000 in
set_option maxHeartbeats 4000000 in
theorem lawOwn_any (w : World) (v : Value) (bs : List UInt8) (hv : Src w v bs) (hl : bs.length ≤ 140737488355000) :
    Calls Try.prog 5 #[v] w fun e w' => e = .returned (.bool true) ∧ Below w.heap.size w w' := by
  obtain ⟨av, cv, rfl⟩ := src_shape hv
  have HV := hid hv
  clear hv
  have HLS := hid (sealP_length bs)
  go_enter Try.func5, Try.ntmps5
  go_wp2_with (at_make; refine make_own rfl _ _ rfl _ (bs.length + 16) rfl rfl ?m1 ?m2 ?_)
  case m1 => push_cast; rfl
  case m2 => omega
  intro v1 w1 ho1 hb1
  have HO1 := hid ho1
  have HB1 := hid hb1
  clear ho1 hb1
  have HSZ1 := hid HB1.out.size
  go_wp2_with (at_builtin; refine app_src rfl _ _ rfl w.heap.size _ [] rfl HO1.out _ bs rfl (HV.out.below HB1.out) ?n1 HSZ1.out ?_)
  case n1 => simp; omega
  intro v2 w2 ho2 hg2
  have HO2 := hid (show OwnB w2 w.heap.size v2 bs from ho2)
  have HB2 := hid (HB1.out.grown hg2 HB1.out.size (fun q hq => (HO1.out.lt q hq).1))
  clear ho2 hg2 HO1 HB1 HSZ1
  have HSZ2 := hid (show w.heap.size ≤ w2.heap.size + 1 from Nat.le_succ_of_le HB2.out.size)
  have HS6 := hid (src_six w2)
  have HL6 := hid (show six.length = 6 from rfl)
  go_wp2_with (at_builtin; refine app_src rfl _ _ rfl w.heap.size _ bs rfl (HO2.out.below (below_walk w2 _)) _ six rfl HS6.out ?o1 ?o2 ?_)
  case o1 => rw [HL6.out]; omega
  case o2 => rw [hp_size]; exact HSZ2.out
  intro v3 w3 ho3 hg3
  have HO3 := hid ho3
  have HB3 := hid ((HB2.out.alloc HB2.out.size (.cells #[.int .u8 1, .int .u8 2, .int .u8 3, .int .u8 4, .int .u8 5, .int .u8 6] 5)).grown hg3 (by rw [hp_size]; exact HSZ2.out) (fun q hq => (HO2.out.lt q hq).1))
  clear ho3 hg3 HO2 HB2 HSZ2 HS6
  have HRL := hid (show (bs ++ six).length = bs.length + 6 by rw [List.length_append, HL6.out])
  have HRS := hid (HO3.out.src (by rw [HRL.out]; omega))
  obtain ⟨vm, hsm, hcm⟩ := cut_begin HRS.out bs.length (by rw [HRL.out]; omega)
  rw [List.take_left' rfl] at hsm
  obtain ⟨ar, cr, rfl⟩ := HO3.out.shape
  obtain ⟨am, cm, rfl⟩ := src_shape hsm
  rw [HRL.out] at hcm HO3 ⊢
  have HM := hid hsm
  clear hsm HRS
  go_wp2_with fail
  refine (seal_any w3 _ bs HM.out hl).mono ?_
  rintro e w4 ⟨va, rfl, ho4, hb4⟩
  have HA4 := hid ho4
  have HB4 := hid hb4
  have HM4 := hid (HM.out.below hb4)
  clear ho4 hb4
  go_wp2_with fail
  refine (seal_any w4 _ bs HM4.out hl).mono ?_
  rintro e w5 ⟨vb, rfl, ho5, hb5⟩
  have HA5 := hid (HA4.out.below hb5)
  have HBB5 := hid ho5
  have HB5 := hid (HB4.out.trans (hb5.mono HB4.out.size))
  have HALT := hid (HA4.out.lt)
  have HB45 := hid HB4.out.size
  clear ho5 hb5 HM4 HM HA4 HB4
  have HBW := hid (fun (x : World) (h : Below w3.heap.size w3 x) => HB3.out.trans (h.mono HB3.out.size))
  have HVX := hid (fun (x : World) (h : Below w3.heap.size w3 x) => HV.out.below (HBW.out x h))
  go_wp2_with fail
  refine (rseal_any w5 _ bs (HVX.out _ HB5.out) hl).mono ?_
  rintro e w6 ⟨v6, rfl, ho6, hb6⟩
  have HB6 := hid (HB5.out.trans (hb6.mono HB5.out.size))
  have HA6 := hid (HA5.out.below hb6)
  have HBB6 := hid (HBB5.out.below hb6)
  have HR6 := hid ho6
  clear ho6 hb6 HB5 HA5 HBB5
  go_wp2_with fail
  refine (bequal_true w6 _ _ (sealP bs) (HA6.out.src (by rw [HLS.out]; omega)) (HR6.out.src (by rw [HLS.out]; omega))).mono ?_
  rintro e w7 ⟨rfl, rfl⟩
  go_wp2_with fail
  refine (rseal_any w7 _ bs (HVX.out _ HB6.out) hl).mono ?_
  rintro e w8 ⟨v8, rfl, ho8, hb8⟩
  have HB8 := hid (HB6.out.trans (hb8.mono HB6.out.size))
  have HA8 := hid (HA6.out.below hb8)
  have HBB8 := hid (HBB6.out.below hb8)
  have HR8 := hid ho8
  clear ho8 hb8 HB6 HA6 HBB6 HR6
  go_wp2_with fail
  refine (bequal_true w8 _ _ (sealP bs) (HBB8.out.src (by rw [HLS.out]; omega)) (HR8.out.src (by rw [HLS.out]; omega))).mono ?_
  rintro e w9 ⟨rfl, rfl⟩
  clear HR8
  obtain ⟨aa, ca, rfl⟩ := HA8.out.shape
  rw [HLS.out] at HA8 HALT ⊢
  have HOV := hid (Ov.mk ⟨_, HLS.out, HA8.out⟩ HBB8.out HB8.out : Ov w3 w4.heap.size (.slice aa (bs.length + 4) ca) vb (bs.length + 4) (sealP bs) w9)
  clear HA8 HBB8 HB8
  go_wp2
  go_loopw [41] (fun vi wr => ∃ k : Nat, k ≤ bs.length + 4 ∧ vi = .int .i64 k ∧ Ov w3 w4.heap.size (.slice aa (bs.length + 4) ca) vb (bs.length + 4) (sealP bs) wr) (fun vi _ => bs.length + 4 - (intOf vi).toNat)
  case atStart => exact ⟨0, by omega, rfl, HOV.out⟩
  case round =>
    obtain ⟨k, hk, rfl, hov⟩ := hrel
    clear HOV
    have HOV := hid hov
    clear hov
    obtain ⟨S, hSl, hSo⟩ := HOV.out.a
    have HSL := hid hSl
    have HSO := hid hSo
    clear hSl hSo
    by_cases hlt : k < bs.length + 4
    · obtain ⟨g, rfl, hg0, hg1, f1, x, c1⟩ := own_at HSO.out k (by rw [HSL.out]; exact hlt)
      have hg4 := (HALT.out g rfl).2
      have hkn : (k : Int) < (bs.length : Int) + 4 := by omega
      have HN := hid (Ov.mk ⟨_, by rw [List.length_set]; exact HSL.out, HSO.out.setAt k 170⟩
        (HOV.out.b.kept (gb_set wr ⟨g, k, none⟩ (.int .u8 ((170 : UInt8).toNat : Nat))) (Or.inr (fun e => by have := (HOV.out.b.lt g e).1; omega)))
        (HOV.out.bel.grown (gb_set wr ⟨g, k, none⟩ (.int .u8 ((170 : UInt8).toNat : Nat))) HOV.out.bel.size (by intro q hq; cases hq; exact hg0)) : Ov w3 w4.heap.size (.slice (some ⟨g, 0, none⟩) (bs.length + 4) ca) vb (bs.length + 4) (sealP bs) (wr.setCell ⟨g, k, none⟩ (.int .u8 ((170 : UInt8).toNat : Nat))))
      go_wp2
      exact ⟨⟨k + 1, by omega, by simp, HN.out⟩, by simp [intOf]; omega⟩
    · have hge : ¬ (k : Int) < (bs.length : Int) + 4 := by omega
      clear hlt
      have HS2 := hid (src_a2 wr)
      have HSZ := hid HOV.out.bel.size
      go_wp2_with (at_builtin; refine app_src rfl _ _ rfl w3.heap.size _ S rfl (HSO.out.below (below_walk wr _)) _ [171, 172] rfl HS2.out ?p1 ?p2 ?_)
      case p1 => rw [HSL.out]; omega
      case p2 => exact Nat.le_succ_of_le HSZ.out
      intro v11 w11 ho11 hg11
      have HB11 := hid ((HOV.out.bel.alloc HSZ.out (.cells #[.int .u8 171, .int .u8 172] 5)).grown hg11 (by rw [hp_size]; exact Nat.le_succ_of_le HSZ.out) (fun q hq => (HALT.out q hq).1))
      have HBB11 := hid ((HOV.out.b.below (below_walk wr (.cells #[.int .u8 171, .int .u8 172] 5))).kept hg11 (by
        cases e : vb.ownBlock with
        | none => exact Or.inl rfl
        | some q =>
          refine Or.inr (fun e2 => ?_)
          have h1 := (HOV.out.b.lt q e).1
          have h2 := (HALT.out q e2.symm).2
          omega))
      clear ho11 hg11 HOV HSO HSL HS2 HSZ
      go_wp2_with fail
      refine (open_own w11 _ bs (HBB11.out.src (by rw [HLS.out]; omega))).mono ?_
      rintro e w12 ⟨vc, rfl, ho12, hb12⟩
      have HC12 := hid ho12
      have HBL12 := hid hb12
      have HB12 := hid (HB11.out.trans (hb12.mono HB11.out.size))
      have HBX := hid (fun (x : World) (h : Below w11.heap.size w11 x) => HB11.out.trans (h.mono HB11.out.size))
      clear ho12 hb12
      go_wp2_with fail
      refine (bequal_true w12 _ _ bs (HC12.out.src (by omega)) (HVX.out _ HB12.out)).mono ?_
      rintro e w13 ⟨rfl, rfl⟩
      obtain ⟨ac, cc, rfl⟩ := HC12.out.shape
      have HOC := hid (⟨bs, rfl, HC12.out⟩ : ∃ S : List UInt8, S.length = bs.length ∧ OwnB w13 w11.heap.size (.slice ac bs.length cc) S)
      clear HC12 HB12
      go_wp2
      go_loopw [66] (fun vi wr => ∃ k : Nat, k ≤ bs.length ∧ vi = .int .i64 k ∧ SomeC w11.heap.size (.slice ac bs.length cc) bs.length wr ∧ Below w11.heap.size w11 wr) (fun vi _ => bs.length - (intOf vi).toNat)
      case atStart => exact ⟨0, by omega, rfl, HOC.out, HBL12.out⟩
      case round =>
        obtain ⟨k2, hk2, rfl, ⟨S, hSl, hSo⟩, hbl⟩ := hrel
        have HSL := hid hSl
        have HSO := hid hSo
        have HBL := hid hbl
        clear hSl hSo hbl HOC HBL12
        by_cases hlt : k2 < bs.length
        · obtain ⟨g, rfl, hg0, hg1, f1, x, c1⟩ := own_at HSO.out k2 (by rw [HSL.out]; exact hlt)
          have HN := hid (⟨_, by rw [List.length_set]; exact HSL.out, HSO.out.setAt k2 173⟩ : SomeC w11.heap.size (.slice (some ⟨g, 0, none⟩) bs.length cc) bs.length (wr.setCell ⟨g, k2, none⟩ (.int .u8 ((173 : UInt8).toNat : Nat))))
          have HN2 := hid (HBL.out.grown (gb_set wr ⟨g, k2, none⟩ (.int .u8 ((173 : UInt8).toNat : Nat))) HBL.out.size (by intro q hq; cases hq; exact hg0))
          go_wp2
          exact ⟨⟨k2 + 1, by omega, by simp, HN.out, HN2.out⟩, by simp [intOf]; omega⟩
        · have hge2 : ¬ (k2 : Int) < (bs.length : Int) := by omega
          clear hlt
          have HS4 := hid (src_a4 wr)
          have HSZ := hid HBL.out.size
          go_wp2_with (at_builtin; refine app_src rfl _ _ rfl w11.heap.size _ S rfl (HSO.out.below (below_walk wr _)) _ [174, 175, 176, 177] rfl HS4.out ?q1 ?q2 ?_)
          case q1 => rw [HSL.out]; omega
          case q2 => exact Nat.le_succ_of_le HSZ.out
          intro v14 w14 ho14 hg14
          have HBL14 := hid ((HBL.out.alloc HSZ.out (.cells #[.int .u8 174, .int .u8 175, .int .u8 176, .int .u8 177] 5)).grown hg14 (by rw [hp_size]; exact Nat.le_succ_of_le HSZ.out) (fun q hq => (HSO.out.lt q hq).1))
          clear ho14 hg14 HSO HSL HS4 HSZ HBL
          have HB14 := hid (HBX.out _ HBL14.out)
          have HBB14 := hid (HBB11.out.below HBL14.out)
          go_wp2_with fail
          refine (rseal_any w14 _ bs (HVX.out _ HB14.out) hl).mono ?_
          rintro e w15 ⟨v15, rfl, ho15, hb15⟩
          have HB15 := hid (HB14.out.trans (hb15.mono HB14.out.size))
          have HBB15 := hid (HBB14.out.below hb15)
          have HR15 := hid ho15
          clear ho15 hb15 HBB14 HB14
          go_wp2_with fail
          refine (bequal_true w15 _ _ (sealP bs) (HBB15.out.src (by rw [HLS.out]; omega)) (HR15.out.src (by rw [HLS.out]; omega))).mono ?_
          rintro e w16 ⟨rfl, rfl⟩
          clear HBB15 HR15
          go_wp2_with (at_builtin; refine unguard (by rfl) ?_; refine app_src rfl _ _ rfl w16.heap.size _ [] rfl (OwnB.nil _ _) _ bs rfl (HVX.out _ HB15.out) (by simp; omega) (Nat.le_refl _) ?_)
          intro v17 w17 ho17 hg17
          have HO17 := hid (show OwnB w17 w16.heap.size v17 bs from ho17)
          have HG17 := hid (gb_below hg17)
          clear ho17 hg17
          have HS6 := hid (src_six w17)
          have HSZ := hid HG17.out.size
          go_wp2_with (at_builtin; refine unguard (by rfl) ?_; refine app_src rfl _ _ rfl w16.heap.size _ bs rfl (HO17.out.below (below_walk w17 _)) _ six rfl HS6.out ?r1 ?r2 ?_)
          case r1 => rw [HL6.out]; omega
          case r2 => rw [hp_size]; exact Nat.le_succ_of_le HSZ.out
          intro v18 w18 ho18 hg18
          have HO18 := hid ho18
          have HB18 := hid (HB15.out.trans (((HG17.out.alloc HSZ.out (.cells #[.int .u8 1, .int .u8 2, .int .u8 3, .int .u8 4, .int .u8 5, .int .u8 6] 5)).grown hg18 (by rw [hp_size]; exact Nat.le_succ_of_le HSZ.out) (fun q hq => (HO17.out.lt q hq).1)).mono HB15.out.size))
          have HR18 := hid (HO3.out.below HB18.out)
          clear ho18 hg18
          go_wp2_with fail
          refine (bequal_true w18 _ _ (bs ++ six) (HR18.out.src (by rw [HRL.out]; omega)) (HO18.out.src (by rw [HRL.out]; omega))).mono ?_
          rintro e w19 ⟨rfl, rfl⟩
          go_wp2
          go_ret
          exact ⟨rfl, HBW.out _ HB18.out⟩

end Go.Proofs.Ytljppkpieoejlab
