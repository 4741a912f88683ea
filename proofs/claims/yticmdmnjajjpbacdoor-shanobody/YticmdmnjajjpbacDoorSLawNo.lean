/- ShaNobody answers true. -/
import Derived.Test.YticmdmnjajjpbacDoorSAwake
import Derived.Test.YticmdmnjajjpbacDoorSSame
import Derived.Test.YticmdmnjajjpbacDoorSNil
import Derived.Test.YticmdmnjajjpbacDoorSLawOf
namespace Go.Proofs.YticmdmnjajjpbacDoor
open Go.RowKit

/-- what is there lies in blocks that are there -/
theorem Lists.lt {X : Nat → Prop} {w : World} {v : Value} {pss : List (List UInt8)} (h : Lists X w v pss) : Lists (· < w.heap.size) w v pss := by
  rcases h with h | ⟨g, o, c, hv, hlt, hX, hc⟩
  · exact Or.inl h
  · refine Or.inr ⟨g, o, c, hv, hlt, hlt, fun j hj => ?_⟩
    obtain ⟨u, h1, h2, h3⟩ := hc j hj
    refine ⟨u, h1, h2, fun k hp hk => ?_⟩
    obtain ⟨_, ⟨rfl, _⟩ | ⟨ad, cap, rfl, _, _, hlt2, _⟩⟩ := h2
    · cases hk
    · simp only [Value.ownBlock, Option.some.injEq] at hk
      rw [← hk]
      exact hlt2 hp
theorem of_ne (H : List Int) (h : H.length = 32) (W : World) : (binOp .neq 23 (.agg (u8V H).toArray) (.agg (u8V H).toArray)).run Tryd.prog W = .ok (.bool false) W :=
  neq_row W 23 5 32 .u8 Tryd.underlying23 Tryd.underlying5 (by kernel_rfl) _ h
theorem plain_built : Tryd.prog.built 47 [] = some (hcells (zeros 8) (zeros 64) 0 false).toArray := by kernel_rfl
theorem plain_hg {w : World} (hT : Tabs w) : Hg (w.alloc (.cells (hcells (zeros 8) (zeros 64) 0 false).toArray 47)) w.heap.size Hs [] 0 :=
  ⟨⟨zeros 8, zeros 64, false, ⟨hp_new _ _, rfl, rfl⟩, rfl, rfl, rfl⟩, rfl, (tabs_ne hT (Nat.le_refl _)).1, (tabs_ne hT (Nat.le_refl _)).2⟩
theorem src_nil (w : World) : Src w (.slice none 0 0) [] := ⟨by simp, Or.inl ⟨rfl, rfl⟩⟩
theorem of_nil : sumP Hs [] 0 = ofP [] := rfl

set_option maxRecDepth 100000 in
set_option maxHeartbeats 4000000 in
theorem nobody_any (X : Nat → Prop) (w : World) (ao : Option Addr) (n c : Nat) (pss : List (List UInt8)) (hT : Tabs w) (hR : TabR w) (hv : Lists X w (.slice ao n c) pss) (hn : pss.length ≤ 1048576) (hN : (fl pss).length ≤ 1048576) :
    Calls Tryd.prog 5 #[.slice ao n c] w fun e w' => e = .returned (.bool true) ∧ Below w.heap.size w w' := by
  have HT := hid hT
  have HR := hid hR
  have HV := hid hv.lt
  have HNN := hid hN
  have HN1 := hid hn
  obtain ⟨Z, HZ⟩ : ∃ Z, Hid (Z = u8V (zeros 32)) := ⟨_, rfl⟩
  have nqz := of_ne (zeros 32) (zeros_length _)
  have HBZ := hid (show Tryd.prog.built 23 [] = some (u8V (zeros 32)).toArray by kernel_rfl)
  rw [← HZ.out] at nqz HBZ
  obtain ⟨S, HS⟩ : ∃ S, Hid (S = z10) := ⟨_, rfl⟩
  have HBS := hid (show Tryd.prog.built 43 [] = some z10.toArray by kernel_rfl)
  rw [← HS.out] at HBS
  have HSM := hid (fun (W : World) => same_state W (zeros 8) 0 (.slice none 0 0) (.slice none 0 0) [] (zeros_length _) (src_nil W) (src_nil W))
  rw [show scells (zeros 8) (.slice none 0 0) 0 = S from HS.out.symm] at HSM
  have HNS := hid (fun (W : World) => nsum W)
  rw [← HZ.out] at HNS
  have HNT := hid (fun (W : World) => nstate W)
  rw [← HS.out] at HNT
  clear hT hR hv hn hN
  go_enter Tryd.func5, Tryd.ntmps5
  go_wp2_with (first
    | (go_at_call 15; refine (nreset _).mono ?_; rintro e w' ⟨rfl, hw⟩; subst w')
    | (go_at_call 11; refine (nwrite _ _).mono ?_; rintro e w' ⟨rfl, hw⟩; subst w'))
  refine (HNS.out w).mono ?_
  rintro e w1 ⟨rfl, hb1⟩
  have HB1 := hid hb1
  clear hb1
  go_wp2_with (first
    | (go_at_call 16; refine (nlen _).mono ?_; rintro e w' ⟨rfl, hw⟩; subst w')
    | (go_at_call 12; refine (nclone _).mono ?_; rintro e w' ⟨rfl, hw⟩; subst w')
    | (refine unguard (by rfl) ?_; refine bd_row (by rfl) 23 #[] (by rfl) [] (by simp) _ HBZ.out ?_))
  refine (HNT.out w1).mono ?_
  rintro e w2 ⟨rfl, hb2⟩
  have HB2 := hid (HB1.out.trans (hb2.mono HB1.out.size))
  clear hb2
  go_wp2_with (first
    | (refine unguard (by rfl) ?_; refine bd_row (by rfl) 43 #[] (by rfl) [] (by simp) _ HBS.out ?_))
  refine (HSM.out w2).mono ?_
  rintro e w3 ⟨rfl, hb3⟩
  have HB3 := hid (HB2.out.trans (hb3.mono HB2.out.size))
  clear hb3 HB1 HB2 HSM HNS HNT
  go_upto_region 5 with fail
  refine wp_region_list ?_
  show wpList _ _ _ (_ :: _) _ _
  refine bd_row (by rfl) 47 #[] (by rfl) [] (by simp) _ plain_built ?_
  refine bx_row (by rfl) 47 (.tmp 35) (by rfl) _ (by rfl) ?_
  have HG4 := hid (plain_hg (HT.out.below HB3.out))
  have HB4 := hid (HB3.out.alloc HB3.out.size (.cells (hcells (zeros 8) (zeros 64) 0 false).toArray 47))
  have HLE := hid HB3.out.size
  generalize w3.alloc (.cells (hcells (zeros 8) (zeros 64) 0 false).toArray 47) = w4 at HG4 HB4 ⊢
  obtain ⟨bh, HBH⟩ : ∃ g, Hid (g = w3.heap.size) := ⟨_, rfl⟩
  rw [← HBH.out] at HG4 HLE ⊢
  clear HB3 HBH
  go_wp2_with fail
  refine (state_any w4 bh Hs [] 0 (HT.out.below HB4.out) HG4.out).mono ?_
  rintro e w5 ⟨vb, rfl, ho5, hb5⟩
  have HO5 := hid (ho5.src (by simp))
  have HG5 := hid (HG4.out.below hb5)
  have HB5 := hid (HB4.out.trans (hb5.mono HB4.out.size))
  clear ho5 hb5
  obtain ⟨av, cv, hvb⟩ := src_shape HO5.out
  subst hvb
  obtain ⟨S1, HS1⟩ : ∃ S1, Hid (S1 = scells Hs (.slice av ([] : List UInt8).length cv) 0) := ⟨_, rfl⟩
  rw [show (((0 : Nat)) : Int) = 0 from rfl, ← HS1.out]
  go_wp2_with fail
  refine (rnew_any w5).mono ?_
  rintro e w6 ⟨rfl, hb6⟩
  have HO6 := hid (HO5.out.below hb6)
  have HG6 := hid (HG5.out.below hb6)
  have HB6 := hid (HB5.out.trans (hb6.mono HB5.out.size))
  have HSM := hid (same_state w6 Hs 0 _ (.slice none 0 0) [] Hs_length HO6.out (src_nil _))
  clear hb6
  obtain ⟨S2, HS2⟩ : ∃ S2, Hid (S2 = scells Hs (.slice none 0 0) 0) := ⟨_, rfl⟩
  rw [← HS2.out, ← HS1.out] at HSM
  rw [← HS2.out]
  go_wp2_with fail
  refine HSM.out.mono ?_
  rintro e w7 ⟨rfl, hb7⟩
  have HG7 := hid (HG6.out.below hb7)
  have HB7 := hid (HB6.out.trans (hb7.mono HB6.out.size))
  clear hb7 HG4 HB4 HG5 HB5 HG6 HB6 HO5 HO6 HSM
  have nq0 := of_ne (ofP []) (ofP_length _)
  have eq0 := of_eq (ofP []) (ofP_length _)
  have eqp := of_eq (ofP (fl pss)) (ofP_length _)
  obtain ⟨D0, HD0⟩ : ∃ D, Hid (D = u8V (ofP [])) := ⟨_, rfl⟩
  obtain ⟨D1, HD1⟩ : ∃ D, Hid (D = u8V (ofP (fl pss))) := ⟨_, rfl⟩
  rw [← HD0.out] at nq0 eq0
  rw [← HD1.out] at eqp
  go_wp2_with fail
  refine (sum_any w7 bh Hs [] 0 (HT.out.below HB7.out) HG7.out (by omega)).mono ?_
  rintro e w8 ⟨rfl, hb8⟩
  have HG8 := hid (HG7.out.below hb8)
  have HB8 := hid (HB7.out.trans (hb8.mono HB7.out.size))
  clear hb8
  rw [of_nil, ← HD0.out]
  go_wp2_with fail
  refine (rof_any (fun _ => True) w8 _ [] (HR.out.below HB8.out) (Or.inl ⟨none, 0, rfl, rfl⟩) (by simp) (by simp [fl])).mono ?_
  rintro e w9 ⟨rfl, hb9⟩
  have HG9 := hid (HG8.out.below hb9)
  have HB9 := hid (HB8.out.trans (hb9.mono HB8.out.size))
  clear hb9 HG7 HB7 HG8 HB8
  rw [fl_nil, ← HD0.out]
  go_upto_region 8 with fail
  refine wp_region_list ?_
  show wpList _ _ _ (_ :: _) _ _
  refine bd_row (by rfl) 47 #[] (by rfl) [] (by simp) _ plain_built ?_
  refine bx_row (by rfl) 47 (.tmp 48) (by rfl) _ (by rfl) ?_
  have HGc := hid (plain_hg (HT.out.below HB9.out))
  have hbw := below_walk w9 (.cells (hcells (zeros 8) (zeros 64) 0 false).toArray 47)
  have HG10 := hid (HG9.out.below hbw)
  have HB10 := hid (HB9.out.trans (hbw.mono HB9.out.size))
  clear hbw HG9
  generalize w9.alloc (.cells (hcells (zeros 8) (zeros 64) 0 false).toArray 47) = w10 at HGc HG10 HB10 ⊢
  obtain ⟨bc, HBC⟩ : ∃ g, Hid (g = w9.heap.size) := ⟨_, rfl⟩
  rw [← HBC.out] at HGc ⊢
  clear HBC
  go_wp2_with fail
  refine (clone_any w10 bc Hs [] 0 (HT.out.below HB10.out) HGc.out).mono ?_
  rintro e w11 ⟨rfl, hgc, hb11⟩
  have HC11 := hid hgc
  have HG11 := hid (HG10.out.below hb11)
  have HB11 := hid (HB10.out.trans (hb11.mono HB10.out.size))
  have HNE := hid (show bh ≠ w10.heap.size by have := HG10.out.lt; omega)
  clear hgc hb11 HGc HG10 HB9
  obtain ⟨bd, HBD⟩ : ∃ g, Hid (g = w10.heap.size) := ⟨_, rfl⟩
  rw [← HBD.out] at HC11 HNE ⊢
  clear HBD
  go_wp2_with fail
  have hL11 := HV.out.below HB11.out
  refine (write_ok w11 bh Hs [] 0 _ pss (HT.out.below HB11.out) HG11.out (hL11.imp (fun k hk => by have := HLE.out; omega)) (by have := HN1.out; omega) (by have := HNN.out; omega)).mono ?_
  rintro e w12 ⟨rfl, hst, _, hg⟩
  rw [Nat.zero_add] at hst
  have HS12 := hid hst.hg
  have HC12 := hid (HC11.out.grown hg (by simpa using HNE.out))
  have HB12 := hid (HB11.out.grown hg HB11.out.size (by intro k hk; cases hk; exact HLE.out))
  clear hst hg hL11 HG11 HB11 HC11
  go_wp2_with fail
  refine (sum_any w12 bh _ _ _ (HT.out.below HB12.out) HS12.out (by have := HNN.out; omega)).mono ?_
  rintro e w13 ⟨rfl, hb13⟩
  have HC13 := hid (HC12.out.below hb13)
  have HB13 := hid (HB12.out.trans (hb13.mono HB12.out.size))
  clear hb13 HS12 HC12 HB12
  rw [show u8V (sumP (absorb (Hs, []) (fl pss)).1 (absorb (Hs, []) (fl pss)).2 (fl pss).length) = D1 from HD1.out.symm]
  go_wp2_with fail
  refine (rof_any _ w13 _ pss (HR.out.below HB13.out) (HV.out.below HB13.out) (by have := HN1.out; omega) (by have := HNN.out; omega)).mono ?_
  rintro e w14 ⟨rfl, hb14⟩
  have HC14 := hid (HC13.out.below hb14)
  have HB14 := hid (HB13.out.trans (hb14.mono HB13.out.size))
  clear hb14 HC13 HB13
  rw [← HD1.out]
  go_wp2_with fail
  refine (sum_any w14 bd Hs [] 0 (HT.out.below HB14.out) HC14.out (by omega)).mono ?_
  rintro e w15 ⟨rfl, hb15⟩
  have HB15 := hid (HB14.out.trans (hb15.mono HB14.out.size))
  clear hb15 HC14 HB14
  rw [of_nil, ← HD0.out]
  go_wp2_with fail
  refine (rof_any (fun _ => True) w15 _ [] (HR.out.below HB15.out) (Or.inl ⟨none, 0, rfl, rfl⟩) (by simp) (by simp [fl])).mono ?_
  rintro e w16 ⟨rfl, hb16⟩
  have HB16 := hid (HB15.out.trans (hb16.mono HB15.out.size))
  clear hb16 HB15
  rw [fl_nil, ← HD0.out]
  go_wp2_with fail
  refine (awake_any _ (HT.out.below HB16.out)).mono ?_
  rintro e w17 ⟨rfl, hb17⟩
  have HB17 := hid (HB16.out.trans (hb17.mono HB16.out.size))
  clear hb17
  go_wp2
  go_ret
  exact ⟨rfl, HB17.out⟩

end Go.Proofs.YticmdmnjajjpbacDoor
