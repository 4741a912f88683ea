/- The document's Preimage of a tag. -/
import Derived.Test.YticmdmnjajjpbacDoorSPreB
namespace Go.Proofs.YticmdmnjajjpbacDoor
open Go.RowKit

set_option maxRecDepth 100000 in
set_option maxHeartbeats 1000000 in
theorem rpre_ok (X : Nat → Prop) (w : World) (s : ByteArray) (l : List UInt8) (v : Value) (pss : List (List UInt8)) (hs : s.data.toList = l) (ht : tagP l = true) (hv : Lists X w v pss) (hn : pss.length ≤ 1048576) (hN : (fl pss).length ≤ 1048576) :
    Calls Tryd.prog 24 #[.string s, v] w fun e w' => ∃ v', e = .returned (.tuple #[v', .int .i64 0]) ∧ OwnB w' w.heap.size v' (preP l pss) ∧ Below w.heap.size w w' := by
  obtain ⟨ao, cv, rfl⟩ := lists_shape hv
  have hsz : s.size = l.length := by rw [← hs]; simp
  have h32 : s.size ≤ 32 := by rw [hsz]; exact tag_len ht
  have HSZ := hid hsz
  have HS := hid hs
  have HT := hid ht
  have HV := hid hv
  have HQ := hid (preQ_len pss)
  obtain ⟨T, HTT⟩ : ∃ T, Hid (T = (fl (preQ pss)).length) := ⟨_, rfl⟩
  rw [← HTT.out] at HQ
  have hT : T ≤ 9437184 := by have := HQ.out; omega
  obtain ⟨hd, HHD⟩ : ∃ hd, Hid (hd = s.size.toUInt8 :: l) := ⟨_, rfl⟩
  have HHL := hid (show hd.length ≤ 33 by rw [HHD.out]; simp; omega)
  have HPP := hid (show preP l pss = hd ++ fl (preQ pss) by rw [HHD.out, HSZ.out]; rfl)
  rw [HPP.out]
  clear hs ht hv hsz
  go_enter Tryd.func24, Tryd.ntmps24
  go_wp2_with fail
  refine (rtag_any w s l HS.out (by omega)).mono ?_
  rintro e w0 ⟨rfl, h0⟩
  subst w0
  rw [HT.out]
  have HBA := hid (below_walk w (.cells #[.int .u8 (s.size : Int)] 5))
  have HO2 := hid (show OwnB (w.alloc (.cells #[.int .u8 (s.size : Int)] 5)) w.heap.size (.slice (some ⟨w.heap.size, 0, none⟩) 1 1) [s.size.toUInt8] from
    ⟨rfl, Or.inr ⟨w.heap.size, 1, #[.int .u8 (s.size : Int)], rfl, Nat.le_refl _, hp_new _ _, Nat.le_refl _, by unfold maxLen; omega, rfl, by
      have : (s.size.toUInt8).toNat = s.size := by simp only [Nat.toUInt8_eq, UInt8.toNat_ofNat']; omega
      simp [bytesV, this]⟩⟩)
  have hw8 : IntKind.u8.wrap (s.size : Int) = (s.size : Int) := by rw [IntKind.wrap_u8']; omega
  have HB2 := HBA
  go_wp2_with (at_builtin; refine app_str rfl _ _ rfl w.heap.size _ [s.size.toUInt8] rfl HO2.out s rfl ?d1 HB2.out.size ?_)
  case d1 => simp; omega
  intro v3 w3 ho3 hg3
  have HO3 := hid (show OwnB w3 w.heap.size v3 hd by rw [HHD.out, ← HS.out]; exact ho3)
  have HB3 := hid (HB2.out.grown hg3 HB2.out.size (fun q hq => (HO2.out.lt q hq).1))
  clear ho3 hg3 HO2 HB2
  go_wp2
  go_loopw [6, 7] (fun out i wr => ∃ k : Nat, k ≤ pss.length ∧ i = .int .i64 k ∧ OwnB wr w.heap.size out (hd ++ fl ((preQ pss).take k)) ∧ Below w.heap.size w wr) (fun _ i _ => pss.length - (intOf i).toNat)
  case atStart => exact ⟨0, by omega, rfl, by simpa [fl] using HO3.out, HB3.out⟩
  case round =>
    obtain ⟨k, hk, rfl, ho, hb⟩ := hrel
    clear HO3 HB3
    have HO := hid ho
    have HB := hid hb
    clear ho hb
    by_cases hkl : k < pss.length
    · obtain ⟨g, o, rfl, hlt, ab, cu, hc0, hs0⟩ := lists_at HV.out k hkl
      have hcell : wr.cell? ⟨g, o + k, none⟩ = some (.slice ab (pss.getD k []).length cu) := by rw [HB.out.cell (p := ⟨g, o + k, none⟩) hlt]; exact hc0
      have HSN := hid (preQ_snoc pss k hkl)
      have HSL := hid (fl_le (preQ pss) (k + 1))
      have HS0 := hid hs0
      have HLTG := hid hlt
      have HC0 := hid hc0
      clear hs0 hc0 hlt
      obtain ⟨cs, HCS⟩ : ∃ cs, Hid (cs = pss.getD k []) := ⟨_, rfl⟩
      rw [← HCS.out] at HSN HS0 hcell HC0
      obtain ⟨L, HL⟩ : ∃ L, Hid (L = cs.length) := ⟨_, rfl⟩
      rw [← HL.out] at hcell HS0 HSN HC0
      obtain ⟨bs, HBS⟩ : ∃ bs, Hid (bs = hd ++ fl ((preQ pss).take k)) := ⟨_, rfl⟩
      rw [← HBS.out] at HO
      have HNX := hid (show hd ++ fl ((preQ pss).take (k + 1)) = bs ++ be8 L ++ cs by rw [HSN.out, HBS.out]; simp)
      have hbl : bs.length + 8 + L ≤ 9437184 + 33 := by
        have h1 := congrArg List.length HNX.out
        have h2 := HSL.out
        have h3 := HTT.out
        have h4 := HHL.out
        have h5 := HL.out
        simp only [List.length_append, be8_length] at h1
        omega
      go_wp2_with fail
      refine (eight_any wr L).mono ?_
      rintro e w4 ⟨v4, rfl, ho4, hb4⟩
      have HE4 := hid ho4
      have HBE := hid hb4
      have HB4 := hid (HB.out.trans (hb4.mono HB.out.size))
      have HO4 := hid (HO.out.below hb4)
      clear ho4 hb4
      go_wp2_with (at_builtin; refine app_src rfl _ _ rfl w.heap.size _ bs rfl HO4.out _ (be8 L) rfl (HE4.out.src (by rw [be8_length]; omega)) ?e0 HB4.out.size ?_)
      case e0 => rw [be8_length]; omega
      intro v6 w6 ho6 hg6
      have HB6 := hid (HB4.out.grown hg6 HB4.out.size (fun q hq => (HO4.out.lt q hq).1))
      have HO6 := hid ho6
      clear ho6 hg6
      have hcell6 : w6.cell? ⟨g, o + k, none⟩ = some (.slice ab L cu) := by rw [HB6.out.cell (p := ⟨g, o + k, none⟩) HLTG.out]; exact HC0.out
      have HS6 := hid (HS0.out.below HB6.out)
      go_wp2_with (at_builtin; refine app_src rfl _ _ rfl w.heap.size _ (bs ++ be8 L) rfl HO6.out _ cs rfl HS6.out ?e1 HB6.out.size ?_)
      case e1 => rw [List.length_append, be8_length, ← HL.out]; omega
      intro v5 w5 ho5 hg5
      have HO5 := hid (show OwnB w5 w.heap.size v5 (hd ++ fl ((preQ pss).take (k + 1))) by rw [HNX.out, List.append_assoc]; exact ho5)
      have HB5 := hid (HB6.out.grown hg5 HB6.out.size (fun q hq => (HO6.out.lt q hq).1))
      clear ho5 hg5
      go_wp2
      exact ⟨⟨k + 1, by omega, by simp, HO5.out, HB5.out⟩, by simp [intOf]; omega⟩
    · obtain rfl : k = pss.length := by omega
      have HOF := hid (show OwnB wr w.heap.size _ (hd ++ fl (preQ pss)) by have := HO.out; rwa [← preQ_length pss, fl_all] at this)
      go_wp2
      exact bodyPost_ret (results_tmp2 rfl _ _ _) rfl ⟨_, rfl, HOF.out, HB.out⟩

end Go.Proofs.YticmdmnjajjpbacDoor
