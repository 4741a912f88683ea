/- Preimage of a tag. -/
import Derived.Test.YticmdmnjajjpbacDoorSPreA
namespace Go.Proofs.YticmdmnjajjpbacDoor
open Go.RowKit

theorem tag_len {l : List UInt8} (h : tagP l = true) : l.length ≤ 32 := by
  unfold tagP at h
  exact (of_decide_eq_true h).2.1
theorem lists_shape {X : Nat → Prop} {w : World} {v : Value} {pss : List (List UInt8)} (h : Lists X w v pss) : ∃ ao c, v = .slice ao pss.length c := by
  rcases h with ⟨ao, c, rfl, rfl⟩ | ⟨g, o, c, rfl, _⟩
  · exact ⟨_, _, rfl⟩
  · exact ⟨_, _, rfl⟩
theorem lists_at {X : Nat → Prop} {w : World} {ao : Option Addr} {c : Nat} {pss : List (List UInt8)} (h : Lists X w (.slice ao pss.length c) pss) (k : Nat) (hk : k < pss.length) : ∃ g o, ao = some ⟨g, o, none⟩ ∧ g < w.heap.size ∧ ∃ ab cu, w.cell? ⟨g, o + k, none⟩ = some (.slice ab (pss.getD k []).length cu) ∧ Src w (.slice ab (pss.getD k []).length cu) (pss.getD k []) := by
  rcases h with ⟨_, _, _, rfl⟩ | ⟨g, o, c', hv, hlt, _, hc⟩
  · simp at hk
  · injection hv with h1
    obtain ⟨u, h2, h3, _⟩ := hc k hk
    obtain ⟨ab, cu, rfl⟩ := src_shape h3
    exact ⟨g, o, h1, hlt, ab, cu, h2, h3⟩

set_option maxRecDepth 100000 in
set_option maxHeartbeats 1000000 in
theorem pre_ok (X : Nat → Prop) (w : World) (s : ByteArray) (l : List UInt8) (v : Value) (pss : List (List UInt8)) (hs : s.data.toList = l) (ht : tagP l = true) (hv : Lists X w v pss) (hn : pss.length ≤ 1048576) (hN : (fl pss).length ≤ 1048576) :
    Calls Tryd.prog 22 #[.string s, v] w fun e w' => ∃ v', e = .returned (.tuple #[v', .int .i64 0]) ∧ OwnB w' w.heap.size v' (preP l pss) ∧ Below w.heap.size w w' := by
  obtain ⟨ao, cv, rfl⟩ := lists_shape hv
  have hsz : s.size = l.length := by rw [← hs]; simp
  have h32 : s.size ≤ 32 := by rw [hsz]; exact tag_len ht
  have HSZ := hid hsz
  have HS := hid hs
  have HT := hid ht
  have HV := hid hv
  have HQ := hid (preQ_len pss)
  have HSO := hid (fun (W : World) (h : Lists X W (.slice ao pss.length cv) pss) => sizeOf_any X W s _ pss (by omega) h hn hN)
  obtain ⟨T, HTT⟩ : ∃ T, Hid (T = (fl (preQ pss)).length) := ⟨_, rfl⟩
  rw [← HTT.out] at HQ HSO
  have hT : T ≤ 9437184 := by have := HQ.out; omega
  obtain ⟨hd, HHD⟩ : ∃ hd, Hid (hd = s.size.toUInt8 :: l) := ⟨_, rfl⟩
  have HHL := hid (show hd.length ≤ 33 by rw [HHD.out]; simp; omega)
  have HPP := hid (show preP l pss = hd ++ fl (preQ pss) by rw [HHD.out, HSZ.out]; rfl)
  rw [HPP.out]
  clear hs ht hv hsz
  go_enter Tryd.func22, Tryd.ntmps22
  go_wp2_with fail
  refine (isTag_any w s l HS.out).mono ?_
  rintro e w0 ⟨rfl, h0⟩
  subst w0
  rw [HT.out]
  go_wp2_with fail
  refine (HSO.out _ HV.out).mono ?_
  rintro e w0 ⟨rfl, h0⟩
  subst w0
  go_wp2_with (at_make; refine make_own rfl _ _ rfl _ (1 + s.size + T) rfl rfl ?m1 ?m2 ?_)
  case m1 => push_cast; rfl
  case m2 => omega
  intro v1 w1 ho1 hb1
  have HO1 := hid ho1
  have HB1 := hid hb1
  clear ho1 hb1
  go_wp2_with (at_builtin; refine app_src rfl _ _ rfl w.heap.size _ [] rfl (own_alloc HO1.out _) _ [s.size.toUInt8] rfl (src_one _ _ _ ?c0) ?c1 ?c2 ?_)
  case c0 => simp only [Nat.toUInt8_eq, UInt8.toNat_ofNat']; omega
  case c1 => simp
  case c2 => rw [hp_size]; have := HB1.out.size; omega
  intro v2 w2 ho2 hg2
  have HO2 := hid (show OwnB w2 w.heap.size v2 [s.size.toUInt8] from ho2)
  have HB2 := hid ((HB1.out.alloc HB1.out.size _).grown hg2 (by rw [hp_size]; exact Nat.le_succ_of_le HB1.out.size) (fun q hq => (HO1.out.lt q hq).1))
  clear ho2 hg2 HO1 HB1
  go_wp2_with (at_builtin; refine app_str rfl _ _ rfl w.heap.size _ [s.size.toUInt8] rfl HO2.out s rfl ?d1 HB2.out.size ?_)
  case d1 => simp; omega
  intro v3 w3 ho3 hg3
  have HO3 := hid (show OwnB w3 w.heap.size v3 hd by rw [HHD.out, ← HS.out]; exact ho3)
  have HB3 := hid (HB2.out.grown hg3 HB2.out.size (fun q hq => (HO2.out.lt q hq).1))
  clear ho3 hg3 HO2 HB2
  go_wp2
  go_loopw [6, 27] (fun out i wr => ∃ k : Nat, k ≤ pss.length ∧ i = .int .i64 k ∧ OwnB wr w.heap.size out (hd ++ fl ((preQ pss).take k)) ∧ Below w.heap.size w wr) (fun _ i _ => pss.length - (intOf i).toNat)
  case atStart => exact ⟨0, by omega, rfl, by simpa [fl] using HO3.out, HB3.out⟩
  case round =>
    obtain ⟨k, hk, rfl, ho, hb⟩ := hrel
    clear HO3 HB3
    have HO := hid ho
    have HB := hid hb
    clear ho hb
    by_cases hkl : k < pss.length
    · obtain ⟨g, o, rfl, hlt, ab, cu, hc0, hs0⟩ := lists_at HV.out k hkl
      have hcell : wr.cell? ⟨g, o + k, none⟩ = some (.slice ab (pss.getD k []).length cu) := by rw [HB.out.cell (p := ⟨g, o + k, none⟩) hlt]; exact hc0
      have HSN := hid (preQ_snoc pss k hkl)
      have HSL := hid (fl_le (preQ pss) (k + 1))
      have HS0 := hid hs0
      clear hs0 hc0 hlt
      obtain ⟨cs, HCS⟩ : ∃ cs, Hid (cs = pss.getD k []) := ⟨_, rfl⟩
      rw [← HCS.out] at HSN HS0 hcell
      obtain ⟨L, HL⟩ : ∃ L, Hid (L = cs.length) := ⟨_, rfl⟩
      rw [← HL.out] at hcell HS0 HSN
      obtain ⟨bs, HBS⟩ : ∃ bs, Hid (bs = hd ++ fl ((preQ pss).take k)) := ⟨_, rfl⟩
      rw [← HBS.out] at HO
      have HNX := hid (show hd ++ fl ((preQ pss).take (k + 1)) = bs ++ be8 L ++ cs by rw [HSN.out, HBS.out]; simp)
      have hbl : bs.length + 8 + L ≤ 9437184 + 33 := by
        have h1 := congrArg List.length HNX.out
        have h2 := HSL.out
        have h3 := HTT.out
        have h4 := HHL.out
        have h5 := HL.out
        simp only [List.length_append, be8_length] at h1
        omega
      go_wp2_with fail
      refine (addNumber_any wr w.heap.size _ bs L HO.out HB.out.size (by omega)).mono ?_
      rintro e w4 ⟨v4, rfl, ho4, hb4⟩
      have HO4 := hid ho4
      have HB4 := hid (HB.out.trans hb4)
      clear ho4 hb4
      have HS4 := hid (HS0.out.below HB4.out)
      go_wp2_with (at_builtin; refine app_src rfl _ _ rfl w.heap.size _ (bs ++ be8 L) rfl HO4.out _ cs rfl HS4.out ?e1 HB4.out.size ?_)
      case e1 => rw [List.length_append, be8_length, ← HL.out]; omega
      intro v5 w5 ho5 hg5
      have HO5 := hid (show OwnB w5 w.heap.size v5 (hd ++ fl ((preQ pss).take (k + 1))) by rw [HNX.out, List.append_assoc]; exact ho5)
      have HB5 := hid (HB4.out.grown hg5 HB4.out.size (fun q hq => (HO4.out.lt q hq).1))
      clear ho5 hg5
      go_wp2
      exact ⟨⟨k + 1, by omega, by simp, HO5.out, HB5.out⟩, by simp [intOf]; omega⟩
    · obtain rfl : k = pss.length := by omega
      have HOF := hid (show OwnB wr w.heap.size _ (hd ++ fl (preQ pss)) by have := HO.out; rwa [← preQ_length pss, fl_all] at this)
      go_wp2
      exact bodyPost_ret (results_tmp2 rfl _ _ _) rfl ⟨_, rfl, HOF.out, HB.out⟩

end Go.Proofs.YticmdmnjajjpbacDoor
