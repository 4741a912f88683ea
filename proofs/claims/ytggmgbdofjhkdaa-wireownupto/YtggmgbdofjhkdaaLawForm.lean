/- The law WireForm, walked: it answers true, and only makes memory. -/
import Derived.Test.YtggmgbdofjhkdaaForm
namespace Go.Proofs.Ytggmgbdofjhkdaa
open Go.RowKit

theorem five_range (K : Int) : 0 ≤ five K ∧ five K ≤ 4 := by
  have h1 := Int.tmod_lt_of_pos K (by omega : (0 : Int) < 5)
  have h2 : -5 < K.tmod 5 := by
    have := Int.lt_tmod_of_pos K (by omega : (0 : Int) < 5)
    omega
  unfold five
  rw [wrap64_id (by omega) (by omega)]
  have h3 := Int.tmod_lt_of_pos (K.tmod 5 + 5) (by omega : (0 : Int) < 5)
  have h4 := Int.tmod_nonneg 5 (a := K.tmod 5 + 5) (by omega)
  omega

/-- how a slice that came in is cut at its beginning -/
theorem cut_begin {w : World} {v : Value} {bs : List UInt8} (h : Src w v bs) (k : Nat) (hk : k ≤ bs.length) (hpos : 0 < bs.length) :
    ∃ vx, Src w vx (bs.take k) ∧ (∀ W, (Instr.slice 23 v none (some (.int .i64 (k : Int))) none).run Try.prog W = .ok vx W) := by
  obtain ⟨hl, ⟨_, rfl⟩ | ⟨ad, cap, rfl, h1, h2, hlt, hc⟩⟩ := h
  · simp at hpos
  · have hlen : (bs.take k).length = k := by simp; omega
    refine ⟨.slice (some ad) k cap, ⟨by omega, Or.inr ⟨ad, cap, by rw [hlen], by omega, h2, fun _ => hlt hpos, fun j hj => ?_⟩⟩, fun W => ?_⟩
    · rw [hlen] at hj
      rw [hc j (by omega)]
      simp [List.getD_eq_getElem?_getD, hj]
    · have hk2 : (k : Int) ≤ (cap : Int) := by omega
      go_simp

/-- OwnS as texts wherever they lie -/
theorem OwnS.strs {w : World} {base : Nat} {v : Value} {ts : List (List UInt8)} (h : OwnS w base v ts) : Strs w v (ts.map mk) := by
  rcases h.2 with ⟨h0, h1⟩ | ⟨g, cap, cur, hv, hb, hh, h1, h2, _, _⟩
  · have : ts = [] := List.length_eq_zero_iff.1 h1
    subst this
    exact Or.inl ⟨Option.none, 0, h0, rfl⟩
  · refine Or.inr ⟨g, 0, cap, by rw [hv]; simp, (World.ownsRow.lt h g (by rw [hv]; rfl)).2, fun j hj => ?_⟩
    simp at hj
    have := World.ownsRow.cells h (g := g) (by rw [hv]; rfl) j (.string (mk (ts.getD j []))) (by simp [List.getElem?_eq_getElem hj, List.getD_eq_getElem?_getD, mk])
    rw [addr_add] at this
    rw [Nat.zero_add, this]
    simp [List.getD_eq_getElem?_getD, List.getElem?_eq_getElem hj]

theorem strs_one (w : World) (s : List UInt8) : Strs (w.alloc (.cells #[.string ⟨s.toArray⟩] 9)) (.slice (some ⟨w.heap.size, 0, none⟩) 1 1) [mk s] := by
  refine Or.inr ⟨w.heap.size, 0, 1, rfl, by simp, fun j hj => ?_⟩
  obtain rfl : j = 0 := by simpa using hj
  simp [mk]

/-- where the law stands when one thing has been read, and laid down again -/
structure FormAt (w W : World) (base b : Nat) (v v0 : Value) (bs : List UInt8) (a : Nat) (why wat : Int) (vb : Value) (back : List UInt8) : Prop where
  rd : Rd W base b v bs a why wat
  src : Src W v0 bs
  bel : Below w.heap.size w W
  own : OwnB W w.heap.size vb back

theorem FormAt.below {w W W' : World} {base b : Nat} {v v0 : Value} {bs : List UInt8} {a : Nat} {why wat : Int} {vb : Value} {back : List UInt8} (h : FormAt w W base b v v0 bs a why wat vb back) (hb : Below W.heap.size W W') : FormAt w W' base b v v0 bs a why wat vb back :=
  ⟨h.rd.below hb, h.src.below hb, h.bel.trans (hb.mono h.bel.size), h.own.below hb⟩

set_option maxRecDepth 100000 in
set_option maxHeartbeats 2000000 in
theorem form_0 (v0 : Value) (bs : List UInt8) (K : Int) (w : World) (hs : Src w v0 bs) (hbl : bs.length ≤ 549755813888)  (h0 : ((wrap64 (K.tmod 5 + 5)).tmod 5 == 0) = true) :
    Calls Try.prog 6 #[v0, .int .i64 K] w fun e w' => e = .returned (.bool true) ∧ Below w.heap.size w w' := by
  have HS := hid hs
  clear hs
  go_enter Try.func6, Try.ntmps6
  go_wp2_with (at_builtin; refine app_src rfl _ _ rfl w.heap.size _ _ rfl (OwnB.nil _ _) _ _ rfl HS.out ?c1 (Nat.le_refl _) ?_)
  case c1 => simp; omega
  intro v1 w1 ho1 hg1
  have HO1 := hid (by simpa using ho1 : OwnB w1 w.heap.size v1 bs)
  have HB1 := hid (gb_below hg1)
  clear ho1 hg1
  go_wp2_with fail
  refine (newReader_any _ _ _ (HO1.out.src (by omega))).mono ?_
  rintro e w2 ⟨b, v, rfl, hR2, hb2⟩
  have HR2 := hid hR2
  have HB2 := hid (HB1.out.trans (hb2.mono HB1.out.size))
  have hbw : w.heap.size ≤ b := Nat.le_trans HB1.out.size hR2.lo
  clear hR2 hb2 HO1
  go_wp2_with fail
  refine (alive_true _).mono ?_
  rintro e w3 ⟨rfl, hb3⟩
  have HR3 := hid (HR2.out.below hb3)
  have HB3 := hid (HB2.out.trans (hb3.mono HB2.out.size))
  clear hb3 HR2 HB2 HB1
  go_wp2_with fail
  obtain ⟨er, n, k, hd⟩ : ∃ er n k, dec (bs.drop 0) 0 0 = (er, n, k) := ⟨_, _, _, rfl⟩
  have hnl := (dec_le _ hd).2.1
  have hkb := (dec_le _ hd).1
  have HK := hid ((dec_le _ hd).2.2.2)
  refine (uint_go _ _ _ _ _ _ _ HR3.out _ _ _ hd).mono ?_
  rintro e w4 ⟨rfl, hR4, hg4⟩
  have HR4 := hid hR4
  have HB4 := hid (HB3.out.grown hg4 HB3.out.size (fun j e => by cases e; exact hbw))
  have HS4 := hid (HS.out.below HB4.out)
  have HD := hid hd
  clear hR4 hg4 HR3 HB3 hd
  go_wp2_with fail
  refine (putUint_any _ [] _ _ (⟨by simp, Or.inl ⟨rfl, rfl⟩⟩) hnl (by simp)).mono ?_
  rintro e w5 ⟨vb, rfl, ho5, hb5⟩
  have HF := hid (⟨HR4.out.below hb5, HS4.out.below hb5, HB4.out.trans (hb5.mono HB4.out.size), (by simpa using ho5.le HB4.out.size)⟩ : FormAt w w5 w1.heap.size b v v0 bs (0 + k) er (watOf er 0 0) vb (sn n))
  clear ho5 hb5 HR4 HB4 HS4
  by_cases he : er = 0
  · subst he
    have HT := hid (by obtain ⟨q1, q2, q3, q4⟩ := dec_ok HD.out; simp at q2 q4; exact ⟨q4.symm, q2⟩ : sn n = bs.take k ∧ k ≤ bs.length)
    have HX := hid (by obtain ⟨q1, q2, q3, q4⟩ := dec_ok HD.out; simp at q2; omega : 0 < bs.length)
    have e0 : watOf 0 0 0 = 0 := rfl
    rw [e0, Nat.zero_add] at HF
    generalize sn n = back at *
    clear e0 hkb hnl HD HK
    have hF := HF.out
    obtain ⟨ao, c, hvb⟩ := hF.own.shape
    have hbk := HT.out.1
    have hkl : k ≤ bs.length := HT.out.2
    have hlk : back.length = k := by rw [hbk]; simp; omega
    rw [hlk] at hvb
    subst hvb
    obtain ⟨vx, hvx, hcut⟩ := cut_begin hF.src k hkl (by have := HX.out; omega)
    have HVX := hid hvx
    obtain ⟨a0, c0, hv0⟩ : ∃ a0 c0, v0 = .slice a0 bs.length c0 := by
      obtain ⟨_, ⟨h1, h2⟩ | ⟨ad, cp, h1, _⟩⟩ := hF.src
      · exact ⟨none, 0, by rw [h1, h2]; rfl⟩
      · exact ⟨_, _, h1⟩
    subst hv0
    clear hvx hF hlk hbk
    have hki : (k : Int) ≤ (bs.length : Int) := by omega
    go_wp2_with fail
    refine (rfault_any _ _ _ _ _ _ _ _ HF.out.rd).mono ?_
    rintro e w6 ⟨rfl, hb6⟩
    have HF6 := hid (HF.out.below hb6)
    have HVX6 := hid (HVX.out.below hb6)
    clear hb6 HVX HF
    go_wp2_with fail
    refine (rat_any _ _ _ _ _ _ _ _ HF6.out.rd).mono ?_
    rintro e w7 ⟨rfl, rfl⟩
    go_wp2_with fail
    refine (equal_true _ _ (bs.take k) _ (HT.out.1 ▸ HF6.out.own.src (by rw [HT.out.1]; simp; omega)) HVX6.out).mono ?_
    rintro e w8 ⟨rfl, rfl⟩
    go_wp2
    go_ret
    exact ⟨rfl, HF6.out.bel⟩
  · have hk0 := (HK.out he).2
    subst hk0
    have e0 : watOf er 0 0 = 0 := by unfold watOf; simp
    rw [e0] at HF
    generalize sn n = back at *
    clear e0 hkb hnl HD HK
    have hne : ((er : Int) != 0) = true := by simp; omega
    go_wp2_with fail
    refine (rfault_any _ _ _ _ _ _ _ _ HF.out.rd).mono ?_
    rintro e w6 ⟨rfl, hb6⟩
    have HF6 := hid (HF.out.below hb6)
    clear hb6 HF
    go_wp2_with fail
    refine (rat_any _ _ _ _ _ _ _ _ HF6.out.rd).mono ?_
    rintro e w7 ⟨rfl, rfl⟩
    go_wp2
    go_ret
    exact ⟨rfl, HF6.out.bel⟩

set_option maxRecDepth 100000 in
set_option maxHeartbeats 2000000 in
theorem form_1 (v0 : Value) (bs : List UInt8) (K : Int) (w : World) (hs : Src w v0 bs) (hbl : bs.length ≤ 549755813888) (h0 : ((wrap64 (K.tmod 5 + 5)).tmod 5 == 0) = false) (h1 : ((wrap64 (K.tmod 5 + 5)).tmod 5 == 1) = true) :
    Calls Try.prog 6 #[v0, .int .i64 K] w fun e w' => e = .returned (.bool true) ∧ Below w.heap.size w w' := by
  have HS := hid hs
  clear hs
  go_enter Try.func6, Try.ntmps6
  go_wp2_with (at_builtin; refine app_src rfl _ _ rfl w.heap.size _ _ rfl (OwnB.nil _ _) _ _ rfl HS.out ?c1 (Nat.le_refl _) ?_)
  case c1 => simp; omega
  intro v1 w1 ho1 hg1
  have HO1 := hid (by simpa using ho1 : OwnB w1 w.heap.size v1 bs)
  have HB1 := hid (gb_below hg1)
  clear ho1 hg1
  go_wp2_with fail
  refine (newReader_any _ _ _ (HO1.out.src (by omega))).mono ?_
  rintro e w2 ⟨b, v, rfl, hR2, hb2⟩
  have HR2 := hid hR2
  have HB2 := hid (HB1.out.trans (hb2.mono HB1.out.size))
  have hbw : w.heap.size ≤ b := Nat.le_trans HB1.out.size hR2.lo
  clear hR2 hb2 HO1
  go_wp2_with fail
  refine (alive_true _).mono ?_
  rintro e w3 ⟨rfl, hb3⟩
  have HR3 := hid (HR2.out.below hb3)
  have HB3 := hid (HB2.out.trans (hb3.mono HB2.out.size))
  clear hb3 HR2 HB2 HB1
  go_wp2_with fail
  obtain ⟨er, n, k, hd⟩ : ∃ er n k, dec (bs.drop 0) 0 0 = (er, n, k) := ⟨_, _, _, rfl⟩
  have hnl := (dec_le _ hd).2.1
  have hkb := (dec_le _ hd).1
  have HK := hid ((dec_le _ hd).2.2.2)
  refine (int_go _ _ _ _ _ _ _ HR3.out _ _ _ hd).mono ?_
  rintro e w4 ⟨rfl, hR4, hg4⟩
  have HR4 := hid hR4
  have HB4 := hid (HB3.out.grown hg4 HB3.out.size (fun j e => by cases e; exact hbw))
  have HS4 := hid (HS.out.below HB4.out)
  have HD := hid hd
  clear hR4 hg4 HR3 HB3 hd
  go_wp2_with fail
  refine (putInt_any _ [] _ _ (⟨by simp, Or.inl ⟨rfl, rfl⟩⟩) (uz_bounds n hnl).1 (uz_bounds n hnl).2 (by simp)).mono ?_
  rintro e w5 ⟨vb, rfl, ho5, hb5⟩
  have HF := hid (⟨HR4.out.below hb5, HS4.out.below hb5, HB4.out.trans (hb5.mono HB4.out.size), (by rw [zz_uz] at ho5; simpa using ho5.le HB4.out.size)⟩ : FormAt w w5 w1.heap.size b v v0 bs (0 + k) er (watOf er 0 0) vb (sn n))
  clear ho5 hb5 HR4 HB4 HS4
  by_cases he : er = 0
  · subst he
    have HT := hid (by obtain ⟨q1, q2, q3, q4⟩ := dec_ok HD.out; simp at q2 q4; exact ⟨q4.symm, q2⟩ : sn n = bs.take k ∧ k ≤ bs.length)
    have HX := hid (by obtain ⟨q1, q2, q3, q4⟩ := dec_ok HD.out; simp at q2; omega : 0 < bs.length)
    have e0 : watOf 0 0 0 = 0 := rfl
    rw [e0, Nat.zero_add] at HF
    generalize sn n = back at *
    clear e0 hkb hnl HD HK
    have hF := HF.out
    obtain ⟨ao, c, hvb⟩ := hF.own.shape
    have hbk := HT.out.1
    have hkl : k ≤ bs.length := HT.out.2
    have hlk : back.length = k := by rw [hbk]; simp; omega
    rw [hlk] at hvb
    subst hvb
    obtain ⟨vx, hvx, hcut⟩ := cut_begin hF.src k hkl (by have := HX.out; omega)
    have HVX := hid hvx
    obtain ⟨a0, c0, hv0⟩ : ∃ a0 c0, v0 = .slice a0 bs.length c0 := by
      obtain ⟨_, ⟨h1, h2⟩ | ⟨ad, cp, h1, _⟩⟩ := hF.src
      · exact ⟨none, 0, by rw [h1, h2]; rfl⟩
      · exact ⟨_, _, h1⟩
    subst hv0
    clear hvx hF hlk hbk
    have hki : (k : Int) ≤ (bs.length : Int) := by omega
    go_wp2_with fail
    refine (rfault_any _ _ _ _ _ _ _ _ HF.out.rd).mono ?_
    rintro e w6 ⟨rfl, hb6⟩
    have HF6 := hid (HF.out.below hb6)
    have HVX6 := hid (HVX.out.below hb6)
    clear hb6 HVX HF
    go_wp2_with fail
    refine (rat_any _ _ _ _ _ _ _ _ HF6.out.rd).mono ?_
    rintro e w7 ⟨rfl, rfl⟩
    go_wp2_with fail
    refine (equal_true _ _ (bs.take k) _ (HT.out.1 ▸ HF6.out.own.src (by rw [HT.out.1]; simp; omega)) HVX6.out).mono ?_
    rintro e w8 ⟨rfl, rfl⟩
    go_wp2
    go_ret
    exact ⟨rfl, HF6.out.bel⟩
  · have hk0 := (HK.out he).2
    subst hk0
    have e0 : watOf er 0 0 = 0 := by unfold watOf; simp
    rw [e0] at HF
    generalize sn n = back at *
    clear e0 hkb hnl HD HK
    have hne : ((er : Int) != 0) = true := by simp; omega
    go_wp2_with fail
    refine (rfault_any _ _ _ _ _ _ _ _ HF.out.rd).mono ?_
    rintro e w6 ⟨rfl, hb6⟩
    have HF6 := hid (HF.out.below hb6)
    clear hb6 HF
    go_wp2_with fail
    refine (rat_any _ _ _ _ _ _ _ _ HF6.out.rd).mono ?_
    rintro e w7 ⟨rfl, rfl⟩
    go_wp2
    go_ret
    exact ⟨rfl, HF6.out.bel⟩

set_option maxRecDepth 100000 in
set_option maxHeartbeats 2000000 in
theorem form_2 (v0 : Value) (bs : List UInt8) (K : Int) (w : World) (hs : Src w v0 bs) (hbl : bs.length ≤ 549755813888) (h0 : ((wrap64 (K.tmod 5 + 5)).tmod 5 == 0) = false) (h1 : ((wrap64 (K.tmod 5 + 5)).tmod 5 == 1) = false) (h2 : ((wrap64 (K.tmod 5 + 5)).tmod 5 == 2) = true) :
    Calls Try.prog 6 #[v0, .int .i64 K] w fun e w' => e = .returned (.bool true) ∧ Below w.heap.size w w' := by
  have HS := hid hs
  clear hs
  go_enter Try.func6, Try.ntmps6
  go_wp2_with (at_builtin; refine app_src rfl _ _ rfl w.heap.size _ _ rfl (OwnB.nil _ _) _ _ rfl HS.out ?c1 (Nat.le_refl _) ?_)
  case c1 => simp; omega
  intro v1 w1 ho1 hg1
  have HO1 := hid (by simpa using ho1 : OwnB w1 w.heap.size v1 bs)
  have HB1 := hid (gb_below hg1)
  clear ho1 hg1
  go_wp2_with fail
  refine (newReader_any _ _ _ (HO1.out.src (by omega))).mono ?_
  rintro e w2 ⟨b, v, rfl, hR2, hb2⟩
  have HR2 := hid hR2
  have HB2 := hid (HB1.out.trans (hb2.mono HB1.out.size))
  have hbw : w.heap.size ≤ b := Nat.le_trans HB1.out.size hR2.lo
  clear hR2 hb2 HO1
  go_wp2_with fail
  refine (alive_true _).mono ?_
  rintro e w3 ⟨rfl, hb3⟩
  have HR3 := hid (HR2.out.below hb3)
  have HB3 := hid (HB2.out.trans (hb3.mono HB2.out.size))
  clear hb3 HR2 HB2 HB1
  go_wp2_with fail
  rcases Nat.eq_zero_or_pos bs.length with hz | hpos
  · have hbs : bs = [] := List.length_eq_zero_iff.1 hz
    have HC := hid (bool_none w1.heap.size b v bs 0 w3 (by rw [hbs]; simpa [hbs] using HR3.out))
    refine Calls.mono HC.out ?_
    rintro e w4 ⟨rfl, hR4, hg4⟩
    have HR4 := hid (by rw [hz] at hR4; exact hR4 : Rd w4 w1.heap.size b v bs 0 4 0)
    have HB4 := hid (HB3.out.grown hg4 HB3.out.size (fun j e => by cases e; exact hbw))
    have HS4 := hid (HS.out.below HB4.out)
    clear hR4 hg4 HR3 HB3 HC
    go_wp2_with fail
    refine (putBool_any _ [] _ _ (⟨by simp, Or.inl ⟨rfl, rfl⟩⟩) (by simp)).mono ?_
    rintro e w5 ⟨vb, rfl, ho5, hb5⟩
    obtain ⟨back, hback⟩ : ∃ back, OwnB w5 w.heap.size vb back := ⟨_, ho5.le HB4.out.size⟩
    have HF := hid (⟨HR4.out.below hb5, HS4.out.below hb5, HB4.out.trans (hb5.mono HB4.out.size), hback⟩ : FormAt w w5 w1.heap.size b v v0 bs 0 ((4 : Nat) : Int) 0 vb back)
    clear ho5 hb5 HR4 HB4 HS4 hback
    obtain ⟨er, her⟩ : ∃ er : Nat, er = 4 := ⟨4, rfl⟩
    rw [← her] at HF
    have he : ¬ er = 0 := by omega
    clear her
    have hne : ((er : Int) != 0) = true := by simp; omega
    go_wp2_with fail
    refine (rfault_any _ _ _ _ _ _ _ _ HF.out.rd).mono ?_
    rintro e w6 ⟨rfl, hb6⟩
    have HF6 := hid (HF.out.below hb6)
    clear hb6 HF
    go_wp2_with fail
    refine (rat_any _ _ _ _ _ _ _ _ HF6.out.rd).mono ?_
    rintro e w7 ⟨rfl, rfl⟩
    go_wp2
    go_ret
    exact ⟨rfl, HF6.out.bel⟩
  · by_cases hc : 1 < (bs.getD 0 0).toNat
    · have HC := hid (bool_bad w1.heap.size b v bs 0 0 w3 HR3.out hpos hc)
      refine Calls.mono HC.out ?_
      rintro e w4 ⟨rfl, hR4, hg4⟩
      have HR4 := hid (hR4 : Rd w4 w1.heap.size b v bs 0 5 0)
      have HB4 := hid (HB3.out.grown hg4 HB3.out.size (fun j e => by cases e; exact hbw))
      have HS4 := hid (HS.out.below HB4.out)
      clear hR4 hg4 HR3 HB3 HC hc
      go_wp2_with fail
      refine (putBool_any _ [] _ _ (⟨by simp, Or.inl ⟨rfl, rfl⟩⟩) (by simp)).mono ?_
      rintro e w5 ⟨vb, rfl, ho5, hb5⟩
      obtain ⟨back, hback⟩ : ∃ back, OwnB w5 w.heap.size vb back := ⟨_, ho5.le HB4.out.size⟩
      have HF := hid (⟨HR4.out.below hb5, HS4.out.below hb5, HB4.out.trans (hb5.mono HB4.out.size), hback⟩ : FormAt w w5 w1.heap.size b v v0 bs 0 ((5 : Nat) : Int) 0 vb back)
      clear ho5 hb5 HR4 HB4 HS4 hback
      obtain ⟨er, her⟩ : ∃ er : Nat, er = 5 := ⟨5, rfl⟩
      rw [← her] at HF
      have he : ¬ er = 0 := by omega
      clear her
      have hne : ((er : Int) != 0) = true := by simp; omega
      go_wp2_with fail
      refine (rfault_any _ _ _ _ _ _ _ _ HF.out.rd).mono ?_
      rintro e w6 ⟨rfl, hb6⟩
      have HF6 := hid (HF.out.below hb6)
      clear hb6 HF
      go_wp2_with fail
      refine (rat_any _ _ _ _ _ _ _ _ HF6.out.rd).mono ?_
      rintro e w7 ⟨rfl, rfl⟩
      go_wp2
      go_ret
      exact ⟨rfl, HF6.out.bel⟩
    · have HC := hid (bool_ok w1.heap.size b v bs 0 0 w3 HR3.out hpos (by omega))
      have HBY := hid (by
        obtain ⟨c, r, rfl⟩ : ∃ c r, bs = c :: r := by cases bs with | nil => simp at hpos | cons c r => exact ⟨c, r, rfl⟩
        simp at hc ⊢
        rcases (show c.toNat = 0 ∨ c.toNat = 1 by omega) with h | h
        · rw [h]; simp; exact UInt8.toNat_inj.1 (by simpa using h.symm)
        · rw [h]; simp; exact UInt8.toNat_inj.1 (by simpa using h.symm) : [if ((((bs.getD 0 0).toNat : Int)) == 1) = true then (1 : UInt8) else 0] = bs.take 1)
      clear hc
      generalize ((((bs.getD 0 0).toNat : Int)) == 1) = x at *
      refine Calls.mono HC.out ?_
      rintro e w4 ⟨rfl, hR4, hg4⟩
      have HR4 := hid (hR4 : Rd w4 w1.heap.size b v bs 1 0 0)
      have HB4 := hid (HB3.out.grown hg4 HB3.out.size (fun j e => by cases e; exact hbw))
      have HS4 := hid (HS.out.below HB4.out)
      clear hR4 hg4 HR3 HB3 HC
      go_wp2_with fail
      refine (putBool_any _ [] _ _ (⟨by simp, Or.inl ⟨rfl, rfl⟩⟩) (by simp)).mono ?_
      rintro e w5 ⟨vb, rfl, ho5, hb5⟩
      obtain ⟨k, hk⟩ : ∃ k, k = 1 := ⟨1, rfl⟩
      obtain ⟨back, hbk⟩ : ∃ back, back = [if x = true then (1 : UInt8) else 0] := ⟨_, rfl⟩
      have HF := hid (⟨hk ▸ HR4.out.below hb5, HS4.out.below hb5, HB4.out.trans (hb5.mono HB4.out.size), (by rw [hbk]; simpa using ho5.le HB4.out.size)⟩ : FormAt w w5 w1.heap.size b v v0 bs k 0 0 vb back)
      have HT := hid (by rw [hbk, hk]; exact ⟨HBY.out, hpos⟩ : back = bs.take k ∧ k ≤ bs.length)
      have HX := hid hpos
      clear ho5 hb5 HR4 HB4 HS4 hk hbk HBY
      have hF := HF.out
      obtain ⟨ao, c, hvb⟩ := hF.own.shape
      have hbk := HT.out.1
      have hkl : k ≤ bs.length := HT.out.2
      have hlk : back.length = k := by rw [hbk]; simp; omega
      rw [hlk] at hvb
      subst hvb
      obtain ⟨vx, hvx, hcut⟩ := cut_begin hF.src k hkl (by have := HX.out; omega)
      have HVX := hid hvx
      obtain ⟨a0, c0, hv0⟩ : ∃ a0 c0, v0 = .slice a0 bs.length c0 := by
        obtain ⟨_, ⟨h1, h2⟩ | ⟨ad, cp, h1, _⟩⟩ := hF.src
        · exact ⟨none, 0, by rw [h1, h2]; rfl⟩
        · exact ⟨_, _, h1⟩
      subst hv0
      clear hvx hF hlk hbk
      have hki : (k : Int) ≤ (bs.length : Int) := by omega
      go_wp2_with fail
      refine (rfault_any _ _ _ _ _ _ _ _ HF.out.rd).mono ?_
      rintro e w6 ⟨rfl, hb6⟩
      have HF6 := hid (HF.out.below hb6)
      have HVX6 := hid (HVX.out.below hb6)
      clear hb6 HVX HF
      go_wp2_with fail
      refine (rat_any _ _ _ _ _ _ _ _ HF6.out.rd).mono ?_
      rintro e w7 ⟨rfl, rfl⟩
      go_wp2_with fail
      refine (equal_true _ _ (bs.take k) _ (HT.out.1 ▸ HF6.out.own.src (by rw [HT.out.1]; simp; omega)) HVX6.out).mono ?_
      rintro e w8 ⟨rfl, rfl⟩
      go_wp2
      go_ret
      exact ⟨rfl, HF6.out.bel⟩

set_option maxRecDepth 100000 in
set_option maxHeartbeats 2000000 in
theorem form_3 (v0 : Value) (bs : List UInt8) (K : Int) (w : World) (hs : Src w v0 bs) (hbl : bs.length ≤ 549755813888) (h0 : ((wrap64 (K.tmod 5 + 5)).tmod 5 == 0) = false) (h1 : ((wrap64 (K.tmod 5 + 5)).tmod 5 == 1) = false) (h2 : ((wrap64 (K.tmod 5 + 5)).tmod 5 == 2) = false) (h3 : ((wrap64 (K.tmod 5 + 5)).tmod 5 == 3) = true) :
    Calls Try.prog 6 #[v0, .int .i64 K] w fun e w' => e = .returned (.bool true) ∧ Below w.heap.size w w' := by
  have HS := hid hs
  obtain ⟨a9, c9, hv9⟩ : ∃ a0 c0, v0 = .slice a0 bs.length c0 := by
    obtain ⟨_, ⟨h1, h2⟩ | ⟨ad, cp, h1, _⟩⟩ := hs
    · exact ⟨none, 0, by rw [h1, h2]; rfl⟩
    · exact ⟨_, _, h1⟩
  subst hv9
  clear hs
  go_enter Try.func6, Try.ntmps6
  go_wp2_with (at_builtin; refine app_src rfl _ _ rfl w.heap.size _ _ rfl (OwnB.nil _ _) _ _ rfl HS.out ?c1 (Nat.le_refl _) ?_)
  case c1 => simp; omega
  intro v1 w1 ho1 hg1
  have HO1 := hid (by simpa using ho1 : OwnB w1 w.heap.size v1 bs)
  have HB1 := hid (gb_below hg1)
  clear ho1 hg1
  go_wp2_with fail
  refine (newReader_any _ _ _ (HO1.out.src (by omega))).mono ?_
  rintro e w2 ⟨b, v, rfl, hR2, hb2⟩
  have HR2 := hid hR2
  have HB2 := hid (HB1.out.trans (hb2.mono HB1.out.size))
  have hbw : w.heap.size ≤ b := Nat.le_trans HB1.out.size hR2.lo
  clear hR2 hb2 HO1
  go_wp2_with fail
  refine (alive_true _).mono ?_
  rintro e w3 ⟨rfl, hb3⟩
  have HR3 := hid (HR2.out.below hb3)
  have HB3 := hid (HB2.out.trans (hb3.mono HB2.out.size))
  clear hb3 HR2 HB2 HB1
  go_wp2_with fail
  obtain ⟨er, s, k, hd⟩ : ∃ er s k, txt (bs.drop 0) bs.length = (er, s, k) := ⟨_, _, _, rfl⟩
  have HK := hid ((txt_le hd).2.2)
  have hsl := (txt_le hd).2.1
  refine (textr_go _ _ _ _ _ _ _ bs.length (by omega) HR3.out (by omega) _ _ _ hd).mono ?_
  rintro e w4 ⟨rfl, hR4, hg4⟩
  have HR4 := hid hR4
  have HB4 := hid (HB3.out.grown hg4 HB3.out.size (fun j e => by cases e; exact hbw))
  have HS4 := hid (HS.out.below HB4.out)
  have HD := hid hd
  clear hR4 hg4 HR3 HB3 hd
  go_wp2_with fail
  have HB5 := hid (below_walk w4 (.cells #[.string ⟨s.toArray⟩] 9))
  have h10 := sn_length_le s.length
  have HTL := hid (by rw [txs_one, tx_mk, List.length_append]; omega : (txs [mk s]).length ≤ 1099511627776)
  refine (putText_any _ [] _ [mk s] _ (⟨by simp, Or.inl ⟨rfl, rfl⟩⟩) (strs_one w4 s) (by simp) HTL.out).mono ?_
  rintro e w5 ⟨vb, rfl, ho5, hb5⟩
  have HO5 := hid (by rw [List.nil_append, txs_one, tx_mk] at ho5; exact ho5.le (by have := HB4.out.size; simp; omega) : OwnB w5 w.heap.size vb (sn s.length ++ s))
  have HB6 := hid (HB5.out.trans (hb5.mono (by simp)))
  have HF := hid (⟨HR4.out.below HB6.out, HS4.out.below HB6.out, HB4.out.trans (HB6.out.mono HB4.out.size), HO5.out⟩ : FormAt w w5 w1.heap.size b v (.slice a9 bs.length c9) bs (0 + k) er (watOf er 0 0) vb (sn s.length ++ s))
  clear ho5 hb5 HR4 HB4 HS4 HO5 HB5 HB6 HTL
  by_cases he : er = 0
  · subst he
    have HT := hid (by obtain ⟨q1, q2, q3, q4⟩ := txt_ok HD.out; simp at q1 q4; exact ⟨q1.symm, q4⟩ : sn s.length ++ s = bs.take k ∧ k ≤ bs.length)
    have HX := hid (by have q1 := txt_pos HD.out; have q4 := (txt_ok HD.out).2.2.2; simp at q4; omega : 0 < bs.length)
    have e0 : watOf 0 0 0 = 0 := rfl
    rw [e0, Nat.zero_add] at HF
    generalize sn s.length ++ s = back at *
    clear e0 hsl HD HK
    have hF := HF.out
    obtain ⟨ao, c, hvb⟩ := hF.own.shape
    have hbk := HT.out.1
    have hkl : k ≤ bs.length := HT.out.2
    have hlk : back.length = k := by rw [hbk]; simp; omega
    rw [hlk] at hvb
    subst hvb
    obtain ⟨vx, hvx, hcut⟩ := cut_begin hF.src k hkl (by have := HX.out; omega)
    have HVX := hid hvx
    clear hvx hF hlk hbk
    have hki : (k : Int) ≤ (bs.length : Int) := by omega
    go_wp2_with fail
    refine (rfault_any _ _ _ _ _ _ _ _ HF.out.rd).mono ?_
    rintro e w6 ⟨rfl, hb6⟩
    have HF6 := hid (HF.out.below hb6)
    have HVX6 := hid (HVX.out.below hb6)
    clear hb6 HVX HF
    go_wp2_with fail
    refine (rat_any _ _ _ _ _ _ _ _ HF6.out.rd).mono ?_
    rintro e w7 ⟨rfl, rfl⟩
    go_wp2_with fail
    refine (equal_true _ _ (bs.take k) _ (HT.out.1 ▸ HF6.out.own.src (by rw [HT.out.1]; simp; omega)) HVX6.out).mono ?_
    rintro e w8 ⟨rfl, rfl⟩
    go_wp2
    go_ret
    exact ⟨rfl, HF6.out.bel⟩
  · have hk0 := (HK.out he).2
    subst hk0
    have e0 : watOf er 0 0 = 0 := by unfold watOf; simp
    rw [e0] at HF
    generalize sn s.length ++ s = back at *
    clear e0 hsl HD HK
    have hne : ((er : Int) != 0) = true := by simp; omega
    go_wp2_with fail
    refine (rfault_any _ _ _ _ _ _ _ _ HF.out.rd).mono ?_
    rintro e w6 ⟨rfl, hb6⟩
    have HF6 := hid (HF.out.below hb6)
    clear hb6 HF
    go_wp2_with fail
    refine (rat_any _ _ _ _ _ _ _ _ HF6.out.rd).mono ?_
    rintro e w7 ⟨rfl, rfl⟩
    go_wp2
    go_ret
    exact ⟨rfl, HF6.out.bel⟩

set_option maxRecDepth 100000 in
set_option maxHeartbeats 2000000 in
theorem form_4 (v0 : Value) (bs : List UInt8) (K : Int) (w : World) (hs : Src w v0 bs) (hbl : bs.length ≤ 549755813888) (h0 : ((wrap64 (K.tmod 5 + 5)).tmod 5 == 0) = false) (h1 : ((wrap64 (K.tmod 5 + 5)).tmod 5 == 1) = false) (h2 : ((wrap64 (K.tmod 5 + 5)).tmod 5 == 2) = false) (h3 : ((wrap64 (K.tmod 5 + 5)).tmod 5 == 3) = false) (h4 : ((wrap64 (K.tmod 5 + 5)).tmod 5 == 4) = true) :
    Calls Try.prog 6 #[v0, .int .i64 K] w fun e w' => e = .returned (.bool true) ∧ Below w.heap.size w w' := by
  have HS := hid hs
  obtain ⟨a9, c9, hv9⟩ : ∃ a0 c0, v0 = .slice a0 bs.length c0 := by
    obtain ⟨_, ⟨h1, h2⟩ | ⟨ad, cp, h1, _⟩⟩ := hs
    · exact ⟨none, 0, by rw [h1, h2]; rfl⟩
    · exact ⟨_, _, h1⟩
  subst hv9
  clear hs
  go_enter Try.func6, Try.ntmps6
  go_wp2_with (at_builtin; refine app_src rfl _ _ rfl w.heap.size _ _ rfl (OwnB.nil _ _) _ _ rfl HS.out ?c1 (Nat.le_refl _) ?_)
  case c1 => simp; omega
  intro v1 w1 ho1 hg1
  have HO1 := hid (by simpa using ho1 : OwnB w1 w.heap.size v1 bs)
  have HB1 := hid (gb_below hg1)
  clear ho1 hg1
  go_wp2_with fail
  refine (newReader_any _ _ _ (HO1.out.src (by omega))).mono ?_
  rintro e w2 ⟨b, v, rfl, hR2, hb2⟩
  have HR2 := hid hR2
  have HB2 := hid (HB1.out.trans (hb2.mono HB1.out.size))
  have hbw : w.heap.size ≤ b := Nat.le_trans HB1.out.size hR2.lo
  clear hR2 hb2 HO1
  go_wp2_with fail
  refine (alive_true _).mono ?_
  rintro e w3 ⟨rfl, hb3⟩
  have HR3 := hid (HR2.out.below hb3)
  have HB3 := hid (HB2.out.trans (hb3.mono HB2.out.size))
  clear hb3 HR2 HB2 HB1
  go_wp2_with fail
  obtain ⟨er, ts, k, hd⟩ : ∃ er ts k, lst (bs.drop 0) bs.length bs.length = (er, ts, k) := ⟨_, _, _, rfl⟩
  refine (listr_go _ _ _ _ _ _ _ bs.length bs.length (by omega) (by omega) HR3.out (by omega) _ _ _ hd).mono ?_
  rintro e w4 ⟨v4, rfl, hO4, hnil, hRok, hRer, hg4⟩
  have HB4 := hid (HB3.out.grown hg4 HB3.out.size (fun j e => by cases e; exact hbw))
  have HS4 := hid (HS.out.below HB4.out)
  have HD := hid hd
  have HST := hid hO4.strs
  by_cases he : er = 0
  · subst he
    have HR4 := hid (hRok rfl)
    have HLS := hid (by obtain ⟨q1, q2⟩ := lst_ok HD.out; simp at q1 q2; exact ⟨q1.symm, q2⟩ : ls (ts.map mk) = bs.take k ∧ k ≤ bs.length)
    have HX := hid (by
      have q := congrArg List.length HLS.out.1
      have q2 := sn_length_pos (ts.map mk).length
      unfold ls at q
      rw [List.length_append] at q
      simp at q q2
      omega : 0 < bs.length)
    have HTL := hid (by
      have q := congrArg List.length HLS.out.1
      unfold ls at q
      rw [List.length_append] at q
      simp at q
      omega : (txs (ts.map mk)).length ≤ 549755813888)
    clear hO4 hnil hRok hRer hg4 HR3 HB3 hd
    go_wp2_with fail
    refine (putList_any _ [] _ _ _ (⟨by simp, Or.inl ⟨rfl, rfl⟩⟩) HST.out (by simp) HTL.out).mono ?_
    rintro e w5 ⟨vb, rfl, ho5, hb5⟩
    have HF := hid (⟨HR4.out.below hb5, HS4.out.below hb5, HB4.out.trans (hb5.mono HB4.out.size), (by simpa using ho5.le HB4.out.size)⟩ : FormAt w w5 w1.heap.size b v (.slice a9 bs.length c9) bs (0 + k) 0 0 vb (ls (ts.map mk)))
    have HT := hid HLS.out
    rw [Nat.zero_add] at HF
    clear ho5 hb5 HR4 HB4 HS4 HST HTL HD HLS
    generalize ls (ts.map mk) = back at *
    have hF := HF.out
    obtain ⟨ao, c, hvb⟩ := hF.own.shape
    have hbk := HT.out.1
    have hkl : k ≤ bs.length := HT.out.2
    have hlk : back.length = k := by rw [hbk]; simp; omega
    rw [hlk] at hvb
    subst hvb
    obtain ⟨vx, hvx, hcut⟩ := cut_begin hF.src k hkl (by have := HX.out; omega)
    have HVX := hid hvx
    clear hvx hF hlk hbk
    have hki : (k : Int) ≤ (bs.length : Int) := by omega
    go_wp2_with fail
    refine (rfault_any _ _ _ _ _ _ _ _ HF.out.rd).mono ?_
    rintro e w6 ⟨rfl, hb6⟩
    have HF6 := hid (HF.out.below hb6)
    have HVX6 := hid (HVX.out.below hb6)
    clear hb6 HVX HF
    go_wp2_with fail
    refine (rat_any _ _ _ _ _ _ _ _ HF6.out.rd).mono ?_
    rintro e w7 ⟨rfl, rfl⟩
    go_wp2_with fail
    refine (equal_true _ _ (bs.take k) _ (HT.out.1 ▸ HF6.out.own.src (by rw [HT.out.1]; simp; omega)) HVX6.out).mono ?_
    rintro e w8 ⟨rfl, rfl⟩
    go_wp2
    go_ret
    exact ⟨rfl, HF6.out.bel⟩
  · have HR4 := hid (hRer he)
    have e9 := hnil he
    subst e9
    have hts := hO4.none
    clear hO4 hnil hRok hRer hg4 HR3 HB3 hd
    go_wp2_with fail
    refine (putList_any _ [] _ [] _ (⟨by simp, Or.inl ⟨rfl, rfl⟩⟩) (Or.inl ⟨none, 0, rfl, rfl⟩) (by simp) (by simp [txs])).mono ?_
    rintro e w5 ⟨vb, rfl, ho5, hb5⟩
    obtain ⟨back, hback⟩ : ∃ back, OwnB w5 w.heap.size vb back := ⟨_, ho5.le HB4.out.size⟩
    have HF := hid (⟨HR4.out.below hb5, HS4.out.below hb5, HB4.out.trans (hb5.mono HB4.out.size), hback⟩ : FormAt w w5 w1.heap.size b v (.slice a9 bs.length c9) bs 0 er ((0 + k : Nat) : Int) vb back)
    clear ho5 hb5 HR4 HB4 HS4 hback HST HD hts
    have hne : ((er : Int) != 0) = true := by simp; omega
    go_wp2_with fail
    refine (rfault_any _ _ _ _ _ _ _ _ HF.out.rd).mono ?_
    rintro e w6 ⟨rfl, hb6⟩
    have HF6 := hid (HF.out.below hb6)
    clear hb6 HF
    go_wp2_with fail
    refine (rat_any _ _ _ _ _ _ _ _ HF6.out.rd).mono ?_
    rintro e w7 ⟨rfl, rfl⟩
    go_wp2
    go_ret
    exact ⟨rfl, HF6.out.bel⟩

theorem lawForm_any (v0 : Value) (bs : List UInt8) (K : Int) (w : World) (hs : Src w v0 bs) (hbl : bs.length ≤ 549755813888) :
    Calls Try.prog 6 #[v0, .int .i64 K] w fun e w' => e = .returned (.bool true) ∧ Below w.heap.size w w' := by
  have hr := five_range K
  unfold five at hr
  by_cases h0 : ((wrap64 (K.tmod 5 + 5)).tmod 5 == 0) = true
  · exact form_0 v0 bs K w hs hbl h0
  by_cases h1 : ((wrap64 (K.tmod 5 + 5)).tmod 5 == 1) = true
  · exact form_1 v0 bs K w hs hbl (by simpa using h0) h1
  by_cases h2 : ((wrap64 (K.tmod 5 + 5)).tmod 5 == 2) = true
  · exact form_2 v0 bs K w hs hbl (by simpa using h0) (by simpa using h1) h2
  by_cases h3 : ((wrap64 (K.tmod 5 + 5)).tmod 5 == 3) = true
  · exact form_3 v0 bs K w hs hbl (by simpa using h0) (by simpa using h1) (by simpa using h2) h3
  have h4 : ((wrap64 (K.tmod 5 + 5)).tmod 5 == 4) = true := by
    simp at h0 h1 h2 h3 ⊢
    omega
  exact form_4 v0 bs K w hs hbl (by simpa using h0) (by simpa using h1) (by simpa using h2) (by simpa using h3) h4

end Go.Proofs.Ytggmgbdofjhkdaa
