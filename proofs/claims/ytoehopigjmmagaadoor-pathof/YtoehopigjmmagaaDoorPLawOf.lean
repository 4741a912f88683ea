/- PathOf: names make the path that they should. -/
import Derived.Test.YtoehopigjmmagaaDoorPRef2
namespace Go.Proofs.YtoehopigjmmagaaDoor
open Go.RowKit

/-- the path of any texts -/
def ofP (ts : List (List UInt8)) : Except Int (List UInt8) := if ts.all nmP = true then endP ts else .error 42
/-- how far they are names -/
def nmTo (ts : List (List UInt8)) (k : Nat) : Prop := ∀ j, j < k → nmP (ts.getD j []) = true
theorem nmTo_all {ts : List (List UInt8)} (h : nmTo ts ts.length) : ∀ p ∈ ts, nmP p = true := by
  intro p hp
  obtain ⟨j, hj, rfl⟩ := List.mem_iff_getElem.1 hp
  have := h j hj
  simpa [List.getD_eq_getElem?_getD, hj] using this
theorem nmTo_next {ts : List (List UInt8)} {k : Nat} (h : nmTo ts k) (hn : nmP (ts.getD k []) = true) : nmTo ts (k + 1) := by
  intro j hj
  by_cases hjk : j = k
  · subst hjk; exact hn
  · exact h j (by omega)
theorem ofP_bad {ts : List (List UInt8)} {k : Nat} (hk : k < ts.length) (hn : nmP (ts.getD k []) = false) : ofP ts = .error 42 := by
  unfold ofP
  rw [if_neg]
  intro e
  have := List.all_eq_true.1 e (ts[k]) (List.getElem_mem hk)
  simp [List.getD_eq_getElem?_getD, hk] at hn
  rw [hn] at this
  cases this
theorem ofP_ok {ts : List (List UInt8)} (h : ∀ p ∈ ts, nmP p = true) : ofP ts = endP ts := by
  unfold ofP
  rw [if_pos (List.all_eq_true.2 h)]

set_option maxRecDepth 100000 in
set_option maxHeartbeats 1000000 in
theorem of_any (v : Value) (ts : List (List UInt8)) (w : World) (h : Strs w v ts) (hn : ts.length ≤ 9223372036854775806) :
    Calls Tryd.prog 17 #[v] w fun e w' => e = .returned (.tuple #[.string (mk (aS (ofP ts))), .int .i64 (aN (ofP ts))]) ∧ Below w.heap.size w w' := by
  obtain ⟨ao, c, rfl⟩ := h.shape
  have HS := hid h
  clear h
  go_enter Tryd.func17, Tryd.ntmps17
  go_wp2
  go_loop [9] (fun i => ∃ k : Nat, k ≤ ts.length ∧ i = .int .i64 k ∧ nmTo ts k) (fun i => ts.length - (intOf i).toNat)
  case atStart => exact ⟨0, by omega, rfl, fun j hj => by omega⟩
  case round =>
    obtain ⟨k, hk, rfl, hto⟩ := hrel
    have HTO := hid hto
    clear hto
    by_cases hlt : k < ts.length
    · have q1 : (k : Int) < (ts.length : Int) := by omega
      obtain ⟨g, o, rfl, hc⟩ := HS.out.at k hlt
      cases hnm : nmP (ts.getD k []) with
      | true =>
        have HN := hid (name_ok (mk (ts.getD k [])) (by rw [bl_mk]; exact hnm))
        have HX := hid (nmTo_next HTO.out hnm)
        clear hnm
        generalize mk (ts.getD k []) = x at *
        go_wp2_with (go_at_call 11; refine (HN.out _).mono ?_; rintro e w' ⟨rfl, hw⟩; subst w')
        exact ⟨⟨k + 1, by omega, by simp, HX.out⟩, by simp [intOf]; omega⟩
      | false =>
        have HN := hid (name_bad (mk (ts.getD k [])) (by rw [bl_mk]; exact hnm))
        have HX := hid (ofP_bad hlt hnm)
        clear hnm
        generalize mk (ts.getD k []) = x at *
        go_wp2_with (go_at_call 11; refine (HN.out _).mono ?_; rintro e w' ⟨rfl, hw⟩; subst w')
        go_ret2
        exact ⟨ret_si (by rw [HX.out]; rfl) (by rw [HX.out]; rfl), Below.refl _ _⟩
    · have q1 : ¬ (k : Int) < (ts.length : Int) := by omega
      obtain rfl : k = ts.length := by omega
      have HP := hid (pathOf_any _ ts w HS.out (nmTo_all HTO.out) (by omega))
      have HX := hid (ofP_ok (nmTo_all HTO.out))
      go_wp2_with (go_at_call 40; refine HP.out.mono ?_; rintro e w2 ⟨rfl, hb2⟩)
      go_ret2
      exact ⟨ret_si (by rw [HX.out]) (by rw [HX.out]), hb2⟩

theorem rname_is (s : ByteArray) (b : Bool) (h : nmP (bl s) = b) (w : World) :
    Calls Tryd.prog 12 #[.string s] w fun e w' => e = .returned (.bool b) ∧ w' = w := h ▸ rname_any s w

set_option maxRecDepth 100000 in
set_option maxHeartbeats 1000000 in
theorem rof_any (v : Value) (ts : List (List UInt8)) (w : World) (h : Strs w v ts) (hn : ts.length ≤ 9223372036854775806) :
    Calls Tryd.prog 18 #[v] w fun e w' => e = .returned (.tuple #[.string (mk (aS (ofP ts))), .int .i64 (aN (ofP ts))]) ∧ w' = w := by
  obtain ⟨ao, c, rfl⟩ := h.shape
  have HS := hid h
  clear h
  go_enter Tryd.func18, Tryd.ntmps18
  go_wp2
  go_loop [4] (fun i => ∃ k : Nat, k ≤ ts.length ∧ i = .int .i64 k ∧ nmTo ts k) (fun i => ts.length - (intOf i).toNat)
  case atStart => exact ⟨0, by omega, rfl, fun j hj => by omega⟩
  case round =>
    obtain ⟨k, hk, rfl, hto⟩ := hrel
    have HTO := hid hto
    clear hto
    by_cases hlt : k < ts.length
    · have q1 : (k : Int) < (ts.length : Int) := by omega
      obtain ⟨g, o, rfl, hc⟩ := HS.out.at k hlt
      cases hnm : nmP (ts.getD k []) with
      | true =>
        have HN := hid (rname_is (mk (ts.getD k [])) true (by rw [bl_mk]; exact hnm))
        have HX := hid (nmTo_next HTO.out hnm)
        clear hnm
        generalize mk (ts.getD k []) = x at *
        go_wp2_with (go_at_call 12; refine (HN.out _).mono ?_; rintro e w' ⟨rfl, hw⟩; subst w')
        exact ⟨⟨k + 1, by omega, by simp, HX.out⟩, by simp [intOf]; omega⟩
      | false =>
        have HN := hid (rname_is (mk (ts.getD k [])) false (by rw [bl_mk]; exact hnm))
        have HX := hid (ofP_bad hlt hnm)
        clear hnm
        generalize mk (ts.getD k []) = x at *
        go_wp2_with (go_at_call 12; refine (HN.out _).mono ?_; rintro e w' ⟨rfl, hw⟩; subst w')
        go_ret2
        exact ⟨ret_si (by rw [HX.out]; rfl) (by rw [HX.out]; rfl), rfl⟩
    · have q1 : ¬ (k : Int) < (ts.length : Int) := by omega
      obtain rfl : k = ts.length := by omega
      have HX := hid (ofP_ok (nmTo_all HTO.out))
      by_cases h32 : 32 < ts.length
      · have q2 : (32 : Int) < (ts.length : Int) := by omega
        have HE := hid (show ofP ts = .error 44 by rw [HX.out]; unfold endP; rw [if_pos h32])
        clear h32
        go_wp2
        go_ret2
        exact ⟨ret_si (by rw [HE.out]; rfl) (by rw [HE.out]; rfl), rfl⟩
      · have q2 : ¬ (32 : Int) < (ts.length : Int) := by omega
        have HE := hid (show ofP ts = .ok (txt ts) by rw [HX.out]; unfold endP; rw [if_neg h32])
        have hb := lens_pcs ts (nmTo_all HTO.out)
        have HT := hid (rtext_any _ ts w HS.out (by omega) (by omega))
        clear h32 hb
        go_wp2_with (go_at_call 41; refine HT.out.mono ?_; rintro e w2 ⟨rfl, hw⟩; subst w2)
        go_ret2
        exact ⟨ret_si (by rw [HE.out]; rfl) (by rw [HE.out]; rfl), rfl⟩

set_option maxRecDepth 100000 in
set_option maxHeartbeats 1000000 in
theorem lawOf_any (v : Value) (ts : List (List UInt8)) (w : World) (h : Strs w v ts) (hn : ts.length ≤ 8796093022207) :
    Calls Tryd.prog 4 #[v] w fun e w' => e = .returned (.bool true) ∧ Below w.heap.size w w' := by
  obtain ⟨ao, c, rfl⟩ := h.shape
  have HS := hid h
  have HT := hid (twin_any _ ts w h hn)
  clear h
  go_enter Tryd.func4, Tryd.ntmps4
  go_wp2_with fail
  refine HT.out.mono ?_
  rintro e w1 ⟨v1, rfl, ho1, hb1⟩
  obtain ⟨a1, c1, rfl⟩ := ho1.strs.shape
  have HO1 := hid ho1
  have HB1 := hid hb1
  clear ho1 hb1 HT
  go_wp2_with fail
  refine (of_any _ ts w1 HO1.out.strs (by omega)).mono ?_
  rintro e w2 ⟨rfl, hb2⟩
  have HB2 := hid (below_tr HB1.out (below_le hb2 HB1.out.size))
  have HO2 := hid (HO1.out.below hb2)
  clear hb2 HO1
  go_wp2_with fail
  refine (rof_any _ ts w2 (HS.out.below HB2.out) (by omega)).mono ?_
  rintro e w3 ⟨rfl, h3⟩
  subst w3
  generalize ofP ts = R
  have HNU := hid (num_any (aN R))
  have HSA := hid (same_true _ _ ts w2 HO2.out.strs (HS.out.below HB2.out) (by omega))
  have HAW := hid awake_any
  go_wp2_with (first | (go_at_call 19; refine (HNU.out _).mono ?_; rintro e w' ⟨rfl, h0⟩; subst w') | (go_at_call 14; refine HSA.out.mono ?_; rintro e w' ⟨rfl, n, rfl⟩) | (go_at_call 15; refine (HAW.out _).mono ?_; rintro e w4 ⟨rfl, hb4⟩))
  go_ret
  exact ⟨rfl, below_tr HB2.out ⟨hb4.os, hb4.tape, hb4.output, hb4.size, fun k hk => hb4.block k (Nat.lt_of_lt_of_le hk HB2.out.size)⟩⟩

end Go.Proofs.YtoehopigjmmagaaDoor
