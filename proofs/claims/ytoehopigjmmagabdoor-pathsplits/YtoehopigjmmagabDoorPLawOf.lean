/- PathOf: names make the path that they should. -/
import Derived.Test.YtoehopigjmmagabDoorPPieces
namespace Go.Proofs.YtoehopigjmmagabDoor
open Go.RowKit

/-- the path of any texts -/
def ofP (ts : List (List UInt8)) : Except Int (List UInt8) := if ts.all nmP = true then endP ts else .error 42
theorem ofP_bad {ts : List (List UInt8)} {k : Nat} (hk : k < ts.length) (hn : nmP (ts.getD k []) = false) : ofP ts = .error 42 := by
  unfold ofP
  rw [if_neg]
  intro e
  have := List.all_eq_true.1 e (ts[k]) (List.getElem_mem hk)
  simp [List.getD_eq_getElem?_getD, hk] at hn
  rw [hn] at this
  cases this
theorem ofP_ok {ts : List (List UInt8)} (h : ∀ p ∈ ts, nmP p = true) : ofP ts = endP ts := by
  unfold ofP
  rw [if_pos (List.all_eq_true.2 h)]

set_option maxRecDepth 100000 in
set_option maxHeartbeats 1000000 in
theorem of_any (v : Value) (ts : List (List UInt8)) (w : World) (h : Strs w v ts) (hn : ts.length ≤ 9223372036854775806) :
    Calls Tryd.prog 18 #[v] w fun e w' => e = .returned (.tuple #[.string (mk (aS (ofP ts))), .int .i64 (aN (ofP ts))]) ∧ Below w.heap.size w w' := by
  obtain ⟨ao, c, rfl⟩ := h.shape
  have HS := hid h
  clear h
  go_enter Tryd.func18, Tryd.ntmps18
  go_wp2
  go_loop [9] (fun i => ∃ k : Nat, k ≤ ts.length ∧ i = .int .i64 k ∧ nmTo ts k) (fun i => ts.length - (intOf i).toNat)
  case atStart => exact ⟨0, by omega, rfl, fun j hj => by omega⟩
  case round =>
    obtain ⟨k, hk, rfl, hto⟩ := hrel
    have HTO := hid hto
    clear hto
    by_cases hlt : k < ts.length
    · have q1 : (k : Int) < (ts.length : Int) := by omega
      obtain ⟨g, o, rfl, hc⟩ := HS.out.at k hlt
      cases hnm : nmP (ts.getD k []) with
      | true =>
        have HN := hid (name_ok (mk (ts.getD k [])) (by rw [bl_mk]; exact hnm))
        have HX := hid (nmTo_next HTO.out hnm)
        clear hnm
        generalize mk (ts.getD k []) = x at *
        go_wp2_with (go_at_call 20; refine (HN.out _).mono ?_; rintro e w' ⟨rfl, hw⟩; subst w')
        exact ⟨⟨k + 1, by omega, by simp, HX.out⟩, by simp [intOf]; omega⟩
      | false =>
        have HN := hid (name_bad (mk (ts.getD k [])) (by rw [bl_mk]; exact hnm))
        have HX := hid (ofP_bad hlt hnm)
        clear hnm
        generalize mk (ts.getD k []) = x at *
        go_wp2_with (go_at_call 20; refine (HN.out _).mono ?_; rintro e w' ⟨rfl, hw⟩; subst w')
        go_ret2
        exact ⟨ret_si (by rw [HX.out]; rfl) (by rw [HX.out]; rfl), Below.refl _ _⟩
    · have q1 : ¬ (k : Int) < (ts.length : Int) := by omega
      obtain rfl : k = ts.length := by omega
      have HP := hid (pathOf_any _ ts w HS.out (nmTo_all HTO.out) (by omega))
      have HX := hid (ofP_ok (nmTo_all HTO.out))
      go_wp2_with (go_at_call 24; refine HP.out.mono ?_; rintro e w2 ⟨rfl, hb2⟩)
      go_ret2
      exact ⟨ret_si (by rw [HX.out]) (by rw [HX.out]), hb2⟩

end Go.Proofs.YtoehopigjmmagabDoor
