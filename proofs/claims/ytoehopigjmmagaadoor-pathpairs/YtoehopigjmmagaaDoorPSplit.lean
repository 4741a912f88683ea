/- Split: a path's directory and its last name. -/
import Derived.Test.YtoehopigjmmagaaDoorPAbove
import Derived.Lib.LastIndexByte
namespace Go.Proofs.YtoehopigjmmagaaDoor
open Go.RowKit

def spD (s : List UInt8) : List UInt8 := if okP s = true then txt (nms s).dropLast else []
def spN (s : List UInt8) : List UInt8 := if okP s = true then (nms s).getLastD [] else []
def spE (s : List UInt8) : Int := if okP s = true then (if s = [] then 46 else 0) else 45

/-- a text's byte as the library tells it -/
theorem data_at (s : ByteArray) (j : Nat) (hj : j < s.size) : s.data[j]! = (bl s).getD j 0 := by
  rw [bl_eq]
  have h : j < s.data.size := hj
  rw [getElem!_pos s.data j h]
  simp [List.getD_eq_getElem?_getD]
  rw [Array.getElem?_eq_getElem h]
  rfl

theorem last_slash (s : ByteArray) : (Lib.lastIndexByte s 47 = -1 ∧ (47 : UInt8) ∉ bl s) ∨ ∃ a b, bl s = a ++ 47 :: b ∧ (47 : UInt8) ∉ b ∧ Lib.lastIndexByte s 47 = (a.length : Int) := by
  have hsz := bl_size s
  have conv : ∀ c : UInt8, (c.toNat : Int) = 47 → c = 47 := fun c h => UInt8.toNat_inj.1 (by rw [show (47 : UInt8).toNat = 47 from rfl]; omega)
  rcases Lib.lastIndexByte_spec s 47 with ⟨h1, h2⟩ | ⟨i, h1, h2, h3, h4⟩
  · refine Or.inl ⟨h1, fun hm => ?_⟩
    obtain ⟨j, hj, e⟩ := List.mem_iff_getElem.1 hm
    have := h2 j (by omega)
    rw [data_at s j (by omega)] at this
    simp [List.getD_eq_getElem?_getD, hj, e] at this
  · have hi : i < (bl s).length := by omega
    rw [data_at s i h1] at h3
    have e47 := conv _ h3
    refine Or.inr ⟨(bl s).take i, (bl s).drop (i + 1), ?_, fun hm => ?_, ?_⟩
    · rw [← e47]
      have e : (bl s).getD i 0 :: (bl s).drop (i + 1) = (bl s).drop i := by
        rw [List.drop_eq_getElem_cons hi]
        simp [List.getD_eq_getElem?_getD, hi]
      rw [e, List.take_append_drop]
    · obtain ⟨j, hj, e⟩ := List.mem_iff_getElem.1 hm
      simp at hj
      have := h4 (i + 1 + j) (by omega) (by omega)
      rw [data_at s (i + 1 + j) (by omega)] at this
      rw [List.getElem_drop] at e
      simp [List.getD_eq_getElem?_getD, show i + 1 + j < (bl s).length by omega, e] at this
    · rw [h2, List.length_take]
      congr 1
      omega

theorem ret_ssi {a b c d : List UInt8} {x y : Int} (h : a = b) (g : c = d) (k : x = y) : Ending.returned (.tuple #[.string (mk a), .string (mk c), .int .i64 x]) = .returned (.tuple #[.string (mk b), .string (mk d), .int .i64 y]) := by rw [h, g, k]

set_option maxRecDepth 100000 in
set_option maxHeartbeats 1000000 in
theorem psplit_any (s : ByteArray) (w : World) (hs : (bl s).length ≤ 9223372036854775807) :
    Calls Tryd.prog 32 #[.string s] w fun e w' => e = .returned (.tuple #[.string (mk (spD (bl s))), .string (mk (spN (bl s))), .int .i64 (spE (bl s))]) ∧ ∃ n, w' = w.drewN n := by
  cases hok : okP (bl s) with
  | false =>
    have HC := hid (check_is s 45 (by unfold chN; rw [hok]; rfl) hs)
    have HD := hid (show spD (bl s) = [] by unfold spD; rw [hok]; rfl)
    have HN := hid (show spN (bl s) = [] by unfold spN; rw [hok]; rfl)
    have HE := hid (show spE (bl s) = 45 by unfold spE; rw [hok]; rfl)
    clear hok hs
    go_enter Tryd.func32, Tryd.ntmps32
    go_wp2_with (go_at_call 13; refine (HC.out _).mono ?_; rintro e w' ⟨rfl, n, rfl⟩)
    go_ret3
    exact ⟨ret_ssi HD.out.symm HN.out.symm HE.out.symm, n, rfl⟩
  | true =>
    have HC := hid (check_is s 0 (by unfold chN; rw [hok]; rfl) hs)
    have hsh := okP_short hok
    by_cases h0 : bl s = []
    · have e1 : s.toList = [] := h0
      have HD := hid (show spD (bl s) = [] by rw [h0]; rfl)
      have HN := hid (show spN (bl s) = [] by rw [h0]; rfl)
      have HE := hid (show spE (bl s) = 46 by rw [h0]; rfl)
      clear hok hs h0 hsh
      go_enter Tryd.func32, Tryd.ntmps32
      go_wp2_with (go_at_call 13; refine (HC.out _).mono ?_; rintro e w' ⟨rfl, n, rfl⟩)
      go_ret3
      exact ⟨ret_ssi HD.out.symm HN.out.symm HE.out.symm, n, rfl⟩
    · have e1 : s.toList.isEmpty = false := by simp; exact h0
      have hnm : nms (bl s) = pcs (bl s) := by unfold nms; rw [if_neg h0]
      have HE := hid (show spE (bl s) = 0 by unfold spE; rw [hok, if_pos rfl, if_neg h0])
      have hlt := Tryd.strings_LastIndex_one s ⟨#[47]⟩ rfl (by rw [bl_size]; omega)
      have HL : Hid (∀ W, Calls Tryd.prog 52 #[.string s, .string ⟨#[47]⟩] W fun e w' => e = .returned (.int .i64 (Lib.lastIndexByte s 47)) ∧ w' = W) := hlt
      clear hlt
      rcases last_slash s with ⟨h1, h2⟩ | ⟨a, b, h1, h2, h3⟩
      · rw [h1] at HL
        have HD := hid (show spD (bl s) = [] by unfold spD; rw [hok, if_pos rfl, hnm, pcs_whole h2]; rfl)
        have HN := hid (show spN (bl s) = bl s by unfold spN; rw [hok, if_pos rfl, hnm, pcs_whole h2]; rfl)
        have HM := hid (mk_bl s)
        clear hok hs h0 hsh hnm h1 h2
        go_enter Tryd.func32, Tryd.ntmps32
        go_wp2_with (first | (go_at_call 13; refine (HC.out _).mono ?_; rintro e w' ⟨rfl, n, rfl⟩) | (go_at_call 52; refine (HL.out _).mono ?_; rintro e w' ⟨rfl, hw⟩; subst w'))
        go_ret3
        rw [HD.out, HN.out, HE.out, HM.out]
        exact ⟨rfl, n, rfl⟩
      · rw [h3] at HL
        have epc : pcs (bl s) = pcs a ++ [b] := by rw [h1, pcs_append, pcs_whole h2]
        have HD := hid (show spD (bl s) = a by unfold spD; rw [hok, if_pos rfl, hnm, epc, List.dropLast_concat, txt_pcs])
        have HN := hid (show spN (bl s) = b by unfold spN; rw [hok, if_pos rfl, hnm, epc]; simp)
        have hsz : s.size = a.length + 1 + b.length := by rw [bl_size, h1]; simp; omega
        have HE1 := hid (show s.extract 0 a.length = mk a by rw [ext_bl, h1]; simp)
        have HE2 := hid (show s.extract (a.length + 1) s.size = mk b by
          rw [ext_bl, hsz, h1, List.take_of_length_le (by simp; omega), ← List.drop_drop, List.drop_left]; rfl)
        have mixed : Tryd.prog.follows Departure.mixedOrders = true := by kernel_rfl
        have hal : a.length ≤ 2080 := by rw [h1] at hsh; simp at hsh; omega
        have hw : IntKind.i64.wrap ((a.length : Int) + 1) = (a.length : Int) + 1 := by rw [IntKind.wrap_i64]; omega
        have c1 : (0 : Int) ≤ (a.length : Int) := by omega
        have c0 : ¬ (a.length : Int) < 0 := by omega
        have c2 : (a.length : Int) ≤ (s.size : Int) := by omega
        have c3 : (0 : Int) ≤ (a.length : Int) + 1 := by omega
        have c4 : (a.length : Int) + 1 ≤ (s.size : Int) := by omega
        clear hok hs h0 hsh hnm h1 h2 h3 epc hsz
        go_enter Tryd.func32, Tryd.ntmps32
        go_wp2_with (first | (go_at_call 13; refine (HC.out _).mono ?_; rintro e w' ⟨rfl, n, rfl⟩) | (go_at_call 52; refine (HL.out _).mono ?_; rintro e w' ⟨rfl, hw⟩; subst w'))
        go_region_o
        go_wp2
        go_ret3
        rw [HD.out, HN.out, HE.out, ← HE1.out, ← HE2.out]
        exact ⟨rfl, n + 1, rfl⟩

end Go.Proofs.YtoehopigjmmagaaDoor
