/- Above: which of two paths is above the other. -/
import Derived.Test.YtoehopigjmmagaaDoorPJoin2
namespace Go.Proofs.YtoehopigjmmagaaDoor
open Go.RowKit

/-- the first names of the other's, and fewer -/
def upP (x y : List (List UInt8)) : Bool := decide (x.length < y.length ∧ y.take x.length = x)
def abB (a b : List UInt8) : Bool := okP a && okP b && upP (nms a) (nms b)
/-- the number where two paths are asked for -/
def pN (a b : List UInt8) : Int := if okP a = true ∧ okP b = true then 0 else 45
def caN (ts : List (List UInt8)) : Int := if ts.all okP = true then 0 else 45

theorem txt_app {x r : List (List UInt8)} (hx : x ≠ []) (hr : r ≠ []) : txt (x ++ r) = txt x ++ 47 :: txt r := by
  cases x with
  | nil => exact absurd rfl hx
  | cons p x =>
    cases r with
    | nil => exact absurd rfl hr
    | cons q r => simp [txt]
theorem upP_iff {x y : List (List UInt8)} : upP x y = true ↔ ∃ r, r ≠ [] ∧ y = x ++ r := by
  unfold upP
  rw [decide_eq_true_iff]
  constructor
  · rintro ⟨h1, h2⟩
    refine ⟨y.drop x.length, ?_, ?_⟩
    · intro e
      have := congrArg List.length e
      simp at this
      omega
    · conv => lhs; rw [← List.take_append_drop x.length y, h2]
  · rintro ⟨r, hr, rfl⟩
    have : 0 < r.length := List.length_pos_iff.2 hr
    exact ⟨by simp; omega, by simp⟩
theorem above_pre {a b : List UInt8} (h0 : a ≠ []) : (a ++ [47]).isPrefixOf b = upP (nms a) (nms b) := by
  rw [Bool.eq_iff_iff, List.isPrefixOf_iff_prefix, upP_iff]
  have ea : nms a = pcs a := by unfold nms; rw [if_neg h0]
  constructor
  · rintro ⟨t, rfl⟩
    refine ⟨pcs t, pcs_ne t, ?_⟩
    have hne : a ++ [47] ++ t ≠ [] := by simp
    have e : nms (a ++ [47] ++ t) = pcs (a ++ [47] ++ t) := by unfold nms; rw [if_neg hne]
    rw [e, ea, List.append_assoc]
    exact pcs_append a t
  · rintro ⟨r, hr, e⟩
    refine ⟨txt r, ?_⟩
    have := txt_nms b
    rw [e, txt_app (by rw [ea]; exact pcs_ne a) hr, txt_nms] at this
    rw [← this]; simp
theorem above_root {b : List UInt8} : upP (nms []) (nms b) = decide (b ≠ []) := by
  rw [Bool.eq_iff_iff, upP_iff, decide_eq_true_iff]
  constructor
  · rintro ⟨r, hr, e⟩ rfl
    exact hr (by simpa [nms] using e.symm)
  · intro h
    exact ⟨nms b, by unfold nms; rw [if_neg h]; exact pcs_ne b, rfl⟩

def okTo (ts : List (List UInt8)) (k : Nat) : Prop := ∀ j, j < k → okP (ts.getD j []) = true
theorem okTo_all {ts : List (List UInt8)} (h : okTo ts ts.length) : caN ts = 0 := by
  unfold caN
  rw [if_pos]
  rw [List.all_eq_true]
  intro p hp
  obtain ⟨j, hj, rfl⟩ := List.mem_iff_getElem.1 hp
  have := h j hj
  simpa [List.getD_eq_getElem?_getD, hj] using this
theorem okTo_next {ts : List (List UInt8)} {k : Nat} (h : okTo ts k) (hn : okP (ts.getD k []) = true) : okTo ts (k + 1) := by
  intro j hj
  by_cases hjk : j = k
  · subst hjk; exact hn
  · exact h j (by omega)
theorem caN_bad {ts : List (List UInt8)} {k : Nat} (hk : k < ts.length) (hn : okP (ts.getD k []) = false) : caN ts = 45 := by
  unfold caN
  rw [if_neg]
  intro e
  have := List.all_eq_true.1 e (ts[k]) (List.getElem_mem hk)
  simp [List.getD_eq_getElem?_getD, hk] at hn
  rw [hn] at this
  cases this

set_option maxRecDepth 100000 in
set_option maxHeartbeats 1000000 in
theorem checkAll_any (v : Value) (ts : List (List UInt8)) (w : World) (h : Strs w v ts) (hb : ∀ t ∈ ts, t.length ≤ 9223372036854775807) (hn : ts.length ≤ 9223372036854775806) :
    Calls Tryd.prog 45 #[v] w fun e w' => e = .returned (.int .i64 (caN ts)) ∧ ∃ n, w' = w.drewN n := by
  obtain ⟨ao, c, rfl⟩ := h.shape
  have HS := hid h
  have HB := hid hb
  clear h hb
  go_enter Tryd.func45, Tryd.ntmps45
  go_wp2
  go_loopw [8] (fun i wr => ∃ k q : Nat, k ≤ ts.length ∧ i = .int .i64 k ∧ wr = w.drewN q ∧ okTo ts k) (fun i _ => ts.length - (intOf i).toNat)
  case atStart => exact ⟨0, 0, by omega, rfl, rfl, fun j hj => by omega⟩
  case round =>
    obtain ⟨k, q, hk, rfl, rfl, hto⟩ := hrel
    have HTO := hid hto
    clear hto
    by_cases hlt : k < ts.length
    · have q1 : (k : Int) < (ts.length : Int) := by omega
      obtain ⟨g, o, rfl, hc⟩ := HS.out.at k hlt
      have hbk : (ts.getD k []).length ≤ 9223372036854775807 := HB.out _ (by rw [List.getD_eq_getElem?_getD, List.getElem?_eq_getElem hlt]; exact List.getElem_mem hlt)
      cases hok : okP (ts.getD k []) with
      | true =>
        have HC := hid (check_is (mk (ts.getD k [])) 0 (by rw [bl_mk]; unfold chN; rw [hok]; rfl) (by rw [bl_mk]; exact hbk))
        have HX := hid (okTo_next HTO.out hok)
        clear hok hbk
        generalize mk (ts.getD k []) = x at *
        go_wp2_with (go_at_call 13; refine (HC.out _).mono ?_; rintro e w' ⟨rfl, n, rfl⟩)
        exact ⟨⟨k + 1, q + n, by omega, by simp, by simp, HX.out⟩, by simp [intOf]; omega⟩
      | false =>
        have HC := hid (check_is (mk (ts.getD k [])) 45 (by rw [bl_mk]; unfold chN; rw [hok]; rfl) (by rw [bl_mk]; exact hbk))
        have HX := hid (caN_bad hlt hok)
        clear hok hbk
        generalize mk (ts.getD k []) = x at *
        go_wp2_with (go_at_call 13; refine (HC.out _).mono ?_; rintro e w' ⟨rfl, n, rfl⟩)
        go_ret
        exact ⟨ret_i HX.out.symm, q + n, by simp⟩
    · have q1 : ¬ (k : Int) < (ts.length : Int) := by omega
      obtain rfl : k = ts.length := by omega
      go_wp2
      go_ret
      exact ⟨ret_i (okTo_all HTO.out).symm, q, rfl⟩

theorem caN_two (a b : List UInt8) : caN [a, b] = pN a b := by
  unfold caN pN
  simp
/-- both are paths: the two of them are looked at -/
theorem checkTwo (a b : ByteArray) (w : World) (ha : (bl a).length ≤ 9223372036854775807) (hb : (bl b).length ≤ 9223372036854775807) (x : Int) (hx : pN (bl a) (bl b) = x) :
    Calls Tryd.prog 45 #[.slice (some ⟨w.heap.size, 0, none⟩) 2 2] (w.alloc (.cells #[.string a, .string b] 9)) fun e w' => e = .returned (.int .i64 x) ∧ ∃ n, w' = (w.alloc (.cells #[.string a, .string b] 9)).drewN n := by
  rw [← hx, ← caN_two]
  exact checkAll_any _ [bl a, bl b] _ (strs_two w a b) (fun t ht => by simp at ht; rcases ht with rfl | rfl <;> assumption) (by simp)

theorem ret_bi {a b : Bool} {x y : Int} (h : a = b) (k : x = y) : Ending.returned (.tuple #[.bool a, .int .i64 x]) = .returned (.tuple #[.bool b, .int .i64 y]) := by rw [h, k]

set_option maxRecDepth 100000 in
set_option maxHeartbeats 1000000 in
theorem above_any (a b : ByteArray) (w : World) (ha : (bl a).length ≤ 9223372036854775807) (hb : (bl b).length ≤ 9223372036854775807) :
    Calls Tryd.prog 26 #[.string a, .string b] w fun e w' => e = .returned (.tuple #[.bool (abB (bl a) (bl b)), .int .i64 (pN (bl a) (bl b))]) ∧ Below w.heap.size w w' := by
  have HB := hid (below_walk w (.cells #[.string a, .string b] 9))
  by_cases hok : okP (bl a) = true ∧ okP (bl b) = true
  · have HP := hid (show pN (bl a) (bl b) = 0 by unfold pN; rw [if_pos hok])
    have HC := hid (checkTwo a b w ha hb 0 HP.out)
    have HA := hid (show abB (bl a) (bl b) = upP (nms (bl a)) (nms (bl b)) by unfold abB; rw [hok.1, hok.2]; rfl)
    by_cases h0 : bl a = []
    · have e1 : a.toList = [] := h0
      have HR := hid (show abB (bl a) (bl b) = decide (bl b ≠ []) by rw [HA.out, h0, above_root])
      clear h0 hok ha hb
      by_cases h1 : bl b = []
      · have e2 : b.toList = [] := h1
        have HD := hid (show decide (bl b ≠ []) = false by simp [h1])
        clear h1
        go_enter Tryd.func26, Tryd.ntmps26
        go_wp2_with (go_at_call 45; refine HC.out.mono ?_; rintro e w' ⟨rfl, n, rfl⟩)
        go_ret2
        exact ⟨ret_bi (by rw [HR.out, HD.out]) HP.out.symm, ⟨HB.out.os, HB.out.tape, HB.out.output, HB.out.size, HB.out.block⟩⟩
      · have e2 : b.toList.isEmpty = false := by simp; exact h1
        have e3 : ¬ b.toList = [] := h1
        have e4 : (b.toList != []) = true := by simp; exact h1
        have HD := hid (show decide (bl b ≠ []) = true by simp [h1])
        clear h1
        go_enter Tryd.func26, Tryd.ntmps26
        go_wp2_with (go_at_call 45; refine HC.out.mono ?_; rintro e w' ⟨rfl, n, rfl⟩)
        go_ret2
        exact ⟨ret_bi (by rw [HR.out, HD.out]) HP.out.symm, ⟨HB.out.os, HB.out.tape, HB.out.output, HB.out.size, HB.out.block⟩⟩
    · have e1 : a.toList.isEmpty = false := by simp; exact h0
      have HPR := hid (pre_any b (mk (bl a ++ [47])))
      have HR := hid (show abB (bl a) (bl b) = (bl a ++ [47]).isPrefixOf (bl b) by rw [HA.out, above_pre h0])
      rw [bl_mk, ← HR.out] at HPR
      have hshort := okP_short hok.1
      have hadd : ∀ W, (Op.stringOp .add a ⟨#[47]⟩).run Tryd.prog W = .ok (.string (mk (bl a ++ [47]))) W := by
        have := str_add (bl a) [47] (by simp; omega)
        rw [mk_bl] at this
        exact this
      clear h0 hok ha hb hshort
      go_enter Tryd.func26, Tryd.ntmps26
      go_wp2_with (first | (go_at_call 45; refine HC.out.mono ?_; rintro e w' ⟨rfl, n, rfl⟩) | (go_at_call 46; refine (HPR.out _).mono ?_; rintro e w' ⟨rfl, h0⟩; subst w'))
      go_ret2
      exact ⟨ret_bi rfl HP.out.symm, ⟨HB.out.os, HB.out.tape, HB.out.output, HB.out.size, HB.out.block⟩⟩
  · have HP := hid (show pN (bl a) (bl b) = 45 by unfold pN; rw [if_neg hok])
    have HC := hid (checkTwo a b w ha hb 45 HP.out)
    have HA := hid (show abB (bl a) (bl b) = false by
      unfold abB
      cases h1 : okP (bl a) <;> cases h2 : okP (bl b) <;> simp_all)
    clear hok ha hb
    go_enter Tryd.func26, Tryd.ntmps26
    go_wp2_with (go_at_call 45; refine HC.out.mono ?_; rintro e w' ⟨rfl, n, rfl⟩)
    go_ret2
    exact ⟨ret_bi HA.out.symm HP.out.symm, ⟨HB.out.os, HB.out.tape, HB.out.output, HB.out.size, HB.out.block⟩⟩

end Go.Proofs.YtoehopigjmmagaaDoor
