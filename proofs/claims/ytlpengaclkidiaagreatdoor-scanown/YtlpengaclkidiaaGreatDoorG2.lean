/- Contracts and pure facts that the proof needs, joined. -/
import Derived.Test.YtlpengaclkidiaaGreatDoorG1
import Derived.Lib.LastIndexByte
import Derived.Deep.QuietTactic
import Derived.Shelf.Strings.Builder1
import Derived.Shelf.Strings.Builder2
import Derived.Shelf.Strings.OnBuilder
import Derived.Shelf.Small.Strs
import Derived.Shelf.Strings.BuilderF
import Derived.Shelf.Strings.BuilderK
import Derived.Shelf.Utf8.RuneCount
import Derived.Shelf.Strconv.Clone
import Derived.Shelf.Strings.Search1
import Derived.Shelf.Strings.Search2
import Derived.Shelf.Strings.Search3
import Derived.Shelf.Strings.Cut
import Derived.Shelf.Strings.Count
import Derived.Shelf.Strings.LastIndex
import Derived.Shelf.Strings.Prefix
import Derived.Shelf.Strings.Split
import Derived.Shelf.Strings.SplitShaped
import Derived.Shelf.Strings.RuneCount
import Derived.Shelf.Strings.Explode
import Derived.Test.YtlpengaclkidiaaGreatDoorProg
import Derived.Laws.BitsAllLaws
import Derived.BigRegion

/- PathCleans: a written path leads where it should, from the root and from a directory. -/
namespace Go.Proofs.YtlpengaclkidiaaGreatDoor
open Go.RowKit

/-- does a written path begin with a dot piece? -/
def dotP (s : List UInt8) : Prop := (pcs s).headD [] = [46] ∨ (pcs s).headD [] = [46, 46]
def aimP (d s : List UInt8) : Except Int (List UInt8) :=
  if okP d = true then (if (pcs s).headD [] = [46] ∨ (pcs s).headD [] = [46, 46] then joinP d [s] else joinP [] [s]) else .error 45

theorem cut_any (s : ByteArray) (hs : (bl s).length ≤ 9223372036854775807) : ∃ (b : List UInt8) (f : Bool), ∀ w, Calls Tryz.prog 65 #[.string s, .string ⟨#[47]⟩] w fun e w' => e = .returned (.tuple #[.string (mk ((pcs (bl s)).headD [])), .string (mk b), .bool f]) ∧ ∃ n, w' = w.drewN n := by
  by_cases hm : (47 : UInt8) ∈ bl s
  · obtain ⟨a, b, hab, ha⟩ := slash_parts hm
    have e : (pcs (bl s)).headD [] = a := by rw [hab, pcs_append, pcs_whole ha]; rfl
    exact ⟨b, true, fun w => by rw [e]; exact cut_yes s a b w hab ha hs⟩
  · have e : (pcs (bl s)).headD [] = bl s := by rw [pcs_whole hm]; rfl
    exact ⟨[], false, fun w => by rw [e, mk_bl]; exact (cut_no s w hm).mono fun e w' ⟨h1, h2⟩ => ⟨h1, 0, h2⟩⟩

set_option maxRecDepth 100000 in
set_option maxHeartbeats 1000000 in
theorem aim_any (d s : ByteArray) (w : World) (hd : (bl d).length ≤ 9223372036854775807) (hs : (bl s).length ≤ 9223372036854775807) :
    Calls Tryz.prog 41 #[.string d, .string s] w fun e w' => e = .returned (.tuple #[.string (mk (aS (aimP (bl d) (bl s)))), .int .i64 (aN (aimP (bl d) (bl s)))]) ∧ Below w.heap.size w w' := by
  cases hok : okP (bl d) with
  | false =>
    have HC := hid (check_is d 45 (by unfold chN; rw [hok]; rfl) hd)
    have HR := hid (show aimP (bl d) (bl s) = .error 45 by unfold aimP; rw [hok]; rfl)
    clear hok hd hs
    go_enter Tryz.func41, Tryz.ntmps41
    go_wp2_with (go_at_call 39; refine (HC.out _).mono ?_; rintro e w' ⟨rfl, n, rfl⟩)
    go_ret2
    exact ⟨ret_si (by rw [HR.out]; rfl) (by rw [HR.out]; rfl), ⟨rfl, rfl, rfl, Nat.le_refl _, fun _ _ => rfl⟩⟩
  | true =>
    have HC := hid (check_is d 0 (by unfold chN; rw [hok]; rfl) hd)
    obtain ⟨b, f, hcut⟩ := cut_any s hs
    have HCU := hid hcut
    have HA := hid (show aimP (bl d) (bl s) = if (pcs (bl s)).headD [] = [46] ∨ (pcs (bl s)).headD [] = [46, 46] then joinP (bl d) [bl s] else joinP [] [bl s] by unfold aimP; rw [hok, if_pos rfl])
    have HJ := hid (fun w1 : World => join_any d _ [bl s] _ hd (pstrs_one w1 s) (by simp))
    have HCL := hid (clean_any s)
    obtain ⟨a, HAA⟩ : ∃ a, Hid ((pcs (bl s)).headD [] = a) := ⟨_, rfl⟩
    rw [HAA.out] at HCU HA
    have e0 : (mk a).toList = a := bl_mk a
    clear hok hd hs hcut
    by_cases h1 : a = [46] ∨ a = [46, 46]
    · have HR := hid (show aimP (bl d) (bl s) = joinP (bl d) [bl s] by rw [HA.out, if_pos h1])
      rcases h1 with rfl | rfl
      all_goals go_enter Tryz.func41, Tryz.ntmps41
      all_goals go_wp2_with (first | (go_at_call 39; refine (HC.out _).mono ?_; rintro e w' ⟨rfl, n, rfl⟩) | (go_at_call 65; refine (HCU.out _).mono ?_; rintro e w' ⟨rfl, n2, rfl⟩) | fail)
      all_goals refine (HJ.out (w.drewN (n + n2))).mono ?_
      all_goals rintro e w2 ⟨rfl, hb2⟩
      all_goals have HB2 := hid (below_d (below_tr (below_walk (w.drewN (n + n2)) _) (below_le hb2 (by simp))))
      all_goals clear hb2
      all_goals go_wp2
      all_goals go_ret2
      all_goals exact ⟨ret_si (by rw [HR.out]) (by rw [HR.out]), HB2.out⟩
    · have n1 : (a == [46]) = false := by
        have : a ≠ [46] := fun e => h1 (Or.inl e)
        simpa using this
      have n1' : ¬ a = [46] := fun e => h1 (Or.inl e)
      have n2 : (a == [46, 46]) = false := by
        have : a ≠ [46, 46] := fun e => h1 (Or.inr e)
        simpa using this
      have n2' : ¬ a = [46, 46] := fun e => h1 (Or.inr e)
      have HR := hid (show aimP (bl d) (bl s) = joinP [] [bl s] by rw [HA.out, if_neg h1])
      clear h1
      go_enter Tryz.func41, Tryz.ntmps41
      go_wp2_with (first | (go_at_call 39; refine (HC.out _).mono ?_; rintro e w' ⟨rfl, n, rfl⟩) | (go_at_call 65; refine (HCU.out _).mono ?_; rintro e w' ⟨rfl, n2, rfl⟩) | (go_at_call 70; refine (HCL.out _).mono ?_; rintro e w' ⟨rfl, hb⟩))
      go_ret2
      exact ⟨ret_si (by rw [HR.out]) (by rw [HR.out]), ⟨hb.os, hb.tape, hb.output, hb.size, hb.block⟩⟩

theorem head_get {P : List (List UInt8)} : P.headD [] = P.getD 0 [] := by cases P <;> rfl

set_option maxRecDepth 100000 in
set_option maxHeartbeats 1000000 in
theorem raim_any (d s : ByteArray) (w : World) (hd : (bl d).length ≤ 1099511627776) (hs : (bl s).length ≤ 1099511627776) :
    Calls Tryz.prog 30 #[.string d, .string s] w fun e w' => e = .returned (.tuple #[.string (mk (aS (aimP (bl d) (bl s)))), .int .i64 (aN (aimP (bl d) (bl s)))]) ∧ Below w.heap.size w w' := by
  have HPA := hid (rpath_any d w hd)
  cases hok : okP (bl d) with
  | false =>
    rw [hok] at HPA
    have HR := hid (show aimP (bl d) (bl s) = .error 45 by unfold aimP; rw [hok]; rfl)
    clear hok hd hs
    go_enter Tryz.func30, Tryz.ntmps30
    go_wp2_with (go_at_call 48; refine HPA.out.mono ?_; rintro e w1 ⟨rfl, hb⟩)
    go_ret2
    exact ⟨ret_si (by rw [HR.out]; rfl) (by rw [HR.out]; rfl), hb⟩
  | true =>
    rw [hok] at HPA
    have HA := hid (show aimP (bl d) (bl s) = if (pcs (bl s)).headD [] = [46] ∨ (pcs (bl s)).headD [] = [46, 46] then joinP (bl d) [bl s] else joinP [] [bl s] by unfold aimP; rw [hok, if_pos rfl])
    have HPI := hid (rpieces_any s · hs)
    have HJ := hid (fun w1 : World => rjoin_any d _ [bl s] _ hd (pstrs_one w1 s) (by simp))
    have HCL := hid (rclean_any s)
    have HPN := hid (pcs_ne (bl s))
    obtain ⟨a, HAA⟩ : ∃ a, Hid ((pcs (bl s)).headD [] = a) := ⟨_, rfl⟩
    rw [HAA.out] at HA
    have HG0 := hid (show (pcs (bl s)).getD 0 [] = a by rw [← head_get]; exact HAA.out)
    have e0 : (mk a).toList = a := bl_mk a
    clear hok hd hs
    go_enter Tryz.func30, Tryz.ntmps30
    go_wp2_with fail
    refine HPA.out.mono ?_
    rintro e w1 ⟨rfl, hb1⟩
    have HB1 := hid hb1
    clear hb1 HPA
    go_wp2_with fail
    refine (HPI.out w1).mono ?_
    rintro e w2 ⟨v, rfl, ho, hb2⟩
    have HB2 := hid (below_tr HB1.out (below_le hb2 HB1.out.size))
    rcases ho.forms with ⟨_, e⟩ | ⟨gp, cp, rfl, _, _, _, _, _, hc⟩
    · exact absurd e HPN.out
    have hpos : 0 < (pcs (bl s)).length := List.length_pos_iff.2 HPN.out
    have hc0 := hc 0 hpos
    rw [HG0.out] at hc0
    have q0 : (0 : Int) < ((pcs (bl s)).length : Int) := by omega
    clear hc hb2 ho HPI
    by_cases h1 : a = [46] ∨ a = [46, 46]
    · have HR := hid (show aimP (bl d) (bl s) = joinP (bl d) [bl s] by rw [HA.out, if_pos h1])
      rcases h1 with rfl | rfl
      all_goals go_wp2_with fail
      all_goals refine (HJ.out w2).mono ?_
      all_goals rintro e w3 ⟨rfl, hb3⟩
      all_goals have HB3 := hid (below_tr HB2.out (below_le (below_tr (below_walk w2 _) (below_le hb3 (by simp))) HB2.out.size))
      all_goals clear hb3
      all_goals go_wp2
      all_goals go_ret2
      all_goals exact ⟨ret_si (by rw [HR.out]) (by rw [HR.out]), HB3.out⟩
    · have n1 : (a == [46]) = false := by
        have : a ≠ [46] := fun e => h1 (Or.inl e)
        simpa using this
      have n1' : ¬ a = [46] := fun e => h1 (Or.inl e)
      have n2 : (a == [46, 46]) = false := by
        have : a ≠ [46, 46] := fun e => h1 (Or.inr e)
        simpa using this
      have n2' : ¬ a = [46, 46] := fun e => h1 (Or.inr e)
      have HR := hid (show aimP (bl d) (bl s) = joinP [] [bl s] by rw [HA.out, if_neg h1])
      clear h1
      go_wp2_with (go_at_call 51; refine (HCL.out _).mono ?_; rintro e w3 ⟨rfl, hb⟩)
      go_ret2
      exact ⟨ret_si (by rw [HR.out]) (by rw [HR.out]), below_tr HB2.out (below_le hb HB2.out.size)⟩

end Go.Proofs.YtlpengaclkidiaaGreatDoor

/- Which path is above another; a path's directory and last name, plainly. -/
namespace Go.Proofs.YtlpengaclkidiaaGreatDoor

/-- the first names of the other's, and fewer -/
def upP (x y : List (List UInt8)) : Bool := decide (x.length < y.length ∧ y.take x.length = x)
def abB (a b : List UInt8) : Bool := okP a && okP b && upP (nms a) (nms b)
/-- the number where two paths are asked for -/
def pN (a b : List UInt8) : Int := if okP a = true ∧ okP b = true then 0 else 45
def caN (ts : List (List UInt8)) : Int := if ts.all okP = true then 0 else 45

theorem txt_app {x r : List (List UInt8)} (hx : x ≠ []) (hr : r ≠ []) : txt (x ++ r) = txt x ++ 47 :: txt r := by
  cases x with
  | nil => exact absurd rfl hx
  | cons p x =>
    cases r with
    | nil => exact absurd rfl hr
    | cons q r => simp [txt]
theorem upP_iff {x y : List (List UInt8)} : upP x y = true ↔ ∃ r, r ≠ [] ∧ y = x ++ r := by
  unfold upP
  rw [decide_eq_true_iff]
  constructor
  · rintro ⟨h1, h2⟩
    refine ⟨y.drop x.length, ?_, ?_⟩
    · intro e
      have := congrArg List.length e
      simp at this
      omega
    · conv => lhs; rw [← List.take_append_drop x.length y, h2]
  · rintro ⟨r, hr, rfl⟩
    have : 0 < r.length := List.length_pos_iff.2 hr
    exact ⟨by simp; omega, by simp⟩
theorem above_pre {a b : List UInt8} (h0 : a ≠ []) : (a ++ [47]).isPrefixOf b = upP (nms a) (nms b) := by
  rw [Bool.eq_iff_iff, List.isPrefixOf_iff_prefix, upP_iff]
  have ea : nms a = pcs a := by unfold nms; rw [if_neg h0]
  constructor
  · rintro ⟨t, rfl⟩
    refine ⟨pcs t, pcs_ne t, ?_⟩
    have hne : a ++ [47] ++ t ≠ [] := by simp
    have e : nms (a ++ [47] ++ t) = pcs (a ++ [47] ++ t) := by unfold nms; rw [if_neg hne]
    rw [e, ea, List.append_assoc]
    exact pcs_append a t
  · rintro ⟨r, hr, e⟩
    refine ⟨txt r, ?_⟩
    have := txt_nms b
    rw [e, txt_app (by rw [ea]; exact pcs_ne a) hr, txt_nms] at this
    rw [← this]; simp
theorem above_root {b : List UInt8} : upP (nms []) (nms b) = decide (b ≠ []) := by
  rw [Bool.eq_iff_iff, upP_iff, decide_eq_true_iff]
  constructor
  · rintro ⟨r, hr, e⟩ rfl
    exact hr (by simpa [nms] using e.symm)
  · intro h
    exact ⟨nms b, by unfold nms; rw [if_neg h]; exact pcs_ne b, rfl⟩

def spD (s : List UInt8) : List UInt8 := if okP s = true then txt (nms s).dropLast else []
def spN (s : List UInt8) : List UInt8 := if okP s = true then (nms s).getLastD [] else []
def spE (s : List UInt8) : Int := if okP s = true then (if s = [] then 46 else 0) else 45

end Go.Proofs.YtlpengaclkidiaaGreatDoor

/- Above: which of two paths is above the other. -/
namespace Go.Proofs.YtlpengaclkidiaaGreatDoor
open Go.RowKit

def okTo (ts : List (List UInt8)) (k : Nat) : Prop := ∀ j, j < k → okP (ts.getD j []) = true
theorem okTo_all {ts : List (List UInt8)} (h : okTo ts ts.length) : caN ts = 0 := by
  unfold caN
  rw [if_pos]
  rw [List.all_eq_true]
  intro p hp
  obtain ⟨j, hj, rfl⟩ := List.mem_iff_getElem.1 hp
  have := h j hj
  simpa [List.getD_eq_getElem?_getD, hj] using this
theorem okTo_next {ts : List (List UInt8)} {k : Nat} (h : okTo ts k) (hn : okP (ts.getD k []) = true) : okTo ts (k + 1) := by
  intro j hj
  by_cases hjk : j = k
  · subst hjk; exact hn
  · exact h j (by omega)
theorem caN_bad {ts : List (List UInt8)} {k : Nat} (hk : k < ts.length) (hn : okP (ts.getD k []) = false) : caN ts = 45 := by
  unfold caN
  rw [if_neg]
  intro e
  have := List.all_eq_true.1 e (ts[k]) (List.getElem_mem hk)
  simp [List.getD_eq_getElem?_getD, hk] at hn
  rw [hn] at this
  cases this

theorem ret_bi {a b : Bool} {x y : Int} (h : a = b) (k : x = y) : Ending.returned (.tuple #[.bool a, .int .i64 x]) = .returned (.tuple #[.bool b, .int .i64 y]) := by rw [h, k]

end Go.Proofs.YtlpengaclkidiaaGreatDoor

/- Split: a path's directory and its last name. -/
namespace Go.Proofs.YtlpengaclkidiaaGreatDoor
open Go.RowKit

/-- a text's byte as the library tells it -/
theorem data_at (s : ByteArray) (j : Nat) (hj : j < s.size) : s.data[j]! = (bl s).getD j 0 := by
  rw [bl_eq]
  have h : j < s.data.size := hj
  rw [getElem!_pos s.data j h]
  simp [List.getD_eq_getElem?_getD]
  rw [Array.getElem?_eq_getElem h]
  rfl

theorem last_slash (s : ByteArray) : (Lib.lastIndexByte s 47 = -1 ∧ (47 : UInt8) ∉ bl s) ∨ ∃ a b, bl s = a ++ 47 :: b ∧ (47 : UInt8) ∉ b ∧ Lib.lastIndexByte s 47 = (a.length : Int) := by
  have hsz := bl_size s
  have conv : ∀ c : UInt8, (c.toNat : Int) = 47 → c = 47 := fun c h => UInt8.toNat_inj.1 (by rw [show (47 : UInt8).toNat = 47 from rfl]; omega)
  rcases Lib.lastIndexByte_spec s 47 with ⟨h1, h2⟩ | ⟨i, h1, h2, h3, h4⟩
  · refine Or.inl ⟨h1, fun hm => ?_⟩
    obtain ⟨j, hj, e⟩ := List.mem_iff_getElem.1 hm
    have := h2 j (by omega)
    rw [data_at s j (by omega)] at this
    simp [List.getD_eq_getElem?_getD, hj, e] at this
  · have hi : i < (bl s).length := by omega
    rw [data_at s i h1] at h3
    have e47 := conv _ h3
    refine Or.inr ⟨(bl s).take i, (bl s).drop (i + 1), ?_, fun hm => ?_, ?_⟩
    · rw [← e47]
      have e : (bl s).getD i 0 :: (bl s).drop (i + 1) = (bl s).drop i := by
        rw [List.drop_eq_getElem_cons hi]
        simp [List.getD_eq_getElem?_getD, hi]
      rw [e, List.take_append_drop]
    · obtain ⟨j, hj, e⟩ := List.mem_iff_getElem.1 hm
      simp at hj
      have := h4 (i + 1 + j) (by omega) (by omega)
      rw [data_at s (i + 1 + j) (by omega)] at this
      rw [List.getElem_drop] at e
      simp [List.getD_eq_getElem?_getD, show i + 1 + j < (bl s).length by omega, e] at this
    · rw [h2, List.length_take]
      congr 1
      omega

theorem ret_ssi {a b c d : List UInt8} {x y : Int} (h : a = b) (g : c = d) (k : x = y) : Ending.returned (.tuple #[.string (mk a), .string (mk c), .int .i64 x]) = .returned (.tuple #[.string (mk b), .string (mk d), .int .i64 y]) := by rw [h, g, k]

set_option maxRecDepth 100000 in
set_option maxHeartbeats 1000000 in
theorem psplit_any (s : ByteArray) (w : World) (hs : (bl s).length ≤ 9223372036854775807) :
    Calls Tryz.prog 20 #[.string s] w fun e w' => e = .returned (.tuple #[.string (mk (spD (bl s))), .string (mk (spN (bl s))), .int .i64 (spE (bl s))]) ∧ ∃ n, w' = w.drewN n := by
  cases hok : okP (bl s) with
  | false =>
    have HC := hid (check_is s 45 (by unfold chN; rw [hok]; rfl) hs)
    have HD := hid (show spD (bl s) = [] by unfold spD; rw [hok]; rfl)
    have HN := hid (show spN (bl s) = [] by unfold spN; rw [hok]; rfl)
    have HE := hid (show spE (bl s) = 45 by unfold spE; rw [hok]; rfl)
    clear hok hs
    go_enter Tryz.func20, Tryz.ntmps20
    go_wp2_with (go_at_call 39; refine (HC.out _).mono ?_; rintro e w' ⟨rfl, n, rfl⟩)
    go_ret3
    exact ⟨ret_ssi HD.out.symm HN.out.symm HE.out.symm, n, rfl⟩
  | true =>
    have HC := hid (check_is s 0 (by unfold chN; rw [hok]; rfl) hs)
    have hsh := okP_short hok
    by_cases h0 : bl s = []
    · have e1 : s.toList = [] := h0
      have HD := hid (show spD (bl s) = [] by rw [h0]; rfl)
      have HN := hid (show spN (bl s) = [] by rw [h0]; rfl)
      have HE := hid (show spE (bl s) = 46 by rw [h0]; rfl)
      clear hok hs h0 hsh
      go_enter Tryz.func20, Tryz.ntmps20
      go_wp2_with (go_at_call 39; refine (HC.out _).mono ?_; rintro e w' ⟨rfl, n, rfl⟩)
      go_ret3
      exact ⟨ret_ssi HD.out.symm HN.out.symm HE.out.symm, n, rfl⟩
    · have e1 : s.toList.isEmpty = false := by simp; exact h0
      have hnm : nms (bl s) = pcs (bl s) := by unfold nms; rw [if_neg h0]
      have HE := hid (show spE (bl s) = 0 by unfold spE; rw [hok, if_pos rfl, if_neg h0])
      have hlt := Tryz.strings_LastIndex_one s ⟨#[47]⟩ rfl (by rw [bl_size]; omega)
      have HL : Hid (∀ W, Calls Tryz.prog 40 #[.string s, .string ⟨#[47]⟩] W fun e w' => e = .returned (.int .i64 (Lib.lastIndexByte s 47)) ∧ w' = W) := hlt
      clear hlt
      rcases last_slash s with ⟨h1, h2⟩ | ⟨a, b, h1, h2, h3⟩
      · rw [h1] at HL
        have HD := hid (show spD (bl s) = [] by unfold spD; rw [hok, if_pos rfl, hnm, pcs_whole h2]; rfl)
        have HN := hid (show spN (bl s) = bl s by unfold spN; rw [hok, if_pos rfl, hnm, pcs_whole h2]; rfl)
        have HM := hid (mk_bl s)
        clear hok hs h0 hsh hnm h1 h2
        go_enter Tryz.func20, Tryz.ntmps20
        go_wp2_with (first | (go_at_call 39; refine (HC.out _).mono ?_; rintro e w' ⟨rfl, n, rfl⟩) | (go_at_call 40; refine (HL.out _).mono ?_; rintro e w' ⟨rfl, hw⟩; subst w'))
        go_ret3
        rw [HD.out, HN.out, HE.out, HM.out]
        exact ⟨rfl, n, rfl⟩
      · rw [h3] at HL
        have epc : pcs (bl s) = pcs a ++ [b] := by rw [h1, pcs_append, pcs_whole h2]
        have HD := hid (show spD (bl s) = a by unfold spD; rw [hok, if_pos rfl, hnm, epc, List.dropLast_concat, txt_pcs])
        have HN := hid (show spN (bl s) = b by unfold spN; rw [hok, if_pos rfl, hnm, epc]; simp)
        have hsz : s.size = a.length + 1 + b.length := by rw [bl_size, h1]; simp; omega
        have HE1 := hid (show s.extract 0 a.length = mk a by rw [ext_bl, h1]; simp)
        have HE2 := hid (show s.extract (a.length + 1) s.size = mk b by
          rw [ext_bl, hsz, h1, List.take_of_length_le (by simp; omega), ← List.drop_drop, List.drop_left]; rfl)
        have mixed : Tryz.prog.follows Departure.mixedOrders = true := by kernel_rfl
        have hal : a.length ≤ 2080 := by rw [h1] at hsh; simp at hsh; omega
        have hw : IntKind.i64.wrap ((a.length : Int) + 1) = (a.length : Int) + 1 := by rw [IntKind.wrap_i64]; omega
        have c1 : (0 : Int) ≤ (a.length : Int) := by omega
        have c0 : ¬ (a.length : Int) < 0 := by omega
        have c2 : (a.length : Int) ≤ (s.size : Int) := by omega
        have c3 : (0 : Int) ≤ (a.length : Int) + 1 := by omega
        have c4 : (a.length : Int) + 1 ≤ (s.size : Int) := by omega
        clear hok hs h0 hsh hnm h1 h2 h3 epc hsz
        go_enter Tryz.func20, Tryz.ntmps20
        go_wp2_with (first | (go_at_call 39; refine (HC.out _).mono ?_; rintro e w' ⟨rfl, n, rfl⟩) | (go_at_call 40; refine (HL.out _).mono ?_; rintro e w' ⟨rfl, hw⟩; subst w'))
        go_region_o
        go_wp2
        go_ret3
        rw [HD.out, HN.out, HE.out, ← HE1.out, ← HE2.out]
        exact ⟨rfl, n + 1, rfl⟩

end Go.Proofs.YtlpengaclkidiaaGreatDoor

/- PathParts: two written paths one behind the other lead where both at once do. -/
namespace Go.Proofs.YtlpengaclkidiaaGreatDoor
open Go.RowKit

theorem aN_err {r : Except Int (List UInt8)} (h : aN r ≠ 0) : aS r = [] := by
  cases r with
  | ok s => exact absurd rfl h
  | error e => rfl

theorem parts_pure {B a b t : List UInt8} (h : joinP B [a] = .ok t) : joinP t [b] = joinP B [a, b] := by
  obtain ⟨m, hB, hw, hp, rfl⟩ := joinP_ok h
  have hw2 : walkP (nms B) a = .ok m := by
    simp only [walksP] at hw
    split at hw
    · rename_i k hk; cases hw; exact hk
    · cases hw
  unfold joinP
  rw [okP_txt hp, hB, if_pos rfl, if_pos rfl, nms_txt hp.1]
  simp only [walksP, hw2]
theorem joinP_num {B : List UInt8} {more : List (List UInt8)} {e : Int} (h : joinP B more = .error e) : e ≠ 0 := by
  unfold joinP at h
  split at h
  · unfold finP at h
    split at h
    · unfold endP at h
      split at h
      · cases h; decide
      · cases h
    · rename_i x hx
      have := walksP_err hx
      cases h
      omega
  · cases h; decide
theorem joinP_len {B : List UInt8} {more : List (List UInt8)} : (aS (joinP B more)).length ≤ 2080 := by
  cases h : joinP B more with
  | error e => simp [aS]
  | ok t =>
    obtain ⟨m, _, _, hp, rfl⟩ := joinP_ok h
    exact okP_short (okP_txt hp)

end Go.Proofs.YtlpengaclkidiaaGreatDoor

/- PathInside: nothing escapes: a written path never leads outside of where it begins. -/
namespace Go.Proofs.YtlpengaclkidiaaGreatDoor
open Go.RowKit

theorem steps_names : ∀ {r l : List (List UInt8)}, (∀ p ∈ r, nmP p = true) → stepsP l r = .ok (l ++ r)
  | [], l, _ => by simp [stepsP]
  | p :: r, l, h => by
    obtain ⟨h1, h2, h3⟩ := nmP_ne (h p (by simp))
    have e : stepP l p = .ok (l ++ [p]) := by unfold stepP; rw [if_neg (by simp [h1, h2]), if_neg h3, if_pos (h p (by simp))]
    rw [stepsP, e]
    show stepsP (l ++ [p]) r = _
    rw [steps_names (fun q hq => h q (List.mem_cons_of_mem _ hq)), List.append_assoc]
    rfl
/-- a path that is walked from names on: its names come behind -/
theorem walk_path {l : List (List UInt8)} {s : List UInt8} (h : okP s = true) : walkP l s = .ok (l ++ nms s) := by
  have hs := okP_short h
  have hp := (okP_iff s).1 h
  unfold walkP
  rw [if_neg (by omega)]
  by_cases h0 : s = []
  · subst h0
    rw [if_neg (by simp)]
    simp [pcs, stepsP, stepP, nms]
  · have e : nms s = pcs s := by unfold nms; rw [if_neg h0]
    rw [e] at hp ⊢
    rw [if_neg, steps_names hp.1]
    intro hh
    cases s with
    | nil => simp at hh
    | cons c r =>
      simp at hh
      subst hh
      rw [pcs_slash] at hp
      have := (nmP_ne (hp.1 [] (by simp))).1
      exact this rfl
theorem clean_path {s : List UInt8} (h : okP s = true) : joinP [] [s] = .ok s := by
  unfold joinP
  rw [okP_nil, if_pos rfl]
  have e : walksP (nms []) [s] = .ok (nms s) := by
    rw [walksP, walk_path h]
    rfl
  rw [e]
  unfold finP endP
  simp only
  rw [if_neg (by have := ((okP_iff s).1 h).2; omega), txt_nms]

theorem steps_on : ∀ {r l m : List (List UInt8)}, stepsP l r = .ok m → (∀ p ∈ r, p ≠ [46, 46]) → ∃ t, m = l ++ t
  | [], l, m, h, _ => by cases h; exact ⟨[], by simp⟩
  | p :: r, l, m, h, hn => by
    unfold stepsP at h
    split at h
    · rename_i k hk
      obtain ⟨t, rfl⟩ := steps_on h (fun q hq => hn q (List.mem_cons_of_mem _ hq))
      unfold stepP at hk
      rw [if_neg (hn p (by simp))] at hk
      split at hk
      · cases hk; exact ⟨t, rfl⟩
      · split at hk
        · cases hk; exact ⟨p :: t, by simp⟩
        · cases hk
    · cases h
theorem walks_on : ∀ {r l m : List (List UInt8)}, walksP l r = .ok m → (∀ s ∈ r, ∀ p ∈ pcs s, p ≠ [46, 46]) → ∃ t, m = l ++ t
  | [], l, m, h, _ => by cases h; exact ⟨[], by simp⟩
  | s :: r, l, m, h, hn => by
    unfold walksP at h
    split at h
    · rename_i k hk
      obtain ⟨t, rfl⟩ := walks_on h (fun q hq => hn q (List.mem_cons_of_mem _ hq))
      unfold walkP at hk
      split at hk
      · cases hk
      · split at hk
        · cases hk
        · obtain ⟨u, rfl⟩ := steps_on hk (hn s (by simp))
          exact ⟨u ++ t, by simp⟩
    · cases h
theorem inside_pure {B s : List UInt8} {more : List (List UInt8)} (h : joinP B more = .ok s) (hn : ∀ t ∈ more, ∀ p ∈ pcs t, p ≠ [46, 46]) : abB B s = true ∨ B = s := by
  obtain ⟨m, hB, hw, hp, rfl⟩ := joinP_ok h
  obtain ⟨t, rfl⟩ := walks_on hw hn
  by_cases ht : t = []
  · subst ht
    right
    rw [List.append_nil, txt_nms]
  · left
    unfold abB
    rw [hB, okP_txt hp, nms_txt hp.1, upP_iff.2 ⟨t, ht, rfl⟩]
    rfl

/-- so far no piece leads up -/
def noUp (more : List (List UInt8)) (k : Nat) : Prop := ∀ j, j < k → ∀ p ∈ pcs (more.getD j []), p ≠ [46, 46]
theorem noUp_all {more : List (List UInt8)} (h : noUp more more.length) : ∀ t ∈ more, ∀ p ∈ pcs t, p ≠ [46, 46] := by
  intro t ht
  obtain ⟨j, hj, rfl⟩ := List.mem_iff_getElem.1 ht
  have := h j hj
  rw [List.getD_eq_getElem?_getD, List.getElem?_eq_getElem hj] at this
  exact this
theorem noUp_next {more P : List (List UInt8)} {k : Nat} (h : noUp more k) (hP : pcs (more.getD k []) = P) (hn : ∀ i, i < P.length → P.getD i [] ≠ [46, 46]) : noUp more (k + 1) := by
  intro j hj
  by_cases hjk : j = k
  · subst hjk
    rw [hP]
    intro p hp
    obtain ⟨i, hi, rfl⟩ := List.mem_iff_getElem.1 hp
    have := hn i hi
    rw [List.getD_eq_getElem?_getD, List.getElem?_eq_getElem hi] at this
    exact this
  · exact h j (by omega)

end Go.Proofs.YtlpengaclkidiaaGreatDoor

/- PathOf: names make the path that they should. -/
namespace Go.Proofs.YtlpengaclkidiaaGreatDoor
open Go.RowKit

/-- the path of any texts -/
def ofP (ts : List (List UInt8)) : Except Int (List UInt8) := if ts.all nmP = true then endP ts else .error 42
theorem ofP_bad {ts : List (List UInt8)} {k : Nat} (hk : k < ts.length) (hn : nmP (ts.getD k []) = false) : ofP ts = .error 42 := by
  unfold ofP
  rw [if_neg]
  intro e
  have := List.all_eq_true.1 e (ts[k]) (List.getElem_mem hk)
  simp [List.getD_eq_getElem?_getD, hk] at hn
  rw [hn] at this
  cases this
theorem ofP_ok {ts : List (List UInt8)} (h : ∀ p ∈ ts, nmP p = true) : ofP ts = endP ts := by
  unfold ofP
  rw [if_pos (List.all_eq_true.2 h)]

end Go.Proofs.YtlpengaclkidiaaGreatDoor

/- PathSplits: a path is its directory and its last name. -/
namespace Go.Proofs.YtlpengaclkidiaaGreatDoor
open Go.RowKit

theorem okP_name {n : List UInt8} (h : nmP n = true) : okP n = true ∧ nms n = [n] := by
  have h1 : nms n = [n] := by
    have := nms_txt (l := [n]) (by simp [h])
    rw [txt_one] at this
    exact this
  refine ⟨?_, h1⟩
  rw [okP_iff, h1]
  exact ⟨by simp [h], by simp⟩
theorem splits_pure {s : List UInt8} (h : okP s = true) (h0 : s ≠ []) : nmP (spN s) = true ∧ joinP (spD s) [spN s] = .ok s ∧ abB (spD s) s = true ∧ pN (spD s) s = 0 ∧ (spD s).length ≤ 2080 := by
  have hp := (okP_iff s).1 h
  have hne : nms s ≠ [] := by unfold nms; rw [if_neg h0]; exact pcs_ne s
  have hl : (nms s).getLastD [] = (nms s).getLast hne := by
    rw [List.getLastD_eq_getLast?, List.getLast?_eq_some_getLast hne]
    rfl
  have hD : spD s = txt (nms s).dropLast := by unfold spD; rw [h, if_pos rfl]
  have hN : spN s = (nms s).getLast hne := by unfold spN; rw [h, if_pos rfl, hl]
  have hcat := List.dropLast_concat_getLast hne
  have hnn : nmP (spN s) = true := by rw [hN]; exact hp.1 _ (List.getLast_mem hne)
  have hpd : pathL (nms s).dropLast := ⟨fun p hq => hp.1 p ((List.dropLast_sublist _).subset hq), by have := hp.2; simp; omega⟩
  have hod : okP (spD s) = true := by rw [hD]; exact okP_txt hpd
  have hnd : nms (spD s) = (nms s).dropLast := by rw [hD]; exact nms_txt hpd.1
  obtain ⟨hon, hnn2⟩ := okP_name hnn
  refine ⟨hnn, ?_, ?_, ?_, okP_short hod⟩
  · unfold joinP
    rw [hod, if_pos rfl]
    have e : walksP (nms (spD s)) [spN s] = .ok (nms s) := by
      rw [walksP, walk_path hon]
      show Except.ok (nms (spD s) ++ nms (spN s)) = _
      rw [hnd, hnn2, hN, hcat]
    rw [e]
    unfold finP endP
    simp only
    rw [if_neg (by have := hp.2; omega), txt_nms]
  · unfold abB
    rw [hod, h, hnd, upP_iff.2 ⟨[(nms s).getLast hne], by simp, hcat.symm⟩]
    rfl
  · unfold pN; rw [if_pos ⟨hod, h⟩]

end Go.Proofs.YtlpengaclkidiaaGreatDoor

/- How many names two rows begin with, of both sides. -/
namespace Go.Proofs.YtlpengaclkidiaaGreatDoor
open Go.RowKit

def comL : List (List UInt8) → List (List UInt8) → Nat
  | x :: a, y :: b => if x = y then comL a b + 1 else 0
  | _, _ => 0
theorem comL_is : ∀ {k : Nat} {x y : List (List UInt8)}, k ≤ x.length → k ≤ y.length → x.take k = y.take k → (k = x.length ∨ k = y.length ∨ x.getD k [] ≠ y.getD k []) → comL x y = k
  | 0, [], y, _, _, _, _ => by cases y <;> rfl
  | 0, x :: a, [], _, _, _, _ => rfl
  | 0, x :: a, y :: b, _, _, _, h => by
    have : x ≠ y := by simpa using h
    simp [comL, this]
  | k + 1, [], _, h, _, _, _ => by simp at h
  | k + 1, x :: a, [], _, h, _, _ => by simp at h
  | k + 1, x :: a, y :: b, h1, h2, h3, h4 => by
    simp only [List.take_succ_cons, List.cons.injEq] at h3
    obtain ⟨rfl, h3⟩ := h3
    have ih := comL_is (k := k) (x := a) (y := b) (by simpa using h1) (by simpa using h2) h3 (by simpa using h4)
    simp [comL, ih]
theorem take_next {x y : List (List UInt8)} {k : Nat} (h1 : k < x.length) (h2 : k < y.length) (h : x.take k = y.take k) (e : x.getD k [] = y.getD k []) : x.take (k + 1) = y.take (k + 1) := by
  rw [List.take_succ_eq_append_getElem h1, List.take_succ_eq_append_getElem h2, h]
  simp [List.getD_eq_getElem?_getD, h1, h2] at e
  rw [e]
theorem comL_le : ∀ (x y : List (List UInt8)), comL x y ≤ x.length ∧ comL x y ≤ y.length ∧ x.take (comL x y) = y.take (comL x y)
  | [], y => by cases y <;> simp [comL]
  | x :: a, [] => by simp [comL]
  | x :: a, y :: b => by
    have ih := comL_le a b
    by_cases h : x = y
    · subst h
      rw [show comL (x :: a) (x :: b) = comL a b + 1 by simp [comL]]
      exact ⟨by simp; omega, by simp; omega, by rw [List.take_succ_cons, List.take_succ_cons, ih.2.2]⟩
    · simp [comL, h]

end Go.Proofs.YtlpengaclkidiaaGreatDoor

/- Slices of texts, cut. -/
namespace Go.Proofs.YtlpengaclkidiaaGreatDoor
open Go.RowKit

theorem at_off (g o j : Nat) : (⟨g, o, none⟩ : Addr).add j = ⟨g, o + j, none⟩ := by
  by_cases h0 : j = 0 <;> simp [Addr.add, h0]

/-- the first ones -/
theorem cut_to {w : World} {v : Value} {ts : List (List UInt8)} (h : Strs w v ts) (k : Nat) (hk : k ≤ ts.length) :
    ∃ vx, Strs w vx (ts.take k) ∧ (∀ W, (Instr.slice 34 v none (some (.int .i64 (k : Int))) none).run Tryz.prog W = .ok vx W) := by
  rcases h with ⟨ao, c, rfl, rfl, h0⟩ | ⟨g, o, c, rfl, hlt, h1, hc⟩
  · simp at hk
    subst hk
    cases ao with
    | none =>
      obtain rfl := h0 rfl
      exact ⟨.slice none 0 0, Or.inl ⟨_, _, rfl, rfl, fun _ => rfl⟩, fun W => by go_simp⟩
    | some ad => exact ⟨.slice (some ad) 0 c, Or.inl ⟨_, _, rfl, rfl, fun e => by cases e⟩, fun W => sl_to ad 0 c 0 (Nat.zero_le _) W⟩
  · have hlen : (ts.take k).length = k := by simp; omega
    refine ⟨.slice (some ⟨g, o, none⟩) k c, Or.inr ⟨g, o, c, by rw [hlen], hlt, by omega, fun j hj => ?_⟩, fun W => sl_to _ _ c k (by omega) W⟩
    rw [hlen] at hj
    rw [hc j (by omega)]
    simp [List.getD_eq_getElem?_getD, hj]
/-- what comes behind the first ones -/
theorem cut_from {w : World} {v : Value} {ts : List (List UInt8)} (h : Strs w v ts) (k : Nat) (hk : k ≤ ts.length) :
    ∃ vx, Strs w vx (ts.drop k) ∧ (∀ W, (Instr.slice 34 v (some (.int .i64 (k : Int))) none none).run Tryz.prog W = .ok vx W) := by
  rcases h with ⟨ao, c, rfl, rfl, h0⟩ | ⟨g, o, c, rfl, hlt, h1, hc⟩
  · simp at hk
    subst hk
    cases ao with
    | none =>
      obtain rfl := h0 rfl
      exact ⟨.slice none 0 0, Or.inl ⟨_, _, rfl, rfl, fun _ => rfl⟩, fun W => by go_simp⟩
    | some ad =>
      refine ⟨.slice (if c = 0 then some ad else some (ad.add 0)) 0 c, Or.inl ⟨_, _, rfl, rfl, fun e => ?_⟩, fun W => by go_simp⟩
      split at e <;> cases e
  · have hlen : (ts.drop k).length = ts.length - k := by simp
    have hk2 : (k : Int) ≤ (ts.length : Int) := by omega
    refine ⟨.slice (if c = k then some ⟨g, o, none⟩ else some ((⟨g, o, none⟩ : Addr).add k)) (ts.length - k) (c - k), ?_, fun W => by go_simp⟩
    by_cases hck : c = k
    · rw [if_pos hck]
      have e0 : ts.length - k = 0 := by omega
      refine Or.inl ⟨_, _, by rw [e0], ?_, fun e => by cases e⟩
      exact List.length_eq_zero_iff.1 (by rw [hlen]; exact e0)
    · rw [if_neg hck, at_off]
      refine Or.inr ⟨g, o + k, c - k, by rw [hlen], hlt, by rw [hlen]; omega, fun j hj => ?_⟩
      rw [hlen] at hj
      rw [Nat.add_assoc, hc (k + j) (by omega)]
      simp [List.getD_eq_getElem?_getD]

end Go.Proofs.YtlpengaclkidiaaGreatDoor

/- The document's Split. -/
namespace Go.Proofs.YtlpengaclkidiaaGreatDoor
open Go.RowKit

set_option maxRecDepth 100000 in
set_option maxHeartbeats 1000000 in
theorem rsplit_any (s : ByteArray) (w : World) (hs : (bl s).length ≤ 1048576) :
    Calls Tryz.prog 29 #[.string s] w fun e w' => e = .returned (.tuple #[.string (mk (spD (bl s))), .string (mk (spN (bl s))), .int .i64 (spE (bl s))]) ∧ Below w.heap.size w w' := by
  have HN := hid (rnames_any s w (by omega))
  clear hs
  go_enter Tryz.func29, Tryz.ntmps29
  go_wp2_with fail
  refine HN.out.mono ?_
  rintro e w1 ⟨⟨ok, v, rfl, ho⟩ | ⟨ok, rfl⟩, hb⟩
  · have hpl := (okP_iff _).1 ok
    have HB := hid hb
    have HPL := hid hpl
    by_cases h0 : bl s = []
    · have hD : spD (bl s) = [] := by rw [h0]; rfl
      have hN : spN (bl s) = [] := by rw [h0]; rfl
      have hE : spE (bl s) = 46 := by rw [h0]; rfl
      have hn : nms (bl s) = [] := by rw [h0]; rfl
      rw [hn] at ho
      obtain ⟨a, c, rfl⟩ := ho.strs.shape
      have H1 := hid hD
      have H2 := hid hN
      have H3 := hid hE
      clear hD hN hE hn h0 hb ok hpl HN ho HPL
      go_wp2
      go_ret3
      exact ⟨ret_ssi H1.out.symm H2.out.symm H3.out.symm, HB.out⟩
    · have hne : nms (bl s) ≠ [] := by unfold nms; rw [if_neg h0]; exact pcs_ne _
      have hpos : 0 < (nms (bl s)).length := List.length_pos_iff.2 hne
      obtain ⟨I, HI⟩ : ∃ I : Nat, Hid (I = (nms (bl s)).length - 1) := ⟨_, rfl⟩
      have hIl : I < (nms (bl s)).length := by rw [HI.out]; omega
      obtain ⟨vz, hvz, hsl⟩ := cut_to ho.strs I (by omega)
      have hl : (nms (bl s)).getLastD [] = (nms (bl s)).getD I [] := by
        rw [List.getLastD_eq_getLast?, List.getLast?_eq_getElem?, HI.out, List.getD_eq_getElem?_getD]
      have H1 := hid (show spD (bl s) = txt ((nms (bl s)).take I) by unfold spD; rw [ok, if_pos rfl, List.dropLast_eq_take, HI.out])
      have H2 := hid (show spN (bl s) = (nms (bl s)).getD I [] by unfold spN; rw [ok, if_pos rfl, hl])
      have H3 := hid (show spE (bl s) = 0 by unfold spE; rw [ok, if_pos rfl, if_neg h0])
      have hb2 := lens_pcs ((nms (bl s)).take I) (fun p hp => hpl.1 p (List.mem_of_mem_take hp))
      have hll : ((nms (bl s)).take I).length = I := by rw [List.length_take]; omega
      have h32 := hpl.2
      have HT := hid (fun q : Nat => rtext_any vz _ (w1.drewN q) hvz (by omega) (by omega))
      obtain ⟨az, cz, hzz⟩ := hvz.shape
      rw [hll] at hzz
      subst hzz
      obtain ⟨a, c, rfl⟩ := ho.strs.shape
      obtain ⟨g, o, rfl, hcell⟩ := ho.strs.at I hIl
      have i1 : IntKind.i64.wrap (((nms (bl s)).length : Int) - 1) = (I : Int) := by rw [IntKind.wrap_i64, HI.out]; omega
      have q0 : (((nms (bl s)).length : Int) == 0) = false := by simp; exact hne
      have q0' : ¬ ((nms (bl s)).length : Int) = 0 := by omega
      have q1 : (I : Int) < ((nms (bl s)).length : Int) := by omega
      have HX := hid (show mk ((nms (bl s)).getD I []) = mk (spN (bl s)) by rw [H2.out])
      generalize mk ((nms (bl s)).getD I []) = x at *
      clear hb2 hll h32 hl ok hpl hne hpos hvz hb ho HN h0
      go_wp2_with fail
      go_quiet (first | (go_at_call 47; exact Calls.quiet_of_same (HT.out _)))
      go_wp2
      go_ret3
      rw [HX.out]
      exact ⟨ret_ssi H1.out.symm rfl H3.out.symm, ⟨HB.out.os, HB.out.tape, HB.out.output, HB.out.size, HB.out.block⟩⟩
  · have HB := hid hb
    have H1 := hid (show spD (bl s) = [] by unfold spD; rw [ok]; rfl)
    have H2 := hid (show spN (bl s) = [] by unfold spN; rw [ok]; rfl)
    have H3 := hid (show spE (bl s) = 45 by unfold spE; rw [ok]; rfl)
    clear hb ok HN
    go_wp2
    go_ret3
    exact ⟨ret_ssi H1.out.symm H2.out.symm H3.out.symm, HB.out⟩

end Go.Proofs.YtlpengaclkidiaaGreatDoor

/- The program's gap. -/
namespace Go.Proofs.YtlpengaclkidiaaGreatDoor
open Go.RowKit

set_option maxHeartbeats 1000000 in
theorem blank_any (c : Int) (w : World) :
    Calls Tryz.prog 99 #[.int .u8 c] w fun e w' => e = .returned (.bool (bkI c)) ∧ w' = w := by
  go_enter Tryz.func99, Tryz.ntmps99
  go_wp2
  all_goals go_ret
  all_goals refine ⟨ret_b ?_, rfl⟩
  all_goals unfold bkI
  all_goals simp
  all_goals omega

/-- a loop's bytes so far -/
def Tw (p : UInt8 → Bool) (l : List UInt8) (k : Nat) : Prop := k ≤ l.length ∧ ∀ j, j < k → p (l.getD j 0) = true
theorem Tw.zero (p : UInt8 → Bool) (l : List UInt8) : Tw p l 0 := ⟨Nat.zero_le _, fun j hj => by omega⟩
theorem Tw.more {p : UInt8 → Bool} {l : List UInt8} {k : Nat} {c : UInt8} (h : Tw p l k) (hk : k < l.length) (hc : l.getD k 0 = c) (hp : p c = true) : Tw p l (k + 1) :=
  ⟨hk, fun j hj => by
    by_cases e : j = k
    · subst e; rw [hc]; exact hp
    · exact h.2 j (by omega)⟩
theorem Tw.all {p : UInt8 → Bool} {l : List UInt8} (h : Tw p l l.length) : twN p l = l.length := twN_eq h.1 h.2 (fun h => by omega)
theorem Tw.stop {p : UInt8 → Bool} {l : List UInt8} {k : Nat} {c : UInt8} (h : Tw p l k) (hc : l.getD k 0 = c) (hp : p c = false) : twN p l = k := twN_eq h.1 h.2 (fun _ => by rw [hc]; exact hp)

set_option maxHeartbeats 1000000 in
theorem blanks_any (l : List UInt8) (hl : l.length ≤ 140737488355328) (w : World) :
    Calls Tryz.prog 75 #[.string (mk l)] w fun e w' => e = .returned (.int .i64 (bkN l : Nat)) ∧ w' = w := by
  have hsz := mk_size l
  go_enter Tryz.func75, Tryz.ntmps75
  go_wp2
  go_loop [3] (fun i => ∃ k : Nat, i = .int .i64 k ∧ Tw bkB l k) (fun i => l.length - (intOf i).toNat)
  case atStart => exact ⟨0, rfl, Tw.zero _ _⟩
  case round =>
    obtain ⟨k, rfl, HT⟩ := hrel
    have HT : Hid (Tw bkB l k) := HT
    have hk := HT.out.1
    by_cases hlt : k < l.length
    · have q1 : (k : Int) < (l.length : Int) := by omega
      have i1 := at_mk l k hlt
      obtain ⟨c, HC⟩ : ∃ c : UInt8, Hid (l.getD k 0 = c) := ⟨_, rfl⟩
      rw [HC.out] at i1
      go_wp2_with (go_at_call 99; refine (blank_any _ _).mono ?_; rintro e w' ⟨rfl, rfl⟩)
      · rename_i hb
        exact ⟨⟨k + 1, by simp, HT.out.more hlt HC.out (by simpa [bkB] using hb)⟩, by simp [intOf]; omega⟩
      · rename_i hb
        go_ret
        refine ⟨ret_i ?_, rfl⟩
        rw [show bkN l = k from HT.out.stop HC.out (by simpa [bkB] using hb)]
    · have q1 : ¬ (k : Int) < (l.length : Int) := by omega
      obtain rfl : k = l.length := by omega
      go_wp2
      go_ret
      refine ⟨ret_i ?_, rfl⟩
      rw [show bkN l = l.length from HT.out.all]

theorem idx_nl (l : List UInt8) : Lib.indexByte l 10 = if twN nlB l < l.length then (twN nlB l : Int) else -1 := by
  induction l with
  | nil => rfl
  | cons c t ih =>
    by_cases hc : c = 10
    · subst hc
      rw [twN_none (by decide)]
      simp [Lib.indexByte]
    · have hb : (c == 10) = false := by simpa using hc
      rw [twN_cons (by simpa [nlB] using hc)]
      simp only [Lib.indexByte, hb, ih, List.length_cons]
      by_cases hlt : twN nlB t < t.length
      · have h1 : ((twN nlB t : Int) == -1) = false := by simp
        have h2 : twN nlB t + 1 < t.length + 1 := by omega
        rw [if_pos hlt, if_pos h2, h1]
        simp
      · have h2 : ¬ twN nlB t + 1 < t.length + 1 := by omega
        rw [if_neg hlt, if_neg h2]
        simp

theorem pre_47 (l : List UInt8) : Lib.hasPrefix l [47, 47] = true ↔ l.take 2 = [47, 47] := by
  unfold Lib.hasPrefix
  match l with
  | [] => simp
  | [a] => simp
  | a :: b :: t =>
    simp only [List.isPrefixOf, List.take_succ_cons, List.take_zero, Bool.and_eq_true, beq_iff_eq, List.cons.injEq, and_true]
    exact ⟨fun h => ⟨h.1.symm, h.2.symm⟩, fun h => ⟨h.1.symm, h.2.symm⟩⟩

set_option maxHeartbeats 1000000 in
theorem remark_any (l : List UInt8) (w : World) :
    Calls Tryz.prog 76 #[.string (mk l)] w fun e w' => e = .returned (.int .i64 (rmN l : Nat)) ∧ w' = w := by
  have hsz := mk_size l
  have c1 := Tryz.strings_HasPrefix (mk l) ⟨#[47, 47]⟩
  have c2 := Tryz.strings_IndexByte (mk l) 10
  rw [← bl_eq, bl_mk] at c1 c2
  have e1 : (⟨#[47, 47]⟩ : ByteArray).data.toList = [47, 47] := rfl
  rw [e1] at c1
  rw [show (10 : Int).toNat.toUInt8 = 10 from rfl, idx_nl] at c2
  by_cases hp : l.take 2 = [47, 47]
  · rw [(pre_47 l).2 hp] at c1
    have er : rmN l = twN nlB l := by unfold rmN; rw [if_pos hp]
    have HE := hid er
    by_cases hlt : twN nlB l < l.length
    · rw [if_pos hlt] at c2
      obtain ⟨n, HN⟩ : ∃ n, Hid (twN nlB l = n) := ⟨_, rfl⟩
      rw [HN.out] at c2
      have H1 := hid c1
      have H2 := hid c2
      clear c1 c2 hp er hlt e1
      go_enter Tryz.func76, Tryz.ntmps76
      go_wp2_with first
        | (go_at_call 100; refine (H1.out _).mono ?_; rintro e w' ⟨rfl, rfl⟩)
        | (go_at_call 101; refine (H2.out _).mono ?_; rintro e w' ⟨rfl, rfl⟩)
      all_goals first
        | (go_ret; exact ⟨ret_i (by rw [HE.out, HN.out]), rfl⟩)
        | omega
    · rw [if_neg hlt] at c2
      have hn := twN_le nlB l
      have HN : Hid (twN nlB l = l.length) := (by omega : twN nlB l = l.length)
      have H1 := hid c1
      have H2 := hid c2
      clear c1 c2 hp er hlt e1 hn
      go_enter Tryz.func76, Tryz.ntmps76
      go_wp2_with first
        | (go_at_call 100; refine (H1.out _).mono ?_; rintro e w' ⟨rfl, rfl⟩)
        | (go_at_call 101; refine (H2.out _).mono ?_; rintro e w' ⟨rfl, rfl⟩)
      go_ret
      exact ⟨ret_i (by rw [HE.out, HN.out]), rfl⟩
  · have er : rmN l = 0 := by unfold rmN; rw [if_neg hp]
    have HE := hid er
    have hf : Lib.hasPrefix l [47, 47] = false := by
      cases e : Lib.hasPrefix l [47, 47] with
      | false => rfl
      | true => exact absurd ((pre_47 l).1 e) hp
    rw [hf] at c1
    have H1 := hid c1
    clear c1 c2 hp er e1 hf
    go_enter Tryz.func76, Tryz.ntmps76
    go_wp2_with (go_at_call 100; refine (H1.out _).mono ?_; rintro e w' ⟨rfl, rfl⟩)
    go_ret
    exact ⟨ret_i (by rw [HE.out]; rfl), rfl⟩

/-- a gap so far -/
def Gp (l : List UInt8) (k : Nat) : Prop := k ≤ l.length ∧ gapP l = k + gapP (l.drop k)
theorem Gp.zero (l : List UInt8) : Gp l 0 := ⟨Nat.zero_le _, by simp⟩
theorem Gp.more {l : List UInt8} {k a b : Nat} (h : Gp l k) (ha : bkN (l.drop k) = a) (hb : rmN (l.drop (k + a)) = b) : Gp l (k + (a + b)) := by
  have h1 := gapP_bk (l.drop k)
  have h2 := gapP_rm ((l.drop k).drop a)
  have h0 := h.2
  rw [ha, h2] at h1
  rw [List.drop_drop, hb] at h1
  rw [List.drop_drop] at h1
  refine ⟨?_, by rw [h0, h1, Nat.add_assoc k a b]; omega⟩
  have g1 := gapP_le (l.drop k)
  have g2 := h.1
  rw [List.length_drop] at g1
  omega
theorem Gp.stop {l : List UInt8} {k : Nat} (h : Gp l k) (ha : bkN (l.drop k) = 0) (hb : rmN (l.drop k) = 0) : gapP l = k := by
  rw [h.2, gapP_none ha hb]; rfl

set_option maxHeartbeats 1000000 in
theorem gap_any (l : List UInt8) (hl : l.length ≤ 140737488355328) (w : World) :
    Calls Tryz.prog 53 #[.string (mk l)] w fun e w' => e = .returned (.int .i64 (gapP l : Nat)) ∧ w' = w := by
  go_enter Tryz.func53, Tryz.ntmps53
  go_wp2
  go_loop [3] (fun i => ∃ k : Nat, i = .int .i64 k ∧ Gp l k) (fun i => l.length - (intOf i).toNat)
  case atStart => exact ⟨0, rfl, Gp.zero _⟩
  case round =>
    obtain ⟨k, rfl, HG⟩ := hrel
    have HG : Hid (Gp l k) := HG
    have hk := HG.out.1
    have s1 := sl_from l k hk
    obtain ⟨a, HA⟩ : ∃ a, Hid (bkN (l.drop k) = a) := ⟨_, rfl⟩
    obtain ⟨b, HB⟩ : ∃ b, Hid (rmN (l.drop (k + a)) = b) := ⟨_, rfl⟩
    have hm := HG.out.more HA.out HB.out
    have hml := hm.1
    have s2 := sl_from l (k + a) (by omega)
    rw [show ((k + a : Nat) : Int) = (k : Int) + (a : Int) by omega] at s2
    have H1 := hid (blanks_any (l.drop k) (by rw [List.length_drop]; omega))
    have H2 := hid (remark_any (l.drop (k + a)))
    rw [HA.out] at H1
    rw [HB.out] at H2
    have HM := hid hm
    clear hm
    by_cases hz : a + b = 0
    · have z1 : a = 0 := by omega
      have z2 : b = 0 := by omega
      subst z1 z2
      have HZ := hid (HG.out.stop HA.out HB.out)
      clear hz
      go_wp2_with first
        | (go_at_call 75; refine (H1.out _).mono ?_; rintro e w' ⟨rfl, rfl⟩)
        | (go_at_call 76; refine (H2.out _).mono ?_; rintro e w' ⟨rfl, rfl⟩)
      go_ret
      exact ⟨ret_i (by rw [HZ.out]), rfl⟩
    · have zz : ¬ (a : Int) + (b : Int) = 0 := by omega
      clear hz
      go_wp2_with first
        | (go_at_call 75; refine (H1.out _).mono ?_; rintro e w' ⟨rfl, rfl⟩)
        | (go_at_call 76; refine (H2.out _).mono ?_; rintro e w' ⟨rfl, rfl⟩)
      exact ⟨⟨k + (a + b), by simp, HM.out⟩, by simp [intOf]; omega⟩

end Go.Proofs.YtlpengaclkidiaaGreatDoor

/- The program's words and keys. -/
namespace Go.Proofs.YtlpengaclkidiaaGreatDoor
open Go.RowKit

set_option maxHeartbeats 1000000 in
theorem letter_any (c : Int) (w : World) :
    Calls Tryz.prog 77 #[.int .u8 c] w fun e w' => e = .returned (.bool (ltI c)) ∧ w' = w := by
  go_enter Tryz.func77, Tryz.ntmps77
  go_wp2
  all_goals go_ret
  all_goals refine ⟨ret_b ?_, rfl⟩
  all_goals unfold ltI
  all_goals simp
  all_goals omega

set_option maxHeartbeats 1000000 in
theorem digit_any (c : Int) (w : World) :
    Calls Tryz.prog 79 #[.int .u8 c] w fun e w' => e = .returned (.bool (dgI c)) ∧ w' = w := by
  go_enter Tryz.func79, Tryz.ntmps79
  go_wp2
  all_goals go_ret
  all_goals refine ⟨ret_b ?_, rfl⟩
  all_goals unfold dgI
  all_goals simp
  all_goals omega

/-- texts held against one another -/
theorem tl_mk (a : List UInt8) : (mk a).toList = a := bl_mk a
theorem eq_mk {a b : List UInt8} (h : a = b) : ((mk a).toList == (mk b).toList) = true := by rw [tl_mk, tl_mk, h]; simp
theorem ne_mk {a b : List UInt8} (h : ¬ a = b) : ((mk a).toList == (mk b).toList) = false := by rw [tl_mk, tl_mk]; simpa using h
/-- not among the first ones -/
def Nay (T : List (List UInt8)) (l : List UInt8) (k : Nat) : Prop := ∀ j, j < k → ¬ l = T.getD j []
theorem Nay.more {T : List (List UInt8)} {l x : List UInt8} {k : Nat} (h : Nay T l k) (hx : T.getD k [] = x) (hn : ¬ l = x) : Nay T l (k + 1) := fun j hj => by
  by_cases e : j = k
  · subst e; rw [hx]; exact hn
  · exact h j (by omega)
theorem Nay.all {T : List (List UInt8)} {l : List UInt8} {k : Nat} (h : Nay T l k) (hk : T.length = k) : decide (l ∈ T) = false := by
  rw [decide_eq_false_iff_not]
  intro hm
  obtain ⟨j, hj, e⟩ := List.mem_iff_getElem.1 hm
  refine h j (by omega) ?_
  simp [List.getD_eq_getElem?_getD, hj, e]
theorem yea {T : List (List UInt8)} {l x : List UInt8} {k : Nat} (hk : k < T.length) (hx : T.getD k [] = x) (he : l = x) : decide (l ∈ T) = true := by
  rw [decide_eq_true_eq, he, ← hx]
  simp [List.getD_eq_getElem?_getD, hk]

set_option maxHeartbeats 1000000 in
theorem listed_any (l : List UInt8) (w : World) (hT : Tabs w) :
    Calls Tryz.prog 102 #[.string (mk l)] w fun e w' => e = .returned (.bool (decide (l ∈ kyL))) ∧ w' = w := by
  have HT := hid hT.keys
  clear hT
  obtain ⟨T, HK⟩ : ∃ T, Hid (kyL = T) := ⟨_, rfl⟩
  have HL : Hid (T.length = 16) := by rw [← HK.out]; rfl
  rw [HK.out] at HT ⊢
  go_enter Tryz.func102, Tryz.ntmps102
  go_wp2_with (refine wpList_load_mid rfl 136 (.global 2) rfl 2 0 rfl (strV T) (.array 16 9) (fun j v hv => HT.out j v hv) Tryz.underlying136 rfl (by rw [strV_length, HL.out]; kernel_rfl) ?_)
  go_loop [6] (fun i => ∃ k : Nat, i = .int .i64 k ∧ k ≤ 16 ∧ Nay T l k) (fun i => 16 - (intOf i).toNat)
  case atStart => exact ⟨0, rfl, by omega, fun j hj => by omega⟩
  case round =>
    obtain ⟨k, rfl, hk, HN⟩ := hrel
    have HN : Hid (Nay T l k) := HN
    by_cases hlt : k < 16
    · have q1 : (k : Int) < 16 := by omega
      have i1 := fun W => index_tab W 136 16 Tryz.underlying136 T HL.out k hlt
      obtain ⟨x, HX⟩ : ∃ x, Hid (T.getD k [] = x) := ⟨_, rfl⟩
      rw [HX.out] at i1
      by_cases he : l = x
      · have e1 := eq_mk he
        have HE := hid he
        clear he
        go_wp2
        go_ret
        exact ⟨by rw [yea (by rw [HL.out]; exact hlt) HX.out HE.out]; rfl, rfl⟩
      · have e1 := ne_mk he
        have HE := hid he
        clear he
        go_wp2
        exact ⟨⟨k + 1, by simp, by omega, HN.out.more HX.out HE.out⟩, by simp [intOf]; omega⟩
    · have q1 : ¬ (k : Int) < 16 := by omega
      obtain rfl : k = 16 := by omega
      go_wp2
      go_ret
      exact ⟨by rw [HN.out.all HL.out]; rfl, rfl⟩

set_option maxHeartbeats 1000000 in
theorem word_any (l : List UInt8) (hl : l.length ≤ 140737488355328) (h0 : 0 < l.length) (hc : ltB (l.getD 0 0) = true) (w : World) (hT : Tabs w) :
    Calls Tryz.prog 78 #[.string (mk l)] w fun e w' => e = .returned (.tuple #[.int .i64 (wdP l).1, .int .i64 (wdP l).2.1, .int .i64 (wdP l).2.2]) ∧ w' = w := by
  have hsz := mk_size l
  have HT := hid hT
  have HW : Hid (Tw wdB l 1) := ⟨h0, fun j hj => by
    obtain rfl : j = 0 := by omega
    unfold wdB; rw [hc]; rfl⟩
  clear hT hc
  go_enter Tryz.func78, Tryz.ntmps78
  go_wp2
  go_loop [5] (fun i => ∃ k : Nat, i = .int .i64 k ∧ Tw wdB l k) (fun i => l.length - (intOf i).toNat)
  case atStart => exact ⟨1, rfl, HW.out⟩
  case round =>
    obtain ⟨k, rfl, HK⟩ := hrel
    have HK : Hid (Tw wdB l k) := HK
    have hk := HK.out.1
    have fin : twN wdB l = k → Hid (wdP l = if 32 < k then (0, 0, 123) else if l.take k ∈ kyL then (4, k, 0) else (1, k, 0)) := fun e => by
      show wdP l = _
      unfold wdP; rw [e]
    have s1 := sl_upto l k hk
    by_cases hlt : k < l.length
    · have q1 : (k : Int) < (l.length : Int) := by omega
      have i1 := at_mk l k hlt
      obtain ⟨c, HC⟩ : ∃ c : UInt8, Hid (l.getD k 0 = c) := ⟨_, rfl⟩
      rw [HC.out] at i1
      by_cases hb : wdB c = true
      · have hb' : ltI (c.toNat : Nat) = true ∨ (ltI (c.toNat : Nat) = false ∧ dgI (c.toNat : Nat) = true) := by
          unfold wdB ltB dgB at hb
          cases e : ltI (c.toNat : Nat) with
          | true => exact Or.inl rfl
          | false => rw [e] at hb; exact Or.inr ⟨rfl, by simpa using hb⟩
        have HB := hid hb
        clear hb fin
        rcases hb' with hb1 | ⟨hb1, hb2⟩
        · have H1 := hid (letter_any (c.toNat : Nat))
          rw [hb1] at H1
          clear hb1
          go_wp2_with (go_at_call 77; refine (H1.out _).mono ?_; rintro e w' ⟨rfl, rfl⟩)
          exact ⟨⟨k + 1, by simp, HK.out.more hlt HC.out HB.out⟩, by simp [intOf]; omega⟩
        · have H1 := hid (letter_any (c.toNat : Nat))
          have H2 := hid (digit_any (c.toNat : Nat))
          rw [hb1] at H1
          rw [hb2] at H2
          clear hb1 hb2
          go_wp2_with first
            | (go_at_call 77; refine (H1.out _).mono ?_; rintro e w' ⟨rfl, rfl⟩)
            | (go_at_call 79; refine (H2.out _).mono ?_; rintro e w' ⟨rfl, rfl⟩)
          exact ⟨⟨k + 1, by simp, HK.out.more hlt HC.out HB.out⟩, by simp [intOf]; omega⟩
      · have hb : wdB c = false := by simpa using hb
        have FIN := fin (HK.out.stop HC.out hb)
        have hb1 : ltI (c.toNat : Nat) = false := (wd_or hb).1
        have hb2 : dgI (c.toNat : Nat) = false := (wd_or hb).2
        have H1 := hid (letter_any (c.toNat : Nat))
        have H2 := hid (digit_any (c.toNat : Nat))
        rw [hb1] at H1
        rw [hb2] at H2
        clear hb1 hb2 hb fin
        by_cases h32 : 32 < k
        · have FIN : Hid (wdP l = (0, 0, 123)) := by have := FIN.out; rw [if_pos h32] at this; exact this
          have q2 : (32 : Int) < (k : Int) := by omega
          go_wp2_with first
            | (go_at_call 77; refine (H1.out _).mono ?_; rintro e w' ⟨rfl, rfl⟩)
            | (go_at_call 79; refine (H2.out _).mono ?_; rintro e w' ⟨rfl, rfl⟩)
          go_ret3
          exact ⟨by rw [FIN.out]; rfl, rfl⟩
        · have q2 : ¬ (32 : Int) < (k : Int) := by omega
          have H3 := hid (listed_any (l.take k) w HT.out)
          by_cases hm : l.take k ∈ kyL
          · have FIN : Hid (wdP l = (4, k, 0)) := by have := FIN.out; rw [if_neg h32, if_pos hm] at this; exact this
            rw [decide_eq_true hm] at H3
            clear hm
            go_wp2_with first
              | (go_at_call 77; refine (H1.out _).mono ?_; rintro e w' ⟨rfl, rfl⟩)
              | (go_at_call 79; refine (H2.out _).mono ?_; rintro e w' ⟨rfl, rfl⟩)
              | (go_at_call 102; refine H3.out.mono ?_; rintro e w' ⟨rfl, rfl⟩)
            go_ret3
            exact ⟨by rw [FIN.out]; rfl, rfl⟩
          · have FIN : Hid (wdP l = (1, k, 0)) := by have := FIN.out; rw [if_neg h32, if_neg hm] at this; exact this
            rw [decide_eq_false hm] at H3
            clear hm
            go_wp2_with first
              | (go_at_call 77; refine (H1.out _).mono ?_; rintro e w' ⟨rfl, rfl⟩)
              | (go_at_call 79; refine (H2.out _).mono ?_; rintro e w' ⟨rfl, rfl⟩)
              | (go_at_call 102; refine H3.out.mono ?_; rintro e w' ⟨rfl, rfl⟩)
            go_ret3
            exact ⟨by rw [FIN.out]; rfl, rfl⟩
    · have q1 : ¬ (k : Int) < (l.length : Int) := by omega
      have hkl : l.length = k := by omega
      have FIN := fin (by have := HK.out; rw [← hkl] at this ⊢; exact this.all)
      have HKL := hid hkl
      clear hkl fin
      by_cases h32 : 32 < k
      · have FIN : Hid (wdP l = (0, 0, 123)) := by have := FIN.out; rw [if_pos h32] at this; exact this
        have q2 : (32 : Int) < (k : Int) := by omega
        go_wp2
        go_ret3
        exact ⟨by rw [FIN.out]; rfl, rfl⟩
      · have q2 : ¬ (32 : Int) < (k : Int) := by omega
        have H3 := hid (listed_any (l.take k) w HT.out)
        by_cases hm : l.take k ∈ kyL
        · have FIN : Hid (wdP l = (4, k, 0)) := by have := FIN.out; rw [if_neg h32, if_pos hm] at this; exact this
          rw [decide_eq_true hm] at H3
          clear hm
          go_wp2_with (go_at_call 102; refine H3.out.mono ?_; rintro e w' ⟨rfl, rfl⟩)
          go_ret3
          exact ⟨by rw [FIN.out]; rfl, rfl⟩
        · have FIN : Hid (wdP l = (1, k, 0)) := by have := FIN.out; rw [if_neg h32, if_neg hm] at this; exact this
          rw [decide_eq_false hm] at H3
          clear hm
          go_wp2_with (go_at_call 102; refine H3.out.mono ?_; rintro e w' ⟨rfl, rfl⟩)
          go_ret3
          exact ⟨by rw [FIN.out]; rfl, rfl⟩

end Go.Proofs.YtlpengaclkidiaaGreatDoor

/- The program's numbers. -/
namespace Go.Proofs.YtlpengaclkidiaaGreatDoor
open Go.RowKit

/-- all digits -/
def Dgs (l : List UInt8) : Prop := ∀ j, j < l.length → dgB (l.getD j 0) = true
theorem dg_num {c : UInt8} (h : dgB c = true) : 48 ≤ c.toNat ∧ c.toNat ≤ 57 := by
  unfold dgB dgI at h
  have := of_decide_eq_true h
  omega
/-- what amount answers -/
def amB (l : List UInt8) : Bool := decide (valP l ≤ 9223372036854775807)
def amN (l : List UInt8) : Nat := if valP l ≤ 9223372036854775807 then valP l else 0

set_option maxHeartbeats 1000000 in
theorem amount_any (l : List UInt8) (hl : l.length ≤ 140737488355328) (hd : Dgs l) (w : World) :
    Calls Tryz.prog 103 #[.string (mk l)] w fun e w' => e = .returned (.tuple #[.int .i64 (amN l : Nat), .bool (amB l)]) ∧ w' = w := by
  have hsz := mk_size l
  have HD := hid hd
  clear hd
  go_enter Tryz.func103, Tryz.ntmps103
  go_wp2
  go_loop [4, 9] (fun n i => ∃ k : Nat, i = .int .i64 k ∧ k ≤ l.length ∧ n = .int .i64 (valP (l.take k) : Nat) ∧ valP (l.take k) ≤ 9223372036854775807) (fun n i => l.length - (intOf i).toNat)
  case atStart => exact ⟨0, rfl, by omega, rfl, by simp [valP]⟩
  case round =>
    obtain ⟨k, rfl, hk, rfl, hv⟩ := hrel
    by_cases hlt : k < l.length
    · have q1 : (k : Int) < (l.length : Int) := by omega
      have i1 := at_mk l k hlt
      have hs := valP_succ hlt
      have ht := valP_take l (k + 1)
      have hc := dg_num (HD.out k hlt)
      obtain ⟨c, HC⟩ : ∃ c, Hid ((l.getD k 0).toNat = c) := ⟨_, rfl⟩
      rw [HC.out] at i1 hs hc
      have hc1 : (48 : Int) ≤ (c : Int) := by omega
      have hc2 : (c : Int) ≤ 57 := by omega
      obtain ⟨v, HV⟩ : ∃ v, Hid (valP (l.take k) = v) := ⟨_, rfl⟩
      rw [HV.out] at hs hv ⊢
      by_cases hb : 10 * v + (c - 48) ≤ 9223372036854775807
      · have hbI : 10 * (v : Int) + ((c : Int) - 48) ≤ 9223372036854775807 := by omega
        have hq : ¬ (9223372036854775807 - ((c : Int) - 48)) / 10 < (v : Int) := by omega
        have HS := hid hs
        clear hs ht
        go_wp2
        exact ⟨⟨k + 1, by simp, by omega, by rw [HS.out]; congr 1; omega, by rw [HS.out]; omega⟩, by simp [intOf]; omega⟩
      · have hq : (9223372036854775807 - ((c : Int) - 48)) / 10 < (v : Int) := by omega
        have HG : Hid (¬ valP l ≤ 9223372036854775807) := (by omega : ¬ valP l ≤ 9223372036854775807)
        clear hs ht
        go_wp2
        go_ret2
        refine ⟨?_, rfl⟩
        unfold amN amB
        rw [if_neg HG.out, decide_eq_false HG.out]
        rfl
    · have q1 : ¬ (k : Int) < (l.length : Int) := by omega
      have hkl : l.length = k := by omega
      rw [← hkl, List.take_length] at hv ⊢
      have HV := hid hv
      have HKL := hid hkl
      clear hv hkl
      obtain ⟨v, HVV⟩ : ∃ v, Hid (valP l = v) := ⟨_, rfl⟩
      rw [HVV.out]
      go_wp2
      go_ret2
      refine ⟨?_, rfl⟩
      unfold amN amB
      rw [if_pos HV.out, decide_eq_true HV.out, HVV.out]
      rfl

end Go.Proofs.YtlpengaclkidiaaGreatDoor

/- The program's numbers: one at a source's beginning. -/
namespace Go.Proofs.YtlpengaclkidiaaGreatDoor
open Go.RowKit

theorem dgs_take {l : List UInt8} {k : Nat} (h : Tw dgB l k) : Dgs (l.take k) := by
  intro j hj
  rw [List.length_take] at hj
  have := h.2 j (by omega)
  rw [List.getD_eq_getElem?_getD, List.getElem?_take_of_lt (by omega), ← List.getD_eq_getElem?_getD]
  exact this
theorem nu_bad {l : List UInt8} {k : Nat} (hk : twN dgB l = k) (h : (l.getD 0 0 = 48 ∧ 1 < k) ∨ ltB (l.getD k 0) = true ∨ 9223372036854775807 < valP (l.take k)) : nuP l = (0, 0, 121) := by
  unfold nuP; rw [hk, if_pos h]
theorem nu_ok {l : List UInt8} {k : Nat} (hk : twN dgB l = k) (h : ¬ ((l.getD 0 0 = 48 ∧ 1 < k) ∨ ltB (l.getD k 0) = true ∨ 9223372036854775807 < valP (l.take k))) : nuP l = (2, k, 0) := by
  unfold nuP; rw [hk, if_neg h]

set_option maxHeartbeats 2000000 in
theorem number_any (l : List UInt8) (hl : l.length ≤ 140737488355328) (h0 : 0 < l.length) (hc : dgB (l.getD 0 0) = true) (w : World) :
    Calls Tryz.prog 80 #[.string (mk l)] w fun e w' => e = .returned (.tuple #[.int .i64 (nuP l).1, .int .i64 (nuP l).2.1, .int .i64 (nuP l).2.2]) ∧ w' = w := by
  have hsz := mk_size l
  have HW : Hid (Tw dgB l 1) := ⟨h0, fun j hj => by
    obtain rfl : j = 0 := by omega
    exact hc⟩
  clear hc
  have i0 := at_mk l 0 h0
  obtain ⟨z, HZ⟩ : ∃ z : UInt8, Hid (l.getD 0 0 = z) := ⟨_, rfl⟩
  rw [HZ.out] at i0
  have i0 : ∀ W, (Instr.index 9 (.string (mk l)) (.int .i64 0)).run Tryz.prog W = .ok (.int .u8 (z.toNat : Nat)) W := i0
  go_enter Tryz.func80, Tryz.ntmps80
  go_wp2
  go_loop [5] (fun i => ∃ k : Nat, i = .int .i64 k ∧ 1 ≤ k ∧ Tw dgB l k) (fun i => l.length - (intOf i).toNat)
  case atStart => exact ⟨1, rfl, Nat.le_refl _, HW.out⟩
  case round =>
    obtain ⟨k, rfl, hk1, HK⟩ := hrel
    have HK : Hid (Tw dgB l k) := HK
    have hk := HK.out.1
    have s1 := sl_upto l k hk
    have H3 := hid (amount_any (l.take k) (by rw [List.length_take]; omega) (dgs_take HK.out))
    by_cases hlt : k < l.length
    · have q1 : (k : Int) < (l.length : Int) := by omega
      have i1 := at_mk l k hlt
      obtain ⟨c, HC⟩ : ∃ c : UInt8, Hid (l.getD k 0 = c) := ⟨_, rfl⟩
      rw [HC.out] at i1
      have H1 := hid (digit_any (c.toNat : Nat))
      have H2 := hid (letter_any (c.toNat : Nat))
      cases hb : dgI (c.toNat : Nat) with
      | true =>
        rw [hb] at H1
        have HB : Hid (dgB c = true) := hb
        clear hb
        go_wp2_with (go_at_call 79; refine (H1.out _).mono ?_; rintro e w' ⟨rfl, rfl⟩)
        exact ⟨⟨k + 1, by simp, by omega, HK.out.more hlt HC.out HB.out⟩, by simp [intOf]; omega⟩
      | false =>
        rw [hb] at H1
        have HE : Hid (twN dgB l = k) := HK.out.stop HC.out hb
        clear hb
        cases hb : ltI (c.toNat : Nat) with
        | true =>
          rw [hb] at H2
          have HB : Hid (ltB (l.getD k 0) = true) := by rw [HC.out]; exact hb
          have FIN := hid (nu_bad HE.out (Or.inr (Or.inl HB.out)))
          clear hb
          by_cases hz : (z.toNat : Int) = 48 ∧ (1 : Int) < (k : Int)
          · obtain ⟨z1, z2⟩ := hz
            rw [z1] at i0
            clear z1
            go_wp2_with first
              | (go_at_call 79; refine (H1.out _).mono ?_; rintro e w' ⟨rfl, rfl⟩)
              | (go_at_call 77; refine (H2.out _).mono ?_; rintro e w' ⟨rfl, rfl⟩)
              | (go_at_call 103; refine (H3.out _).mono ?_; rintro e w' ⟨rfl, rfl⟩)
            go_ret3
            exact ⟨by rw [FIN.out]; rfl, rfl⟩
          · by_cases z1 : (z.toNat : Int) = 48
            · have z2 : ¬ (1 : Int) < (k : Int) := fun e => hz ⟨z1, e⟩
              rw [z1] at i0
              clear z1 hz
              go_wp2_with first
                | (go_at_call 79; refine (H1.out _).mono ?_; rintro e w' ⟨rfl, rfl⟩)
                | (go_at_call 77; refine (H2.out _).mono ?_; rintro e w' ⟨rfl, rfl⟩)
                | (go_at_call 103; refine (H3.out _).mono ?_; rintro e w' ⟨rfl, rfl⟩)
              go_ret3
              exact ⟨by rw [FIN.out]; rfl, rfl⟩
            · clear hz
              go_wp2_with first
                | (go_at_call 79; refine (H1.out _).mono ?_; rintro e w' ⟨rfl, rfl⟩)
                | (go_at_call 77; refine (H2.out _).mono ?_; rintro e w' ⟨rfl, rfl⟩)
                | (go_at_call 103; refine (H3.out _).mono ?_; rintro e w' ⟨rfl, rfl⟩)
              go_ret3
              exact ⟨by rw [FIN.out]; rfl, rfl⟩
        | false =>
          rw [hb] at H2
          have HB : Hid (ltB (l.getD k 0) = false) := by rw [HC.out]; exact hb
          clear hb
          by_cases hz : (z.toNat : Int) = 48 ∧ (1 : Int) < (k : Int)
          · have FIN := hid (nu_bad HE.out (Or.inl ⟨by rw [HZ.out]; exact UInt8.toNat_inj.1 (by have := hz.1; simp; omega), by omega⟩))
            obtain ⟨z1, z2⟩ := hz
            rw [z1] at i0
            clear z1
            go_wp2_with first
              | (go_at_call 79; refine (H1.out _).mono ?_; rintro e w' ⟨rfl, rfl⟩)
              | (go_at_call 77; refine (H2.out _).mono ?_; rintro e w' ⟨rfl, rfl⟩)
              | (go_at_call 103; refine (H3.out _).mono ?_; rintro e w' ⟨rfl, rfl⟩)
            go_ret3
            exact ⟨by rw [FIN.out]; rfl, rfl⟩
          · have HNZ : Hid (¬ (l.getD 0 0 = 48 ∧ 1 < k)) := (by rintro ⟨e1, e2⟩; rw [HZ.out] at e1; exact hz ⟨by rw [e1]; rfl, by omega⟩ : ¬ (l.getD 0 0 = 48 ∧ 1 < k))
            by_cases hv : valP (l.take k) ≤ 9223372036854775807
            · have FIN := hid (nu_ok HE.out (by rintro (e | e | e); exact HNZ.out e; rw [HB.out] at e; cases e; omega))
              have eB : amB (l.take k) = true := decide_eq_true hv
              rw [eB] at H3
              obtain ⟨m, HM⟩ : ∃ m, Hid (amN (l.take k) = m) := ⟨_, rfl⟩
              rw [HM.out] at H3
              clear hv eB
              by_cases z1 : (z.toNat : Int) = 48
              · have z2 : ¬ (1 : Int) < (k : Int) := fun e => hz ⟨z1, e⟩
                rw [z1] at i0
                clear z1 hz
                go_wp2_with first
                  | (go_at_call 79; refine (H1.out _).mono ?_; rintro e w' ⟨rfl, rfl⟩)
                  | (go_at_call 77; refine (H2.out _).mono ?_; rintro e w' ⟨rfl, rfl⟩)
                  | (go_at_call 103; refine (H3.out _).mono ?_; rintro e w' ⟨rfl, rfl⟩)
                go_ret3
                exact ⟨by rw [FIN.out]; rfl, rfl⟩
              · clear hz
                go_wp2_with first
                  | (go_at_call 79; refine (H1.out _).mono ?_; rintro e w' ⟨rfl, rfl⟩)
                  | (go_at_call 77; refine (H2.out _).mono ?_; rintro e w' ⟨rfl, rfl⟩)
                  | (go_at_call 103; refine (H3.out _).mono ?_; rintro e w' ⟨rfl, rfl⟩)
                go_ret3
                exact ⟨by rw [FIN.out]; rfl, rfl⟩
            · have FIN := hid (nu_bad HE.out (Or.inr (Or.inr (by omega))))
              have eB : amB (l.take k) = false := decide_eq_false hv
              rw [eB] at H3
              obtain ⟨m, HM⟩ : ∃ m, Hid (amN (l.take k) = m) := ⟨_, rfl⟩
              rw [HM.out] at H3
              clear hv eB
              by_cases z1 : (z.toNat : Int) = 48
              · have z2 : ¬ (1 : Int) < (k : Int) := fun e => hz ⟨z1, e⟩
                rw [z1] at i0
                clear z1 hz
                go_wp2_with first
                  | (go_at_call 79; refine (H1.out _).mono ?_; rintro e w' ⟨rfl, rfl⟩)
                  | (go_at_call 77; refine (H2.out _).mono ?_; rintro e w' ⟨rfl, rfl⟩)
                  | (go_at_call 103; refine (H3.out _).mono ?_; rintro e w' ⟨rfl, rfl⟩)
                go_ret3
                exact ⟨by rw [FIN.out]; rfl, rfl⟩
              · clear hz
                go_wp2_with first
                  | (go_at_call 79; refine (H1.out _).mono ?_; rintro e w' ⟨rfl, rfl⟩)
                  | (go_at_call 77; refine (H2.out _).mono ?_; rintro e w' ⟨rfl, rfl⟩)
                  | (go_at_call 103; refine (H3.out _).mono ?_; rintro e w' ⟨rfl, rfl⟩)
                go_ret3
                exact ⟨by rw [FIN.out]; rfl, rfl⟩
    · have q1 : ¬ (k : Int) < (l.length : Int) := by omega
      have HB : Hid (ltB (l.getD k 0) = false) := by
        have e : l.getD k 0 = 0 := by rw [List.getD_eq_getElem?_getD, List.getElem?_eq_none (by omega)]; rfl
        rw [e]; exact (by decide : ltB 0 = false)
      have HE : Hid (twN dgB l = k) := by
        have hkl : l.length = k := by omega
        have := HK.out
        rw [← hkl] at this ⊢
        exact this.all
      by_cases hz : (z.toNat : Int) = 48 ∧ (1 : Int) < (k : Int)
      · have FIN := hid (nu_bad HE.out (Or.inl ⟨by rw [HZ.out]; exact UInt8.toNat_inj.1 (by have := hz.1; simp; omega), by omega⟩))
        obtain ⟨z1, z2⟩ := hz
        rw [z1] at i0
        clear z1
        go_wp2_with first
          | (go_at_call 103; refine (H3.out _).mono ?_; rintro e w' ⟨rfl, rfl⟩)
        go_ret3
        exact ⟨by rw [FIN.out]; rfl, rfl⟩
      · have HNZ : Hid (¬ (l.getD 0 0 = 48 ∧ 1 < k)) := (by rintro ⟨e1, e2⟩; rw [HZ.out] at e1; exact hz ⟨by rw [e1]; rfl, by omega⟩ : ¬ (l.getD 0 0 = 48 ∧ 1 < k))
        by_cases hv : valP (l.take k) ≤ 9223372036854775807
        · have FIN := hid (nu_ok HE.out (by rintro (e | e | e); exact HNZ.out e; rw [HB.out] at e; cases e; omega))
          have eB : amB (l.take k) = true := decide_eq_true hv
          rw [eB] at H3
          obtain ⟨m, HM⟩ : ∃ m, Hid (amN (l.take k) = m) := ⟨_, rfl⟩
          rw [HM.out] at H3
          clear hv eB
          by_cases z1 : (z.toNat : Int) = 48
          · have z2 : ¬ (1 : Int) < (k : Int) := fun e => hz ⟨z1, e⟩
            rw [z1] at i0
            clear z1 hz
            go_wp2_with first
              | (go_at_call 103; refine (H3.out _).mono ?_; rintro e w' ⟨rfl, rfl⟩)
            go_ret3
            exact ⟨by rw [FIN.out]; rfl, rfl⟩
          · clear hz
            go_wp2_with first
              | (go_at_call 103; refine (H3.out _).mono ?_; rintro e w' ⟨rfl, rfl⟩)
            go_ret3
            exact ⟨by rw [FIN.out]; rfl, rfl⟩
        · have FIN := hid (nu_bad HE.out (Or.inr (Or.inr (by omega))))
          have eB : amB (l.take k) = false := decide_eq_false hv
          rw [eB] at H3
          obtain ⟨m, HM⟩ : ∃ m, Hid (amN (l.take k) = m) := ⟨_, rfl⟩
          rw [HM.out] at H3
          clear hv eB
          by_cases z1 : (z.toNat : Int) = 48
          · have z2 : ¬ (1 : Int) < (k : Int) := fun e => hz ⟨z1, e⟩
            rw [z1] at i0
            clear z1 hz
            go_wp2_with first
              | (go_at_call 103; refine (H3.out _).mono ?_; rintro e w' ⟨rfl, rfl⟩)
            go_ret3
            exact ⟨by rw [FIN.out]; rfl, rfl⟩
          · clear hz
            go_wp2_with first
              | (go_at_call 103; refine (H3.out _).mono ?_; rintro e w' ⟨rfl, rfl⟩)
            go_ret3
            exact ⟨by rw [FIN.out]; rfl, rfl⟩

end Go.Proofs.YtlpengaclkidiaaGreatDoor

/- The program's signs. -/
namespace Go.Proofs.YtlpengaclkidiaaGreatDoor
open Go.RowKit

theorem pre_iff (l x : List UInt8) : Lib.hasPrefix l x = true ↔ l.take x.length = x := by
  unfold Lib.hasPrefix
  rw [List.isPrefixOf_iff_prefix, List.prefix_iff_eq_take]
  exact eq_comm
/-- none of the first ones begins l -/
def Nop (T : List (List UInt8)) (l : List UInt8) (k : Nat) : Prop := ∀ j, j < k → Lib.hasPrefix l (T.getD j []) = false
theorem Nop.more {T : List (List UInt8)} {l x : List UInt8} {k : Nat} (h : Nop T l k) (hx : T.getD k [] = x) (hn : Lib.hasPrefix l x = false) : Nop T l (k + 1) := fun j hj => by
  by_cases e : j = k
  · subst e; rw [hx]; exact hn
  · exact h j (by omega)
theorem Nop.mem {l : List UInt8} {k : Nat} (h : Nop (sg2 ++ sg1) l k) {x : List UInt8} (hx : x ∈ (sg2 ++ sg1).take k) : ¬ l.take x.length = x := by
  obtain ⟨j, hj, e⟩ := List.mem_iff_getElem.1 hx
  rw [List.length_take] at hj
  have := h j (by omega)
  rw [List.getElem_take] at e
  have e2 : (sg2 ++ sg1).getD j [] = x := by
    rw [List.getD_eq_getElem?_getD, List.getElem?_eq_getElem (by omega)]
    exact e
  rw [e2] at this
  intro hh
  rw [(pre_iff l x).2 hh] at this
  cases this
theorem sg_none {l : List UInt8} (h : Nop (sg2 ++ sg1) l 25) : sgP l = 0 := by
  have h2 : ¬ l.take 2 ∈ sg2 := fun hm => by
    have hl := sg2_len hm
    refine h.mem (x := l.take 2) (List.mem_append_left sg1 hm) ?_
    rw [hl]
  have h1 : ¬ l.take 1 ∈ sg1 := fun hm => by
    have hl := sg1_len hm
    refine h.mem (x := l.take 1) (List.mem_append_right sg2 hm) ?_
    rw [hl]
  unfold sgP
  rw [if_neg h2, if_neg h1]
theorem sg_some {l x : List UInt8} {k : Nat} (h : Nop (sg2 ++ sg1) l k) (hk : k < 25) (hx : (sg2 ++ sg1).getD k [] = x) (hp : Lib.hasPrefix l x = true) : sgP l = x.length ∧ x.length ≠ 0 := by
  have hp := (pre_iff l x).1 hp
  by_cases h7 : k < 7
  · have hm : x ∈ sg2 := by
      rw [← hx, List.getD_eq_getElem?_getD, List.getElem?_append_left (show k < sg2.length from h7), List.getElem?_eq_getElem (show k < sg2.length from h7)]
      exact List.getElem_mem _
    have hl := sg2_len hm
    rw [hl] at hp
    unfold sgP
    rw [hp, if_pos hm, hl]
    exact ⟨rfl, by omega⟩
  · have hm : x ∈ sg1 := by
      rw [← hx, List.getD_eq_getElem?_getD, List.getElem?_append_right (show sg2.length ≤ k from (by show 7 ≤ k; omega)), List.getElem?_eq_getElem (show k - sg2.length < sg1.length from (by show k - 7 < 18; omega))]
      exact List.getElem_mem _
    have hl := sg1_len hm
    rw [hl] at hp
    have h2 : ¬ l.take 2 ∈ sg2 := fun hm => by
      have hl := sg2_len hm
      refine h.mem (x := l.take 2) ?_ (by rw [hl])
      have e : (sg2 ++ sg1).take k = sg2 ++ sg1.take (k - 7) := by
        rw [List.take_append, List.take_of_length_le (show sg2.length ≤ k from (by show 7 ≤ k; omega))]
        rfl
      rw [e]
      exact List.mem_append_left _ hm
    unfold sgP
    rw [hp, if_neg h2, if_pos hm, hl]
    exact ⟨rfl, by omega⟩

set_option maxHeartbeats 1000000 in
theorem sign_any (l : List UInt8) (w : World) (hT : Tabs w) :
    Calls Tryz.prog 82 #[.string (mk l)] w fun e w' => e = .returned (.tuple #[.int .i64 (sqP l).1, .int .i64 (sqP l).2.1, .int .i64 (sqP l).2.2]) ∧ w' = w := by
  have HT := hid hT.signs
  clear hT
  obtain ⟨T, HK⟩ : ∃ T, Hid (sg2 ++ sg1 = T) := ⟨_, rfl⟩
  have HL : Hid (T.length = 25) := by rw [← HK.out]; rfl
  rw [HK.out] at HT
  go_enter Tryz.func82, Tryz.ntmps82
  go_wp2_with (refine wpList_load_mid rfl 132 (.global 1) rfl 1 0 rfl (strV T) (.array 25 9) (fun j v hv => HT.out j v hv) Tryz.underlying132 rfl (by rw [strV_length, HL.out]; kernel_rfl) ?_)
  go_loop [8] (fun i => ∃ k : Nat, i = .int .i64 k ∧ k ≤ 25 ∧ Nop T l k) (fun i => 25 - (intOf i).toNat)
  case atStart => exact ⟨0, rfl, by omega, fun j hj => by omega⟩
  case round =>
    obtain ⟨k, rfl, hk, HN⟩ := hrel
    have HN : Hid (Nop T l k) := HN
    by_cases hlt : k < 25
    · have q1 : (k : Int) < 25 := by omega
      have i1 := fun W => index_tab W 132 25 Tryz.underlying132 T HL.out k hlt
      obtain ⟨x, HX⟩ : ∃ x, Hid (T.getD k [] = x) := ⟨_, rfl⟩
      rw [HX.out] at i1
      have c1 := Tryz.strings_HasPrefix (mk l) (mk x)
      rw [← bl_eq, bl_mk, ← bl_eq, bl_mk] at c1
      have hxs := mk_size x
      cases hp : Lib.hasPrefix l x with
      | true =>
        rw [hp] at c1
        have H1 := hid c1
        have HS : Hid (sgP l = x.length ∧ x.length ≠ 0) := by
          have a1 := HN.out
          have a2 := HX.out
          rw [← HK.out] at a1 a2
          exact sg_some a1 hlt a2 hp
        clear c1 hp
        go_wp2_with (go_at_call 100; refine (H1.out _).mono ?_; rintro e w' ⟨rfl, rfl⟩)
        go_ret3
        refine ⟨?_, rfl⟩
        have e : sqP l = (5, x.length, 0) := by unfold sqP; rw [HS.out.1, if_neg HS.out.2]
        rw [e]
        rfl
      | false =>
        rw [hp] at c1
        have H1 := hid c1
        have HP := hid hp
        clear c1 hp
        go_wp2_with (go_at_call 100; refine (H1.out _).mono ?_; rintro e w' ⟨rfl, rfl⟩)
        exact ⟨⟨k + 1, by simp, by omega, HN.out.more HX.out HP.out⟩, by simp [intOf]; omega⟩
    · have q1 : ¬ (k : Int) < 25 := by omega
      obtain rfl : k = 25 := by omega
      go_wp2
      go_ret3
      refine ⟨?_, rfl⟩
      have a1 := HN.out
      rw [← HK.out] at a1
      have e : sqP l = (0, 0, 120) := by unfold sqP; rw [if_pos (sg_none a1)]
      rw [e]
      rfl

end Go.Proofs.YtlpengaclkidiaaGreatDoor

/- The program's pieces of a text. -/
namespace Go.Proofs.YtlpengaclkidiaaGreatDoor
open Go.RowKit

set_option maxHeartbeats 1000000 in
theorem plain_any (c : Int) (w : World) :
    Calls Tryz.prog 83 #[.int .u8 c] w fun e w' => e = .returned (.bool (plI c)) ∧ w' = w := by
  go_enter Tryz.func83, Tryz.ntmps83
  go_wp2
  all_goals go_ret
  all_goals refine ⟨ret_b ?_, rfl⟩
  all_goals unfold plI
  all_goals simp
  all_goals omega

/-- a named piece, a coded one -/
def nmQ (d : UInt8) : UInt8 × Nat := if d = 110 then (10, 2) else if d = 116 then (9, 2) else if d = 34 ∨ d = 92 then (d, 2) else (0, 0)
def cdQ (a b : UInt8) : UInt8 × Nat := if hxN a < 16 ∧ hxN b < 16 then (UInt8.ofNat (16 * hxN a + hxN b), 4) else (0, 0)
theorem u8_eq {c : UInt8} {n : Nat} (hn : n < 256) : (c.toNat : Int) = (n : Int) ↔ c = UInt8.ofNat n := by
  constructor
  · intro h
    apply UInt8.toNat_inj.1
    rw [UInt8.toNat_ofNat_of_lt' (by simpa using hn)]
    omega
  · intro h
    rw [h, UInt8.toNat_ofNat_of_lt' (by simpa using hn)]

set_option maxHeartbeats 1000000 in
theorem named_any (d : UInt8) (w : World) :
    Calls Tryz.prog 85 #[.int .u8 (d.toNat : Nat)] w fun e w' => e = .returned (.tuple #[.int .u8 ((nmQ d).1.toNat : Nat), .int .i64 ((nmQ d).2 : Nat)]) ∧ w' = w := by
  have k1 := u8_eq (c := d) (n := 110) (by omega)
  have k2 := u8_eq (c := d) (n := 116) (by omega)
  have k3 := u8_eq (c := d) (n := 34) (by omega)
  have k4 := u8_eq (c := d) (n := 92) (by omega)
  by_cases h1 : d = 110
  · subst h1
    clear k1 k2 k3 k4
    go_enter Tryz.func85, Tryz.ntmps85
    go_wp2
    go_ret2
    exact ⟨rfl, rfl⟩
  · by_cases h2 : d = 116
    · subst h2
      clear k1 k2 k3 k4
      go_enter Tryz.func85, Tryz.ntmps85
      go_wp2
      go_ret2
      exact ⟨rfl, rfl⟩
    · by_cases h3 : d = 34
      · subst h3
        clear k1 k2 k3 k4
        go_enter Tryz.func85, Tryz.ntmps85
        go_wp2
        go_ret2
        exact ⟨rfl, rfl⟩
      · by_cases h4 : d = 92
        · subst h4
          clear k1 k2 k3 k4
          go_enter Tryz.func85, Tryz.ntmps85
          go_wp2
          go_ret2
          exact ⟨rfl, rfl⟩
        · have n1 : ¬ (d.toNat : Int) = 110 := fun e => h1 (k1.1 e)
          have n2 : ¬ (d.toNat : Int) = 116 := fun e => h2 (k2.1 e)
          have n3 : ¬ (d.toNat : Int) = 34 := fun e => h3 (k3.1 e)
          have n4 : ¬ (d.toNat : Int) = 92 := fun e => h4 (k4.1 e)
          have HQ : Hid (nmQ d = (0, 0)) := by show nmQ d = (0, 0); unfold nmQ; rw [if_neg h1, if_neg h2, if_neg (by rintro (e | e); exact h3 e; exact h4 e)]
          clear k1 k2 k3 k4 h1 h2 h3 h4
          go_enter Tryz.func85, Tryz.ntmps85
          go_wp2
          go_ret2
          exact ⟨by rw [HQ.out]; rfl, rfl⟩

theorem all_u8 {p : UInt8 → Prop} (h : ∀ n : Fin 256, p (UInt8.ofNat n.val)) (c : UInt8) : p c := by
  have := h ⟨c.toNat, c.toNat_lt⟩
  simpa using this
set_option maxRecDepth 100000 in
theorem idx_hex (c : UInt8) : Lib.indexByte [48, 49, 50, 51, 52, 53, 54, 55, 56, 57, 97, 98, 99, 100, 101, 102] c = if hxN c < 16 then (hxN c : Int) else -1 := by
  revert c
  refine all_u8 ?_
  decide +kernel

set_option maxHeartbeats 1000000 in
theorem coded_any (a b : UInt8) (w : World) :
    Calls Tryz.prog 84 #[.int .u8 (a.toNat : Nat), .int .u8 (b.toNat : Nat)] w fun e w' => e = .returned (.tuple #[.int .u8 ((cdQ a b).1.toNat : Nat), .int .i64 ((cdQ a b).2 : Nat)]) ∧ w' = w := by
  have c1 := Tryz.strings_IndexByte ⟨#[48, 49, 50, 51, 52, 53, 54, 55, 56, 57, 97, 98, 99, 100, 101, 102]⟩ (a.toNat : Nat)
  have c2 := Tryz.strings_IndexByte ⟨#[48, 49, 50, 51, 52, 53, 54, 55, 56, 57, 97, 98, 99, 100, 101, 102]⟩ (b.toNat : Nat)
  have ea : ((a.toNat : Nat) : Int).toNat.toUInt8 = a := by simp
  have eb : ((b.toNat : Nat) : Int).toNat.toUInt8 = b := by simp
  have el : (⟨#[48, 49, 50, 51, 52, 53, 54, 55, 56, 57, 97, 98, 99, 100, 101, 102]⟩ : ByteArray).data.toList = [48, 49, 50, 51, 52, 53, 54, 55, 56, 57, 97, 98, 99, 100, 101, 102] := rfl
  rw [ea, el, idx_hex] at c1
  rw [eb, el, idx_hex] at c2
  obtain ⟨x, HX⟩ : ∃ x, Hid (hxN a = x) := ⟨_, rfl⟩
  obtain ⟨y, HY⟩ : ∃ y, Hid (hxN b = y) := ⟨_, rfl⟩
  rw [HX.out] at c1
  rw [HY.out] at c2
  by_cases hx : x < 16
  · by_cases hy : y < 16
    · rw [if_pos hx] at c1
      rw [if_pos hy] at c2
      have HC : Hid (cdQ a b = (UInt8.ofNat (16 * x + y), 4)) := by show cdQ a b = _; unfold cdQ; rw [HX.out, HY.out, if_pos ⟨hx, hy⟩]
      have hx' : (x : Int) ≤ 15 := by omega
      have hy' : (y : Int) ≤ 15 := by omega
      have H1 := hid c1
      have H2 := hid c2
      clear c1 c2 ea eb el
      go_enter Tryz.func84, Tryz.ntmps84
      go_wp2_with first
        | (go_at_call 101; refine (H1.out _).mono ?_; clear H1; rintro e w' ⟨rfl, rfl⟩)
        | (go_at_call 101; refine (H2.out _).mono ?_; rintro e w' ⟨rfl, rfl⟩)
      go_ret2
      refine ⟨?_, rfl⟩
      rw [HC.out]
      have e : ((UInt8.ofNat (16 * x + y)).toNat : Int) = 16 * (x : Int) + (y : Int) := by
        rw [UInt8.toNat_ofNat_of_lt' (show 16 * x + y < 256 by omega)]; omega
      simp only [e]
      rfl
    · rw [if_pos hx] at c1
      rw [if_neg hy] at c2
      have HC : Hid (cdQ a b = (0, 0)) := by show cdQ a b = _; unfold cdQ; rw [HX.out, HY.out, if_neg (fun h => hy h.2)]
      have H1 := hid c1
      have H2 := hid c2
      clear c1 c2 ea eb el hy
      go_enter Tryz.func84, Tryz.ntmps84
      go_wp2_with first
        | (go_at_call 101; refine (H1.out _).mono ?_; clear H1; rintro e w' ⟨rfl, rfl⟩)
        | (go_at_call 101; refine (H2.out _).mono ?_; rintro e w' ⟨rfl, rfl⟩)
      go_ret2
      exact ⟨by rw [HC.out]; rfl, rfl⟩
  · rw [if_neg hx] at c1
    have HC : Hid (cdQ a b = (0, 0)) := by show cdQ a b = _; unfold cdQ; rw [HX.out, HY.out, if_neg (fun h => hx h.1)]
    obtain ⟨z, HZ⟩ : ∃ z : Int, Hid ((if y < 16 then (y : Int) else -1) = z) := ⟨_, rfl⟩
    rw [HZ.out] at c2
    have H1 := hid c1
    have H2 := hid c2
    clear c1 c2 ea eb el hx
    go_enter Tryz.func84, Tryz.ntmps84
    go_wp2_with first
      | (go_at_call 101; refine (H1.out _).mono ?_; clear H1; rintro e w' ⟨rfl, rfl⟩)
      | (go_at_call 101; refine (H2.out _).mono ?_; rintro e w' ⟨rfl, rfl⟩)
    go_ret2
    exact ⟨by rw [HC.out]; rfl, rfl⟩

end Go.Proofs.YtlpengaclkidiaaGreatDoor

/- The program's texts: a piece, a text at a source's beginning. -/
namespace Go.Proofs.YtlpengaclkidiaaGreatDoor
open Go.RowKit

theorem pc_plain {l : List UInt8} {z : UInt8} (h0 : 0 < l.length) (hz : l.getD 0 0 = z) (hp : plB z = true) : pcP l = (z, 1) := by
  unfold pcP
  rw [if_neg (by omega), hz, if_pos (by rintro rfl; revert hp; decide), if_pos hp]
theorem pc_other {l : List UInt8} {z : UInt8} (hz : l.getD 0 0 = z) (hp : plB z = false) (h2 : z ≠ 92) : pcP l = (0, 0) := by
  unfold pcP
  split
  · rfl
  · rw [hz, if_pos h2, if_neg (by simp [hp])]
theorem pc_coded {l : List UInt8} (hz : l.getD 0 0 = 92) (hl : 4 ≤ l.length) (hd : l.getD 1 0 = 120) : pcP l = cdQ (l.getD 2 0) (l.getD 3 0) := by
  unfold pcP cdQ
  rw [if_neg (by omega), hz, if_neg (by simp), if_neg (by omega), hd, if_neg (by decide), if_neg (by decide), if_neg (by decide)]
  by_cases h : hxN (l.getD 2 0) < 16 ∧ hxN (l.getD 3 0) < 16
  · rw [if_pos h, if_pos ⟨rfl, hl, h⟩]
  · rw [if_neg h, if_neg (fun e => h e.2.2)]
theorem pc_named {l : List UInt8} {d : UInt8} (hz : l.getD 0 0 = 92) (hl : 2 ≤ l.length) (hd : l.getD 1 0 = d) (hn : ¬ (4 ≤ l.length ∧ d = 120)) : pcP l = nmQ d := by
  unfold pcP nmQ
  rw [if_neg (by omega), hz, if_neg (by simp), if_neg (by omega), hd]
  split
  · rfl
  · split
    · rfl
    · split
      · rfl
      · rw [if_neg (fun e => hn ⟨e.2.1, e.1⟩)]
theorem pc_short {l : List UInt8} (hz : l.getD 0 0 = 92) (hl : l.length = 1) : pcP l = (0, 0) := by
  unfold pcP
  rw [if_neg (by omega), hz, if_neg (by simp), if_pos (by omega)]

set_option maxHeartbeats 2000000 in
theorem piece_any (l : List UInt8) (hl : l.length ≤ 140737488355328) (w : World) :
    Calls Tryz.prog 58 #[.string (mk l)] w fun e w' => e = .returned (.tuple #[.int .u8 ((pcP l).1.toNat : Nat), .int .i64 ((pcP l).2 : Nat)]) ∧ ∃ n, w' = w.drewN n := by
  have hsz := mk_size l
  by_cases h0 : l.length = 0
  · obtain rfl : l = [] := List.length_eq_zero_iff.1 h0
    have f1 : ((mk []).toList == ([] : List UInt8)) = true := by rw [tl_mk]; rfl
    have f2 : (mk []).toList.isEmpty = true := by rw [tl_mk]; rfl
    clear h0 hl
    go_enter Tryz.func58, Tryz.ntmps58
    go_wp2
    go_ret2
    exact ⟨rfl, 0, rfl⟩
  · have h0 : 0 < l.length := by omega
    have f1 : ((mk l).toList == ([] : List UInt8)) = false := by rw [tl_mk]; cases l <;> simp at h0 ⊢
    have f2 : (mk l).toList.isEmpty = false := by rw [tl_mk]; cases l <;> simp at h0 ⊢
    have i0 := at_mk l 0 h0
    obtain ⟨z, HZ⟩ : ∃ z : UInt8, Hid (l.getD 0 0 = z) := ⟨_, rfl⟩
    rw [HZ.out] at i0
    have i0 : ∀ W, (Instr.index 9 (.string (mk l)) (.int .i64 0)).run Tryz.prog W = .ok (.int .u8 (z.toNat : Nat)) W := i0
    have H1 := hid (plain_any (z.toNat : Nat))
    have k4 := u8_eq (c := z) (n := 92) (by omega)
    cases hp : plI (z.toNat : Nat) with
    | true =>
      rw [hp] at H1
      have n4 : ¬ (z.toNat : Int) = 92 := by
        intro e
        rw [e] at hp
        revert hp; decide
      have HR := hid (pc_plain h0 HZ.out hp)
      clear hp k4
      go_enter Tryz.func58, Tryz.ntmps58
      go_wp2_with (go_at_call 83; refine (H1.out _).mono ?_; rintro e w' ⟨rfl, rfl⟩)
      go_ret2
      exact ⟨by rw [HR.out]; rfl, 0, rfl⟩
    | false =>
      rw [hp] at H1
      by_cases h92 : z = 92
      · subst h92
        have HZ' := HZ.out
        clear hp k4
        by_cases h2 : 2 ≤ l.length
        · have i1 := at_mk l 1 (by omega)
          obtain ⟨d, HD⟩ : ∃ d : UInt8, Hid (l.getD 1 0 = d) := ⟨_, rfl⟩
          rw [HD.out] at i1
          have i1 : ∀ W, (Instr.index 9 (.string (mk l)) (.int .i64 1)).run Tryz.prog W = .ok (.int .u8 (d.toNat : Nat)) W := i1
          have q2 : ¬ (l.length : Int) < 2 := by omega
          have k5 := u8_eq (c := d) (n := 120) (by omega)
          have H2 := hid (named_any d)
          by_cases h4 : 4 ≤ l.length
          · have q4 : ¬ (l.length : Int) < 4 := by omega
            by_cases hx : d = 120
            · subst hx
              have i2 := at_mk l 2 (by omega)
              have i3 := at_mk l 3 (by omega)
              have H3 := hid (coded_any (l.getD 2 0) (l.getD 3 0))
              have HR := hid (pc_coded HZ.out h4 HD.out)
              obtain ⟨x, HX⟩ : ∃ x : UInt8, Hid (l.getD 2 0 = x) := ⟨_, rfl⟩
              obtain ⟨y, HY⟩ : ∃ y : UInt8, Hid (l.getD 3 0 = y) := ⟨_, rfl⟩
              rw [HX.out] at i2
              rw [HY.out] at i3
              rw [HX.out, HY.out] at H3 HR
              have i2 : ∀ W, (Instr.index 9 (.string (mk l)) (.int .i64 2)).run Tryz.prog W = .ok (.int .u8 (x.toNat : Nat)) W := i2
              have i3 : ∀ W, (Instr.index 9 (.string (mk l)) (.int .i64 3)).run Tryz.prog W = .ok (.int .u8 (y.toNat : Nat)) W := i3
              obtain ⟨⟨r1, r2⟩, HQ⟩ : ∃ r, Hid (cdQ x y = r) := ⟨_, rfl⟩
              rw [HQ.out] at H3 HR
              clear k5 HZ'
              go_enter Tryz.func58, Tryz.ntmps58
              go_wp2_with (go_at_call 83; refine (H1.out _).mono ?_; rintro e w' ⟨rfl, rfl⟩)
              go_quiet (first | (go_at_call 84; exact Calls.quiet_of_same (H3.out _)))
              go_wp2
              go_ret2
              exact ⟨by rw [HR.out]; rfl, _, rfl⟩
            · have n5 : ¬ (d.toNat : Int) = 120 := fun e => hx (k5.1 e)
              have HR := hid (pc_named HZ.out h2 HD.out (fun e => hx e.2))
              obtain ⟨⟨r1, r2⟩, HQ⟩ : ∃ r, Hid (nmQ d = r) := ⟨_, rfl⟩
              rw [HQ.out] at H2 HR
              clear k5 hx HZ'
              go_enter Tryz.func58, Tryz.ntmps58
              go_wp2_with first
                | (go_at_call 83; refine (H1.out _).mono ?_; rintro e w' ⟨rfl, rfl⟩)
                | (go_at_call 85; refine (H2.out _).mono ?_; rintro e w' ⟨rfl, rfl⟩)
              go_ret2
              exact ⟨by rw [HR.out]; rfl, 0, rfl⟩
          · have q4 : (l.length : Int) < 4 := by omega
            have HR := hid (pc_named HZ.out h2 HD.out (fun e => h4 e.1))
            obtain ⟨⟨r1, r2⟩, HQ⟩ : ∃ r, Hid (nmQ d = r) := ⟨_, rfl⟩
            rw [HQ.out] at H2 HR
            clear k5 HZ'
            go_enter Tryz.func58, Tryz.ntmps58
            go_wp2_with first
              | (go_at_call 83; refine (H1.out _).mono ?_; rintro e w' ⟨rfl, rfl⟩)
              | (go_at_call 85; refine (H2.out _).mono ?_; rintro e w' ⟨rfl, rfl⟩)
            go_ret2
            exact ⟨by rw [HR.out]; rfl, 0, rfl⟩
        · have q4 : (l.length : Int) < 4 := by omega
          have q2 : (l.length : Int) < 2 := by omega
          have HR := hid (pc_short HZ.out (by omega))
          clear HZ'
          go_enter Tryz.func58, Tryz.ntmps58
          go_wp2_with (go_at_call 83; refine (H1.out _).mono ?_; rintro e w' ⟨rfl, rfl⟩)
          go_ret2
          exact ⟨by rw [HR.out]; rfl, 0, rfl⟩
      · have n4 : ¬ (z.toNat : Int) = 92 := fun e => h92 (k4.1 e)
        have HR := hid (pc_other HZ.out hp h92)
        clear k4 hp h92
        go_enter Tryz.func58, Tryz.ntmps58
        go_wp2_with (go_at_call 83; refine (H1.out _).mono ?_; rintro e w' ⟨rfl, rfl⟩)
        go_ret2
        exact ⟨by rw [HR.out]; rfl, 0, rfl⟩

/-- a text so far: n pieces, up to byte a -/
def Tx (l : List UInt8) (a n : Nat) : Prop := 1 ≤ a ∧ a ≤ l.length ∧ ∃ v : List UInt8, v.length = n ∧ txP (l.drop 1) = (txP (l.drop a)).map (fun x => (v ++ x.1, a - 1 + x.2))
theorem Tx.one {l : List UInt8} (h : 0 < l.length) : Tx l 1 0 := ⟨by omega, h, [], rfl, by cases txP (l.drop 1) <;> simp⟩
theorem drop_getD (l : List UInt8) (a j : Nat) : (l.drop a).getD j 0 = l.getD (a + j) 0 := by
  simp [List.getD_eq_getElem?_getD, List.getElem?_drop]
theorem Tx.more {l : List UInt8} {a n k : Nat} {c : UInt8} (h : Tx l a n) (hq : ¬ l.getD a 0 = 34) (hp : pcP (l.drop a) = (c, k)) (hk : k ≠ 0) : Tx l (a + k) (n + 1) := by
  obtain ⟨h1, h2, v, hv, hx⟩ := h
  have hle := pcP_le (l.drop a)
  rw [hp, List.length_drop] at hle
  simp only at hle
  refine ⟨by omega, by omega, v ++ [c], by simp [hv], ?_⟩
  have hq' : ¬ (l.drop a).getD 0 0 = 34 := by rw [drop_getD]; exact hq
  rw [hx, txP_step hq' (by rw [hp]; exact hk), hp, List.drop_drop]
  cases txP (l.drop (a + k)) with
  | none => rfl
  | some x =>
    simp only [Option.map_some, List.append_assoc, List.singleton_append]
    congr 2
    omega
theorem Tx.ends {l : List UInt8} {a n : Nat} (h : Tx l a n) (hn : n ≤ 4096) (hq : l.getD a 0 = 34) : tqP l = (3, a + 1, 0) := by
  obtain ⟨h1, h2, v, hv, hx⟩ := h
  rw [txP_quote (l := l.drop a) (by rw [drop_getD]; exact hq)] at hx
  unfold tqP
  rw [hx]
  simp only [Option.map_some, List.append_nil]
  rw [if_pos (by omega)]
  congr 2
  omega
theorem Tx.bad {l : List UInt8} {a n : Nat} (h : Tx l a n) (hq : ¬ l.getD a 0 = 34) (hp : (pcP (l.drop a)).2 = 0) : tqP l = (0, 0, 122) := by
  obtain ⟨h1, h2, v, hv, hx⟩ := h
  rw [txP_bad (l := l.drop a) (by rw [drop_getD]; exact hq) hp] at hx
  unfold tqP
  rw [hx]
  rfl
theorem Tx.long {l : List UInt8} {a n : Nat} (h : Tx l a n) (hn : 4096 < n) : tqP l = (0, 0, 122) := by
  obtain ⟨h1, h2, v, hv, hx⟩ := h
  unfold tqP
  rw [hx]
  cases txP (l.drop a) with
  | none => rfl
  | some x =>
    simp only [Option.map_some]
    rw [if_neg (by rw [List.length_append]; omega)]

set_option maxHeartbeats 2000000 in
theorem text_any (l : List UInt8) (hl : l.length ≤ 140737488355328) (h0 : 0 < l.length) (w : World) :
    Calls Tryz.prog 81 #[.string (mk l)] w fun e w' => e = .returned (.tuple #[.int .i64 (tqP l).1, .int .i64 (tqP l).2.1, .int .i64 (tqP l).2.2]) ∧ ∃ n, w' = w.drewN n := by
  have hsz := mk_size l
  have H0 := hid (Tx.one h0)
  clear h0
  go_enter Tryz.func81, Tryz.ntmps81
  go_wp2
  go_loopw [5, 6] (fun x i wr => ∃ a n q : Nat, n ≤ 4097 ∧ x = .int .i64 a ∧ i = .int .i64 n ∧ wr = w.drewN q ∧ Tx l a n) (fun _ i _ => 4097 - (intOf i).toNat)
  case atStart => exact ⟨1, 0, 0, by omega, rfl, rfl, rfl, H0.out⟩
  case round =>
    obtain ⟨a, n, q, hn, rfl, rfl, rfl, HT⟩ := hrel
    have HT : Hid (Tx l a n) := HT
    have ha := HT.out.2.1
    by_cases hlt : n < 4097
    · have q1 : (n : Int) ≤ 4096 := by omega
      by_cases hal : a < l.length ∧ l.getD a 0 = 34
      · have q2 : (a : Int) < (l.length : Int) := by omega
        have i1 := at_mk l a hal.1
        rw [hal.2] at i1
        have i1 : ∀ W, (Instr.index 9 (.string (mk l)) (.int .i64 (a : Int))).run Tryz.prog W = .ok (.int .u8 34) W := i1
        have FIN := hid (HT.out.ends (by omega) hal.2)
        clear hal
        go_wp2
        go_ret3
        exact ⟨by rw [FIN.out]; rfl, q, rfl⟩
      · have hq : ¬ l.getD a 0 = 34 := fun e => by
          refine hal ⟨?_, e⟩
          rcases Nat.lt_or_ge a l.length with h | h
          · exact h
          · rw [List.getD_eq_getElem?_getD, List.getElem?_eq_none h] at e
            exact absurd e (by decide)
        have HQ := hid hq
        have s1 := sl_from l a ha
        have H1 := hid (piece_any (l.drop a) (by rw [List.length_drop]; omega))
        obtain ⟨⟨c, k⟩, HP⟩ : ∃ r, Hid (pcP (l.drop a) = r) := ⟨_, rfl⟩
        rw [HP.out] at H1
        by_cases hk : k = 0
        · subst hk
          have FIN := hid (HT.out.bad hq (by rw [HP.out]))
          clear hq hal
          by_cases hlt2 : a < l.length
          · have q2 : (a : Int) < (l.length : Int) := by omega
            have i1 := at_mk l a hlt2
            obtain ⟨z, HZ⟩ : ∃ z : UInt8, Hid (l.getD a 0 = z) := ⟨_, rfl⟩
            rw [HZ.out] at i1
            have n4 : ¬ (z.toNat : Int) = 34 := fun e => HQ.out (by rw [HZ.out]; exact (u8_eq (n := 34) (by omega)).1 e)
            go_wp2_with (go_at_call 58; refine (H1.out _).mono ?_; rintro e w' ⟨rfl, m, rfl⟩)
            go_ret3
            exact ⟨by rw [FIN.out]; rfl, _, rfl⟩
          · have q2 : ¬ (a : Int) < (l.length : Int) := by omega
            go_wp2_with (go_at_call 58; refine (H1.out _).mono ?_; rintro e w' ⟨rfl, m, rfl⟩)
            go_ret3
            exact ⟨by rw [FIN.out]; rfl, _, rfl⟩
        · have HM := hid (HT.out.more hq HP.out hk)
          have hml := HM.out.2.1
          have n5 : ¬ (k : Int) = 0 := by omega
          clear hq hal
          by_cases hlt2 : a < l.length
          · have q2 : (a : Int) < (l.length : Int) := by omega
            have i1 := at_mk l a hlt2
            obtain ⟨z, HZ⟩ : ∃ z : UInt8, Hid (l.getD a 0 = z) := ⟨_, rfl⟩
            rw [HZ.out] at i1
            have n4 : ¬ (z.toNat : Int) = 34 := fun e => HQ.out (by rw [HZ.out]; exact (u8_eq (n := 34) (by omega)).1 e)
            go_wp2_with (go_at_call 58; refine (H1.out _).mono ?_; rintro e w' ⟨rfl, m, rfl⟩)
            exact ⟨⟨a + k, n + 1, _, by omega, by simp, by simp, rfl, HM.out⟩, by simp [intOf]; omega⟩
          · exfalso; omega
    · have q1 : ¬ (n : Int) ≤ 4096 := by omega
      have FIN := hid (HT.out.long (by omega))
      go_wp2
      go_ret3
      exact ⟨by rw [FIN.out]; rfl, q, rfl⟩

end Go.Proofs.YtlpengaclkidiaaGreatDoor

/- The document's letters, keys, numbers, signs. -/
namespace Go.Proofs.YtlpengaclkidiaaGreatDoor
open Go.RowKit

set_option maxHeartbeats 1000000 in
theorem rletter_any (c : Int) (w : World) :
    Calls Tryz.prog 86 #[.int .u8 c] w fun e w' => e = .returned (.bool (ltI c)) ∧ w' = w := by
  go_enter Tryz.func86, Tryz.ntmps86
  go_wp2
  all_goals go_ret
  all_goals refine ⟨ret_b ?_, rfl⟩
  all_goals unfold ltI
  all_goals simp
  all_goals omega

set_option maxHeartbeats 1000000 in
theorem rdigit_any (c : Int) (w : World) :
    Calls Tryz.prog 87 #[.int .u8 c] w fun e w' => e = .returned (.bool (dgI c)) ∧ w' = w := by
  go_enter Tryz.func87, Tryz.ntmps87
  go_wp2
  all_goals go_ret
  all_goals refine ⟨ret_b ?_, rfl⟩
  all_goals unfold dgI
  all_goals simp
  all_goals omega

/-- is a text one of some? -/
def amP (T : List (List UInt8)) (l : List UInt8) : Bool := decide (l ∈ T)

set_option maxHeartbeats 1000000 in
theorem among_any (T : List (List UInt8)) (l : List UInt8) (g : Nat) (hn : T.length ≤ 1000) (w : World) (hg : w.heap[g]? = some (.cells (strV T).toArray 9 (0, 0))) :
    Calls Tryz.prog 90 #[.slice (some ⟨g, 0, none⟩) T.length T.length, .string (mk l)] w fun e w' => e = .returned (.bool (amP T l)) ∧ w' = w := by
  have HG := hid hg
  clear hg
  obtain ⟨n, HNN⟩ : ∃ n, Hid (T.length = n) := ⟨_, rfl⟩
  rw [HNN.out] at hn ⊢
  go_enter Tryz.func90, Tryz.ntmps90
  go_wp2
  go_loop [5] (fun i => ∃ k : Nat, i = .int .i64 k ∧ k ≤ n ∧ Nay T l k) (fun i => n - (intOf i).toNat)
  case atStart => exact ⟨0, rfl, by omega, fun j hj => by omega⟩
  case round =>
    obtain ⟨k, rfl, hk, HN⟩ := hrel
    have HN : Hid (Nay T l k) := HN
    by_cases hlt : k < n
    · have q1 : (k : Int) < (n : Int) := by omega
      have c1 : w.cell? ⟨g, k, none⟩ = some (.string (mk (T.getD k []))) := by
        rw [cell_of_row _ _ _ _ _ _ HG.out]
        simpa using strV_get T k (by have := HNN.out; omega)
      obtain ⟨x, HX⟩ : ∃ x, Hid (T.getD k [] = x) := ⟨_, rfl⟩
      rw [HX.out] at c1
      by_cases he : l = x
      · have e1 := eq_mk he.symm
        have HE := hid he
        clear he
        go_wp2
        go_ret
        exact ⟨by rw [show amP T l = true from yea (by have := HNN.out; omega) HX.out HE.out]; rfl, rfl⟩
      · have e1 := ne_mk (fun h => he h.symm)
        have HE := hid he
        clear he
        go_wp2
        exact ⟨⟨k + 1, by simp, by omega, HN.out.more HX.out HE.out⟩, by simp [intOf]; omega⟩
    · have q1 : ¬ (k : Int) < (n : Int) := by omega
      obtain rfl : k = n := by omega
      go_wp2
      go_ret
      exact ⟨by rw [show amP T l = false from HN.out.all HNN.out]; rfl, rfl⟩

theorem ky_cells : (strV kyL).toArray = #[.string ⟨#[105, 110, 99, 108, 117, 100, 101]⟩, .string ⟨#[97, 115]⟩, .string ⟨#[101, 120, 112, 111, 114, 116]⟩, .string ⟨#[99, 111, 110, 115, 116]⟩, .string ⟨#[102, 117, 110, 99]⟩, .string ⟨#[118, 97, 114]⟩, .string ⟨#[105, 102]⟩, .string ⟨#[101, 108, 115, 101]⟩, .string ⟨#[119, 104, 105, 108, 101]⟩, .string ⟨#[114, 101, 116, 117, 114, 110]⟩, .string ⟨#[112, 114, 105, 110, 116]⟩, .string ⟨#[116, 114, 117, 101]⟩, .string ⟨#[102, 97, 108, 115, 101]⟩, .string ⟨#[105, 110, 116]⟩, .string ⟨#[98, 111, 111, 108]⟩, .string ⟨#[116, 101, 120, 116]⟩] := rfl

set_option maxHeartbeats 1000000 in
theorem rkeys_any (w : World) :
    Calls Tryz.prog 91 #[] w fun e w' => e = .returned (.slice (some ⟨w.heap.size, 0, none⟩) 16 16) ∧ w' = w.alloc (.cells (strV kyL).toArray 9) := by
  rw [ky_cells]
  go_enter Tryz.func91, Tryz.ntmps91
  go_wp2
  go_ret
  exact ⟨rfl, rfl⟩

set_option maxHeartbeats 1000000 in
theorem rkey_any (l : List UInt8) (w : World) :
    Calls Tryz.prog 63 #[.string (mk l)] w fun e w' => e = .returned (.bool (amP kyL l)) ∧ Below w.heap.size w w' := by
  have H1 := hid rkeys_any
  have H2 : Hid (∀ w g, w.heap[g]? = some (.cells (strV kyL).toArray 9 (0, 0)) → Calls Tryz.prog 90 #[.slice (some ⟨g, 0, none⟩) 16 16, .string (mk l)] w fun e w' => e = .returned (.bool (amP kyL l)) ∧ w' = w) := fun w g hg => among_any kyL l g (by decide) w hg
  obtain ⟨T, HT⟩ : ∃ T, Hid (kyL = T) := ⟨_, rfl⟩
  rw [HT.out] at H1 H2 ⊢
  go_enter Tryz.func63, Tryz.ntmps63
  go_wp2_with first
    | (go_at_call 91; refine (H1.out _).mono ?_; rintro e w' ⟨rfl, rfl⟩)
    | (go_at_call 90; refine (H2.out _ _ (hp_new _ _)).mono ?_; rintro e w' ⟨rfl, rfl⟩)
  go_ret
  exact ⟨rfl, below_walk _ _⟩

end Go.Proofs.YtlpengaclkidiaaGreatDoor

/- The document's halves and pieces. -/
namespace Go.Proofs.YtlpengaclkidiaaGreatDoor
open Go.RowKit

set_option maxHeartbeats 1000000 in
theorem rhalf_any (c : UInt8) (w : World) :
    Calls Tryz.prog 92 #[.int .u8 (c.toNat : Nat)] w fun e w' => e = .returned (.int .u8 (hxN c : Nat)) ∧ w' = w := by
  have H1 := hid (rdigit_any (c.toNat : Nat))
  have hc : (c.toNat : Int) ≤ 255 := by have := c.toNat_lt; omega
  cases hd : dgI (c.toNat : Nat) with
  | true =>
    rw [hd] at H1
    have hn := dg_num (show dgB c = true from hd)
    have HR : Hid (hxN c = c.toNat - 48) := by show hxN c = _; unfold hxN; rw [if_pos (show dgB c = true from hd)]
    have q1 : (48 : Int) ≤ (c.toNat : Int) := by omega
    clear hd
    go_enter Tryz.func92, Tryz.ntmps92
    go_wp2_with (go_at_call 87; refine (H1.out _).mono ?_; rintro e w' ⟨rfl, rfl⟩)
    go_ret
    refine ⟨?_, rfl⟩
    rw [HR.out, show ((c.toNat - 48 : Nat) : Int) = (c.toNat : Int) - 48 by omega]
    rfl
  | false =>
    rw [hd] at H1
    by_cases hx : 97 ≤ c.toNat ∧ c.toNat ≤ 102
    · have HR : Hid (hxN c = c.toNat - 87) := by show hxN c = _; unfold hxN; rw [if_neg (by unfold dgB; rw [hd]; decide), if_pos hx]
      have q1 : (97 : Int) ≤ (c.toNat : Int) := by omega
      have q2 : (c.toNat : Int) ≤ 102 := by omega
      clear hd
      go_enter Tryz.func92, Tryz.ntmps92
      go_wp2_with (go_at_call 87; refine (H1.out _).mono ?_; rintro e w' ⟨rfl, rfl⟩)
      go_ret
      refine ⟨?_, rfl⟩
      have e : ((c.toNat - 87 : Nat) : Int) = (c.toNat : Int) - 97 + 10 := by omega
      rw [HR.out, e]
      rfl
    · have HR : Hid (hxN c = 16) := by show hxN c = _; unfold hxN; rw [if_neg (by unfold dgB; rw [hd]; decide), if_neg hx]
      have hq : ¬ (97 : Int) ≤ (c.toNat : Int) ∨ ((97 : Int) ≤ (c.toNat : Int) ∧ ¬ (c.toNat : Int) ≤ 102) := by omega
      clear hd hx
      go_enter Tryz.func92, Tryz.ntmps92
      rcases hq with q1 | ⟨q1, q2⟩
      all_goals go_wp2_with (go_at_call 87; refine (H1.out _).mono ?_; rintro e w' ⟨rfl, rfl⟩)
      all_goals go_ret
      all_goals exact ⟨by rw [HR.out]; rfl, rfl⟩

theorem or_bits {X Y : Nat} (hX : X < 16) (hY : Y < 16) : bits BinOp.or IntKind.u8 ((X : Int) * 16) (Y : Int) = ((UInt8.ofNat (16 * X + Y)).toNat : Int) := by
  have h : ∀ x y : Fin 16, bits BinOp.or IntKind.u8 ((x.val : Int) * 16) (y.val : Int) = ((UInt8.ofNat (16 * x.val + y.val)).toNat : Int) := by decide +kernel
  exact h ⟨X, hX⟩ ⟨Y, hY⟩

set_option maxHeartbeats 4000000 in
set_option maxRecDepth 100000 in
theorem rpiece_any (l : List UInt8) (a : Nat) (ha : a ≤ l.length) (hl : l.length ≤ 140737488355328) (w : World) :
    Calls Tryz.prog 64 #[.string (mk l), .int .i64 (a : Nat)] w fun e w' => e = .returned (.tuple #[.int .u8 ((pcP (l.drop a)).1.toNat : Nat), .int .i64 ((pcP (l.drop a)).2 : Nat)]) ∧ ∃ n, w' = w.drewN n := by
  have hsz := mk_size l
  have hdl : (l.drop a).length = l.length - a := List.length_drop
  have hg0 := drop_getD l a 0
  have hg1 := drop_getD l a 1
  have hg2 := drop_getD l a 2
  have hg3 := drop_getD l a 3
  rw [Nat.add_zero] at hg0
  by_cases hlt : a < l.length
  · have q1 : ¬ (l.length : Int) ≤ (a : Int) := by omega
    have i0 := at_mk l a hlt
    obtain ⟨z, HZ⟩ : ∃ z : UInt8, Hid (l.getD a 0 = z) := ⟨_, rfl⟩
    rw [HZ.out] at i0 hg0
    by_cases h92 : z = 92
    · subst h92
      have i0 : ∀ W, (Instr.index 9 (.string (mk l)) (.int .i64 (a : Int))).run Tryz.prog W = .ok (.int .u8 92) W := i0
      by_cases h2 : a + 1 < l.length
      · have q2 : ¬ (l.length : Int) ≤ (a : Int) + 1 := by omega
        have i1 := at_mk l (a + 1) h2
        obtain ⟨d, HD⟩ : ∃ d : UInt8, Hid (l.getD (a + 1) 0 = d) := ⟨_, rfl⟩
        rw [HD.out, show ((a + 1 : Nat) : Int) = (a : Int) + 1 by omega] at i1
        rw [HD.out] at hg1
        by_cases hx : a + 3 < l.length ∧ d = 120
        · obtain ⟨h3, rfl⟩ := hx
          have HR := hid (pc_coded hg0 (by omega) hg1)
          rw [hg2, hg3] at HR
          have i2 := at_mk l (a + 2) (by omega)
          have i3 := at_mk l (a + 3) (by omega)
          obtain ⟨x, HX⟩ : ∃ x : UInt8, Hid (l.getD (a + 2) 0 = x) := ⟨_, rfl⟩
          obtain ⟨y, HY⟩ : ∃ y : UInt8, Hid (l.getD (a + 3) 0 = y) := ⟨_, rfl⟩
          rw [HX.out, show ((a + 2 : Nat) : Int) = (a : Int) + 2 by omega] at i2
          rw [HY.out, show ((a + 3 : Nat) : Int) = (a : Int) + 3 by omega] at i3
          rw [HX.out, HY.out] at HR
          have i1 : ∀ W, (Instr.index 9 (.string (mk l)) (.int .i64 ((a : Int) + 1))).run Tryz.prog W = .ok (.int .u8 120) W := i1
          have H1 := hid (rhalf_any x)
          have H2 := hid (rhalf_any y)
          have q3 : (a : Int) + 3 < (l.length : Int) := by omega
          obtain ⟨X, HXX⟩ : ∃ X, Hid (hxN x = X) := ⟨_, rfl⟩
          obtain ⟨Y, HYY⟩ : ∃ Y, Hid (hxN y = Y) := ⟨_, rfl⟩
          have HQ : Hid (cdQ x y = if X < 16 ∧ Y < 16 then (UInt8.ofNat (16 * X + Y), 4) else (0, 0)) := by show cdQ x y = _; unfold cdQ; rw [HXX.out, HYY.out]
          rw [HXX.out] at H1
          rw [HYY.out] at H2
          clear hg0 hg1 hg2 hg3 hdl
          by_cases hX : X < 16
          · have r1 : (X : Int) < 16 := by omega
            by_cases hY : Y < 16
            · have r2 : (Y : Int) < 16 := by omega
              have HQ : Hid (cdQ x y = (UInt8.ofNat (16 * X + Y), 4)) := by have := HQ.out; rw [if_pos ⟨hX, hY⟩] at this; exact this
              go_enter Tryz.func64, Tryz.ntmps64
              go_wp2_with first
                | (go_at_call 92; with_reducible refine (H1.out _).mono ?_; rintro e w' ⟨rfl, rfl⟩)
                | (go_at_call 92; with_reducible refine (H2.out _).mono ?_; rintro e w' ⟨rfl, rfl⟩)
              go_quiet (first | (go_at_call 92; with_reducible exact Calls.quiet_of_same (H1.out _)) | (go_at_call 92; with_reducible exact Calls.quiet_of_same (H2.out _)))
              go_wp2
              go_ret2
              refine ⟨?_, _, rfl⟩
              rw [HR.out, HQ.out]
              show Ending.returned (.tuple #[.int .u8 (bits BinOp.or IntKind.u8 ((X : Int) * 16) (Y : Int)), .int .i64 4]) = _
              rw [or_bits hX hY]
              rfl
            · have r2 : ¬ (Y : Int) < 16 := by omega
              have HQ : Hid (cdQ x y = (0, 0)) := by have := HQ.out; rw [if_neg (fun h => hY h.2)] at this; exact this
              go_enter Tryz.func64, Tryz.ntmps64
              go_wp2_with first
                | (go_at_call 92; with_reducible refine (H1.out _).mono ?_; clear H1; rintro e w' ⟨rfl, rfl⟩)
                | (go_at_call 92; with_reducible refine (H2.out _).mono ?_; rintro e w' ⟨rfl, rfl⟩)
              go_ret2
              exact ⟨by rw [HR.out, HQ.out]; rfl, 0, rfl⟩
          · have r1 : ¬ (X : Int) < 16 := by omega
            have HQ : Hid (cdQ x y = (0, 0)) := by have := HQ.out; rw [if_neg (fun h => hX h.1)] at this; exact this
            go_enter Tryz.func64, Tryz.ntmps64
            go_wp2_with (go_at_call 92; with_reducible refine (H1.out _).mono ?_; rintro e w' ⟨rfl, rfl⟩)
            go_ret2
            exact ⟨by rw [HR.out, HQ.out]; rfl, 0, rfl⟩
        · have HR := hid (pc_named hg0 (by omega) hg1 (fun e => hx ⟨by omega, e.2⟩))
          clear hg0 hg1 hg2 hg3 hdl
          by_cases hd1 : d = 110
          · subst hd1
            have i1 : ∀ W, (Instr.index 9 (.string (mk l)) (.int .i64 ((a : Int) + 1))).run Tryz.prog W = .ok (.int .u8 110) W := i1
            clear hx
            go_enter Tryz.func64, Tryz.ntmps64
            go_wp2
            go_ret2
            exact ⟨by rw [HR.out]; rfl, 0, rfl⟩
          · by_cases hd2 : d = 116
            · subst hd2
              have i1 : ∀ W, (Instr.index 9 (.string (mk l)) (.int .i64 ((a : Int) + 1))).run Tryz.prog W = .ok (.int .u8 116) W := i1
              clear hx
              go_enter Tryz.func64, Tryz.ntmps64
              go_wp2
              go_ret2
              exact ⟨by rw [HR.out]; rfl, 0, rfl⟩
            · by_cases hd3 : d = 34
              · subst hd3
                have i1 : ∀ W, (Instr.index 9 (.string (mk l)) (.int .i64 ((a : Int) + 1))).run Tryz.prog W = .ok (.int .u8 34) W := i1
                clear hx
                go_enter Tryz.func64, Tryz.ntmps64
                go_wp2
                go_ret2
                exact ⟨by rw [HR.out]; rfl, 0, rfl⟩
              · by_cases hd4 : d = 92
                · subst hd4
                  have i1 : ∀ W, (Instr.index 9 (.string (mk l)) (.int .i64 ((a : Int) + 1))).run Tryz.prog W = .ok (.int .u8 92) W := i1
                  clear hx
                  go_enter Tryz.func64, Tryz.ntmps64
                  go_wp2
                  go_ret2
                  exact ⟨by rw [HR.out]; rfl, 0, rfl⟩
                · have HQ : Hid (nmQ d = (0, 0)) := by show nmQ d = (0, 0); unfold nmQ; rw [if_neg hd1, if_neg hd2, if_neg (by rintro (e | e); exact hd3 e; exact hd4 e)]
                  have n1 : ¬ (d.toNat : Int) = 110 := fun e => hd1 ((u8_eq (n := 110) (by omega)).1 e)
                  have n2 : ¬ (d.toNat : Int) = 116 := fun e => hd2 ((u8_eq (n := 116) (by omega)).1 e)
                  have n3 : ¬ (d.toNat : Int) = 34 := fun e => hd3 ((u8_eq (n := 34) (by omega)).1 e)
                  have n4 : ¬ (d.toNat : Int) = 92 := fun e => hd4 ((u8_eq (n := 92) (by omega)).1 e)
                  by_cases hd5 : d = 120
                  · subst hd5
                    have i1 : ∀ W, (Instr.index 9 (.string (mk l)) (.int .i64 ((a : Int) + 1))).run Tryz.prog W = .ok (.int .u8 120) W := i1
                    have q3 : ¬ (a : Int) + 3 < (l.length : Int) := fun e => hx ⟨by omega, rfl⟩
                    clear hx n1 n2 n3 n4 hd1 hd2 hd3 hd4
                    go_enter Tryz.func64, Tryz.ntmps64
                    go_wp2
                    go_ret2
                    exact ⟨by rw [HR.out, HQ.out]; rfl, 0, rfl⟩
                  · have n5 : ¬ (d.toNat : Int) = 120 := fun e => hd5 ((u8_eq (n := 120) (by omega)).1 e)
                    clear hx hd1 hd2 hd3 hd4 hd5
                    go_enter Tryz.func64, Tryz.ntmps64
                    go_wp2
                    go_ret2
                    exact ⟨by rw [HR.out, HQ.out]; rfl, 0, rfl⟩
      · have q2 : (l.length : Int) ≤ (a : Int) + 1 := by omega
        have HR := hid (pc_short hg0 (by omega))
        clear hg0 hg1 hg2 hg3 hdl
        go_enter Tryz.func64, Tryz.ntmps64
        go_wp2
        go_ret2
        exact ⟨by rw [HR.out]; rfl, 0, rfl⟩
    · have n9 : ¬ (z.toNat : Int) = 92 := fun e => h92 ((u8_eq (n := 92) (by omega)).1 e)
      cases hp : plB z with
      | true =>
        have HR := hid (pc_plain (by omega) hg0 hp)
        have hpz : 32 ≤ (z.toNat : Int) ∧ (z.toNat : Int) ≤ 126 ∧ ¬ (z.toNat : Int) = 34 := by
          unfold plB plI at hp
          have := of_decide_eq_true hp
          omega
        obtain ⟨p1, p2, p3⟩ := hpz
        have p4 : ((z.toNat : Int) == 34) = false := by simpa using p3
        clear hg0 hg1 hg2 hg3 hdl hp h92
        go_enter Tryz.func64, Tryz.ntmps64
        go_wp2
        go_ret2
        exact ⟨by rw [HR.out]; rfl, 0, rfl⟩
      | false =>
        have HR := hid (pc_other hg0 hp h92)
        have hpz : (z.toNat : Int) < 32 ∨ (¬ (z.toNat : Int) < 32 ∧ 126 < (z.toNat : Int)) ∨ (¬ (z.toNat : Int) < 32 ∧ ¬ 126 < (z.toNat : Int) ∧ (z.toNat : Int) = 34) := by
          unfold plB plI at hp
          have := of_decide_eq_false hp
          omega
        clear hg0 hg1 hg2 hg3 hdl hp h92
        go_enter Tryz.func64, Tryz.ntmps64
        rcases hpz with p1 | ⟨p1, p2⟩ | ⟨p1, p2, p3⟩
        · go_wp2
          go_ret2
          exact ⟨by rw [HR.out]; rfl, 0, rfl⟩
        · go_wp2
          go_ret2
          exact ⟨by rw [HR.out]; rfl, 0, rfl⟩
        · rw [p3] at i0
          clear p1 p2 n9 p3
          go_wp2
          go_ret2
          exact ⟨by rw [HR.out]; rfl, 0, rfl⟩
  · have q1 : (l.length : Int) ≤ (a : Int) := by omega
    have HR : Hid (pcP (l.drop a) = (0, 0)) := by show pcP _ = _; rw [List.drop_eq_nil_of_le (by omega)]; rfl
    clear hg0 hg1 hg2 hg3 hdl
    go_enter Tryz.func64, Tryz.ntmps64
    go_wp2
    go_ret2
    exact ⟨by rw [HR.out]; rfl, 0, rfl⟩

end Go.Proofs.YtlpengaclkidiaaGreatDoor

/- The program's token at a source's beginning; Next. -/
namespace Go.Proofs.YtlpengaclkidiaaGreatDoor
open Go.RowKit

/-- a token's three numbers -/
def tokV (t : Nat × Nat × Int) : Value := .tuple #[.int .i64 t.1, .int .i64 t.2.1, .int .i64 t.2.2]
theorem Tabs.drewN {w : World} (h : Tabs w) (n : Nat) : Tabs (w.drewN n) := ⟨h.signs, h.keys, h.low⟩

set_option maxHeartbeats 2000000 in
theorem token_any (l : List UInt8) (hl : l.length ≤ 140737488355328) (w : World) (hT : Tabs w) :
    Calls Tryz.prog 54 #[.string (mk l)] w fun e w' => e = .returned (tokV (tokP l)) ∧ ∃ n, w' = w.drewN n := by
  by_cases h0 : l.length = 0
  · obtain rfl : l = [] := List.length_eq_zero_iff.1 h0
    have f1 : ((mk []).toList == ([] : List UInt8)) = true := by rw [tl_mk]; rfl
    have f2 : (mk []).toList.isEmpty = true := by rw [tl_mk]; rfl
    clear h0 hl
    go_enter Tryz.func54, Tryz.ntmps54
    go_wp2
    go_ret3
    exact ⟨rfl, 0, rfl⟩
  · have hn0 := h0
    have h0 : 0 < l.length := by omega
    have f1 : ((mk l).toList == ([] : List UInt8)) = false := by rw [tl_mk]; cases l <;> simp at h0 ⊢
    have f2 : (mk l).toList.isEmpty = false := by rw [tl_mk]; cases l <;> simp at h0 ⊢
    have i0 := at_mk l 0 h0
    obtain ⟨z, HZ⟩ : ∃ z : UInt8, Hid (l.getD 0 0 = z) := ⟨_, rfl⟩
    rw [HZ.out] at i0
    have i0 : ∀ W, (Instr.index 9 (.string (mk l)) (.int .i64 0)).run Tryz.prog W = .ok (.int .u8 (z.toNat : Nat)) W := i0
    have H1 := hid (letter_any (z.toNat : Nat))
    have H2 := hid (digit_any (z.toNat : Nat))
    have HT := hid hT
    clear hT
    cases h1 : ltI (z.toNat : Nat) with
    | true =>
      rw [h1] at H1
      have hc : ltB (l.getD 0 0) = true := by rw [HZ.out]; exact h1
      have HR : Hid (tokP l = wdP l) := by show tokP l = _; unfold tokP; rw [if_neg hn0, if_pos hc]
      have H3 := hid (word_any l hl h0 hc w HT.out)
      obtain ⟨⟨r1, r2, r3⟩, HQ⟩ : ∃ r, Hid (wdP l = r) := ⟨_, rfl⟩
      rw [HQ.out] at H3 HR
      clear h1 hc hn0
      go_enter Tryz.func54, Tryz.ntmps54
      go_wp2_with first
        | (go_at_call 77; refine (H1.out _).mono ?_; rintro e w' ⟨rfl, rfl⟩)
        | (go_at_call 78; refine H3.out.mono ?_; rintro e w' ⟨rfl, rfl⟩)
      go_ret3
      exact ⟨by rw [HR.out]; rfl, 0, rfl⟩
    | false =>
      rw [h1] at H1
      have hc1 : ¬ ltB (l.getD 0 0) = true := by rw [HZ.out]; unfold ltB; rw [h1]; simp
      clear h1
      cases h2 : dgI (z.toNat : Nat) with
      | true =>
        rw [h2] at H2
        have hc : dgB (l.getD 0 0) = true := by rw [HZ.out]; exact h2
        have HR : Hid (tokP l = nuP l) := by show tokP l = _; unfold tokP; rw [if_neg hn0, if_neg hc1, if_pos hc]
        have H3 := hid (number_any l hl h0 hc)
        obtain ⟨⟨r1, r2, r3⟩, HQ⟩ : ∃ r, Hid (nuP l = r) := ⟨_, rfl⟩
        rw [HQ.out] at H3 HR
        clear h2 hc hc1 hn0
        go_enter Tryz.func54, Tryz.ntmps54
        go_wp2_with first
          | (go_at_call 77; refine (H1.out _).mono ?_; rintro e w' ⟨rfl, rfl⟩)
          | (go_at_call 79; refine (H2.out _).mono ?_; rintro e w' ⟨rfl, rfl⟩)
          | (go_at_call 80; refine (H3.out _).mono ?_; rintro e w' ⟨rfl, rfl⟩)
        go_ret3
        exact ⟨by rw [HR.out]; rfl, 0, rfl⟩
      | false =>
        rw [h2] at H2
        have hc2 : ¬ dgB (l.getD 0 0) = true := by rw [HZ.out]; unfold dgB; rw [h2]; simp
        clear h2
        by_cases h34 : z = 34
        · have HR : Hid (tokP l = tqP l) := by show tokP l = _; unfold tokP; rw [if_neg hn0, if_neg hc1, if_neg hc2, if_pos (by rw [HZ.out]; exact h34)]
          subst h34
          have H3 := hid (text_any l hl h0)
          obtain ⟨⟨r1, r2, r3⟩, HQ⟩ : ∃ r, Hid (tqP l = r) := ⟨_, rfl⟩
          rw [HQ.out] at H3 HR
          have i0 : ∀ W, (Instr.index 9 (.string (mk l)) (.int .i64 0)).run Tryz.prog W = .ok (.int .u8 34) W := i0
          clear hc1 hc2 hn0
          go_enter Tryz.func54, Tryz.ntmps54
          go_wp2_with first
            | (go_at_call 77; refine (H1.out _).mono ?_; rintro e w' ⟨rfl, rfl⟩)
            | (go_at_call 79; refine (H2.out _).mono ?_; rintro e w' ⟨rfl, rfl⟩)
            | (go_at_call 81; refine (H3.out _).mono ?_; rintro e w' ⟨rfl, m, rfl⟩)
          go_ret3
          exact ⟨by rw [HR.out]; rfl, _, rfl⟩
        · have n4 : ¬ (z.toNat : Int) = 34 := fun e => h34 ((u8_eq (n := 34) (by omega)).1 e)
          have HR : Hid (tokP l = sqP l) := by show tokP l = _; unfold tokP; rw [if_neg hn0, if_neg hc1, if_neg hc2, if_neg (by rw [HZ.out]; exact h34)]
          have H3 := hid (sign_any l w HT.out)
          obtain ⟨⟨r1, r2, r3⟩, HQ⟩ : ∃ r, Hid (sqP l = r) := ⟨_, rfl⟩
          rw [HQ.out] at H3 HR
          clear hc1 hc2 hn0 h34
          go_enter Tryz.func54, Tryz.ntmps54
          go_wp2_with first
            | (go_at_call 77; refine (H1.out _).mono ?_; rintro e w' ⟨rfl, rfl⟩)
            | (go_at_call 79; refine (H2.out _).mono ?_; rintro e w' ⟨rfl, rfl⟩)
            | (go_at_call 82; refine H3.out.mono ?_; rintro e w' ⟨rfl, rfl⟩)
          go_ret3
          exact ⟨by rw [HR.out]; rfl, 0, rfl⟩

/-- is it a source, and a place in it? -/
def plN (l : List UInt8) (a : Int) : Int := if 65536 < l.length then 3 else if a < 0 ∨ (l.length : Int) < a then 1 else 0

set_option maxHeartbeats 1000000 in
theorem place_any (l : List UInt8) (a : Int) (w : World) :
    Calls Tryz.prog 52 #[.string (mk l), .int .i64 a] w fun e w' => e = .returned (.int .i64 (plN l a)) ∧ w' = w := by
  have hsz := mk_size l
  go_enter Tryz.func52, Tryz.ntmps52
  go_wp2
  all_goals go_ret
  all_goals refine ⟨ret_i ?_, rfl⟩
  all_goals unfold plN
  all_goals repeat' split
  all_goals first
    | rfl
    | (exfalso; omega)

end Go.Proofs.YtlpengaclkidiaaGreatDoor

/- The program's Next. -/
namespace Go.Proofs.YtlpengaclkidiaaGreatDoor
open Go.RowKit

theorem results_cell2 {fn : Func} {p q : Tmp} {ty : TypeId} (h : fn.results = #[.cell p ty, .tmp q]) (tmps : Array Value) (P : Program) (w : World) :
    (results fn tmps).run P w = ((asAddr (tmps.getD p undef)).run P w).andThen fun a w₁ => ((loadVar ty a).run P w₁).andThen fun v w₂ => .ok (.tuple #[v, tmps.getD q undef]) w₂ := by
  simp only [results, h]
  simp [Sem.run_bind, Result.andThen]
/-- the answer is a whole row that lies in a variable, and a number -/
theorem ret_row2 {P : Program} {fn : Func} {R : Ending → World → Prop} {a : Act} {w : World} (p q : Tmp) (ty : TypeId) (h : fn.results = #[.cell p ty, .tmp q]) (g : Nat) (hp : a.tmps.getD p undef = .pointer (some ⟨g, 0, none⟩))
    (cs : List Value) (t : TypeId) (hb : w.heap[g]? = some (.cells cs.toArray t (0, 0))) (d : TypeDesc) (hu : P.underlying ty = some d) (hd : d.isRow = true) (hi : (P.info? ty).map (·.size) = some cs.length)
    (v : Value) (hq : a.tmps.getD q undef = v) (hdf : a.defers = []) (hR : R (.returned (.tuple #[.agg cs.toArray, v])) w) : bodyPost P fn R .ret a w := by
  refine bodyPost_ret (v := .tuple #[.agg cs.toArray, v]) ?_ hdf hR
  rw [results_cell2 h, hp, hq]
  have := run_loadVar_mid (P := P) w g 0 ty cs d (fun j v hv => by rw [Nat.zero_add, cell_of_row w g j cs.toArray t (0, 0) hb]; simpa using hv) hu hd hi
  simp [asAddr, this]

/-- a token's cells -/
def tkC (t : Nat × Nat × Nat) : List Value := [.int .i64 t.1, .int .i64 t.2.1, .int .i64 t.2.2]
theorem tkC_one (t : Nat × Nat × Nat) : ∀ v ∈ tkC t, v.oneCell' = true := by
  intro v hv
  simp only [tkC, List.mem_cons, List.not_mem_nil, or_false] at hv
  rcases hv with rfl | rfl | rfl <;> rfl
theorem below_rs {w W w2 : World} {g : Nat} {cs : List Value} {t : TypeId} (h : RowSet W w2 g cs t) (hb : Below w.heap.size w W) (hg : w.heap.size ≤ g) : Below w.heap.size w w2 :=
  ⟨h.grown.os.trans hb.os, h.grown.tape.trans hb.tape, h.grown.output.trans hb.output, Nat.le_trans hb.size h.grown.size, fun k hk => by
    rw [h.grown.block k (Nat.lt_of_lt_of_le hk hb.size) (by simp; omega)]; exact hb.block k hk⟩

theorem below_drewN {B : Nat} {a w : World} (h : Below B a w) (n : Nat) : Below B a (w.drewN n) := ⟨h.os, h.tape, h.output, h.size, h.block⟩

/-- what Next answers -/
def nxP (l : List UInt8) (a : Int) : (Nat × Nat × Nat) × Int :=
  if plN l a ≠ 0 then ((0, 0, 0), plN l a)
  else if (tkP l a.toNat).2.2 ≠ 0 then ((0, frP l a.toNat, 0), (tkP l a.toNat).2.2)
  else (((tkP l a.toNat).1, frP l a.toNat, frP l a.toNat + (tkP l a.toNat).2.1), 0)

theorem Tryz.infoTok : (Tryz.prog.info? 76).map (·.size) = some 3 := by kernel_rfl
theorem Tryz.rowTok : ∃ d, Tryz.prog.underlying 76 = some d ∧ d.isRow = true := ⟨_, Tryz.underlying76, rfl⟩

set_option maxRecDepth 20000 in
set_option maxHeartbeats 2000000 in
theorem next_any (l : List UInt8) (hl : l.length ≤ 140737488355328) (a : Int) (w : World) (hT : Tabs w) :
    Calls Tryz.prog 31 #[.string (mk l), .int .i64 a] w fun e w' => e = .returned (.tuple #[.agg (tkC (nxP l a).1).toArray, .int .i64 (nxP l a).2]) ∧ Below w.heap.size w w' := by
  obtain ⟨d, hu, hd⟩ := Tryz.rowTok
  have H1 := hid (place_any l a)
  by_cases hp : plN l a ≠ 0
  · have HR : Hid (nxP l a = ((0, 0, 0), plN l a)) := by show nxP l a = _; unfold nxP; rw [if_pos hp]
    obtain ⟨p, HP⟩ : ∃ p, Hid (plN l a = p) := ⟨_, rfl⟩
    rw [HP.out] at H1 HR hp
    have hp0 : ¬ p = 0 := hp
    clear hp
    go_enter Tryz.func31, Tryz.ntmps31
    go_wp2_with first
      | (go_at_call 52; refine (H1.out _).mono ?_; rintro e w' ⟨rfl, rfl⟩)
      | (refine st_row (by rfl) 76 (.tmp 4) (.tmp 16) (by rfl) _ (tkC (0, 0, 0)) (by rfl) (by rfl) 76 _ (hp_new _ _) (by exact Tryz.infoTok) (by rfl) (tkC_one _) ?_; intro w2 hw2)
    refine ret_row2 4 5 76 rfl _ rfl _ _ hw2.blk d hu hd Tryz.infoTok _ rfl rfl ⟨?_, below_rs hw2 (below_walk _ _) (Nat.le_refl _)⟩
    rw [HR.out]
    rfl
  · have hp : plN l a = 0 := by simpa using hp
    rw [hp] at H1
    have hpl : 0 ≤ a ∧ a ≤ (l.length : Int) ∧ l.length ≤ 65536 := by
      unfold plN at hp
      split at hp
      · simp at hp
      · split at hp
        · simp at hp
        · omega
    obtain ⟨k, rfl⟩ : ∃ k : Nat, a = (k : Int) := ⟨a.toNat, by omega⟩
    have hk : k ≤ l.length := by omega
    have hR : nxP l (k : Int) = if (tkP l k).2.2 ≠ 0 then ((0, frP l k, 0), (tkP l k).2.2) else (((tkP l k).1, frP l k, frP l k + (tkP l k).2.1), 0) := by
      unfold nxP
      rw [if_neg (by rw [hp]; simp)]
      simp only [Int.toNat_natCast]
    have hf := frP_le hk
    have s1 := sl_from l k hk
    have H2 := hid (gap_any (l.drop k) (by rw [List.length_drop]; omega))
    obtain ⟨g, HG⟩ : ∃ g, Hid (gapP (l.drop k) = g) := ⟨_, rfl⟩
    have hfg : frP l k = k + g := by unfold frP; rw [HG.out]
    rw [HG.out] at H2
    have s2 := sl_from l (k + g) (by omega)
    rw [show ((k + g : Nat) : Int) = (k : Int) + (g : Int) by omega] at s2
    have H3 : Hid (∀ w, Tabs w → Calls Tryz.prog 54 #[.string (mk (l.drop (k + g)))] w fun e w' => e = .returned (tokV (tkP l k)) ∧ ∃ n, w' = w.drewN n) := by
      intro w hT
      have := token_any (l.drop (k + g)) (by rw [List.length_drop]; omega) w hT
      rw [← hfg] at this
      rw [← hfg]
      exact this
    have hv := tk_view hk
    have hlen : (k : Int) + (g : Int) ≤ 65536 := by omega
    have hsm : l.length ≤ 65536 := hpl.2.2
    have HT := hid hT
    have HFG := hid hfg
    rw [hfg] at hR hf hv
    clear hp hpl hT hfg
    rcases hv with ⟨v1, v2⟩ | ⟨v1, e, v2, v3, v4⟩ | ⟨kk, n, v1, v2, v3, v4, v5⟩
    · rw [v2, if_neg (by simp)] at hR
      rw [v2] at H3
      have HR := hid hR
      clear hR v1 v2
      unfold tokV at H3
      go_enter Tryz.func31, Tryz.ntmps31
      go_wp2_with first
        | (go_at_call 52; refine (H1.out _).mono ?_; rintro e w' ⟨rfl, rfl⟩)
        | (go_at_call 53; refine (H2.out _).mono ?_; rintro e w' ⟨rfl, rfl⟩)
        | (go_at_call 54; refine (H3.out _ (HT.out.below (below_walk _ _))).mono ?_; rintro e w' ⟨rfl, m, rfl⟩)
        | (refine st_row (by rfl) 76 (.tmp 4) (.tmp 42) (by rfl) _ (tkC (0, k + g, k + g)) (by rfl) (by simp [Act.eval, tkC]) 76 _ (by exact hp_new _ _) (by exact Tryz.infoTok) (by rfl) (tkC_one _) ?_; intro w2 hw2)
      refine ret_row2 4 5 76 rfl _ rfl _ _ hw2.blk d hu hd Tryz.infoTok _ rfl rfl ⟨?_, below_rs hw2 (below_drewN (below_walk _ _) _) (Nat.le_refl _)⟩
      rw [HR.out]
      rfl
    · have he : e ≠ 0 := by omega
      rw [v4, if_pos he] at hR
      rw [v4] at H3
      have HR := hid hR
      have he0 : ¬ e = 0 := he
      clear hR v1 v2 v3 v4 he
      unfold tokV at H3
      go_enter Tryz.func31, Tryz.ntmps31
      go_wp2_with first
        | (go_at_call 52; refine (H1.out _).mono ?_; rintro e1 w' ⟨rfl, rfl⟩)
        | (go_at_call 53; refine (H2.out _).mono ?_; rintro e1 w' ⟨rfl, rfl⟩)
        | (go_at_call 54; refine (H3.out _ (HT.out.below (below_walk _ _))).mono ?_; rintro e1 w' ⟨rfl, m, rfl⟩)
        | (refine st_row (by rfl) 76 (.tmp 4) (.tmp 35) (by rfl) _ (tkC (0, k + g, 0)) (by rfl) (by simp [Act.eval, tkC]) 76 _ (by exact hp_new _ _) (by exact Tryz.infoTok) (by rfl) (tkC_one _) ?_; intro w2 hw2)
      refine ret_row2 4 5 76 rfl _ rfl _ _ hw2.blk d hu hd Tryz.infoTok _ rfl rfl ⟨?_, below_rs hw2 (below_drewN (below_walk _ _) _) (Nat.le_refl _)⟩
      rw [HR.out]
      rfl
    · rw [v1, if_neg (by simp)] at hR
      rw [v1] at H3
      have HR := hid hR
      have hnl : (k : Int) + (g : Int) + (n : Int) ≤ 65536 := by omega
      clear hR v1 v2 v3 v4 v5
      unfold tokV at H3
      go_enter Tryz.func31, Tryz.ntmps31
      go_wp2_with first
        | (go_at_call 52; refine (H1.out _).mono ?_; rintro e w' ⟨rfl, rfl⟩)
        | (go_at_call 53; refine (H2.out _).mono ?_; rintro e w' ⟨rfl, rfl⟩)
        | (go_at_call 54; refine (H3.out _ (HT.out.below (below_walk _ _))).mono ?_; rintro e w' ⟨rfl, m, rfl⟩)
        | (refine st_row (by rfl) 76 (.tmp 4) (.tmp 42) (by rfl) _ (tkC (kk, k + g, k + g + n)) (by rfl) (by simp [Act.eval, tkC]) 76 _ (by exact hp_new _ _) (by exact Tryz.infoTok) (by rfl) (tkC_one _) ?_; intro w2 hw2)
      refine ret_row2 4 5 76 rfl _ rfl _ _ hw2.blk d hu hd Tryz.infoTok _ rfl rfl ⟨?_, below_rs hw2 (below_drewN (below_walk _ _) _) (Nat.le_refl _)⟩
      rw [HR.out]
      rfl

end Go.Proofs.YtlpengaclkidiaaGreatDoor

/- The document's texts: a quoted one at a place. -/
namespace Go.Proofs.YtlpengaclkidiaaGreatDoor
open Go.RowKit

/-- bytes in a row that was made last -/
theorem src_made (w : World) (cs : List UInt8) (hl : cs.length ≤ 1000) : Src (w.alloc (.cells (bytesV cs).toArray 5)) (.slice (some ⟨w.heap.size, 0, none⟩) cs.length cs.length) cs := by
  refine ⟨by omega, Or.inr ⟨⟨w.heap.size, 0, none⟩, cs.length, rfl, Nat.le_refl _, by unfold maxLen; omega, fun _ => by rw [hp_size]; exact Nat.lt_succ_self _, fun j hj => ?_⟩⟩
  rw [addr_add, cell_of_row _ _ _ _ _ _ (hp_new _ _)]
  have : (bytesV cs)[j]? = some (.int .u8 ((cs.getD j 0).toNat : Nat)) := by
    rw [bytesV_get, List.getD_eq_getElem?_getD, List.getElem?_eq_getElem hj]; rfl
  simpa using this

/-- what quoted answers -/
def quV (l : List UInt8) (a : Nat) : Value :=
  match txP (l.drop (a + 1)) with
  | none => .tuple #[.string ⟨#[]⟩, .int .i64 (-1)]
  | some r => if 4096 < r.1.length then .tuple #[.string ⟨#[]⟩, .int .i64 (-1)] else .tuple #[.string (mk r.1), .int .i64 ((a + 1 + r.2 : Nat) : Int)]
/-- a text read so far: its value v, up to byte i -/
def Tz (l : List UInt8) (a i : Nat) (v : List UInt8) : Prop := a + 1 ≤ i ∧ i ≤ l.length ∧ v.length ≤ i ∧ txP (l.drop (a + 1)) = (txP (l.drop i)).map (fun x => (v ++ x.1, i - (a + 1) + x.2))
theorem Tz.zero {l : List UInt8} {a : Nat} (h : a < l.length) : Tz l a (a + 1) [] := ⟨Nat.le_refl _, h, Nat.zero_le _, by cases txP (l.drop (a + 1)) <;> simp⟩
theorem Tz.more {l : List UInt8} {a i k : Nat} {c : UInt8} {v : List UInt8} (h : Tz l a i v) (hq : ¬ l.getD i 0 = 34) (hp : pcP (l.drop i) = (c, k)) (hk : k ≠ 0) : Tz l a (i + k) (v ++ [c]) := by
  obtain ⟨h1, h2, h3, hx⟩ := h
  have hle := pcP_le (l.drop i)
  rw [hp, List.length_drop] at hle
  simp only at hle
  refine ⟨by omega, by omega, by simp; omega, ?_⟩
  have hq' : ¬ (l.drop i).getD 0 0 = 34 := by rw [drop_getD]; exact hq
  rw [hx, txP_step hq' (by rw [hp]; exact hk), hp, List.drop_drop]
  cases txP (l.drop (i + k)) with
  | none => rfl
  | some x =>
    simp only [Option.map_some, List.append_assoc, List.singleton_append]
    congr 2
    omega
theorem Tz.ends {l : List UInt8} {a i : Nat} {v : List UInt8} (h : Tz l a i v) (hq : l.getD i 0 = 34) : quV l a = if 4096 < v.length then .tuple #[.string ⟨#[]⟩, .int .i64 (-1)] else .tuple #[.string (mk v), .int .i64 ((i : Int) + 1)] := by
  obtain ⟨h1, h2, _, hx⟩ := h
  rw [txP_quote (l := l.drop i) (by rw [drop_getD]; exact hq)] at hx
  unfold quV
  rw [hx]
  simp only [Option.map_some, List.append_nil]
  have e : ((a + 1 + (i - (a + 1) + 1) : Nat) : Int) = (i : Int) + 1 := by omega
  rw [e]
theorem Tz.bad {l : List UInt8} {a i : Nat} {v : List UInt8} (h : Tz l a i v) (hq : ¬ l.getD i 0 = 34) (hp : (pcP (l.drop i)).2 = 0) : quV l a = .tuple #[.string ⟨#[]⟩, .int .i64 (-1)] := by
  obtain ⟨h1, h2, _, hx⟩ := h
  rw [txP_bad (l := l.drop i) (by rw [drop_getD]; exact hq) hp] at hx
  unfold quV
  rw [hx]
  rfl

set_option maxHeartbeats 2000000 in
theorem quoted_any (l : List UInt8) (a : Nat) (ha : a < l.length) (hl : l.length ≤ 140737488351232) (w : World) :
    Calls Tryz.prog 38 #[.string (mk l), .int .i64 (a : Nat)] w fun e w' => e = .returned (quV l a) ∧ Below w.heap.size w w' := by
  have hsz := mk_size l
  have H0 := hid (Tz.zero ha)
  go_enter Tryz.func38, Tryz.ntmps38
  go_wp2
  go_loopw [6, 7] (fun x i wr => ∃ (k : Nat) (v : List UInt8), i = .int .i64 k ∧ Tz l a k v ∧ OwnB wr w.heap.size x v ∧ Below w.heap.size w wr) (fun _ i _ => l.length - (intOf i).toNat)
  case atStart => exact ⟨a + 1, [], by simp, H0.out, OwnB.nil _ _, Below.refl _ _⟩
  case round =>
    obtain ⟨i, v, rfl, HT, HO, HB⟩ := hrel
    have HT : Hid (Tz l a i v) := HT
    have HO : Hid (OwnB wr w.heap.size _ v) := HO
    have HB : Hid (Below w.heap.size w wr) := HB
    have hi := HT.out.2.1
    have hvl := HT.out.2.2.1
    obtain ⟨sa, sc, rfl⟩ := HO.out.shape
    by_cases hq : l.getD i 0 = 34
    · have hil : i < l.length := by
        rcases Nat.lt_or_ge i l.length with h | h
        · exact h
        · rw [List.getD_eq_getElem?_getD, List.getElem?_eq_none h] at hq
          exact absurd hq (by decide)
      have q2 : (i : Int) < (l.length : Int) := by omega
      have i1 := at_mk l i hil
      rw [hq] at i1
      have i1 : ∀ W, (Instr.index 9 (.string (mk l)) (.int .i64 (i : Int))).run Tryz.prog W = .ok (.int .u8 34) W := i1
      have FIN := HT.out.ends hq
      by_cases hv : 4096 < v.length
      · rw [if_pos hv] at FIN
        have FIN := hid FIN
        have q3 : (4096 : Int) < (v.length : Int) := by omega
        clear hq
        go_wp2
        go_ret2
        exact ⟨by rw [FIN.out]; rfl, HB.out⟩
      · rw [if_neg hv] at FIN
        have FIN := hid FIN
        have q3 : ¬ (4096 : Int) < (v.length : Int) := by omega
        have r1 := run_str (HO.out.src (by omega))
        have HRS : Hid ((convert 58 9 (.slice sa v.length sc)).run Tryz.prog wr = .ok (.string (mk v)) wr) := r1
        have r1 := HRS.out
        clear hq
        go_wp2
        go_ret2
        exact ⟨by first | rfl | (rw [FIN.out]; rfl), HB.out⟩
    · have HQ := hid hq
      have H1 := hid (rpiece_any l i hi (by omega))
      obtain ⟨⟨c, k⟩, HP⟩ : ∃ r, Hid (pcP (l.drop i) = r) := ⟨_, rfl⟩
      rw [HP.out] at H1
      have hg : ¬ (i : Int) < (l.length : Int) ∨ ((i : Int) < (l.length : Int) ∧ ∃ z : UInt8, l.getD i 0 = z ∧ ((z.toNat : Int) == 34) = false) := by
        by_cases h : i < l.length
        · refine Or.inr ⟨by omega, l.getD i 0, rfl, ?_⟩
          simp only [beq_eq_false_iff_ne, ne_eq]
          exact fun e => hq ((u8_eq (n := 34) (by omega)).1 e)
        · exact Or.inl (by omega)
      by_cases hk : k = 0
      · subst hk
        have FIN := hid (HT.out.bad hq (by rw [HP.out]))
        clear hq
        rcases hg with q2 | ⟨q2, z, hz, n4⟩
        · go_wp2_with (go_at_call 64; refine (H1.out _).mono ?_; rintro e w' ⟨rfl, m, rfl⟩)
          go_ret2
          exact ⟨by rw [FIN.out]; rfl, ⟨HB.out.os, HB.out.tape, HB.out.output, HB.out.size, HB.out.block⟩⟩
        · have i1 := at_mk l i (by omega)
          rw [hz] at i1
          clear hz
          go_wp2_with (go_at_call 64; refine (H1.out _).mono ?_; rintro e w' ⟨rfl, m, rfl⟩)
          go_ret2
          exact ⟨by rw [FIN.out]; rfl, ⟨HB.out.os, HB.out.tape, HB.out.output, HB.out.size, HB.out.block⟩⟩
      · have HM := hid (HT.out.more hq HP.out hk)
        have hml := HM.out.2.1
        have n5 : ¬ (k : Int) = 0 := by omega
        clear hq
        rcases hg with q2 | ⟨q2, z, hz, n4⟩
        · exfalso; omega
        · have i1 := at_mk l i (by omega)
          rw [hz] at i1
          clear hz
          go_wp2_with first
            | (go_at_call 64; refine (H1.out _).mono ?_; rintro e w' ⟨rfl, m, rfl⟩)
            | (refine app_src (by rfl) (.tmp 37) (.tmp 39) (by rfl) w.heap.size _ v (by rfl) ((HO.out.below (below_drewN (Below.refl _ _) m)).below (below_walk _ _)) _ [c] (by rfl) (src_made _ [c] (by simp)) (by simp; omega) (by rw [hp_size]; have := HB.out.size; exact Nat.le_succ_of_le this) ?_
               intro v' w4 ho hg
               have HO4 := hid ho
               have HB4 : Hid (Below w.heap.size w w4) := ((below_drewN HB.out m).trans ((below_walk (wr.drewN m) _).mono HB.out.size)).grown hg (by rw [hp_size]; have := HB.out.size; exact Nat.le_succ_of_le this) (fun q hq => (HO.out.lt q hq).1)
               obtain ⟨sa2, sc2, rfl⟩ := HO4.out.shape
               have HL4 : Hid ((v ++ [c]).length = v.length + 1) := by show _ = _; simp
               rw [HL4.out]
               rw [HL4.out] at HO4
               clear ho hg)
          exact ⟨⟨i + k, v ++ [c], by simp, HM.out, HO4.out, HB4.out⟩, by simp [intOf]; omega⟩

end Go.Proofs.YtlpengaclkidiaaGreatDoor

/- Contracts of the library, laid over this dump. -/
namespace Go.Proofs
open Go.Shelf
def Tryz.lays169_ren : Go.Shelf.Ren := ⟨fun | 169 => 28 | n => n, fun | 70 => 57 | 9 => 9 | 0 => 0 | 72 => 60 | 37 => 58 | 127 => 86 | 3 => 3 | 5 => 5 | n => n, fun | n => n⟩
theorem Tryz.lays169 : Go.Proofs.Lays.n169 Tryz.prog Tryz.lays169_ren := {
  mixed := by kernel_rfl
  f169 := Tryz.func28.trans (congrArg some (by kernel_rfl))
  t0 := Tryz.underlying0
  a0 := Tryz.isAgg0
  z0 := Tryz.sizeOf0
  v0 := Tryz.zeroValue0
  t3 := Tryz.underlying3
  a3 := Tryz.isAgg3
  z3 := Tryz.sizeOf3
  v3 := Tryz.zeroValue3
  t9 := Tryz.underlying9
  a9 := Tryz.isAgg9
  z9 := Tryz.sizeOf9
  v9 := Tryz.zeroValue9
  t37 := Tryz.underlying58
  a37 := Tryz.isAgg58
  z37 := Tryz.sizeOf58
  v37 := Tryz.zeroValue58
  t70 := Tryz.underlying57
  a70 := Tryz.isAgg57
  z70 := Tryz.sizeOf57
  v70 := Tryz.zeroValue57
  t72 := Tryz.underlying60
  a72 := Tryz.isAgg60
  z72 := Tryz.sizeOf60
  v72 := Tryz.zeroValue60
  t127 := Tryz.underlying86
  a127 := Tryz.isAgg86
  z127 := Tryz.sizeOf86
  v127 := Tryz.zeroValue86 }
theorem Tryz.Builder_Extra_169 : Builder.Extra Tryz.prog Tryz.lays169_ren := {
  sizeBuilder := by kernel_rfl
  liesBuilder := by kernel_rfl
  t5 := Tryz.underlying5
  a5 := Tryz.isAgg5
  z5 := Tryz.sizeOf5
  v5 := Tryz.zeroValue5
  infoByte := by kernel_rfl
  cellsByte := by kernel_rfl
  sizeByte := by kernel_rfl
  neB5 := by decide }
open Go.RowKit in
theorem Tryz.Builder_String_any_k (B b : Nat) (l : List UInt8) (w : World) (h : Lib.IsBuilderF 60 5 B b (Lib.byteCells l) w) (hBw : B ≤ w.heap.size) :
    Calls Tryz.prog 28 #[.pointer (some ⟨b, 0, none⟩)] w fun e w' => e = .returned (.string ⟨l.toArray⟩) ∧ (Lib.IsBuilderF 60 5 B b (Lib.byteCells l) w' ∧ Below B w w' ∧ Lib.OthersKept 5 (some b) w w') := Any.Builder_String_any_k Tryz.lays169 Tryz.Builder_Extra_169 B b l w h hBw
end Go.Proofs

/- A builder of the program's, byte by byte. -/
namespace Go.Proofs.YtlpengaclkidiaaGreatDoor
open Go.RowKit

/-- a builder's block: the bytes bs -/
def Bq (w : World) (B b : Nat) (bs : List UInt8) : Prop := Lib.IsBuilder 60 5 B b (bytesV bs) w
theorem bq_size : (Tryz.prog.info? 60).map (·.size) = some 2 := by kernel_rfl

set_option maxHeartbeats 1000000 in
set_option maxRecDepth 100000 in
theorem cc_used (b : Nat) (w : World) (h0 : w.cell? ⟨b, 0, none⟩ = some (.pointer (some ⟨b, 0, none⟩))) :
    Calls Tryz.prog 45 #[.pointer (some ⟨b, 0, none⟩)] w fun e w' => e = .returned (.tuple #[]) ∧ w' = w := by
  obtain ⟨j, hj, _⟩ := Option.map_eq_some_iff.1 bq_size
  go_enter Tryz.func45, Tryz.ntmps45
  go_wp2
  rw [Lib.run_neq_ptr_same w _ Tryz.underlying57 hj]
  go_wp2
  go_end0
  exact ⟨rfl, rfl⟩

set_option maxHeartbeats 1000000 in
set_option maxRecDepth 100000 in
theorem cc_fresh (b : Nat) (w : World) (h0 : w.cell? ⟨b, 0, none⟩ = some (.pointer none)) (hsh : w.shape? b = some (60, 2)) (hfz : w.frozen? ⟨b, 0, none⟩ = false) :
    Calls Tryz.prog 45 #[.pointer (some ⟨b, 0, none⟩)] w fun e w' => e = .returned (.tuple #[]) ∧ w' = w.setCell ⟨b, 0, none⟩ (.pointer (some ⟨b, 0, none⟩)) := by
  obtain ⟨j, hj, hjs⟩ := Option.map_eq_some_iff.1 bq_size
  go_enter Tryz.func45, Tryz.ntmps45
  go_wp2
  rw [Lib.run_to_unsafe w ⟨b, 0, none⟩ Tryz.underlying57 Tryz.underlying109 hj (by rw [hjs]; decide) hsh (Nat.zero_lt_succ 1)]
  simp only [Result.andThen]
  rw [Oper.upon_value]
  go_wp2
  rw [run_callFunc_extern Tryz.func72 (by kernel_rfl) (by kernel_rfl) (by kernel_rfl) (e := Extern.AbiNoEscape.same) (by kernel_rfl)]
  rw [Lib.run_noEscape]
  simp only [Result.andThen]
  rw [Oper.upon_value]
  go_wp2
  rw [Lib.run_from_unsafe w ⟨b, 0, none⟩ Tryz.underlying109 Tryz.underlying57 hj hsh (by kernel_rfl)]
  simp only [Result.andThen]
  rw [Oper.upon_value]
  go_wp2
  go_end0
  exact ⟨rfl, rfl⟩

theorem cc_any (B b : Nat) (bs : List UInt8) (w : World) (h : Bq w B b bs) :
    Calls Tryz.prog 45 #[.pointer (some ⟨b, 0, none⟩)] w fun e w' => e = .returned (.tuple #[]) ∧ Lib.BuilderAt 60 5 B b (.pointer (some ⟨b, 0, none⟩)) (bytesV bs) w' ∧ Below B w w' := by
  rcases h with h | h
  · refine (cc_fresh b w h.cell0 h.shape h.frozen0).mono ?_
    rintro e w' ⟨rfl, rfl⟩
    exact ⟨rfl, h.used _, (Below.refl B w).setCell (p := ⟨b, 0, none⟩) h.1 _⟩
  · refine (cc_used b w h.cell0).mono ?_
    rintro e w' ⟨rfl, rfl⟩
    exact ⟨rfl, h, Below.refl B _⟩

/-- behind an append: the builder holds more -/
theorem bq_put {w1 w2 : World} {B b : Nat} {v v' : Value} {bs cs : List UInt8} (hB : B ≤ b) (hb : w1.heap[b]? = some (.cells #[.pointer (some ⟨b, 0, none⟩), v] 60 (0, 0))) (hne : v.ownBlock ≠ some b)
    (hg : w1.grownBy w2 v.ownBlock) (ho : OwnB w2 B v' (bs ++ cs)) : w2.heap[b]? = some (.cells #[.pointer (some ⟨b, 0, none⟩), v] 60 (0, 0)) ∧ Bq (w2.setCell ⟨b, 1, none⟩ v') B b (bs ++ cs) := by
  have h2 : w2.heap[b]? = some (.cells #[.pointer (some ⟨b, 0, none⟩), v] 60 (0, 0)) := by
    rw [hg.block b (hp_lt hb) (fun e => hne e.symm)]; exact hb
  refine ⟨h2, Or.inr (Lib.BuilderAt.put hB h2 ?_ (by decide))⟩
  rw [bytesV_length]
  exact ho

set_option maxHeartbeats 2000000 in
set_option maxRecDepth 100000 in
theorem wbyte_any (B b : Nat) (bs : List UInt8) (c : UInt8) (w : World) (h : Bq w B b bs) (hlen : bs.length ≤ 1000000) (hBw : B ≤ w.heap.size) :
    Calls Tryz.prog 59 #[.pointer (some ⟨b, 0, none⟩), .int .u8 (c.toNat : Nat)] w fun e w' => e = .returned .nilIface ∧ Bq w' B b (bs ++ [c]) ∧ Below B w w' := by
  have H1 := hid (cc_any B b bs w h)
  clear h
  go_enter Tryz.func59, Tryz.ntmps59
  go_wp2_with first
    | (go_at_call 45; refine H1.out.mono ?_; clear H1; rintro e w1 ⟨rfl, hbu, hb1⟩
       obtain ⟨hB, v, hbk, hown, hne⟩ := hbu
       rw [bytesV_length] at hown
       have HO : Hid (OwnB w1 B v bs) := hown
       obtain ⟨sa, sc, rfl⟩ := HO.out.shape
       have HBK := hid hbk
       have HNE := hid hne
       have HB1 := hid hb1
       have hblt : b < w1.heap.size := hp_lt hbk
       have c0 : w1.cell? ⟨b, 0, none⟩ = some (.pointer (some ⟨b, 0, none⟩)) := by rw [cell_of_row _ _ _ _ _ _ hbk]; rfl
       have c1 : w1.cell? ⟨b, 1, none⟩ = some (.slice sa bs.length sc) := by rw [cell_of_row _ _ _ _ _ _ hbk]; rfl
       clear hbk hown hne hb1)
    | (refine app_src (by rfl) (.tmp 11) (.tmp 13) (by rfl) B _ bs (by rfl) (HO.out.below (below_walk _ _)) _ [c] (by rfl) (src_made _ [c] (by simp)) (by simp; omega) (by rw [hp_size]; have := HB1.out.size; omega) ?_
       intro v' w2 ho hg
       obtain ⟨sa2, sc2, hv2⟩ := ho.shape
       rw [show (bs ++ [c]).length = bs.length + 1 by simp] at hv2
       subst hv2
       have hp := bq_put hB (by rw [hp_old _ _ _ hblt]; exact HBK.out) HNE.out hg ho
       have HQ := hid hp.2
       have hbg : Below B w w2 := ((HB1.out.trans ((below_walk w1 (.cells #[.int .u8 (c.toNat : Nat)] 5)).mono (by have := HB1.out.size; omega)))).grown hg (by rw [hp_size]; have := HB1.out.size; omega) (fun q hq => (HO.out.lt q hq).1)
       have HBG := hid (hbg.setCell (p := ⟨b, 1, none⟩) hB (.slice sa2 (bs.length + 1) sc2))
       have d0 : w2.cell? ⟨b, 0, none⟩ = some (.pointer (some ⟨b, 0, none⟩)) := by rw [cell_of_row _ _ _ _ _ _ hp.1]; rfl
       have d1 : w2.cell? ⟨b, 1, none⟩ = some (.slice sa bs.length sc) := by rw [cell_of_row _ _ _ _ _ _ hp.1]; rfl
       have fz : w2.frozen? ⟨b, 1, none⟩ = false := by simp [World.frozen?, hp.1]
       clear hp ho hg hbg)
  go_ret
  exact ⟨rfl, HQ.out, HBG.out⟩

set_option maxHeartbeats 2000000 in
set_option maxRecDepth 100000 in
theorem wstr_any (B b : Nat) (bs cs : List UInt8) (w : World) (h : Bq w B b bs) (hlen : bs.length ≤ 1000000) (hcl : cs.length ≤ 1000) (hBw : B ≤ w.heap.size) :
    Calls Tryz.prog 26 #[.pointer (some ⟨b, 0, none⟩), .string (mk cs)] w fun e w' => e = .returned (.tuple #[.int .i64 (cs.length : Nat), .nilIface]) ∧ Bq w' B b (bs ++ cs) ∧ Below B w w' := by
  have hsz := mk_size cs
  have H1 := hid (cc_any B b bs w h)
  clear h
  go_enter Tryz.func26, Tryz.ntmps26
  go_wp2_with first
    | (go_at_call 45; refine H1.out.mono ?_; clear H1; rintro e w1 ⟨rfl, hbu, hb1⟩
       obtain ⟨hB, v, hbk, hown, hne⟩ := hbu
       rw [bytesV_length] at hown
       have HO : Hid (OwnB w1 B v bs) := hown
       obtain ⟨sa, sc, rfl⟩ := HO.out.shape
       have HBK := hid hbk
       have HNE := hid hne
       have HB1 := hid hb1
       have hblt : b < w1.heap.size := hp_lt hbk
       have c0 : w1.cell? ⟨b, 0, none⟩ = some (.pointer (some ⟨b, 0, none⟩)) := by rw [cell_of_row _ _ _ _ _ _ hbk]; rfl
       have c1 : w1.cell? ⟨b, 1, none⟩ = some (.slice sa bs.length sc) := by rw [cell_of_row _ _ _ _ _ _ hbk]; rfl
       clear hbk hown hne hb1)
    | (refine app_str (by rfl) (.tmp 12) (.tmp 13) (by rfl) B _ bs (by rfl) HO.out (mk cs) (by rfl) (by rw [mk_size]; omega) (by have := HB1.out.size; omega) ?_
       intro v' w2 ho hg
       have ho : OwnB w2 B v' (bs ++ cs) := ho
       obtain ⟨sa2, sc2, hv2⟩ := ho.shape
       rw [show (bs ++ cs).length = bs.length + cs.length by simp] at hv2
       subst hv2
       have hp := bq_put hB HBK.out HNE.out hg ho
       have HQ := hid hp.2
       have hbg : Below B w w2 := HB1.out.grown hg (by have := HB1.out.size; omega) (fun q hq => (HO.out.lt q hq).1)
       have HBG := hid (hbg.setCell (p := ⟨b, 1, none⟩) hB (.slice sa2 (bs.length + cs.length) sc2))
       have d0 : w2.cell? ⟨b, 0, none⟩ = some (.pointer (some ⟨b, 0, none⟩)) := by rw [cell_of_row _ _ _ _ _ _ hp.1]; rfl
       have d1 : w2.cell? ⟨b, 1, none⟩ = some (.slice sa bs.length sc) := by rw [cell_of_row _ _ _ _ _ _ hp.1]; rfl
       have fz : w2.frozen? ⟨b, 1, none⟩ = false := by simp [World.frozen?, hp.1]
       clear hp ho hg hbg)
  go_ret2
  exact ⟨rfl, HQ.out, HBG.out⟩

end Go.Proofs.YtlpengaclkidiaaGreatDoor

/- A value's text, piece by piece. -/
namespace Go.Proofs.YtlpengaclkidiaaGreatDoor
open Go.RowKit

/-- a digit of a coded byte -/
def hexQ (q : Nat) : UInt8 := if q < 10 then UInt8.ofNat (48 + q) else UInt8.ofNat (87 + q)
theorem index_dq (W : World) : ∀ q : Nat, q < 16 → (Instr.index 9 (.string ⟨#[48, 49, 50, 51, 52, 53, 54, 55, 56, 57, 97, 98, 99, 100, 101, 102]⟩) (.int .u8 (q : Int))).run Tryz.prog W = .ok (.int .u8 ((hexQ q).toNat : Nat)) W
  | 0, _ => by kernel_rfl
  | 1, _ => by kernel_rfl
  | 2, _ => by kernel_rfl
  | 3, _ => by kernel_rfl
  | 4, _ => by kernel_rfl
  | 5, _ => by kernel_rfl
  | 6, _ => by kernel_rfl
  | 7, _ => by kernel_rfl
  | 8, _ => by kernel_rfl
  | 9, _ => by kernel_rfl
  | 10, _ => by kernel_rfl
  | 11, _ => by kernel_rfl
  | 12, _ => by kernel_rfl
  | 13, _ => by kernel_rfl
  | 14, _ => by kernel_rfl
  | 15, _ => by kernel_rfl
  | n + 16, h => absurd h (by omega)
/-- a value's piece in its one form -/
def qpP (c : UInt8) : List UInt8 :=
  if c = 10 then [92, 110] else if c = 9 then [92, 116] else if c = 34 ∨ c = 92 then [92, c] else if plB c = true then [c]
  else [92, 120, hexQ (c.toNat / 16), hexQ (c.toNat % 16)]
/-- a value's text -/
def quP (v : List UInt8) : List UInt8 := 34 :: (v.flatMap qpP ++ [34])
theorem qp_len (c : UInt8) : (qpP c).length ≤ 4 := by
  unfold qpP
  repeat' split
  all_goals simp
theorem flat_len (v : List UInt8) : (v.flatMap qpP).length ≤ 4 * v.length := by
  induction v with
  | nil => simp
  | cons c t ih => rw [List.flatMap_cons, List.length_append, List.length_cons]; have := qp_len c; omega

set_option maxHeartbeats 2000000 in
theorem wpiece_any (B b : Nat) (bs : List UInt8) (c : UInt8) (w : World) (h : Bq w B b bs) (hlen : bs.length ≤ 100000) (hBw : B ≤ w.heap.size) :
    Calls Tryz.prog 71 #[.pointer (some ⟨b, 0, none⟩), .int .u8 (c.toNat : Nat)] w fun e w' => e = .returned (.tuple #[]) ∧ Bq w' B b (bs ++ qpP c) ∧ Below B w w' := by
  have H1 := hid (plain_any (c.toNat : Nat))
  have HB := hid h
  clear h
  by_cases h10 : c = 10
  · subst h10
    have HS : Hid (Calls Tryz.prog 26 #[.pointer (some ⟨b, 0, none⟩), .string ⟨#[92, 110]⟩] w fun e w' => e = .returned (.tuple #[.int .i64 2, .nilIface]) ∧ Bq w' B b (bs ++ qpP 10) ∧ Below B w w') := wstr_any B b bs [92, 110] w HB.out (by omega) (by decide) hBw
    go_enter Tryz.func71, Tryz.ntmps71
    go_wp2_with (go_at_call 26; refine HS.out.mono ?_; rintro e w2 ⟨rfl, hq, hb⟩)
    go_end0
    exact ⟨rfl, hq, hb⟩
  · have n1 : ¬ (c.toNat : Int) = 10 := fun e => h10 ((u8_eq (n := 10) (by omega)).1 e)
    by_cases h9 : c = 9
    · subst h9
      have HS : Hid (Calls Tryz.prog 26 #[.pointer (some ⟨b, 0, none⟩), .string ⟨#[92, 116]⟩] w fun e w' => e = .returned (.tuple #[.int .i64 2, .nilIface]) ∧ Bq w' B b (bs ++ qpP 9) ∧ Below B w w') := wstr_any B b bs [92, 116] w HB.out (by omega) (by decide) hBw
      clear n1 h10
      go_enter Tryz.func71, Tryz.ntmps71
      go_wp2_with (go_at_call 26; refine HS.out.mono ?_; rintro e w2 ⟨rfl, hq, hb⟩)
      go_end0
      exact ⟨rfl, hq, hb⟩
    · have n2 : ¬ (c.toNat : Int) = 9 := fun e => h9 ((u8_eq (n := 9) (by omega)).1 e)
      cases hp : plI (c.toNat : Nat) with
      | true =>
        rw [hp] at H1
        have hne : ¬ (c = 34 ∨ c = 92) := by rintro (rfl | rfl) <;> (revert hp; decide)
        have HQ : Hid (qpP c = [c]) := by show qpP c = _; unfold qpP; rw [if_neg h10, if_neg h9, if_neg hne, if_pos (show plB c = true from hp)]
        have HS := hid (wbyte_any B b bs c w HB.out (by omega) hBw)
        clear hp hne h10 h9
        go_enter Tryz.func71, Tryz.ntmps71
        go_wp2_with first
          | (go_at_call 83; refine (H1.out _).mono ?_; rintro e w' ⟨rfl, rfl⟩)
          | (go_at_call 59; refine HS.out.mono ?_; rintro e w2 ⟨rfl, hq, hb⟩)
        go_end0
        exact ⟨rfl, by rw [HQ.out]; exact hq, hb⟩
      | false =>
        rw [hp] at H1
        have HP := hid hp
        clear hp
        by_cases hq : c = 34 ∨ c = 92
        · rcases hq with rfl | rfl
          · have HS : Hid (Calls Tryz.prog 59 #[.pointer (some ⟨b, 0, none⟩), .int .u8 92] w fun e w' => e = .returned .nilIface ∧ Bq w' B b (bs ++ [92]) ∧ Below B w w') := wbyte_any B b bs 92 w HB.out (by omega) hBw
            have HS2 : Hid (∀ w, Bq w B b (bs ++ [92]) → B ≤ w.heap.size → Calls Tryz.prog 59 #[.pointer (some ⟨b, 0, none⟩), .int .u8 34] w fun e w' => e = .returned .nilIface ∧ Bq w' B b (bs ++ [92] ++ [34]) ∧ Below B w w') := fun w h hb => wbyte_any B b (bs ++ [92]) 34 w h (by simp; omega) hb
            clear h10 h9 n1 n2 HP
            go_enter Tryz.func71, Tryz.ntmps71
            go_wp2_with first
              | (go_at_call 83; refine (H1.out _).mono ?_; rintro e w' ⟨rfl, rfl⟩)
              | (go_at_call 59; with_reducible refine HS.out.mono ?_; clear HS; rintro e w2 ⟨rfl, hqq, hb⟩; have HQQ := hid hqq; have HBB := hid hb; clear hqq hb)
              | (go_at_call 59; with_reducible refine (HS2.out _ HQQ.out (Nat.le_trans hBw HBB.out.size)).mono ?_; rintro e w3 ⟨rfl, hq3, hb3⟩)
            go_end0
            exact ⟨rfl, by rw [show qpP 34 = [92] ++ [34] from rfl, ← List.append_assoc]; exact hq3, HBB.out.trans hb3⟩
          · have HS : Hid (Calls Tryz.prog 59 #[.pointer (some ⟨b, 0, none⟩), .int .u8 92] w fun e w' => e = .returned .nilIface ∧ Bq w' B b (bs ++ [92]) ∧ Below B w w') := wbyte_any B b bs 92 w HB.out (by omega) hBw
            have HS2 : Hid (∀ w, Bq w B b (bs ++ [92]) → B ≤ w.heap.size → Calls Tryz.prog 59 #[.pointer (some ⟨b, 0, none⟩), .int .u8 92] w fun e w' => e = .returned .nilIface ∧ Bq w' B b (bs ++ [92] ++ [92]) ∧ Below B w w') := fun w h hb => wbyte_any B b (bs ++ [92]) 92 w h (by simp; omega) hb
            clear h10 h9 n1 n2 HP
            go_enter Tryz.func71, Tryz.ntmps71
            go_wp2_with first
              | (go_at_call 83; refine (H1.out _).mono ?_; rintro e w' ⟨rfl, rfl⟩)
              | (go_at_call 59; with_reducible refine HS.out.mono ?_; clear HS; rintro e w2 ⟨rfl, hqq, hb⟩; have HQQ := hid hqq; have HBB := hid hb; clear hqq hb)
              | (go_at_call 59; with_reducible refine (HS2.out _ HQQ.out (Nat.le_trans hBw HBB.out.size)).mono ?_; rintro e w3 ⟨rfl, hq3, hb3⟩)
            go_end0
            exact ⟨rfl, by rw [show qpP 92 = [92] ++ [92] from rfl, ← List.append_assoc]; exact hq3, HBB.out.trans hb3⟩
        · have n3 : ((c.toNat : Int) == 34) = false := by simp only [beq_eq_false_iff_ne, ne_eq]; exact fun e => hq (Or.inl ((u8_eq (n := 34) (by omega)).1 e))
          have n4 : ((c.toNat : Int) == 92) = false := by simp only [beq_eq_false_iff_ne, ne_eq]; exact fun e => hq (Or.inr ((u8_eq (n := 92) (by omega)).1 e))
          have HQ : Hid (qpP c = [92, 120] ++ [hexQ (c.toNat / 16)] ++ [hexQ (c.toNat % 16)]) := by show qpP c = _; unfold qpP; rw [if_neg h10, if_neg h9, if_neg hq, if_neg (by unfold plB; rw [HP.out]; decide)]; rfl
          have HS : Hid (Calls Tryz.prog 26 #[.pointer (some ⟨b, 0, none⟩), .string ⟨#[92, 120]⟩] w fun e w' => e = .returned (.tuple #[.int .i64 2, .nilIface]) ∧ Bq w' B b (bs ++ [92, 120]) ∧ Below B w w') := wstr_any B b bs [92, 120] w HB.out (by omega) (by decide) hBw
          have hc : (c.toNat : Int) ≤ 255 := by have := c.toNat_lt; omega
          obtain ⟨q, HQ1⟩ : ∃ q, Hid (q = c.toNat / 16) := ⟨_, rfl⟩
          obtain ⟨r, HR1⟩ : ∃ r, Hid (r = c.toNat % 16) := ⟨_, rfl⟩
          have hc := c.toNat_lt
          have hq16 : q < 16 := by rw [HQ1.out]; omega
          have hr16 : r < 16 := by rw [HR1.out]; omega
          have e1 : ((c.toNat : Nat) : Int) / 2 ^ 4 = (q : Int) := by rw [HQ1.out]; omega
          have e1' : ((c.toNat : Nat) : Int) / 16 = (q : Int) := by rw [HQ1.out]; omega
          have e2 : bits .and .u8 ((c.toNat : Nat) : Int) 15 = (r : Int) := by
            have := u8_and_nat c.toNat 15 (by omega) (by omega)
            rw [show (15 : Nat) = 2 ^ 4 - 1 from rfl, Nat.and_two_pow_sub_one_eq_mod, ← show (15 : Nat) = 2 ^ 4 - 1 from rfl] at this
            rw [HR1.out]
            exact this
          have i1 := fun W => index_dq W q hq16
          have i2 := fun W => index_dq W r hr16
          rw [← HQ1.out, ← HR1.out] at HQ
          have HS2 := hid (fun w h hb => wbyte_any B b (bs ++ [92, 120]) (hexQ q) w h (by simp; omega) hb)
          have HS3 := hid (fun w h hb => wbyte_any B b (bs ++ [92, 120] ++ [hexQ q]) (hexQ r) w h (by simp; omega) hb)
          clear hq h10 h9 hc
          go_enter Tryz.func71, Tryz.ntmps71
          go_wp2_with first
            | (go_at_call 83; refine (H1.out _).mono ?_; rintro e w' ⟨rfl, rfl⟩)
            | (go_at_call 26; refine HS.out.mono ?_; rintro e w2 ⟨rfl, hqq, hb⟩; have HQQ := hid hqq; have HBB := hid hb; clear hqq hb)
            | (go_at_call 59; with_reducible refine (HS2.out _ HQQ.out (Nat.le_trans hBw HBB.out.size)).mono ?_; clear HS2; rintro e w3 ⟨rfl, hq3, hb3⟩; have HQ3 := hid hq3; have HB3 := hid (HBB.out.trans hb3); clear hq3 hb3)
            | (go_at_call 59; with_reducible refine (HS3.out _ HQ3.out (Nat.le_trans hBw HB3.out.size)).mono ?_; rintro e w4 ⟨rfl, hq4, hb4⟩)
          go_end0
          exact ⟨rfl, by rw [HQ.out, ← List.append_assoc, ← List.append_assoc]; exact hq4, HB3.out.trans hb4⟩

end Go.Proofs.YtlpengaclkidiaaGreatDoor

/- Slices of tokens: of one's own; appended. -/
namespace Go.Proofs.YtlpengaclkidiaaGreatDoor
open Go.RowKit

theorem Tryz.infoTok3 : (Tryz.prog.info? 76).map (fun i => (i.zero, i.size, i.bytes)) = some (some (.agg #[.int .i64 0, .int .i64 0, .int .i64 0]), 3, 24) := by kernel_rfl

/-- tokens as cells -/
def tv (L : List (Nat × Nat × Nat)) : List Value := L.flatMap tkC
theorem tv_app (A B : List (Nat × Nat × Nat)) : tv (A ++ B) = tv A ++ tv B := by simp [tv]
theorem tv_cons (x : Nat × Nat × Nat) (B : List (Nat × Nat × Nat)) : tv (x :: B) = .int .i64 x.1 :: .int .i64 x.2.1 :: .int .i64 x.2.2 :: tv B := rfl
theorem tv_len (L : List (Nat × Nat × Nat)) : (tv L).length = L.length * 3 := by
  induction L with
  | nil => rfl
  | cons x r ih => rw [tv_cons]; simp [ih]; omega
theorem tv_one (L : List (Nat × Nat × Nat)) : ∀ u ∈ tv L, u.oneCell' = true := by
  intro u hu
  simp only [tv, List.mem_flatMap] at hu
  obtain ⟨x, _, hu⟩ := hu
  exact tkC_one x u hu
theorem tv_get (L : List (Nat × Nat × Nat)) : ∀ (j : Nat), j < L.length → (tv L)[3 * j]? = some (.int .i64 (L.getD j (0, 0, 0)).1) ∧ (tv L)[3 * j + 1]? = some (.int .i64 (L.getD j (0, 0, 0)).2.1) ∧ (tv L)[3 * j + 2]? = some (.int .i64 (L.getD j (0, 0, 0)).2.2) := by
  induction L with
  | nil => intro j hj; simp at hj
  | cons x r ih =>
    intro j hj
    cases j with
    | zero => simp [tv_cons]
    | succ j =>
      have := ih j (by simpa using hj)
      rw [tv_cons, show 3 * (j + 1) = 3 * j + 1 + 1 + 1 by omega]
      simpa using this

def OwnT (w : World) (base : Nat) (v : Value) (L : List (Nat × Nat × Nat)) : Prop := w.ownsRow base 76 3 v L.length (tv L)
theorem OwnT.nil (w : World) (base : Nat) : OwnT w base (.slice none 0 0) [] := World.ownsRow_nil _ _ _ _
theorem OwnT.kept {w w' : World} {base : Nat} {v : Value} {L : List (Nat × Nat × Nat)} {row : Option Nat} (h : OwnT w base v L) (hg : w.grownBy w' row) (hne : v.ownBlock = none ∨ v.ownBlock ≠ row) : OwnT w' base v L := World.ownsRow.kept h hg hne
theorem OwnT.below {w w' : World} {base : Nat} {v : Value} {L : List (Nat × Nat × Nat)} (h : OwnT w base v L) (hb : Below w.heap.size w w') : OwnT w' base v L :=
  World.ownsRow.kept h (below_gb hb none) (by cases e : v.ownBlock <;> simp)
theorem OwnT.lt {w : World} {base : Nat} {v : Value} {L : List (Nat × Nat × Nat)} (h : OwnT w base v L) : ∀ k, v.ownBlock = some k → base ≤ k ∧ k < w.heap.size := World.ownsRow.lt h
theorem OwnT.shape {w : World} {base : Nat} {v : Value} {L : List (Nat × Nat × Nat)} (h : OwnT w base v L) : ∃ a cap, v = .slice a L.length cap := by
  rcases h.2 with ⟨rfl, h0⟩ | ⟨g, cap, cur, rfl, _⟩
  · exact ⟨none, 0, by rw [h0]⟩
  · exact ⟨_, _, rfl⟩
theorem OwnT.le {w : World} {base base' : Nat} {v : Value} {L : List (Nat × Nat × Nat)} (h : OwnT w base v L) (hb : base' ≤ base) : OwnT w base' v L :=
  ⟨h.1, h.2.elim Or.inl (fun ⟨g, cap, cur, hv, hg, r⟩ => Or.inr ⟨g, cap, cur, hv, Nat.le_trans hb hg, r⟩)⟩
/-- a token of a row -/
theorem OwnT.at {w : World} {base : Nat} {ao : Option Addr} {n c : Nat} {L : List (Nat × Nat × Nat)} (h : OwnT w base (.slice ao n c) L) (k : Nat) (hk : k < L.length) :
    ∃ g, ao = some ⟨g, 0, none⟩ ∧ ∀ j v, (tkC (L.getD k (0, 0, 0)))[j]? = some v → w.cell? ⟨g, k * 3 + j, none⟩ = some v := by
  have hh := h
  rcases h.2 with ⟨h0, h1⟩ | ⟨g, cap, cur, hv, hb, hk2, h1, _⟩
  · omega
  · injection hv with e1 e2 e3
    refine ⟨g, e1, fun j v hj => ?_⟩
    have hj3 : j < 3 := by
      rcases Nat.lt_or_ge j 3 with h | h
      · exact h
      · rw [List.getElem?_eq_none (by simpa [tkC] using h)] at hj; cases hj
    have ht := tv_get L k hk
    have hget : (tv L)[3 * k + j]? = some v := by
      match j, hj3 with
      | 0, _ => rw [Nat.add_zero, ht.1]; exact hj
      | 1, _ => rw [ht.2.1]; exact hj
      | 2, _ => rw [ht.2.2]; exact hj
    have := World.ownsRow.cells hh (g := g) (by rw [e1]; rfl) _ _ hget
    rw [addr_add, Nat.mul_comm] at this
    exact this

end Go.Proofs.YtlpengaclkidiaaGreatDoor

/- The program's All. -/
namespace Go.Proofs.YtlpengaclkidiaaGreatDoor
open Go.RowKit

theorem results_tc {fn : Func} {p q : Tmp} {ty : TypeId} (h : fn.results = #[.tmp p, .cell q ty]) (tmps : Array Value) (P : Program) (w : World) :
    (results fn tmps).run P w = ((asAddr (tmps.getD q undef)).run P w).andThen fun a w₁ => ((loadVar ty a).run P w₁).andThen fun v w₂ => .ok (.tuple #[tmps.getD p undef, v]) w₂ := by
  simp only [results, h]
  simp [Sem.run_bind, Result.andThen]
theorem ret_tc {P : Program} {fn : Func} {R : Ending → World → Prop} {a : Act} {w : World} (p q : Tmp) (ty : TypeId) (h : fn.results = #[.tmp p, .cell q ty]) (v : Value) (hv : a.tmps.getD p undef = v) (g : Nat) (hp : a.tmps.getD q undef = .pointer (some ⟨g, 0, none⟩))
    (cs : List Value) (t : TypeId) (hb : w.heap[g]? = some (.cells cs.toArray t (0, 0))) (d : TypeDesc) (hu : P.underlying ty = some d) (hd : d.isRow = true) (hi : (P.info? ty).map (·.size) = some cs.length)
    (hdf : a.defers = []) (hR : R (.returned (.tuple #[v, .agg cs.toArray])) w) : bodyPost P fn R .ret a w := by
  refine bodyPost_ret (v := .tuple #[v, .agg cs.toArray]) ?_ hdf hR
  rw [results_tc h, hp, hv]
  have := run_loadVar_mid (P := P) w g 0 ty cs d (fun j v hv => by rw [Nat.zero_add, cell_of_row w g j cs.toArray t (0, 0) hb]; simpa using hv) hu hd hi
  simp [asAddr, this]

/-- a token into a variable that was made last -/
theorem st_tok {w : World} {ops : Array Oper} {rest : List Oper} {o : Oper} {a : Act} {Q : Exit → Act → World → Prop} (hgd : o.guard = none) (x y : Operand) (ho : o.op = .store 76 x y)
    (t : Nat × Nat × Nat) (hx : a.eval x = .pointer (some ⟨w.heap.size, 0, none⟩)) (hy : a.eval y = .agg #[.int .i64 t.1, .int .i64 t.2.1, .int .i64 t.2.2])
    (old : Array Value) (hold : old.size = 3)
    (h : ∀ wz, wz.heap.size = w.heap.size + 1 → wz.heap[w.heap.size]? = some (.cells #[.int .i64 t.1, .int .i64 t.2.1, .int .i64 t.2.2] 76 (0, 0)) → Below w.heap.size w wz → wpList Tryz.prog ops Q rest (a.put o.dst undef) wz) :
    wpList Tryz.prog ops Q (o :: rest) a (w.alloc (.cells old 76)) :=
  st_new hgd 76 x y ho (tkC t) hx hy 76 old Tryz.infoTok hold (tkC_one t) (h _ (hp_size _ _) (hp_new _ _) (below_walk _ _))

theorem nx_view {l : List UInt8} {a : Nat} (ha : a ≤ l.length) :
    (65536 < l.length ∧ nxP l (a : Int) = ((0, 0, 0), 3)) ∨ (l.length ≤ 65536 ∧ ((frP l a = l.length ∧ tkP l a = (0, 0, 0) ∧ nxP l (a : Int) = ((0, frP l a, frP l a), 0)) ∨ (∃ e : Int, 120 ≤ e ∧ e ≤ 123 ∧ frP l a < l.length ∧ tkP l a = (0, 0, e) ∧ nxP l (a : Int) = ((0, frP l a, 0), e)) ∨
      ∃ k n : Nat, tkP l a = (k, n, 0) ∧ 1 ≤ k ∧ k ≤ 5 ∧ 1 ≤ n ∧ frP l a + n ≤ l.length ∧ nxP l (a : Int) = ((k, frP l a, frP l a + n), 0))) := by
  by_cases hl : 65536 < l.length
  · refine Or.inl ⟨hl, ?_⟩
    have : plN l (a : Int) = 3 := by unfold plN; rw [if_pos hl]
    unfold nxP
    rw [this, if_pos (by decide)]
  · refine Or.inr ⟨by omega, ?_⟩
    have hp : plN l (a : Int) = 0 := by unfold plN; rw [if_neg hl, if_neg (by omega)]
    have e0 : nxP l (a : Int) = if (tkP l a).2.2 ≠ 0 then ((0, frP l a, 0), (tkP l a).2.2) else (((tkP l a).1, frP l a, frP l a + (tkP l a).2.1), 0) := by
      unfold nxP
      rw [hp, if_neg (by simp)]
      simp only [Int.toNat_natCast]
    rcases tk_view ha with ⟨v1, v2⟩ | ⟨v1, e, v2, v3, v4⟩ | ⟨kk, n, v1, v2, v3, v4, v5⟩
    · refine Or.inl ⟨v1, v2, ?_⟩
      rw [e0, v2]; simp
    · refine Or.inr (Or.inl ⟨e, v2, v3, v1, v4, ?_⟩)
      rw [e0, v4, if_pos (by simp; omega)]
    · refine Or.inr (Or.inr ⟨kk, n, v1, v2, v3, v4, v5, ?_⟩)
      rw [e0, v1, if_neg (by simp)]

theorem src_tok (wz : World) (t : Nat × Nat × Nat) : ∀ j u, (tv [t])[j]? = some u → (wz.alloc (.cells #[.int .i64 t.1, .int .i64 t.2.1, .int .i64 t.2.2] 76)).cell? ⟨wz.heap.size, j, none⟩ = some u := by
  intro j u hj
  rw [cell_of_row _ _ _ _ _ _ (hp_new _ _)]
  rw [show tv [t] = [.int .i64 t.1, .int .i64 t.2.1, .int .i64 t.2.2] from rfl] at hj
  simpa using hj

/-- what All answers: the tokens, why, where -/
def alP (l : List UInt8) : List (Nat × Nat × Nat) × Int × Nat := if 65536 < l.length then ([], 3, 0) else if (allP l 0).2.1 = 0 then ((allP l 0).1, 0, 0) else ([], (allP l 0).2)
/-- tokens so far -/
def Lt (l : List UInt8) (a : Nat) (ts : List (Nat × Nat × Nat)) : Prop := a ≤ l.length ∧ ts.length ≤ a ∧ allP l 0 = (ts ++ (allP l a).1, (allP l a).2)
theorem Lt.zero (l : List UInt8) : Lt l 0 [] := ⟨Nat.zero_le _, Nat.le_refl _, rfl⟩
theorem Lt.more {l : List UInt8} {a k n : Nat} {ts : List (Nat × Nat × Nat)} (h : Lt l a ts) (ht : tkP l a = (k, n, 0)) (hk : k ≠ 0) : Lt l (frP l a + n) (ts ++ [(k, frP l a, frP l a + n)]) := by
  have hs := tok_size ht hk
  rw [List.length_drop] at hs
  have hf := frP_le h.1
  refine ⟨by omega, by rw [List.length_append]; have := h.2.1; simp; omega, ?_⟩
  rw [h.2.2, all_step ht hk h.1]
  simp
theorem Lt.bad {l : List UInt8} {a k n : Nat} {e : Int} {ts : List (Nat × Nat × Nat)} (h : Lt l a ts) (hl : l.length ≤ 65536) (ht : tkP l a = (k, n, e)) (he : e ≠ 0) : alP l = ([], e, frP l a) := by
  unfold alP
  rw [if_neg (by omega), h.2.2, all_bad ht he, if_neg he]
theorem Lt.last {l : List UInt8} {a n : Nat} {ts : List (Nat × Nat × Nat)} (h : Lt l a ts) (hl : l.length ≤ 65536) (ht : tkP l a = (0, n, 0)) : alP l = (ts ++ [(0, frP l a, frP l a)], 0, 0) := by
  unfold alP
  rw [if_neg (by omega), h.2.2, all_end ht, if_pos rfl]

end Go.Proofs.YtlpengaclkidiaaGreatDoor

/- Word and Key; what must come, whatever else is so. -/
namespace Go.Proofs.YtlpengaclkidiaaGreatDoor
open Go.RowKit

/-- one token of a kind, and nothing else -/
def jsP (k : Nat) (l : List UInt8) : Bool := decide (tokP l = (k, l.length, 0))

set_option maxHeartbeats 1000000 in
theorem just_any (k : Nat) (l : List UInt8) (hl : l.length ≤ 140737488355328) (w : World) (hT : Tabs w) :
    Calls Tryz.prog 57 #[.int .i64 (k : Nat), .string (mk l)] w fun e w' => e = .returned (.bool (jsP k l)) ∧ ∃ n, w' = w.drewN n := by
  have hsz := mk_size l
  have H1 := hid (token_any l hl w hT)
  clear hT
  obtain ⟨⟨x, y, z⟩, HX⟩ : ∃ r, Hid (tokP l = r) := ⟨_, rfl⟩
  rw [HX.out] at H1
  unfold tokV at H1
  go_enter Tryz.func57, Tryz.ntmps57
  go_wp2_with (go_at_call 54; refine H1.out.mono ?_; rintro e w' ⟨rfl, m, rfl⟩)
  all_goals go_ret
  all_goals refine ⟨ret_b ?_, _, rfl⟩
  all_goals unfold jsP
  all_goals rw [HX.out]
  all_goals simp only [decide_eq_true_eq, Prod.mk.injEq, Bool.false_eq_true, false_iff]
  all_goals simp_all
  all_goals omega

set_option maxHeartbeats 1000000 in
theorem word_is (l : List UInt8) (hl : l.length ≤ 140737488355328) (w : World) (hT : Tabs w) :
    Calls Tryz.prog 43 #[.string (mk l)] w fun e w' => e = .returned (.bool (jsP 1 l)) ∧ ∃ n, w' = w.drewN n := by
  have H1 := hid (just_any 1 l hl w hT)
  clear hT
  go_enter Tryz.func43, Tryz.ntmps43
  go_wp2_with (go_at_call 57; refine H1.out.mono ?_; rintro e w' ⟨rfl, m, rfl⟩)
  go_ret
  exact ⟨rfl, _, rfl⟩

theorem aw_all : alP [97, 60, 61, 98, 32, 47, 47, 32, 120] = ([(1, 0, 1), (5, 1, 3), (1, 3, 4), (0, 9, 9)], 0, 0) := by
  have t0 : tkP [97, 60, 61, 98, 32, 47, 47, 32, 120] 0 = (1, 1, 0) := by decide +kernel
  have t1 : tkP [97, 60, 61, 98, 32, 47, 47, 32, 120] 1 = (5, 2, 0) := by decide +kernel
  have t2 : tkP [97, 60, 61, 98, 32, 47, 47, 32, 120] 3 = (1, 1, 0) := by decide +kernel
  have t3 : tkP [97, 60, 61, 98, 32, 47, 47, 32, 120] 4 = (0, 0, 0) := by decide +kernel
  have f0 : frP [97, 60, 61, 98, 32, 47, 47, 32, 120] 0 = 0 := by decide +kernel
  have f1 : frP [97, 60, 61, 98, 32, 47, 47, 32, 120] 1 = 1 := by decide +kernel
  have f2 : frP [97, 60, 61, 98, 32, 47, 47, 32, 120] 3 = 3 := by decide +kernel
  have f3 : frP [97, 60, 61, 98, 32, 47, 47, 32, 120] 4 = 9 := by decide +kernel
  unfold alP
  rw [if_neg (by decide), all_step t0 (by decide) (by decide), f0, all_step t1 (by decide) (by decide), f1, all_step t2 (by decide) (by decide), f2, all_end t3, f3]
  rfl
theorem aw_if : jsP 4 [105, 102] = true := by decide +kernel
theorem aw_x1 : jsP 1 [120, 49] = true := by decide +kernel

end Go.Proofs.YtlpengaclkidiaaGreatDoor

/- The program's Quote and Text. -/
namespace Go.Proofs.YtlpengaclkidiaaGreatDoor
open Go.RowKit

theorem bq_new (w : World) : Bq (w.alloc (.cells #[.pointer none, .slice none 0 0] 60)) w.heap.size w.heap.size [] :=
  Or.inl ⟨Nat.le_refl _, _, hp_new _ _, World.ownsRow_nil _ _ _ _, by simp [Value.ownBlock]⟩

/-- String of a builder -/
theorem bstr_any (B b : Nat) (bs : List UInt8) (w : World) (h : Bq w B b bs) (hBw : B ≤ w.heap.size) :
    Calls Tryz.prog 28 #[.pointer (some ⟨b, 0, none⟩)] w fun e w' => e = .returned (.string (mk bs)) ∧ Below B w w' :=
  (Tryz.Builder_String_any_k B b bs w (Lib.IsBuilderF.of h) hBw).mono fun _ _ ⟨h1, _, h3, _⟩ => ⟨h1, h3⟩

set_option maxHeartbeats 2000000 in
theorem quote_long (v : List UInt8) (hv : 4096 < v.length) (w : World) :
    Calls Tryz.prog 44 #[.string (mk v)] w fun e w' => e = .returned (.tuple #[.string ⟨#[]⟩, .int .i64 3]) ∧ Below w.heap.size w w' := by
  have hsz := mk_size v
  have q1 : (4096 : Int) < (v.length : Int) := by omega
  go_enter Tryz.func44, Tryz.ntmps44
  go_wp2
  go_ret2
  exact ⟨rfl, Below.refl _ _⟩

set_option maxHeartbeats 2000000 in
theorem quote_any (v : List UInt8) (hv : v.length ≤ 4096) (w : World) :
    Calls Tryz.prog 44 #[.string (mk v)] w fun e w' => e = .returned (.tuple #[.string (mk (quP v)), .int .i64 0]) ∧ Below w.heap.size w w' := by
  have hsz := mk_size v
  have q1 : ¬ (4096 : Int) < (v.length : Int) := by omega
  have HW1 : Hid (∀ w' b, Bq w' w.heap.size b [] → w.heap.size ≤ w'.heap.size → Calls Tryz.prog 59 #[.pointer (some ⟨b, 0, none⟩), .int .u8 34] w' fun e w2 => e = .returned .nilIface ∧ Bq w2 w.heap.size b [34] ∧ Below w.heap.size w' w2) := fun w' b h hb => wbyte_any _ b [] 34 w' h (by simp) hb
  go_enter Tryz.func44, Tryz.ntmps44
  go_wp2_with (go_at_call 59; refine (HW1.out _ _ (bq_new w) (by rw [hp_size]; omega)).mono ?_; clear HW1; rintro e w2 ⟨rfl, hq, hb⟩; have HQ2 := hid hq; have HB2 := hid ((below_walk w _).trans hb); clear hq hb)
  go_loopw [12] (fun i wr => ∃ k : Nat, i = .int .i64 k ∧ k ≤ v.length ∧ Bq wr w.heap.size w.heap.size (34 :: (v.take k).flatMap qpP) ∧ Below w.heap.size w wr) (fun i _ => v.length - (intOf i).toNat)
  case atStart => exact ⟨0, rfl, Nat.zero_le _, HQ2.out, HB2.out⟩
  case round =>
    obtain ⟨k, rfl, hk, HQ, HB⟩ := hrel
    have HQ : Hid (Bq wr w.heap.size w.heap.size (34 :: (v.take k).flatMap qpP)) := HQ
    have HB : Hid (Below w.heap.size w wr) := HB
    have hfl := flat_len (v.take k)
    rw [List.length_take] at hfl
    by_cases hlt : k < v.length
    · have q2 : (k : Int) < (v.length : Int) := by omega
      have i1 := at_mk v k hlt
      obtain ⟨c, HC⟩ : ∃ c : UInt8, Hid (v.getD k 0 = c) := ⟨_, rfl⟩
      rw [HC.out] at i1
      have HP := hid (wpiece_any _ _ (34 :: (v.take k).flatMap qpP) c wr HQ.out (by simp only [List.length_cons]; omega) HB.out.size)
      have HE : Hid (34 :: (v.take k).flatMap qpP ++ qpP c = 34 :: (v.take (k + 1)).flatMap qpP) := by
        show _ = _
        rw [List.take_succ_eq_append_getElem hlt, List.flatMap_append]
        have : v[k] = c := by have := HC.out; simpa [List.getD_eq_getElem?_getD, hlt] using this
        rw [this]
        simp
      rw [HE.out] at HP
      clear hfl
      go_wp2_with (go_at_call 71; refine HP.out.mono ?_; rintro e w3 ⟨rfl, hq, hb⟩; have HQ3 := hid hq; have HB3 := hid (HB.out.trans hb); clear hq hb)
      exact ⟨⟨k + 1, by simp, by omega, HQ3.out, HB3.out⟩, by simp [intOf]; omega⟩
    · have q2 : ¬ (k : Int) < (v.length : Int) := by omega
      have hkv : v.take k = v := List.take_of_length_le (by omega)
      rw [hkv] at HQ hfl
      have HW : Hid (Calls Tryz.prog 59 #[.pointer (some ⟨w.heap.size, 0, none⟩), .int .u8 34] wr fun e w2 => e = .returned .nilIface ∧ Bq w2 w.heap.size w.heap.size (34 :: v.flatMap qpP ++ [34]) ∧ Below w.heap.size wr w2) := wbyte_any _ _ _ 34 wr HQ.out (by simp only [List.length_cons]; omega) HB.out.size
      have HS := hid (fun W h hb => bstr_any w.heap.size w.heap.size (34 :: v.flatMap qpP ++ [34]) W h hb)
      clear hfl hkv
      go_wp2_with first
        | (go_at_call 59; refine HW.out.mono ?_; clear HW; rintro e w3 ⟨rfl, hq, hb⟩; have HQ3 := hid hq; have HB3 := hid (HB.out.trans hb); clear hq hb)
        | (go_at_call 28; refine (HS.out _ HQ3.out HB3.out.size).mono ?_; rintro e w4 ⟨rfl, hb⟩)
      go_ret2
      exact ⟨rfl, HB3.out.trans hb⟩

/-- what Text answers -/
def txV (l : List UInt8) : Value :=
  match txP (l.drop 1) with
  | none => .tuple #[.string ⟨#[]⟩, .int .i64 122]
  | some r => if jsP 3 l = true then .tuple #[.string (mk r.1), .int .i64 0] else .tuple #[.string ⟨#[]⟩, .int .i64 122]
theorem js_text {l : List UInt8} (h : jsP 3 l = true) : ∃ v, txP (l.drop 1) = some (v, l.length - 1) ∧ v.length ≤ 4096 ∧ 2 ≤ l.length ∧ l.getD 0 0 = 34 := by
  have h := of_decide_eq_true h
  unfold tokP at h
  split at h
  · simp at h
  · rename_i hl
    split at h
    · unfold wdP at h; repeat' split at h
      all_goals simp at h
    · split at h
      · unfold nuP at h; repeat' split at h
        all_goals simp at h
      · split at h
        · rename_i h34
          unfold tqP at h
          cases htx : txP (l.drop 1) with
          | none => rw [htx] at h; simp at h
          | some r =>
            rw [htx] at h
            simp only at h
            split at h
            · rename_i h4
              simp only [Prod.mk.injEq, and_true, true_and] at h
              have hle := txP_le (v := r.1) (m := r.2) htx
              rw [List.length_drop] at hle
              refine ⟨r.1, ?_, h4, by omega, h34⟩
              have : r.2 = l.length - 1 := by omega
              rw [← this]
            · simp at h
        · unfold sqP at h; repeat' split at h
          all_goals simp at h

set_option maxHeartbeats 2000000 in
theorem text_bad (l : List UInt8) (hl : l.length ≤ 140737488355328) (h : jsP 3 l = false) (w : World) (hT : Tabs w) :
    Calls Tryz.prog 35 #[.string (mk l)] w fun e w' => e = .returned (.tuple #[.string ⟨#[]⟩, .int .i64 122]) ∧ Below w.heap.size w w' := by
  have H1 := hid (just_any 3 l hl w hT)
  rw [h] at H1
  clear hT h
  go_enter Tryz.func35, Tryz.ntmps35
  go_wp2_with (go_at_call 57; refine H1.out.mono ?_; rintro e w' ⟨rfl, m, rfl⟩)
  go_ret2
  exact ⟨rfl, below_drewN (Below.refl _ _) _⟩

set_option maxHeartbeats 2000000 in
theorem text_ok (l v : List UInt8) (hl : l.length ≤ 140737488355328) (h : jsP 3 l = true) (hv : txP (l.drop 1) = some (v, l.length - 1)) (w : World) (hT : Tabs w) :
    Calls Tryz.prog 35 #[.string (mk l)] w fun e w' => e = .returned (.tuple #[.string (mk v), .int .i64 0]) ∧ Below w.heap.size w w' := by
  have hsz := mk_size l
  have H1 := hid (just_any 3 l hl w hT)
  obtain ⟨_, hx, hv4, hl2, _⟩ := js_text h
  have hvl := txP_le hv
  rw [hv] at hx
  have hv4 : v.length ≤ 4096 := by injection hx with hx; injection hx with hx _; rw [hx]; exact hv4
  have H0 := hid (Tz.zero (l := l) (a := 0) (by omega))
  have HV : Hid (txP (l.drop (0 + 1)) = some (v, l.length - 1)) := hv
  rw [h] at H1
  clear hT h hx hv hvl
  go_enter Tryz.func35, Tryz.ntmps35
  go_wp2_with (go_at_call 57; refine H1.out.mono ?_; rintro e w' ⟨rfl, m, rfl⟩)
  go_loopw [5] (fun i wr => ∃ (k : Nat) (u : List UInt8), i = .int .i64 k ∧ Tz l 0 k u ∧ k ≤ l.length - 1 ∧ Bq wr w.heap.size w.heap.size u ∧ Below w.heap.size w wr) (fun i _ => l.length - (intOf i).toNat)
  case atStart => exact ⟨1, [], rfl, H0.out, by omega, bq_new (w.drewN m), below_drewN (Below.refl _ _) m |>.trans (below_walk (w.drewN m) _)⟩
  case round =>
    obtain ⟨k, u, rfl, HT, hk, HQ, HB⟩ := hrel
    have HT : Hid (Tz l 0 k u) := HT
    have HQ : Hid (Bq wr w.heap.size w.heap.size u) := HQ
    have HB : Hid (Below w.heap.size w wr) := HB
    obtain ⟨x, hx, hxu, hxk⟩ : ∃ x : List UInt8 × Nat, txP (l.drop k) = some x ∧ u ++ x.1 = v ∧ k + x.2 = l.length := by
      have e1 := HT.out.2.2.2
      rw [HV.out] at e1
      cases hc : txP (l.drop k) with
      | none => rw [hc] at e1; cases e1
      | some x =>
        rw [hc] at e1
        injection e1 with e1
        injection e1 with e1 e2
        have := HT.out.1
        exact ⟨x, rfl, e1.symm, by omega⟩
    have hul : u.length ≤ 4096 := by rw [← hxu] at hv4; rw [List.length_append] at hv4; omega
    by_cases hlt : k < l.length - 1
    · have q2 : (k : Int) < (l.length : Int) - 1 := by omega
      have hq34 : ¬ l.getD k 0 = 34 := by
        intro e
        rw [txP_quote (l := l.drop k) (by rw [drop_getD]; exact e)] at hx
        injection hx with hx
        rw [← hx] at hxk
        simp only at hxk
        omega
      have hpk : ¬ (pcP (l.drop k)).2 = 0 := by
        intro e
        rw [txP_bad (l := l.drop k) (by rw [drop_getD]; exact hq34) e] at hx
        cases hx
      obtain ⟨⟨c, n⟩, HP⟩ : ∃ r, Hid (pcP (l.drop k) = r) := ⟨_, rfl⟩
      rw [HP.out] at hpk
      have HM := hid (HT.out.more hq34 HP.out hpk)
      have hkn : k + n ≤ l.length - 1 := by
        have e1 := HM.out.2.2.2
        rw [HV.out] at e1
        cases hc : txP (l.drop (k + n)) with
        | none => rw [hc] at e1; cases e1
        | some y =>
          rw [hc] at e1
          injection e1 with e1
          injection e1 with e1 e2
          have := txP_le (v := y.1) (m := y.2) hc
          have := HM.out.1
          omega
      have hn1 : 1 ≤ n := by simp only at hpk; omega
      have s1 := sl_from l k (by omega)
      have H2 := hid (piece_any (l.drop k) (by rw [List.length_drop]; omega))
      rw [HP.out] at H2
      have HW := hid (fun W h hb => wbyte_any w.heap.size w.heap.size u c W h (by omega) hb)
      clear hx hxu hxk hq34 hpk
      go_wp2_with first
        | (go_at_call 58; refine (H2.out _).mono ?_; rintro e w' ⟨rfl, m2, rfl⟩)
        | (go_at_call 59; refine (HW.out (wr.drewN m2) HQ.out HB.out.size).mono ?_; rintro e w3 ⟨rfl, hq, hb⟩; have HQ3 := hid hq; have HB3 := hid ((below_drewN HB.out m2).trans hb); clear hq hb)
      exact ⟨⟨k + n, u ++ [c], by simp, HM.out, hkn, HQ3.out, HB3.out⟩, by simp [intOf]; omega⟩
    · have q2 : ¬ (k : Int) < (l.length : Int) - 1 := by omega
      have huv : u = v := by
        have hx2 := txP_le (v := x.1) (m := x.2) hx
        have : x.1 = [] := List.length_eq_zero_iff.1 (by omega)
        rw [this, List.append_nil] at hxu
        exact hxu
      subst huv
      have HS := hid (bstr_any w.heap.size w.heap.size u wr HQ.out HB.out.size)
      clear hx hxu hxk
      go_wp2_with (go_at_call 28; refine HS.out.mono ?_; rintro e w4 ⟨rfl, hb⟩)
      go_ret2
      exact ⟨rfl, HB.out.trans hb⟩

end Go.Proofs.YtlpengaclkidiaaGreatDoor

/- The document's numbers, signs, pieces. -/
namespace Go.Proofs.YtlpengaclkidiaaGreatDoor
open Go.RowKit

/-- a text is a number's -/
def NuOk (l : List UInt8) : Prop := 0 < l.length ∧ ¬ (1 < l.length ∧ l.getD 0 0 = 48) ∧ Dgs l ∧ valP l ≤ 9223372036854775807
def nuB (l : List UInt8) : Bool := decide (0 < l.length ∧ ¬ (1 < l.length ∧ l.getD 0 0 = 48) ∧ twN dgB l = l.length ∧ valP l ≤ 9223372036854775807)
theorem nu_iff (l : List UInt8) : nuB l = true ↔ NuOk l := by
  unfold nuB NuOk Dgs
  rw [decide_eq_true_eq]
  exact ⟨fun ⟨a, b, c, d⟩ => ⟨a, b, fun j hj => twN_in (by omega), d⟩, fun ⟨a, b, c, d⟩ => ⟨a, b, twN_eq (Nat.le_refl _) c (fun h => by omega), d⟩⟩
def rnV (l : List UInt8) : Value := if nuB l = true then .tuple #[.int .i64 (valP l : Nat), .int .i64 0] else .tuple #[.int .i64 0, .int .i64 121]
theorem rn_ok {l : List UInt8} (h : NuOk l) : rnV l = .tuple #[.int .i64 (valP l : Nat), .int .i64 0] := by unfold rnV; rw [if_pos ((nu_iff l).2 h)]
theorem rn_bad {l : List UInt8} (h : ¬ NuOk l) : rnV l = .tuple #[.int .i64 0, .int .i64 121] := by unfold rnV; rw [if_neg (fun x => h ((nu_iff l).1 x))]

set_option maxHeartbeats 2000000 in
theorem rnumber_any (l : List UInt8) (hl : l.length ≤ 140737488355328) (w : World) :
    Calls Tryz.prog 88 #[.string (mk l)] w fun e w' => e = .returned (rnV l) ∧ w' = w := by
  have hsz := mk_size l
  by_cases h0 : l.length = 0
  · have HR := hid (rn_bad (l := l) (fun h => by have := h.1; omega))
    have q0 : (l.length : Int) = 0 := by omega
    clear h0
    go_enter Tryz.func88, Tryz.ntmps88
    go_wp2
    go_ret2
    exact ⟨by rw [HR.out]; rfl, rfl⟩
  · have q0 : ((l.length : Int) == 0) = false := by simp; intro e; exact h0 (by rw [e]; rfl)
    have hp0 : 0 < l.length := by omega
    have i0 := at_mk l 0 hp0
    obtain ⟨z, HZ⟩ : ∃ z : UInt8, Hid (l.getD 0 0 = z) := ⟨_, rfl⟩
    rw [HZ.out] at i0
    have i0 : ∀ W, (Instr.index 9 (.string (mk l)) (.int .i64 0)).run Tryz.prog W = .ok (.int .u8 (z.toNat : Nat)) W := i0
    by_cases hz : 1 < l.length ∧ z = 48
    · have HR := hid (rn_bad (l := l) (fun h => h.2.1 ⟨hz.1, by rw [HZ.out]; exact hz.2⟩))
      obtain ⟨hz1, rfl⟩ := hz
      have q1 : (1 : Int) < (l.length : Int) := by omega
      have i0 : ∀ W, (Instr.index 9 (.string (mk l)) (.int .i64 0)).run Tryz.prog W = .ok (.int .u8 48) W := i0
      clear h0
      go_enter Tryz.func88, Tryz.ntmps88
      go_wp2
      go_ret2
      exact ⟨by rw [HR.out]; rfl, rfl⟩
    · have HNZ : Hid (¬ (1 < l.length ∧ l.getD 0 0 = 48)) := (fun h => hz ⟨h.1, by rw [← HZ.out]; exact h.2⟩ : ¬ (1 < l.length ∧ l.getD 0 0 = 48))
      have hq : ¬ (1 : Int) < (l.length : Int) ∨ ((1 : Int) < (l.length : Int) ∧ ((z.toNat : Int) == 48) = false) := by
        by_cases h1 : (1 : Int) < (l.length : Int)
        · exact Or.inr ⟨h1, by simp only [beq_eq_false_iff_ne, ne_eq]; exact fun e => hz ⟨by omega, (u8_eq (n := 48) (by omega)).1 e⟩⟩
        · exact Or.inl h1
      clear hz h0
      go_enter Tryz.func88, Tryz.ntmps88
      rcases hq with q1 | ⟨q1, q2⟩
      all_goals go_wp2
      all_goals go_loop [4, 5] (fun n i => ∃ k : Nat, i = .int .i64 k ∧ Tw dgB l k ∧ n = .int .u64 (valP (l.take k) : Nat) ∧ valP (l.take k) ≤ 9223372036854775807) (fun n i => l.length - (intOf i).toNat)
      all_goals try (case atStart => exact ⟨0, rfl, Tw.zero _ _, rfl, by simp [valP]⟩)
      all_goals
        obtain ⟨k, rfl, HT, rfl, hv⟩ := hrel
        have HT : Hid (Tw dgB l k) := HT
        have hk := HT.out.1
        by_cases hlt : k < l.length
        · have q3 : (k : Int) < (l.length : Int) := by omega
          have i1 := at_mk l k hlt
          obtain ⟨c, HC⟩ : ∃ c : UInt8, Hid (l.getD k 0 = c) := ⟨_, rfl⟩
          have hs := valP_succ hlt
          have ht := valP_take l (k + 1)
          rw [HC.out] at i1 hs
          have H1 := hid (rdigit_any (c.toNat : Nat))
          obtain ⟨v, HV⟩ : ∃ v, Hid (valP (l.take k) = v) := ⟨_, rfl⟩
          rw [HV.out] at hs hv ⊢
          cases hd : dgI (c.toNat : Nat) with
          | true =>
            rw [hd] at H1
            have HD : Hid (dgB c = true) := hd
            have hc := dg_num (show dgB c = true from hd)
            clear hd
            have hc1 : (48 : Int) ≤ (c.toNat : Int) := by omega
            have hc2 : (c.toNat : Int) ≤ 57 := by omega
            by_cases hb : 10 * v + (c.toNat - 48) ≤ 9223372036854775807
            · have hbI : 10 * (v : Int) + ((c.toNat : Int) - 48) ≤ 9223372036854775807 := by omega
              have hq : ¬ (9223372036854775807 - ((c.toNat : Int) - 48)) / 10 < (v : Int) := by omega
              have HS := hid hs
              clear hs ht
              go_wp2_with (go_at_call 87; refine (H1.out _).mono ?_; rintro e w' ⟨rfl, rfl⟩)
              exact ⟨⟨k + 1, by simp, HT.out.more hlt HC.out HD.out, by rw [HS.out]; congr 1; omega, by rw [HS.out]; omega⟩, by simp [intOf]; omega⟩
            · have hq : (9223372036854775807 - ((c.toNat : Int) - 48)) / 10 < (v : Int) := by omega
              have HR := hid (rn_bad (l := l) (fun h => by have := h.2.2.2; omega))
              clear hs ht
              go_wp2_with (go_at_call 87; refine (H1.out _).mono ?_; rintro e w' ⟨rfl, rfl⟩)
              go_ret2
              exact ⟨by rw [HR.out]; rfl, rfl⟩
          | false =>
            rw [hd] at H1
            have HR := hid (rn_bad (l := l) (fun h => by
              have := h.2.2.1 k hlt
              rw [HC.out] at this
              unfold dgB at this
              rw [hd] at this
              cases this))
            clear hd hs ht
            go_wp2_with (go_at_call 87; refine (H1.out _).mono ?_; rintro e w' ⟨rfl, rfl⟩)
            go_ret2
            exact ⟨by rw [HR.out]; rfl, rfl⟩
        · have q3 : ¬ (k : Int) < (l.length : Int) := by omega
          have hkl : l.length = k := by omega
          have HTA := HT.out
          rw [← hkl] at HTA
          rw [← hkl, List.take_length] at hv ⊢
          have HR := hid (rn_ok (l := l) ⟨hp0, HNZ.out, fun j hj => HTA.2 j hj, hv⟩)
          obtain ⟨v, HV⟩ : ∃ v, Hid (valP l = v) := ⟨_, rfl⟩
          rw [HV.out] at HR hv ⊢
          have HKL := hid hkl
          have hvI : (v : Int) ≤ 9223372036854775807 := by omega
          clear hkl HTA
          go_wp2
          go_ret2
          exact ⟨by rw [HR.out]; rfl, rfl⟩

end Go.Proofs.YtlpengaclkidiaaGreatDoor

/- What All answers, plainly: each token stands by itself. -/
namespace Go.Proofs.YtlpengaclkidiaaGreatDoor
open Go.RowKit

theorem al_view (l : List UInt8) : (∃ (e : Int) (p : Nat), e ≠ 0 ∧ alP l = ([], e, p) ∧ (65536 < l.length ∧ e = 3 ∧ p = 0 ∨ l.length ≤ 65536 ∧ ∃ ts, Lb l 0 ts e p)) ∨ (∃ ts, l.length ≤ 65536 ∧ Lx l 0 ts ∧ alP l = (ts, 0, 0)) := by
  unfold alP
  by_cases hl : 65536 < l.length
  · rw [if_pos hl]
    exact Or.inl ⟨3, 0, by decide, rfl, Or.inl ⟨hl, rfl, rfl⟩⟩
  · rw [if_neg hl]
    rcases all_view (l := l) (Nat.zero_le _) with ⟨ts, h1, h2⟩ | ⟨ts, e, p, h1, h2⟩
    · rw [h2, if_pos rfl]
      exact Or.inr ⟨ts, by omega, h1, rfl⟩
    · have hn := h1.num
      rw [h2, if_neg (by simp only; omega)]
      exact Or.inl ⟨e, p, by omega, rfl, Or.inr ⟨by omega, ts, h1⟩⟩

/-- a token's variable -/
def Tk (w : World) (g : Nat) (t : Nat × Nat × Nat) : Prop := w.heap[g]? = some (.cells #[.int .i64 t.1, .int .i64 t.2.1, .int .i64 t.2.2] 76 (0, 0))
theorem Tk.below {w w' : World} {g B : Nat} {t : Nat × Nat × Nat} (h : Tk w g t) (hb : Below B w w') (hg : g < B) : Tk w' g t := by unfold Tk; rw [hb.block g hg]; exact h
theorem Tk.lt {w : World} {g : Nat} {t : Nat × Nat × Nat} (h : Tk w g t) : g < w.heap.size := hp_lt h
theorem Tk.c0 {w : World} {g k f m : Nat} (h : Tk w g (k, f, m)) : w.cell? ⟨g, 0, none⟩ = some (.int .i64 (k : Int)) := by rw [cell_of_row _ _ _ _ _ _ h]; rfl
theorem Tk.c1 {w : World} {g k f m : Nat} (h : Tk w g (k, f, m)) : w.cell? ⟨g, 1, none⟩ = some (.int .i64 (f : Int)) := by rw [cell_of_row _ _ _ _ _ _ h]; rfl
theorem Tk.c2 {w : World} {g k f m : Nat} (h : Tk w g (k, f, m)) : w.cell? ⟨g, 2, none⟩ = some (.int .i64 (m : Int)) := by rw [cell_of_row _ _ _ _ _ _ h]; rfl
/-- a token into a variable that was made last -/
theorem st_tk {w : World} {ops : Array Oper} {rest : List Oper} {o : Oper} {a : Act} {Q : Exit → Act → World → Prop} (hgd : o.guard = none) (x y : Operand) (ho : o.op = .store 76 x y)
    (t : Nat × Nat × Nat) (hx : a.eval x = .pointer (some ⟨w.heap.size, 0, none⟩)) (hy : a.eval y = .agg #[.int .i64 t.1, .int .i64 t.2.1, .int .i64 t.2.2])
    (old : Array Value) (hold : old.size = 3)
    (h : ∀ wz, Tk wz w.heap.size t → Below w.heap.size w wz → wpList Tryz.prog ops Q rest (a.put o.dst undef) wz) :
    wpList Tryz.prog ops Q (o :: rest) a (w.alloc (.cells old 76)) :=
  st_tok hgd x y ho t hx hy old hold (fun wz _ h2 h3 => h wz h2 h3)

/-- a token that stands by itself -/
def Sole (l : List UInt8) (t : Nat × Nat × Nat) : Prop := ∃ k f n, t = (k, f, f + n) ∧ 1 ≤ k ∧ k ≤ 5 ∧ 1 ≤ n ∧ f + n ≤ l.length ∧ tokP (l.drop f) = (k, n, 0) ∧ gapP (l.drop f) = 0
theorem Lx.mem {l : List UInt8} {a : Nat} {ts : List (Nat × Nat × Nat)} (h : Lx l a ts) : ∀ t ∈ ts, t = (0, l.length, l.length) ∨ Sole l t :=
  Lx.ind (M := fun _ ts => ∀ t ∈ ts, t = (0, l.length, l.length) ∨ Sole l t) (fun _ _ t ht => by simp at ht; exact Or.inl ht)
    (fun {a k n ts} _ h hk hk5 hn hl _ ih t hm => by
      rcases List.mem_cons.1 hm with rfl | hm
      · exact Or.inr ⟨k, frP l a, n, rfl, hk, hk5, hn, hl, h, frP_idle l a⟩
      · exact ih t hm) ts h
theorem getD_mem {ts : List (Nat × Nat × Nat)} {i : Nat} (h : i < ts.length) : ts.getD i (0, 0, 0) ∈ ts := by
  rw [List.getD_eq_getElem?_getD, List.getElem?_eq_getElem h]; exact List.getElem_mem h

theorem nx_of {X : List UInt8} {k n : Nat} (hl : X.length ≤ 65536) (hg : gapP X = 0) (ht : tokP X = (k, n, 0)) : nxP X 0 = ((k, 0, n), 0) := by
  have hf : frP X 0 = 0 := by unfold frP; rw [List.drop_zero, hg]
  have htk : tkP X 0 = (k, n, 0) := by unfold tkP; rw [hf, List.drop_zero, ht]
  have hp : plN X 0 = 0 := by unfold plN; rw [if_neg (by omega), if_neg (by omega)]
  unfold nxP
  rw [hp, if_neg (by simp)]
  simp only [Int.toNat_zero]
  rw [htk, hf, if_neg (by simp)]
  simp
/-- a token alone; with the byte behind it -/
theorem nx_alone {l : List UInt8} {k f n : Nat} (hl : l.length ≤ 65536) (hk : k ≠ 0) (ht : tokP (l.drop f) = (k, n, 0)) (hg : gapP (l.drop f) = 0) : nxP ((l.drop f).take n) 0 = ((k, 0, n), 0) := by
  refine nx_of (by rw [List.length_take, List.length_drop]; omega) ?_ ?_
  · rw [gapP_take (by omega), hg]
  · have := tok_cut (r := []) ht hk (Or.inl rfl)
    rwa [List.append_nil] at this
theorem nx_more {l : List UInt8} {k f n : Nat} (hl : l.length ≤ 65536) (hk : k ≠ 0) (ht : tokP (l.drop f) = (k, n, 0)) (hg : gapP (l.drop f) = 0) (hn : f + n < l.length) : nxP ((l.drop f).take (n + 1)) 0 = ((k, 0, n), 0) := by
  refine nx_of (by rw [List.length_take, List.length_drop]; omega) ?_ ?_
  · rw [gapP_take (by omega), hg]
  · have hlt : n < (l.drop f).length := by rw [List.length_drop]; omega
    have e : (l.drop f).take (n + 1) = (l.drop f).take n ++ [(l.drop f)[n]] := List.take_succ_eq_append_getElem hlt
    rw [e]
    refine tok_cut ht hk (Or.inr (Or.inl ?_))
    rw [head_drop, List.getElem?_eq_getElem hlt]
    rfl

end Go.Proofs.YtlpengaclkidiaaGreatDoor

/- Numbers, texts, words and keys: both sides. -/
namespace Go.Proofs.YtlpengaclkidiaaGreatDoor
open Go.RowKit

/-- all bytes of a kind -/
theorem tw_all {p : UInt8 → Bool} {l : List UInt8} (h : ∀ j, j < l.length → p (l.getD j 0) = true) : twN p l = l.length := twN_eq (Nat.le_refl _) h (fun h => by omega)
theorem tw_full {p : UInt8 → Bool} {l : List UInt8} (h : twN p l = l.length) : ∀ j, j < l.length → p (l.getD j 0) = true := fun j hj => twN_in (by omega)
theorem js_num (l : List UInt8) : jsP 2 l = true ↔ NuOk l := by
  unfold jsP
  rw [decide_eq_true_eq]
  constructor
  · intro h
    unfold tokP at h
    split at h
    · simp at h
    · rename_i hl
      split at h
      · unfold wdP at h; repeat' split at h
        all_goals simp at h
      · split at h
        · rename_i h1 h2
          unfold nuP at h
          split at h
          · simp at h
          · rename_i h3
            simp only [Prod.mk.injEq, and_true, true_and] at h
            rw [h, List.take_length] at h3
            refine ⟨by omega, fun x => h3 (Or.inl ⟨x.2, x.1⟩), tw_full h, ?_⟩
            have : ¬ 9223372036854775807 < valP l := fun x => h3 (Or.inr (Or.inr x))
            omega
        · split at h
          · unfold tqP at h; repeat' split at h
            all_goals simp at h
          · unfold sqP at h; repeat' split at h
            all_goals simp at h
  · rintro ⟨a, b, c, d⟩
    have hd := c 0 a
    have h1 : ltB (l.getD 0 0) = false := by
      have := dg_num hd
      unfold ltB ltI
      rw [decide_eq_false_iff_not]
      omega
    have ht := tw_all (p := dgB) c
    unfold tokP
    rw [if_neg (by omega), if_neg (by rw [h1]; decide), if_pos hd]
    unfold nuP
    have hz : l.getD l.length 0 = 0 := by rw [List.getD_eq_getElem?_getD, List.getElem?_eq_none (Nat.le_refl _)]; rfl
    rw [ht, List.take_length, hz, if_neg]
    rintro (x | x | x)
    · exact b ⟨x.2, x.1⟩
    · revert x; decide
    · omega
/-- a name: letters and digits, a letter first, not too many -/
def nmT (l : List UInt8) : Bool := decide (0 < l.length ∧ l.length ≤ 32 ∧ ltB (l.getD 0 0) = true ∧ ∀ j, j < l.length → wdB (l.getD j 0) = true)
theorem ky_name {l : List UInt8} (h : l ∈ kyL) : nmT l = true := by
  have : kyL.all nmT = true := by decide +kernel
  exact List.all_eq_true.1 this l h
theorem js_word (l : List UInt8) : (jsP 1 l = true ↔ (nmT l = true ∧ ¬ l ∈ kyL)) ∧ (jsP 4 l = true ↔ l ∈ kyL) := by
  have key : nmT l = true → tokP l = if l ∈ kyL then (4, l.length, 0) else (1, l.length, 0) := fun h => by
    obtain ⟨a, b, c, d⟩ := of_decide_eq_true h
    have ht := tw_all (p := wdB) d
    unfold tokP
    rw [if_neg (by omega), if_pos c]
    unfold wdP
    rw [ht, List.take_length, if_neg (by omega)]
  have back : ∀ k, (k = 1 ∨ k = 4) → tokP l = (k, l.length, 0) → nmT l = true := fun k hk h => by
    unfold tokP at h
    split at h
    · simp only [Prod.mk.injEq] at h; omega
    · rename_i hl
      split at h
      · rename_i h1
        unfold wdP at h
        split at h
        · simp only [Prod.mk.injEq] at h; omega
        · rename_i h2
          have ht : twN wdB l = l.length := by
            split at h
            · simp only [Prod.mk.injEq] at h; exact h.2.1
            · simp only [Prod.mk.injEq] at h; exact h.2.1
          rw [ht] at h2
          exact decide_eq_true ⟨by omega, by omega, h1, tw_full ht⟩
      · split at h
        · unfold nuP at h; repeat' split at h
          all_goals (simp only [Prod.mk.injEq] at h; omega)
        · split at h
          · unfold tqP at h; repeat' split at h
            all_goals (simp only [Prod.mk.injEq] at h; omega)
          · unfold sqP at h; repeat' split at h
            all_goals (simp only [Prod.mk.injEq] at h; omega)
  unfold jsP
  rw [decide_eq_true_eq, decide_eq_true_eq]
  refine ⟨⟨fun h => ?_, fun ⟨h1, h2⟩ => by rw [key h1, if_neg h2]⟩, ⟨fun h => ?_, fun h => by rw [key (ky_name h), if_pos h]⟩⟩
  · have hn := back 1 (Or.inl rfl) h
    refine ⟨hn, fun hm => ?_⟩
    rw [key hn, if_pos hm] at h
    simp only [Prod.mk.injEq] at h; omega
  · have hn := back 4 (Or.inr rfl) h
    rw [key hn] at h
    split at h
    · assumption
    · simp only [Prod.mk.injEq] at h; omega

end Go.Proofs.YtlpengaclkidiaaGreatDoor
