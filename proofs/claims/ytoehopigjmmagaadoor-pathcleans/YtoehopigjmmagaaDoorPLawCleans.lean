/- PathCleans: a written path leads where it should, from the root and from a directory. -/
import Derived.Test.YtoehopigjmmagaaDoorPRJoin
import Derived.Test.YtoehopigjmmagaaDoorPLawNames
namespace Go.Proofs.YtoehopigjmmagaaDoor
open Go.RowKit

/-- does a written path begin with a dot piece? -/
def dotP (s : List UInt8) : Prop := (pcs s).headD [] = [46] ∨ (pcs s).headD [] = [46, 46]
def aimP (d s : List UInt8) : Except Int (List UInt8) :=
  if okP d = true then (if (pcs s).headD [] = [46] ∨ (pcs s).headD [] = [46, 46] then joinP d [s] else joinP [] [s]) else .error 45

theorem cut_any (s : ByteArray) (hs : (bl s).length ≤ 9223372036854775807) : ∃ (b : List UInt8) (f : Bool), ∀ w, Calls Tryd.prog 39 #[.string s, .string ⟨#[47]⟩] w fun e w' => e = .returned (.tuple #[.string (mk ((pcs (bl s)).headD [])), .string (mk b), .bool f]) ∧ ∃ n, w' = w.drewN n := by
  by_cases hm : (47 : UInt8) ∈ bl s
  · obtain ⟨a, b, hab, ha⟩ := slash_parts hm
    have e : (pcs (bl s)).headD [] = a := by rw [hab, pcs_append, pcs_whole ha]; rfl
    exact ⟨b, true, fun w => by rw [e]; exact cut_yes s a b w hab ha hs⟩
  · have e : (pcs (bl s)).headD [] = bl s := by rw [pcs_whole hm]; rfl
    exact ⟨[], false, fun w => by rw [e, mk_bl]; exact (cut_no s w hm).mono fun e w' ⟨h1, h2⟩ => ⟨h1, 0, h2⟩⟩

theorem below_d {w w2 : World} {n : Nat} (h : Below (w.drewN n).heap.size (w.drewN n) w2) : Below w.heap.size w w2 := ⟨h.os, h.tape, h.output, h.size, h.block⟩

set_option maxRecDepth 100000 in
set_option maxHeartbeats 1000000 in
theorem aim_any (d s : ByteArray) (w : World) (hd : (bl d).length ≤ 9223372036854775807) (hs : (bl s).length ≤ 9223372036854775807) :
    Calls Tryd.prog 24 #[.string d, .string s] w fun e w' => e = .returned (.tuple #[.string (mk (aS (aimP (bl d) (bl s)))), .int .i64 (aN (aimP (bl d) (bl s)))]) ∧ Below w.heap.size w w' := by
  cases hok : okP (bl d) with
  | false =>
    have HC := hid (check_is d 45 (by unfold chN; rw [hok]; rfl) hd)
    have HR := hid (show aimP (bl d) (bl s) = .error 45 by unfold aimP; rw [hok]; rfl)
    clear hok hd hs
    go_enter Tryd.func24, Tryd.ntmps24
    go_wp2_with (go_at_call 13; refine (HC.out _).mono ?_; rintro e w' ⟨rfl, n, rfl⟩)
    go_ret2
    exact ⟨ret_si (by rw [HR.out]; rfl) (by rw [HR.out]; rfl), ⟨rfl, rfl, rfl, Nat.le_refl _, fun _ _ => rfl⟩⟩
  | true =>
    have HC := hid (check_is d 0 (by unfold chN; rw [hok]; rfl) hd)
    obtain ⟨b, f, hcut⟩ := cut_any s hs
    have HCU := hid hcut
    have HA := hid (show aimP (bl d) (bl s) = if (pcs (bl s)).headD [] = [46] ∨ (pcs (bl s)).headD [] = [46, 46] then joinP (bl d) [bl s] else joinP [] [bl s] by unfold aimP; rw [hok, if_pos rfl])
    have HJ := hid (fun w1 : World => join_any d _ [bl s] _ hd (strs_one w1 s) (by simp))
    have HCL := hid (clean_any s)
    obtain ⟨a, HAA⟩ : ∃ a, Hid ((pcs (bl s)).headD [] = a) := ⟨_, rfl⟩
    rw [HAA.out] at HCU HA
    have e0 : (mk a).toList = a := bl_mk a
    clear hok hd hs hcut
    by_cases h1 : a = [46] ∨ a = [46, 46]
    · have HR := hid (show aimP (bl d) (bl s) = joinP (bl d) [bl s] by rw [HA.out, if_pos h1])
      rcases h1 with rfl | rfl
      all_goals go_enter Tryd.func24, Tryd.ntmps24
      all_goals go_wp2_with (first | (go_at_call 13; refine (HC.out _).mono ?_; rintro e w' ⟨rfl, n, rfl⟩) | (go_at_call 39; refine (HCU.out _).mono ?_; rintro e w' ⟨rfl, n2, rfl⟩) | fail)
      all_goals refine (HJ.out (w.drewN (n + n2))).mono ?_
      all_goals rintro e w2 ⟨rfl, hb2⟩
      all_goals have HB2 := hid (below_d (below_tr (below_walk (w.drewN (n + n2)) _) (below_le hb2 (by simp))))
      all_goals clear hb2
      all_goals go_wp2
      all_goals go_ret2
      all_goals exact ⟨ret_si (by rw [HR.out]) (by rw [HR.out]), HB2.out⟩
    · have n1 : (a == [46]) = false := by
        have : a ≠ [46] := fun e => h1 (Or.inl e)
        simpa using this
      have n1' : ¬ a = [46] := fun e => h1 (Or.inl e)
      have n2 : (a == [46, 46]) = false := by
        have : a ≠ [46, 46] := fun e => h1 (Or.inr e)
        simpa using this
      have n2' : ¬ a = [46, 46] := fun e => h1 (Or.inr e)
      have HR := hid (show aimP (bl d) (bl s) = joinP [] [bl s] by rw [HA.out, if_neg h1])
      clear h1
      go_enter Tryd.func24, Tryd.ntmps24
      go_wp2_with (first | (go_at_call 13; refine (HC.out _).mono ?_; rintro e w' ⟨rfl, n, rfl⟩) | (go_at_call 39; refine (HCU.out _).mono ?_; rintro e w' ⟨rfl, n2, rfl⟩) | (go_at_call 22; refine (HCL.out _).mono ?_; rintro e w' ⟨rfl, hb⟩))
      go_ret2
      exact ⟨ret_si (by rw [HR.out]) (by rw [HR.out]), ⟨hb.os, hb.tape, hb.output, hb.size, hb.block⟩⟩

set_option maxHeartbeats 1000000 in
theorem rpath_any (s : ByteArray) (w : World) (hs : (bl s).length ≤ 1099511627776) :
    Calls Tryd.prog 44 #[.string s] w fun e w' => e = .returned (.bool (okP (bl s))) ∧ Below w.heap.size w w' := by
  have HN := hid (rnames_any s w hs)
  clear hs
  go_enter Tryd.func44, Tryd.ntmps44
  go_wp2_with fail
  refine HN.out.mono ?_
  rintro e w1 ⟨⟨hok, v1, rfl, ho⟩ | ⟨hok, rfl⟩, hb⟩
  · have HOK := hid hok
    have HB := hid hb
    obtain ⟨a1, c1, rfl⟩ := ho.strs.shape
    clear hok hb ho
    go_wp2
    go_ret
    exact ⟨ret_b (by rw [HOK.out]), HB.out⟩
  · have HOK := hid hok
    have HB := hid hb
    clear hok hb
    go_wp2
    go_ret
    exact ⟨ret_b (by rw [HOK.out]), HB.out⟩

theorem head_get {P : List (List UInt8)} : P.headD [] = P.getD 0 [] := by cases P <;> rfl

set_option maxRecDepth 100000 in
set_option maxHeartbeats 1000000 in
theorem raim_any (d s : ByteArray) (w : World) (hd : (bl d).length ≤ 1099511627776) (hs : (bl s).length ≤ 1099511627776) :
    Calls Tryd.prog 25 #[.string d, .string s] w fun e w' => e = .returned (.tuple #[.string (mk (aS (aimP (bl d) (bl s)))), .int .i64 (aN (aimP (bl d) (bl s)))]) ∧ Below w.heap.size w w' := by
  have HPA := hid (rpath_any d w hd)
  cases hok : okP (bl d) with
  | false =>
    rw [hok] at HPA
    have HR := hid (show aimP (bl d) (bl s) = .error 45 by unfold aimP; rw [hok]; rfl)
    clear hok hd hs
    go_enter Tryd.func25, Tryd.ntmps25
    go_wp2_with (go_at_call 44; refine HPA.out.mono ?_; rintro e w1 ⟨rfl, hb⟩)
    go_ret2
    exact ⟨ret_si (by rw [HR.out]; rfl) (by rw [HR.out]; rfl), hb⟩
  | true =>
    rw [hok] at HPA
    have HA := hid (show aimP (bl d) (bl s) = if (pcs (bl s)).headD [] = [46] ∨ (pcs (bl s)).headD [] = [46, 46] then joinP (bl d) [bl s] else joinP [] [bl s] by unfold aimP; rw [hok, if_pos rfl])
    have HPI := hid (rpieces_any s · hs)
    have HJ := hid (fun w1 : World => rjoin_any d _ [bl s] _ hd (strs_one w1 s) (by simp))
    have HCL := hid (rclean_any s)
    have HPN := hid (pcs_ne (bl s))
    obtain ⟨a, HAA⟩ : ∃ a, Hid ((pcs (bl s)).headD [] = a) := ⟨_, rfl⟩
    rw [HAA.out] at HA
    have HG0 := hid (show (pcs (bl s)).getD 0 [] = a by rw [← head_get]; exact HAA.out)
    have e0 : (mk a).toList = a := bl_mk a
    clear hok hd hs
    go_enter Tryd.func25, Tryd.ntmps25
    go_wp2_with fail
    refine HPA.out.mono ?_
    rintro e w1 ⟨rfl, hb1⟩
    have HB1 := hid hb1
    clear hb1 HPA
    go_wp2_with fail
    refine (HPI.out w1).mono ?_
    rintro e w2 ⟨v, rfl, ho, hb2⟩
    have HB2 := hid (below_tr HB1.out (below_le hb2 HB1.out.size))
    rcases ho.forms with ⟨_, e⟩ | ⟨gp, cp, rfl, _, _, _, _, _, hc⟩
    · exact absurd e HPN.out
    have hpos : 0 < (pcs (bl s)).length := List.length_pos_iff.2 HPN.out
    have hc0 := hc 0 hpos
    rw [HG0.out] at hc0
    have q0 : (0 : Int) < ((pcs (bl s)).length : Int) := by omega
    clear hc hb2 ho HPI
    by_cases h1 : a = [46] ∨ a = [46, 46]
    · have HR := hid (show aimP (bl d) (bl s) = joinP (bl d) [bl s] by rw [HA.out, if_pos h1])
      rcases h1 with rfl | rfl
      all_goals go_wp2_with fail
      all_goals refine (HJ.out w2).mono ?_
      all_goals rintro e w3 ⟨rfl, hb3⟩
      all_goals have HB3 := hid (below_tr HB2.out (below_le (below_tr (below_walk w2 _) (below_le hb3 (by simp))) HB2.out.size))
      all_goals clear hb3
      all_goals go_wp2
      all_goals go_ret2
      all_goals exact ⟨ret_si (by rw [HR.out]) (by rw [HR.out]), HB3.out⟩
    · have n1 : (a == [46]) = false := by
        have : a ≠ [46] := fun e => h1 (Or.inl e)
        simpa using this
      have n1' : ¬ a = [46] := fun e => h1 (Or.inl e)
      have n2 : (a == [46, 46]) = false := by
        have : a ≠ [46, 46] := fun e => h1 (Or.inr e)
        simpa using this
      have n2' : ¬ a = [46, 46] := fun e => h1 (Or.inr e)
      have HR := hid (show aimP (bl d) (bl s) = joinP [] [bl s] by rw [HA.out, if_neg h1])
      clear h1
      go_wp2_with (go_at_call 23; refine (HCL.out _).mono ?_; rintro e w3 ⟨rfl, hb⟩)
      go_ret2
      exact ⟨ret_si (by rw [HR.out]) (by rw [HR.out]), below_tr HB2.out (below_le hb HB2.out.size)⟩

set_option maxRecDepth 100000 in
set_option maxHeartbeats 1000000 in
theorem lawCleans_any (d s : ByteArray) (w : World) (hd : (bl d).length ≤ 1048576) (hs : (bl s).length ≤ 1048576) :
    Calls Tryd.prog 6 #[.string d, .string s] w fun e w' => e = .returned (.bool true) ∧ Below w.heap.size w w' := by
  have H1 := hid (clean_any s w)
  have H2 := hid (rclean_any s)
  have H3 := hid (aim_any d s · (by omega) (by omega))
  have H4 := hid (raim_any d s · (by omega) (by omega))
  generalize joinP [] [bl s] = R at *
  generalize aimP (bl d) (bl s) = A at *
  have HN1 := hid (num_any (aN R))
  have HN2 := hid (num_any (aN A))
  have HAW := hid awake_any
  clear hd hs
  go_enter Tryd.func6, Tryd.ntmps6
  go_wp2_with fail
  refine H1.out.mono ?_
  rintro e w1 ⟨rfl, hb1⟩
  have HB1 := hid hb1
  clear hb1 H1
  go_wp2_with fail
  refine (H2.out w1).mono ?_
  rintro e w2 ⟨rfl, hb2⟩
  have HB2 := hid (below_tr HB1.out (below_le hb2 HB1.out.size))
  clear hb2 H2 HB1
  go_wp2_with fail
  refine (H3.out w2).mono ?_
  rintro e w3 ⟨rfl, hb3⟩
  have HB3 := hid (below_tr HB2.out (below_le hb3 HB2.out.size))
  clear hb3 H3 HB2
  go_wp2_with fail
  refine (H4.out w3).mono ?_
  rintro e w4 ⟨rfl, hb4⟩
  have HB4 := hid (below_tr HB3.out (below_le hb4 HB3.out.size))
  clear hb4 H4 HB3
  go_wp2_with (first | (go_at_call 19; with_reducible refine Calls.mono (HN1.out _) ?_; rintro e w' ⟨rfl, h0⟩; subst w') | (go_at_call 19; with_reducible refine Calls.mono (HN2.out _) ?_; rintro e w' ⟨rfl, h0⟩; subst w') | (go_at_call 15; refine (HAW.out _).mono ?_; rintro e w5 ⟨rfl, hb5⟩))
  go_ret
  exact ⟨rfl, below_tr HB4.out (below_le hb5 HB4.out.size)⟩

end Go.Proofs.YtoehopigjmmagaaDoor
