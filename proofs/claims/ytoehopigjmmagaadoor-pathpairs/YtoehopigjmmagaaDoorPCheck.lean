/- Check, Names, the path of names. -/
import Derived.Test.YtoehopigjmmagaaDoorPCut
namespace Go.Proofs.YtoehopigjmmagaaDoor
open Go.RowKit

theorem name_ok (s : ByteArray) (h : nmP (bl s) = true) (w : World) :
    Calls Tryd.prog 11 #[.string s] w fun e w' => e = .returned (.int .i64 0) ∧ w' = w := by
  have := name_any s w
  unfold nmN at this
  rw [if_pos h] at this
  exact this
theorem name_bad (s : ByteArray) (h : nmP (bl s) = false) (w : World) :
    Calls Tryd.prog 11 #[.string s] w fun e w' => e = .returned (.int .i64 42) ∧ w' = w := by
  have := name_any s w
  unfold nmN at this
  rw [if_neg (by rw [h]; decide)] at this
  exact this

/-- Check's number -/
def chN (l : List UInt8) : Int := if okP l = true then 0 else 45
theorem okP_pcs {l : List UInt8} (h : l ≠ []) : okP l = ((pcs l).all nmP && decide ((pcs l).length ≤ 32)) := by
  unfold okP nms
  rw [if_neg h]

set_option maxRecDepth 100000 in
set_option maxHeartbeats 1000000 in
theorem check_any (s : ByteArray) (w : World) (hs : (bl s).length ≤ 9223372036854775807) :
    Calls Tryd.prog 13 #[.string s] w fun e w' => e = .returned (.int .i64 (chN (bl s))) ∧ ∃ n, w' = w.drewN n := by
  by_cases h0 : bl s = []
  · have hl' : s.toList = [] := h0
    have HN := hid (show chN (bl s) = 0 by rw [h0]; rfl)
    clear h0 hs
    go_enter Tryd.func13, Tryd.ntmps13
    go_wp2
    go_ret
    exact ⟨ret_i HN.out.symm, 0, rfl⟩
  · have hl' : (s.toList == []) = false := by simp; exact h0
    have HK := hid (okP_pcs h0)
    have HS := hid hs
    obtain ⟨l, HL⟩ : ∃ l, Hid (bl s = l) := ⟨_, rfl⟩
    have hne : ¬ s.toList = [] := h0
    clear h0 hs
    go_enter Tryd.func13, Tryd.ntmps13
    go_wp2
    clear hl' hne
    go_loopw [0, 8] (fun v i wr => ∃ (k q : Nat) (x : ByteArray), k ≤ 32 ∧ v = .string x ∧ i = .int .i64 k ∧ wr = w.drewN q ∧ Hid ((bl x).length ≤ 9223372036854775807 ∧ okP (bl s) = ((pcs (bl x)).all nmP && decide ((pcs (bl x)).length ≤ 32 - k)))) (fun _ i _ => 32 - (intOf i).toNat)
    case atStart => exact ⟨0, 0, s, by omega, rfl, rfl, rfl, HS.out, HK.out⟩
    case round =>
      obtain ⟨k, q, x, hk, rfl, rfl, rfl, HI⟩ := hrel
      by_cases hlt : k < 32
      · have q1 : (k : Int) < 32 := by omega
        by_cases hm : (47 : UInt8) ∈ bl x
        · obtain ⟨a, b, hab, ha⟩ := slash_parts hm
          have HC := hid (cut_yes x a b · hab ha HI.out.1)
          have HB := hid (show b.length ≤ 9223372036854775807 by have := HI.out.1; rw [hab] at this; simp at this; omega)
          have HP := hid (show pcs (bl x) = a :: pcs b by rw [hab, pcs_append, pcs_whole ha]; rfl)
          clear hm hab ha
          cases hn : nmP a with
          | false =>
            have HNM := hid (name_bad (mk a) (by rw [bl_mk]; exact hn))
            have HR := hid (show chN (bl s) = 45 by unfold chN; rw [HI.out.2, HP.out, List.all_cons, hn]; rfl)
            clear hn
            go_wp2_with (first | (go_at_call 39; refine (HC.out _).mono ?_; rintro e w' ⟨rfl, n, rfl⟩) | (go_at_call 11; refine (HNM.out _).mono ?_; rintro e w' ⟨rfl, rfl⟩))
            go_ret
            exact ⟨ret_i HR.out.symm, q + n, by simp⟩
          | true =>
            have HNM := hid (name_ok (mk a) (by rw [bl_mk]; exact hn))
            have HR := hid (show okP (bl s) = ((pcs b).all nmP && decide ((pcs b).length ≤ 32 - (k + 1))) by
              rw [HI.out.2, HP.out, List.all_cons, hn, Bool.true_and, List.length_cons]
              congr 1
              rw [decide_eq_decide]
              omega)
            clear hn
            go_wp2_with (first | (go_at_call 39; refine (HC.out _).mono ?_; rintro e w' ⟨rfl, n, rfl⟩) | (go_at_call 11; refine (HNM.out _).mono ?_; rintro e w' ⟨rfl, rfl⟩))
            refine ⟨⟨k + 1, q + n, mk b, by omega, rfl, by simp, by simp, ?_⟩, by simp [intOf]; omega⟩
            rw [bl_mk]
            exact ⟨HB.out, HR.out⟩
        · have HC := hid (cut_no x · hm)
          have HP := hid (pcs_whole hm)
          clear hm
          cases hn : nmP (bl x) with
          | false =>
            have HNM := hid (name_bad x hn)
            have HR := hid (show chN (bl s) = 45 by unfold chN; rw [HI.out.2, HP.out, List.all_cons, hn]; rfl)
            clear hn
            go_wp2_with (first | (go_at_call 39; refine (HC.out _).mono ?_; rintro e w' ⟨rfl, rfl⟩) | (go_at_call 11; refine (HNM.out _).mono ?_; rintro e w' ⟨rfl, rfl⟩))
            go_ret
            exact ⟨ret_i HR.out.symm, q, rfl⟩
          | true =>
            have HNM := hid (name_ok x hn)
            have HR := hid (show chN (bl s) = 0 by
              unfold chN
              rw [HI.out.2, HP.out, List.all_cons, hn, Bool.true_and, List.all_nil, Bool.true_and, List.length_singleton, decide_eq_true (by omega), if_pos rfl])
            clear hn
            go_wp2_with (first | (go_at_call 39; refine (HC.out _).mono ?_; rintro e w' ⟨rfl, rfl⟩) | (go_at_call 11; refine (HNM.out _).mono ?_; rintro e w' ⟨rfl, rfl⟩))
            go_ret
            exact ⟨ret_i HR.out.symm, q, rfl⟩
      · have q1 : ¬ (k : Int) < 32 := by omega
        have HR := hid (show chN (bl s) = 45 by
          have hp : 0 < (pcs (bl x)).length := List.length_pos_iff.2 (pcs_ne _)
          unfold chN
          rw [HI.out.2, decide_eq_false (by omega), Bool.and_false]; rfl)
        go_wp2
        go_ret
        exact ⟨ret_i HR.out.symm, q, rfl⟩

/-- a path is short -/
theorem lens_pcs : ∀ (l : List (List UInt8)), (∀ p ∈ l, nmP p = true) → (txt l).length ≤ 65 * l.length
  | [], _ => by simp [txt]
  | [x], h => by
    have := nmP_len (h x (by simp))
    rw [txt_one]; simp only [List.length_singleton]; omega
  | x :: y :: r, h => by
    have h1 := nmP_len (h x (by simp))
    have h2 := lens_pcs (y :: r) (fun p hp => h p (List.mem_cons_of_mem _ hp))
    rw [txt_two]; simp only [List.length_append, List.length_cons] at *; omega
theorem okP_short {s : List UInt8} (h : okP s = true) : s.length ≤ 2080 := by
  have hp := (okP_iff s).1 h
  have := lens_pcs (nms s) hp.1
  rw [txt_nms] at this
  have := hp.2
  omega

set_option maxHeartbeats 1000000 in
theorem namesOf_any (s : ByteArray) (w : World) (hs : s.size < 4294967281) :
    Calls Tryd.prog 36 #[.string s] w fun e w' => ∃ v, e = .returned v ∧ OwnS w' w.heap.size v (nms (bl s)) ∧ Below w.heap.size w w' := by
  by_cases h0 : bl s = []
  · have hl' : s.toList = [] := h0
    have HN := hid (show nms (bl s) = [] by rw [h0]; rfl)
    clear h0 hs
    go_enter Tryd.func36, Tryd.ntmps36
    go_wp2
    go_ret
    exact ⟨_, rfl, by rw [HN.out]; exact OwnS.nil _ _, Below.refl _ _⟩
  · have hl' : s.toList.isEmpty = false := by simp; exact h0
    have HN := hid (show nms (bl s) = pcs (bl s) by unfold nms; rw [if_neg h0])
    have HC := hid (split_any s w hs)
    have HL := hid (show (pcs (bl s)).length ≤ 1099511627776 by rw [← count_len]; have := Lib.countB_le ⟨#[47]⟩ (by decide) s.size s (Nat.le_refl _); omega)
    clear h0 hs
    go_enter Tryd.func36, Tryd.ntmps36
    go_wp2_with (go_at_call 53; refine HC.out.mono ?_; rintro e w' ⟨rfl, rfl⟩)
    go_ret
    refine ⟨_, rfl, ?_, ?_⟩
    · rw [HN.out]
      exact OwnS.made (hp_new _ _) HL.out (Nat.le_refl _) _ rfl
    · exact below_walk _ _

set_option maxHeartbeats 1000000 in
theorem names_ok (s : ByteArray) (w : World) (h : okP (bl s) = true) :
    Calls Tryd.prog 9 #[.string s] w fun e w' => ∃ v, e = .returned (.tuple #[v, .int .i64 0]) ∧ OwnS w' w.heap.size v (nms (bl s)) ∧ Below w.heap.size w w' := by
  have hs := okP_short h
  have HC := hid (check_any s w (by omega))
  have HR := hid (show chN (bl s) = 0 by unfold chN; rw [h]; rfl)
  rw [HR.out] at HC
  have HO := hid (namesOf_any s · (by rw [bl_size]; omega))
  clear h hs
  go_enter Tryd.func9, Tryd.ntmps9
  go_wp2_with (go_at_call 13; refine HC.out.mono ?_; rintro e w' ⟨rfl, n, rfl⟩)
  refine (HO.out _).mono ?_
  rintro e w2 ⟨v, rfl, ho, hb⟩
  obtain ⟨ao, c, rfl⟩ := ho.strs.shape
  have HH := hid ho
  clear ho
  go_wp2
  go_ret2
  exact ⟨_, rfl, HH.out, ⟨hb.os, hb.tape, hb.output, hb.size, hb.block⟩⟩

set_option maxHeartbeats 1000000 in
theorem names_bad (s : ByteArray) (w : World) (h : okP (bl s) = false) (hs : (bl s).length ≤ 9223372036854775807) :
    Calls Tryd.prog 9 #[.string s] w fun e w' => e = .returned (.tuple #[.slice none 0 0, .int .i64 45]) ∧ Below w.heap.size w w' := by
  have HC := hid (check_any s w hs)
  have HR := hid (show chN (bl s) = 45 by unfold chN; rw [h]; rfl)
  rw [HR.out] at HC
  clear h hs
  go_enter Tryd.func9, Tryd.ntmps9
  go_wp2_with (go_at_call 13; refine HC.out.mono ?_; rintro e w' ⟨rfl, n, rfl⟩)
  go_ret2
  exact ⟨rfl, ⟨rfl, rfl, rfl, Nat.le_refl _, fun _ _ => rfl⟩⟩

set_option maxHeartbeats 1000000 in
/-- the path of names -/
theorem pathOf_any (v : Value) (ts : List (List UInt8)) (w : World) (h : Strs w v ts) (hn : ∀ p ∈ ts, nmP p = true) (hl : ts.length ≤ 9223372036854775807) :
    Calls Tryd.prog 40 #[v] w fun e w' => e = .returned (.tuple #[.string (mk (aS (endP ts))), .int .i64 (aN (endP ts))]) ∧ Below w.heap.size w w' := by
  obtain ⟨ao, c, rfl⟩ := h.shape
  have HS := hid h
  clear h
  by_cases h32 : 32 < ts.length
  · have q1 : (32 : Int) < (ts.length : Int) := by omega
    have HE := hid (show endP ts = .error 44 by unfold endP; rw [if_pos h32])
    clear h32
    go_enter Tryd.func40, Tryd.ntmps40
    go_wp2
    go_ret2
    rw [HE.out]
    exact ⟨rfl, Below.refl _ _⟩
  · have q1 : ¬ (32 : Int) < (ts.length : Int) := by omega
    have HE := hid (show endP ts = .ok (txt ts) by unfold endP; rw [if_neg h32])
    have hb := lens_pcs ts hn
    have HJ := hid (joins_any _ ts w HS.out (by omega) (by omega))
    clear h32 hb
    go_enter Tryd.func40, Tryd.ntmps40
    go_wp2_with (go_at_call 51; refine HJ.out.mono ?_; rintro e w' ⟨rfl, hb⟩)
    go_ret2
    rw [HE.out]
    exact ⟨rfl, hb⟩

end Go.Proofs.YtoehopigjmmagaaDoor
