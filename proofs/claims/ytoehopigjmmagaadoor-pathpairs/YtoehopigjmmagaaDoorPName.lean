/- Name of both sides: a text is a name, or it isn't. -/
import Derived.Test.YtoehopigjmmagaaDoorPBase
namespace Go.Proofs.YtoehopigjmmagaaDoor
open Go.RowKit

theorem ret_b {a b : Bool} (h : a = true ↔ b = true) : Ending.returned (.bool a) = .returned (.bool b) := by rw [Bool.eq_iff_iff.2 h]
theorem ret_i {a b : Int} (h : a = b) : Ending.returned (.int .i64 a) = .returned (.int .i64 b) := by rw [h]

set_option maxHeartbeats 1000000 in
theorem nameByte_any (c : Int) (w : World) :
    Calls Tryd.prog 38 #[.int .u8 c] w fun e w' => e = .returned (.bool (nbI c)) ∧ w' = w := by
  go_enter Tryd.func38, Tryd.ntmps38
  go_wp2
  all_goals go_ret
  all_goals refine ⟨ret_b ?_, rfl⟩
  all_goals unfold nbI
  all_goals simp
  all_goals omega

/-- a text's byte -/
theorem bl_at (s : ByteArray) (k : Nat) (hk : k < (bl s).length) (W : World) : (Instr.index 9 (.string s) (.int .i64 (k : Int))).run Tryd.prog W = .ok (.int .u8 (((bl s).getD k 0).toNat : Nat)) W := by
  rw [bl_eq] at hk ⊢
  have hsz := Lib.size_eq s
  rw [run_index_string W 9 s .i64 _ Tryd.underlying9, dif_pos ⟨by omega, by omega⟩]
  congr 3
  simp only [Int.toNat_natCast, List.getD_eq_getElem?_getD, List.getElem?_eq_getElem hk, Option.getD_some]
  rfl

/-- Name's number -/
def nmN (l : List UInt8) : Int := if nmP l = true then 0 else 42
/-- how far the signs are right -/
def nbTo (l : List UInt8) (k : Nat) : Prop := ∀ j, j < k → nbI ((l.getD j 0).toNat : Nat) = true
theorem nbTo_all {l : List UInt8} (h : nbTo l l.length) : l.all (fun c => nbI c.toNat) = true := by
  rw [List.all_eq_true]
  intro c hc
  obtain ⟨j, hj, rfl⟩ := List.mem_iff_getElem.1 hc
  have := h j hj
  simpa [List.getD_eq_getElem?_getD, hj] using this
theorem nmN_bad1 {l : List UInt8} (h : ¬ (1 ≤ l.length ∧ l.length ≤ 64 ∧ l ≠ [46] ∧ l ≠ [46, 46])) : nmN l = 42 := by
  unfold nmN nmP
  rw [decide_eq_false h]; rfl
theorem nmN_bad2 {l : List UInt8} (k : Nat) (hk : k < l.length) (h : nbI ((l.getD k 0).toNat : Nat) = false) : nmN l = 42 := by
  unfold nmN
  rw [if_neg]
  intro e
  unfold nmP at e
  rw [Bool.and_eq_true, List.all_eq_true] at e
  have := e.2 (l[k]) (List.getElem_mem hk)
  simp [List.getD_eq_getElem?_getD, hk] at h
  rw [h] at this
  cases this
theorem nmN_ok {l : List UInt8} (h : 1 ≤ l.length ∧ l.length ≤ 64 ∧ l ≠ [46] ∧ l ≠ [46, 46]) (h2 : nbTo l l.length) : nmN l = 0 := by
  unfold nmN nmP
  rw [decide_eq_true h, nbTo_all h2]; rfl

set_option maxHeartbeats 1000000 in
theorem name_any (s : ByteArray) (w : World) :
    Calls Tryd.prog 11 #[.string s] w fun e w' => e = .returned (.int .i64 (nmN (bl s))) ∧ w' = w := by
  have HAT := hid (bl_at s)
  have hsz := bl_size s
  obtain ⟨l, hl⟩ : ∃ l, bl s = l := ⟨_, rfl⟩
  have hl' : s.toList = l := hl
  rw [hl] at hsz HAT ⊢
  by_cases hok : 1 ≤ l.length ∧ l.length ≤ 64 ∧ l ≠ [46] ∧ l ≠ [46, 46]
  · have HOK := hid hok
    obtain ⟨o1, o2, o3, o4⟩ := hok
    have p1 : ¬ (l.length : Int) < 1 := by omega
    have p2 : ¬ (64 : Int) < (l.length : Int) := by omega
    have HL := hid hl
    have b3 : (l == [46]) = false := by simp [o3]
    have b4 : (l == [46, 46]) = false := by simp [o4]
    clear hl
    go_enter Tryd.func11, Tryd.ntmps11
    go_wp2
    go_loop [22] (fun i => ∃ k : Nat, i = .int .i64 k ∧ k ≤ l.length ∧ nbTo l k) (fun i => l.length - (intOf i).toNat)
    case atStart => exact ⟨0, rfl, by omega, fun j hj => by omega⟩
    case round =>
      obtain ⟨k, rfl, hk, hto⟩ := hrel
      have HTO := hid hto
      clear hto
      by_cases hlt : k < l.length
      · have q1 : (k : Int) < (l.length : Int) := by omega
        have i1 := HAT.out k hlt
        obtain ⟨c, HC⟩ : ∃ c : UInt8, Hid (l.getD k 0 = c) := ⟨_, rfl⟩
        rw [HC.out] at i1
        go_wp2_with (go_at_call 38; refine (nameByte_any _ _).mono ?_; rintro e w' ⟨rfl, rfl⟩)
        · go_ret
          refine ⟨ret_i (nmN_bad2 k hlt ?_).symm, rfl⟩
          rw [HC.out]
          rename_i hb
          simpa using hb
        · rename_i hb
          refine ⟨⟨k + 1, by simp, by omega, fun j hj => ?_⟩, by simp [intOf]; omega⟩
          by_cases hjk : j = k
          · subst hjk; rw [HC.out]; simpa using hb
          · exact HTO.out j (by omega)
      · have q1 : ¬ (k : Int) < (l.length : Int) := by omega
        obtain rfl : k = l.length := by omega
        go_wp2
        go_ret
        exact ⟨ret_i (nmN_ok HOK.out HTO.out).symm, rfl⟩
  · have HB := hid (nmN_bad1 hok)
    have HOK := hid hok
    clear hok hl
    go_enter Tryd.func11, Tryd.ntmps11
    go_wp2
    all_goals first
      | (go_ret; exact ⟨ret_i HB.out.symm, rfl⟩)
      | (exfalso; refine HOK.out ?_; simp_all; done)
      | (exfalso; refine HOK.out ?_; simp_all; omega)

end Go.Proofs.YtoehopigjmmagaaDoor
