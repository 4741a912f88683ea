/- PathParts: two written paths one behind the other lead where both at once do. -/
import Derived.Test.YtoehopigjmmagabDoorPJoin2
namespace Go.Proofs.YtoehopigjmmagabDoor
open Go.RowKit

theorem aN_err {r : Except Int (List UInt8)} (h : aN r ≠ 0) : aS r = [] := by
  cases r with
  | ok s => exact absurd rfl h
  | error e => rfl

theorem parts_pure {B a b t : List UInt8} (h : joinP B [a] = .ok t) : joinP t [b] = joinP B [a, b] := by
  obtain ⟨m, hB, hw, hp, rfl⟩ := joinP_ok h
  have hw2 : walkP (nms B) a = .ok m := by
    simp only [walksP] at hw
    split at hw
    · rename_i k hk; cases hw; exact hk
    · cases hw
  unfold joinP
  rw [okP_txt hp, hB, if_pos rfl, if_pos rfl, nms_txt hp.1]
  simp only [walksP, hw2]
theorem joinP_num {B : List UInt8} {more : List (List UInt8)} {e : Int} (h : joinP B more = .error e) : e ≠ 0 := by
  unfold joinP at h
  split at h
  · unfold finP at h
    split at h
    · unfold endP at h
      split at h
      · cases h; decide
      · cases h
    · rename_i x hx
      have := walksP_err hx
      cases h
      omega
  · cases h; decide
theorem joinP_len {B : List UInt8} {more : List (List UInt8)} : (aS (joinP B more)).length ≤ 2080 := by
  cases h : joinP B more with
  | error e => simp [aS]
  | ok t =>
    obtain ⟨m, _, _, hp, rfl⟩ := joinP_ok h
    exact okP_short (okP_txt hp)

set_option maxRecDepth 100000 in
set_option maxHeartbeats 1000000 in
theorem lawParts_any (B a b : ByteArray) (w : World) (hB : (bl B).length ≤ 9223372036854775807) :
    Calls Tryd.prog 4 #[.string B, .string a, .string b] w fun e w' => e = .returned (.bool true) ∧ Below w.heap.size w w' := by
  have HB0 := hid (below_walk w (.cells #[.string a, .string b] 9))
  have HJ1 := hid (join_any B _ [bl a, bl b] _ hB (strs_two w a b) (by simp))
  have HJ2 := hid (fun w1 : World => join_any B _ [bl a] _ hB (strs_one w1 a) (by simp))
  have HJ3 := hid (fun w1 : World => join_any (mk (aS (joinP (bl B) [bl a]))) _ [bl b] _ (by rw [bl_mk]; exact Nat.le_trans joinP_len (by decide)) (strs_one w1 b) (by simp))
  rw [bl_mk] at HJ3
  have HP : Hid (aN (joinP (bl B) [bl a]) ≠ 0 ∨ aN (joinP (bl B) [bl a]) = 0 ∧ joinP (aS (joinP (bl B) [bl a])) [bl b] = joinP (bl B) [bl a, bl b]) := by
    cases h : joinP (bl B) [bl a] with
    | error e => exact Or.inl (joinP_num h)
    | ok t => exact Or.inr ⟨rfl, parts_pure h⟩
  generalize joinP (aS (joinP (bl B) [bl a])) [bl b] = r3 at *
  generalize joinP (bl B) [bl a, bl b] = r1 at *
  generalize joinP (bl B) [bl a] = r2 at *
  have HS0 := hid (show w.heap.size ≤ (w.alloc (.cells #[.string a, .string b] 9)).heap.size by simp)
  go_enter Tryd.func4, Tryd.ntmps4
  go_wp2_with fail
  refine HJ1.out.mono ?_
  rintro e w1 ⟨rfl, hb1⟩
  have HB1 := hid (below_tr HB0.out (below_le hb1 HS0.out))
  clear hb1 HJ1 HS0 HB0
  go_wp2_with fail
  refine (HJ2.out w1).mono ?_
  rintro e w2 ⟨rfl, hb2⟩
  have HB2 := hid (below_tr HB1.out (below_tr (below_le (below_walk w1 _) HB1.out.size) (below_le hb2 (by have := HB1.out.size; simp; omega))))
  clear hb2 HJ2 HB1
  go_wp2_with fail
  refine (HJ3.out w2).mono ?_
  rintro e w3 ⟨rfl, hb3⟩
  have HB3 := hid (below_tr HB2.out (below_tr (below_le (below_walk w2 _) HB2.out.size) (below_le hb3 (by have := HB2.out.size; simp; omega))))
  clear hb3 HJ3 HB2
  have HAW := hid (awake_any w3)
  rcases HP.out with h | ⟨h1, rfl⟩
  · have q1 : (aN r2 != 0) = true := by simp [h]
    have q2 : ¬ aN r2 = 0 := h
    clear h
    go_wp2_with (go_at_call 10; refine HAW.out.mono ?_; rintro e w4 ⟨rfl, hb4⟩)
    all_goals go_ret
    all_goals exact ⟨rfl, below_tr HB3.out (below_le hb4 HB3.out.size)⟩
  · rw [h1]
    by_cases h : aN r3 = 0
    · rw [h]
      clear h h1
      go_wp2_with (go_at_call 10; refine HAW.out.mono ?_; rintro e w4 ⟨rfl, hb4⟩)
      all_goals go_ret
      all_goals exact ⟨rfl, below_tr HB3.out (below_le hb4 HB3.out.size)⟩
    · have q1 : (aN r3 != 0) = true := by simp [h]
      have q2 : ¬ aN r3 = 0 := h
      clear h h1
      go_wp2_with (go_at_call 10; refine HAW.out.mono ?_; rintro e w4 ⟨rfl, hb4⟩)
      all_goals go_ret
      all_goals exact ⟨rfl, below_tr HB3.out (below_le hb4 HB3.out.size)⟩

end Go.Proofs.YtoehopigjmmagabDoor
