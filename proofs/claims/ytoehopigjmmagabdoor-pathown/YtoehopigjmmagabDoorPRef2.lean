/- The document's Same and text; lists of one's own; Of of both sides. -/
import Derived.Test.YtoehopigjmmagabDoorPRef1
namespace Go.Proofs.YtoehopigjmmagabDoor
open Go.RowKit

set_option maxRecDepth 100000 in
set_option maxHeartbeats 400000 in
theorem same_true (va vb : Value) (ts : List (List UInt8)) (w : World) (ha : Strs w va ts) (hb : Strs w vb ts) (hn : ts.length ≤ 9223372036854775806) :
    Calls Tryd.prog 22 #[va, vb] w fun e w' => e = .returned (.bool true) ∧ ∃ k, w' = w.drewN k := by
  rcases Nat.eq_zero_or_pos ts.length with hz | hpos
  · have : ts = [] := List.length_eq_zero_iff.1 hz
    subst this
    obtain ⟨a1, c1, rfl⟩ := ha.shape
    obtain ⟨a2, c2, rfl⟩ := hb.shape
    clear ha hb
    go_enter Tryd.func22, Tryd.ntmps22
    go_wp2
    go_loop [5] (fun i => i = .int .i64 0) (fun _ => 0)
    case atStart => rfl
    case round =>
      subst hrel
      go_wp2
      go_ret
      exact ⟨rfl, 0, rfl⟩
  · rcases ha with ⟨_, _, _, rfl, _⟩ | ⟨g1, o1, c1, rfl, _, _, hc1⟩
    · simp at hpos
    rcases hb with ⟨_, _, _, rfl, _⟩ | ⟨g2, o2, c2, rfl, _, _, hc2⟩
    · simp at hpos
    have H1 := hid hc1
    have H2 := hid hc2
    clear hc1 hc2
    go_enter Tryd.func22, Tryd.ntmps22
    go_wp2
    go_loopw [5] (fun i wr => ∃ k q : Nat, k ≤ ts.length ∧ i = .int .i64 k ∧ wr = w.drewN q) (fun i _ => ts.length - (intOf i).toNat)
    case atStart => exact ⟨0, 0, by omega, rfl, rfl⟩
    case round =>
      obtain ⟨k, q, hk, rfl, rfl⟩ := hrel
      by_cases hkn : k < ts.length
      · have e1 := H1.out k hkn
        have e2 := H2.out k hkn
        generalize mk (ts.getD k []) = s at *
        have hki : (k : Int) < (ts.length : Int) := by omega
        have hd : decide ((k : Int) < (ts.length : Int)) = true := by simpa using hki
        go_wp2_with fail
        go_quiet (fail)
        go_wp2_with fail
        go_roundw
        case rel => exact ⟨k + 1, q + nq, by omega, by go_num, rfl⟩
        case measure => simp [intOf]; omega
      · go_wp2
        go_ret
        exact ⟨rfl, _, rfl⟩

theorem txt_snoc (ts : List (List UInt8)) (k : Nat) (hk : k < ts.length) (h0 : 0 < k) : txt (ts.take (k + 1)) = txt (ts.take k) ++ [47] ++ ts.getD k [] := by
  rw [List.take_succ_eq_append_getElem hk]
  have e : ts.getD k [] = ts[k] := by simp [List.getD_eq_getElem?_getD, hk]
  rw [e]
  cases ts with
  | nil => simp at hk
  | cons x r =>
    obtain ⟨j, rfl⟩ : ∃ j, k = j + 1 := ⟨k - 1, by omega⟩
    simp only [List.take_succ_cons, List.cons_append, txt, List.map_append, List.flatten_append, List.map_cons, List.map_nil, List.flatten_cons, List.flatten_nil, List.append_nil, List.getElem_cons_succ, List.append_assoc, List.nil_append]
theorem txt_first (ts : List (List UInt8)) (hk : 0 < ts.length) : txt (ts.take 1) = ts.getD 0 [] := by
  cases ts with
  | nil => simp at hk
  | cons x r => simp [txt]
theorem txt_take_le (ts : List (List UInt8)) (k : Nat) : (txt (ts.take k)).length ≤ (txt ts).length := by
  cases ts with
  | nil => simp
  | cons x r =>
    cases k with
    | zero => simp [txt]
    | succ k =>
      simp only [List.take_succ_cons, txt, List.length_append]
      have : ((r.take k).map ((47 : UInt8) :: ·)).flatten.length ≤ (r.map ((47 : UInt8) :: ·)).flatten.length := by
        conv => rhs; rw [← List.take_append_drop k r]
        rw [List.map_append, List.flatten_append, List.length_append]
        omega
      omega

end Go.Proofs.YtoehopigjmmagabDoor
