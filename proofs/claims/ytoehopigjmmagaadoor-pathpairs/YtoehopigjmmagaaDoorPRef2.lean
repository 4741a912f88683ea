/- The document's Same and text; lists of one's own; Of of both sides. -/
import Derived.Test.YtoehopigjmmagaaDoorPRef1
namespace Go.Proofs.YtoehopigjmmagaaDoor
open Go.RowKit

theorem num_any (x : Int) (w : World) :
    Calls Tryd.prog 19 #[.int .i64 x] w fun e w' => e = .returned (.int .i64 x) ∧ w' = w := by
  go_enter Tryd.func19, Tryd.ntmps19
  go_wp2
  go_ret
  exact ⟨rfl, rfl⟩

set_option maxRecDepth 100000 in
set_option maxHeartbeats 400000 in
theorem same_true (va vb : Value) (ts : List (List UInt8)) (w : World) (ha : Strs w va ts) (hb : Strs w vb ts) (hn : ts.length ≤ 9223372036854775806) :
    Calls Tryd.prog 14 #[va, vb] w fun e w' => e = .returned (.bool true) ∧ ∃ k, w' = w.drewN k := by
  rcases Nat.eq_zero_or_pos ts.length with hz | hpos
  · have : ts = [] := List.length_eq_zero_iff.1 hz
    subst this
    obtain ⟨a1, c1, rfl⟩ := ha.shape
    obtain ⟨a2, c2, rfl⟩ := hb.shape
    clear ha hb
    go_enter Tryd.func14, Tryd.ntmps14
    go_wp2
    go_loop [5] (fun i => i = .int .i64 0) (fun _ => 0)
    case atStart => rfl
    case round =>
      subst hrel
      go_wp2
      go_ret
      exact ⟨rfl, 0, rfl⟩
  · rcases ha with ⟨_, _, _, rfl, _⟩ | ⟨g1, o1, c1, rfl, _, _, hc1⟩
    · simp at hpos
    rcases hb with ⟨_, _, _, rfl, _⟩ | ⟨g2, o2, c2, rfl, _, _, hc2⟩
    · simp at hpos
    have H1 := hid hc1
    have H2 := hid hc2
    clear hc1 hc2
    go_enter Tryd.func14, Tryd.ntmps14
    go_wp2
    go_loopw [5] (fun i wr => ∃ k q : Nat, k ≤ ts.length ∧ i = .int .i64 k ∧ wr = w.drewN q) (fun i _ => ts.length - (intOf i).toNat)
    case atStart => exact ⟨0, 0, by omega, rfl, rfl⟩
    case round =>
      obtain ⟨k, q, hk, rfl, rfl⟩ := hrel
      by_cases hkn : k < ts.length
      · have e1 := H1.out k hkn
        have e2 := H2.out k hkn
        generalize mk (ts.getD k []) = s at *
        have hki : (k : Int) < (ts.length : Int) := by omega
        have hd : decide ((k : Int) < (ts.length : Int)) = true := by simpa using hki
        go_wp2_with fail
        go_quiet (fail)
        go_wp2_with fail
        go_roundw
        case rel => exact ⟨k + 1, q + nq, by omega, by go_num, rfl⟩
        case measure => simp [intOf]; omega
      · go_wp2
        go_ret
        exact ⟨rfl, _, rfl⟩

set_option maxHeartbeats 400000 in
/-- a list of its own -/
theorem twin_any (v : Value) (ts : List (List UInt8)) (w : World) (h : Strs w v ts) (hn : ts.length ≤ 8796093022207) :
    Calls Tryd.prog 16 #[v] w fun e w' => ∃ v', e = .returned v' ∧ OwnS w' w.heap.size v' ts ∧ Below w.heap.size w w' := by
  obtain ⟨ao, c, rfl⟩ := h.shape
  have HS := hid (h.below (below_walk w (.cells #[] 9)))
  have HO := hid (OwnS.made (hp_new w (.cells #[] 9)) (by simp) (Nat.le_refl _) 0 rfl : OwnS (w.alloc (.cells #[] 9)) w.heap.size (.slice (some ⟨w.heap.size, 0, none⟩) 0 0) [])
  have HB := hid (below_walk w (.cells #[] 9))
  clear h
  go_enter Tryd.func16, Tryd.ntmps16
  go_wp2_with (at_builtin; refine app_text rfl _ _ rfl w.heap.size _ _ rfl HO.out ts _ rfl HS.out ?c1 ?c2 ?_)
  case c1 => simp; omega
  case c2 => simp
  intro v3 w3 ho3 hg3 hp3
  obtain ⟨ao3, c3, rfl⟩ := ho3.strs.shape
  have HO3 := hid ho3
  have HB3 := hid (below_tr HB.out (own_below HO.out (by simp) hg3))
  clear ho3 hg3 hp3
  go_wp2
  go_ret
  exact ⟨_, rfl, HO3.out, HB3.out⟩

theorem txt_snoc (ts : List (List UInt8)) (k : Nat) (hk : k < ts.length) (h0 : 0 < k) : txt (ts.take (k + 1)) = txt (ts.take k) ++ [47] ++ ts.getD k [] := by
  rw [List.take_succ_eq_append_getElem hk]
  have e : ts.getD k [] = ts[k] := by simp [List.getD_eq_getElem?_getD, hk]
  rw [e]
  cases ts with
  | nil => simp at hk
  | cons x r =>
    obtain ⟨j, rfl⟩ : ∃ j, k = j + 1 := ⟨k - 1, by omega⟩
    simp only [List.take_succ_cons, List.cons_append, txt, List.map_append, List.flatten_append, List.map_cons, List.map_nil, List.flatten_cons, List.flatten_nil, List.append_nil, List.getElem_cons_succ, List.append_assoc, List.nil_append]
theorem txt_first (ts : List (List UInt8)) (hk : 0 < ts.length) : txt (ts.take 1) = ts.getD 0 [] := by
  cases ts with
  | nil => simp at hk
  | cons x r => simp [txt]
theorem txt_take_le (ts : List (List UInt8)) (k : Nat) : (txt (ts.take k)).length ≤ (txt ts).length := by
  cases ts with
  | nil => simp
  | cons x r =>
    cases k with
    | zero => simp [txt]
    | succ k =>
      simp only [List.take_succ_cons, txt, List.length_append]
      have : ((r.take k).map ((47 : UInt8) :: ·)).flatten.length ≤ (r.map ((47 : UInt8) :: ·)).flatten.length := by
        conv => rhs; rw [← List.take_append_drop k r]
        rw [List.map_append, List.flatten_append, List.length_append]
        omega
      omega

set_option maxRecDepth 100000 in
set_option maxHeartbeats 1000000 in
theorem rtext_any (v : Value) (ts : List (List UInt8)) (w : World) (h : Strs w v ts) (hn : ts.length ≤ 9223372036854775806) (hb : (txt ts).length ≤ 9223372036854775806) :
    Calls Tryd.prog 41 #[v] w fun e w' => e = .returned (.string (mk (txt ts))) ∧ w' = w := by
  obtain ⟨ao, c, rfl⟩ := h.shape
  have HS := hid h
  clear h
  go_enter Tryd.func41, Tryd.ntmps41
  go_wp2
  go_loop [3, 4] (fun s i => ∃ k : Nat, k ≤ ts.length ∧ i = .int .i64 k ∧ s = .string (mk (txt (ts.take k)))) (fun _ i => ts.length - (intOf i).toNat)
  case atStart => exact ⟨0, by omega, rfl, rfl⟩
  case round =>
    obtain ⟨k, hk, rfl, rfl⟩ := hrel
    by_cases hlt : k < ts.length
    · have q1 : (k : Int) < (ts.length : Int) := by omega
      obtain ⟨g, o, rfl, hc⟩ := HS.out.at k hlt
      have hle := txt_take_le ts (k + 1)
      by_cases h0 : 0 < k
      · have q2 : (0 : Int) < (k : Int) := by omega
        have hsn := txt_snoc ts k hlt h0
        generalize ts.getD k [] = x at *
        rw [hsn] at hle
        have a1 : ∀ W, (Op.stringOp .add (mk (txt (ts.take k))) ⟨#[47]⟩).run Tryd.prog W = .ok (.string (mk (txt (ts.take k) ++ [47]))) W := str_add _ [47] (by simp at hle ⊢; omega)
        have a2 := str_add (txt (ts.take k) ++ [47]) x (by simp at hle ⊢; omega)
        have HSN := hid hsn
        clear hsn hle h0
        generalize txt (ts.take k) = T at *
        go_wp2
        exact ⟨⟨k + 1, by omega, by simp, by rw [HSN.out]; simp⟩, by simp [intOf]; omega⟩
      · obtain rfl : k = 0 := by omega
        rw [Nat.add_zero] at hc
        have hsn := txt_first ts hlt
        generalize ts.getD 0 [] = x at *
        rw [hsn] at hle
        have a2 := str_add (txt (ts.take 0)) x (by simp [txt]; omega)
        have HSN := hid hsn
        clear hsn hle h0
        have HT := hid (show txt (ts.take 0) ++ x = x by simp [txt])
        generalize txt (ts.take 0) = T at *
        go_wp2
        exact ⟨⟨1, by omega, by simp, by rw [HT.out, HSN.out]⟩, by simp [intOf]; omega⟩
    · have q1 : ¬ (k : Int) < (ts.length : Int) := by omega
      obtain rfl : k = ts.length := by omega
      have HT := hid (show ts.take ts.length = ts from List.take_length)
      rw [HT.out]
      go_wp2
      go_ret
      exact ⟨rfl, rfl⟩

end Go.Proofs.YtoehopigjmmagaaDoor
