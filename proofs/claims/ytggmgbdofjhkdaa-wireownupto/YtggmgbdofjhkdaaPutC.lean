/- Texts and lists: sizeOfTexts, addTexts, PutText, PutList, and the document's Text, Texts, List. -/
import Derived.Test.YtggmgbdofjhkdaaPutB
namespace Go.Proofs.Ytggmgbdofjhkdaa
open Go.RowKit

theorem hid {p : Prop} (h : p) : Hid p := h

/-- v is a slice that holds the texts ss, wherever they lie -/
def Strs (w : World) (v : Value) (ss : List ByteArray) : Prop :=
  (∃ ao c, v = .slice ao 0 c ∧ ss = []) ∨ ∃ g o c, v = .slice (some ⟨g, o, none⟩) ss.length c ∧ g < w.heap.size ∧ ∀ j, j < ss.length → w.cell? ⟨g, o + j, none⟩ = some (.string (ss.getD j ByteArray.empty))
theorem Strs.below {w w' : World} {v : Value} {ss : List ByteArray} (h : Strs w v ss) (hb : Below w.heap.size w w') : Strs w' v ss := by
  rcases h with h | ⟨g, o, c, hv, hlt, hc⟩
  · exact Or.inl h
  · exact Or.inr ⟨g, o, c, hv, Nat.lt_of_lt_of_le hlt hb.size, fun j hj => by rw [hb.cell (p := ⟨g, o + j, none⟩) hlt]; exact hc j hj⟩
theorem Strs.shape {w : World} {v : Value} {ss : List ByteArray} (h : Strs w v ss) : ∃ ao c, v = .slice ao ss.length c := by
  rcases h with ⟨ao, c, hv, rfl⟩ | ⟨g, o, c, hv, _⟩
  · exact ⟨ao, c, hv⟩
  · exact ⟨_, _, hv⟩

theorem take_snoc {α : Type} (l : List α) (d : α) (k : Nat) (h : k < l.length) : l.take (k + 1) = l.take k ++ [l.getD k d] := by
  rw [List.take_succ_eq_append_getElem h]
  simp [List.getD_eq_getElem?_getD, List.getElem?_eq_getElem h]
theorem txs_snoc (ss : List ByteArray) (k : Nat) (h : k < ss.length) : txs (ss.take (k + 1)) = txs (ss.take k) ++ tx (ss.getD k ByteArray.empty) := by
  rw [take_snoc ss ByteArray.empty k h, txs_append, txs_one]
theorem txs_take_le (ss : List ByteArray) (k : Nat) : (txs (ss.take k)).length ≤ (txs ss).length := by
  have e : txs ss = txs (ss.take k) ++ txs (ss.drop k) := by rw [← txs_append, List.take_append_drop]
  rw [e]; simp
theorem txs_count (ss : List ByteArray) : ss.length ≤ (txs ss).length := by
  induction ss with
  | nil => simp
  | cons s r ih =>
    have : (txs (s :: r)).length = (tx s).length + (txs r).length := by simp [txs]
    have h1 := tx_length s
    have h2 := sn_length_pos s.size
    simp only [List.length_cons]
    omega

/-- the round's text: how long it is, and what is there behind it -/
theorem txs_step (ss : List ByteArray) (k : Nat) (h : k < ss.length) :
    (txs (ss.take (k + 1))).length = (txs (ss.take k)).length + ((sn (ss.getD k ByteArray.empty).size).length + (ss.getD k ByteArray.empty).size) := by
  rw [txs_snoc ss k h, List.length_append, tx_length]

set_option maxHeartbeats 400000 in
theorem sizeOfTexts_any (v : Value) (ss : List ByteArray) (w : World) (hs : Strs w v ss) (hB : (txs ss).length ≤ 1099511627776) :
    Calls Try.prog 71 #[v] w fun e w' => e = .returned (.int .i64 (txs ss).length) ∧ w' = w := by
  have hcnt := txs_count ss
  rcases hs with ⟨ao, c, rfl, rfl⟩ | ⟨g, o, c, rfl, hlt, hc⟩
  · go_enter Try.func71, Try.ntmps71
    go_wp2
    go_loop [3, 8] (fun s i => s = .int .i64 0 ∧ i = .int .i64 0) (fun _ _ => 0)
    case atStart => exact ⟨rfl, rfl⟩
    case round =>
      obtain ⟨rfl, rfl⟩ := hrel
      go_wp2
      go_ret
      exact ⟨rfl, rfl⟩
  · have HC : Hid (∀ j, j < ss.length → w.cell? ⟨g, o + j, none⟩ = some (.string (ss.getD j ByteArray.empty))) := hc
    clear hc
    go_enter Try.func71, Try.ntmps71
    go_wp2
    go_loop [3, 8] (fun s i => ∃ k : Nat, k ≤ ss.length ∧ s = .int .i64 (txs (ss.take k)).length ∧ i = .int .i64 k) (fun _ i => ss.length - (intOf i).toNat)
    case atStart => exact ⟨0, Nat.zero_le _, by simp [txs], rfl⟩
    case round =>
      obtain ⟨k, hk, rfl, rfl⟩ := hrel
      by_cases hkn : k < ss.length
      · have hcell := HC.out k hkn
        have HE := hid (txs_step ss k hkn)
        have hle := txs_take_le ss (k + 1)
        have h3 := txs_take_le ss k
        have hst := txs_step ss k hkn
        have h10 := sn_length_le (ss.getD k ByteArray.empty).size
        generalize ss.getD k ByteArray.empty = s at *
        have hs1 : s.size ≤ 1099511627776 := by omega
        have hT : (txs (ss.take k)).length + ((sn s.size).length + s.size) ≤ 1099511627776 := by omega
        clear hst hle
        generalize (txs (ss.take k)).length = T0 at *
        go_wp2_with (go_at_call 12; refine (size_any _ _ (by omega)).mono ?_; rintro e w' ⟨rfl, rfl⟩)
        go_round
        case rel => exact ⟨k + 1, by omega, by rw [HE.out]; go_num, by go_num⟩
        case measure => simp [intOf]; omega
      · have HE : Hid (ss.take k = ss) := List.take_of_length_le (by omega)
        go_wp2
        go_ret
        exact ⟨ret_i64 (by rw [HE.out]), rfl⟩

set_option maxRecDepth 100000 in
set_option maxHeartbeats 400000 in
theorem addTexts_any (base : Nat) (v0 : Value) (bs : List UInt8) (v : Value) (ss : List ByteArray) (w : World) (hown : OwnB w base v0 bs) (hb : base ≤ w.heap.size)
    (hs : Strs w v ss) (hold : ∀ ao c, v = .slice ao ss.length c → ss ≠ [] → ∀ a, ao = some a → a.block < base) (hl : bs.length ≤ 1099511627776) (hB : (txs ss).length ≤ 1099511627776) :
    Calls Try.prog 70 #[v0, v] w fun e w' => ∃ v', e = .returned v' ∧ OwnB w' base v' (bs ++ txs ss) ∧ Below base w w' := by
  have hcnt := txs_count ss
  have HO : Hid (OwnB w base v0 bs) := hown
  clear hown
  rcases hs with ⟨ao, c, rfl, rfl⟩ | ⟨g, o, c, rfl, hlt, hc⟩
  · clear hold
    go_enter Try.func70, Try.ntmps70
    go_wp2
    go_loop [0, 9] (fun x i => x = v0 ∧ i = .int .i64 0) (fun _ _ => 0)
    case atStart => exact ⟨rfl, rfl⟩
    case round =>
      obtain ⟨rfl, rfl⟩ := hrel
      go_wp2_with fail
      go_ret
      exact ⟨_, rfl, by simpa [txs] using HO.out, Below.refl _ _⟩
  · have HC : Hid (∀ j, j < ss.length → w.cell? ⟨g, o + j, none⟩ = some (.string (ss.getD j ByteArray.empty))) := hc
    have HOLD : Hid (0 < ss.length → g < base) := fun h => hold _ _ rfl (by intro e; rw [e] at h; simp at h) _ rfl
    clear hc hold
    go_enter Try.func70, Try.ntmps70
    go_wp2
    go_loopw [0, 9] (fun x i wr => ∃ k : Nat, k ≤ ss.length ∧ i = .int .i64 k ∧ OwnB wr base x (bs ++ txs (ss.take k)) ∧ Below base w wr ∧ base ≤ wr.heap.size) (fun _ i _ => ss.length - (intOf i).toNat)
    case atStart => exact ⟨0, Nat.zero_le _, rfl, by simpa [txs] using HO.out, Below.refl _ _, hb⟩
    case round =>
      obtain ⟨k, hk, rfl, ho, hbl, hbs⟩ := hrel
      have HOR := hid (ho)
      have HBL := hid (hbl)
      clear ho hbl
      by_cases hkn : k < ss.length
      · have hcell : wr.cell? ⟨g, o + k, none⟩ = some (.string (ss.getD k ByteArray.empty)) := (HBL.out.cell (p := ⟨g, o + k, none⟩) (HOLD.out (by omega))).trans (HC.out k hkn)
        have HE := hid (txs_snoc ss k hkn)
        have h3 := txs_take_le ss k
        have h4 := txs_take_le ss (k + 1)
        rw [txs_step ss k hkn] at h4
        generalize ss.getD k ByteArray.empty = s at *
        have hs1 : s.size ≤ 1099511627776 := by omega
        clear h4
        go_wp2_with fail
        refine (addUint_any base _ _ s.size _ HOR.out hbs (by omega) (by simp; omega)).mono ?_
        rintro e w1 ⟨v1, rfl, ho1, hb1⟩
        have HO1 := hid (ho1)
        have HB1 := hid (hb1)
        have hbs1 : base ≤ w1.heap.size := Nat.le_trans hbs hb1.size
        have h10 := sn_length_le s.size
        clear ho1 hb1 hcell
        go_wp2_with (at_builtin; refine app_str rfl _ _ rfl base _ _ rfl HO1.out s rfl ?c1 hbs1 ?_)
        case c1 => simp; omega
        intro v2 w2 ho2 hg2
        have HO2 : Hid (OwnB w2 base v2 (bs ++ txs (ss.take (k + 1)))) := (by rw [HE.out]; unfold tx; simpa using ho2 : OwnB w2 base v2 (bs ++ txs (ss.take (k + 1))))
        have HB2 : Hid (Below base w w2 ∧ base ≤ w2.heap.size) := ⟨(HBL.out.trans HB1.out).grown hg2 hbs1 (fun j e => (HO1.out.lt j e).1), Nat.le_trans hbs1 hg2.size⟩
        clear ho2 hg2 h10 h3
        go_wp2
        go_roundw
        case rel => exact ⟨k + 1, by omega, by go_num, HO2.out, HB2.out.1, HB2.out.2⟩
        case measure => simp [intOf]; omega
      · have HE : Hid (ss.take k = ss) := List.take_of_length_le (by omega)
        go_wp2_with fail
        go_ret
        exact ⟨_, rfl, HE.out ▸ HOR.out, HBL.out⟩

theorem Strs.old {w : World} {v : Value} {ss : List ByteArray} (h : Strs w v ss) : ∀ ao c, v = .slice ao ss.length c → ss ≠ [] → ∀ a, ao = some a → a.block < w.heap.size := by
  intro ao c hv hne a ha
  rcases h with ⟨_, _, _, rfl⟩ | ⟨g, o, c', hv', hlt, _⟩
  · exact absurd rfl hne
  · rw [hv'] at hv
    simp only [Value.slice.injEq] at hv
    rw [← hv.1, Option.some.injEq] at ha
    rw [← ha]
    exact hlt

set_option maxHeartbeats 400000 in
theorem putText_any (v0 : Value) (bs : List UInt8) (v : Value) (ss : List ByteArray) (w : World) (h0 : Src w v0 bs) (hs : Strs w v ss) (hl : bs.length ≤ 1099511627776) (hB : (txs ss).length ≤ 1099511627776) :
    Calls Try.prog 32 #[v0, v] w fun e w' => ∃ v', e = .returned v' ∧ OwnB w' w.heap.size v' (bs ++ txs ss) ∧ Below w.heap.size w w' := by
  have HS := hid (hs)
  have H0 := hid (h0)
  clear hs h0
  go_enter Try.func32, Try.ntmps32
  go_wp2_with fail
  refine (sizeOfTexts_any _ _ _ HS.out hB).mono ?_
  rintro e w' ⟨rfl, rfl⟩
  go_wp2_with fail
  refine (withRoom_any _ _ _ _ H0.out (by omega)).mono ?_
  rintro e w1 ⟨v1, rfl, ho, hb⟩
  have HO := hid (ho)
  have HB := hid (hb)
  clear ho hb
  go_wp2_with fail
  refine (addTexts_any _ _ _ _ _ _ HO.out HB.out.size (HS.out.below HB.out) HS.out.old hl hB).mono ?_
  rintro e w2 ⟨v2, rfl, ho, hb⟩
  go_wp2
  go_ret
  exact ⟨_, rfl, ho, HB.out.trans hb⟩

set_option maxHeartbeats 400000 in
theorem putList_any (v0 : Value) (bs : List UInt8) (v : Value) (ss : List ByteArray) (w : World) (h0 : Src w v0 bs) (hs : Strs w v ss) (hl : bs.length ≤ 549755813888) (hB : (txs ss).length ≤ 549755813888) :
    Calls Try.prog 33 #[v0, v] w fun e w' => ∃ v', e = .returned v' ∧ OwnB w' w.heap.size v' (bs ++ ls ss) ∧ Below w.heap.size w w' := by
  have HS := hid (hs)
  have H0 := hid (h0)
  have hcnt := txs_count ss
  have h10 := sn_length_le ss.length
  obtain ⟨ao, c, rfl⟩ := hs.shape
  clear hs h0
  go_enter Try.func33, Try.ntmps33
  go_wp2_with fail
  refine (size_any _ _ (by omega)).mono ?_
  rintro e w' ⟨rfl, rfl⟩
  go_wp2_with fail
  refine (sizeOfTexts_any _ _ _ HS.out (by omega)).mono ?_
  rintro e w' ⟨rfl, rfl⟩
  go_wp2_with fail
  have e1 : ((sn ss.length).length : Int) + ((txs ss).length : Int) = (((sn ss.length).length + (txs ss).length : Nat) : Int) := by omega
  rw [e1]
  refine (withRoom_any _ _ _ _ H0.out (by omega)).mono ?_
  rintro e w1 ⟨v1, rfl, ho, hb⟩
  have HO := hid (ho)
  have HB := hid (hb)
  clear ho hb e1
  go_wp2_with fail
  refine (addUint_any _ _ _ ss.length _ HO.out HB.out.size (by omega) (by omega)).mono ?_
  rintro e w2 ⟨v2, rfl, ho2, hb2⟩
  have HO2 := hid (ho2)
  have HB2 := hid (HB.out.trans hb2)
  clear ho2 hb2
  go_wp2_with fail
  refine (addTexts_any _ _ _ _ _ _ HO2.out HB2.out.size (HS.out.below HB2.out) HS.out.old (by simp; omega) (by omega)).mono ?_
  rintro e w3 ⟨v3, rfl, ho, hb⟩
  go_wp2
  go_ret
  exact ⟨_, rfl, by unfold ls; simpa using ho, HB2.out.trans hb⟩

set_option maxHeartbeats 400000 in
theorem refText_any (s : ByteArray) (w : World) (hs : s.size ≤ 1099511627776) :
    Calls Try.prog 72 #[.string s] w fun e w' => ∃ v, e = .returned v ∧ OwnB w' w.heap.size v (tx s) ∧ Below w.heap.size w w' := by
  have h10 := sn_length_le s.size
  go_enter Try.func72, Try.ntmps72
  go_wp2_with fail
  refine (refUint_any s.size _ (by omega)).mono ?_
  rintro e w1 ⟨v1, rfl, ho, hb⟩
  have HO := hid (ho)
  have HB := hid (hb)
  clear ho hb
  go_wp2_with (at_builtin; refine app_str rfl _ _ rfl w.heap.size _ _ rfl HO.out s rfl ?c1 HB.out.size ?_)
  case c1 => omega
  intro v2 w2 ho2 hg2
  go_wp2
  go_ret
  exact ⟨_, rfl, ho2, HB.out.grown hg2 HB.out.size (fun j e => (HO.out.lt j e).1)⟩

set_option maxRecDepth 100000 in
set_option maxHeartbeats 400000 in
theorem refTexts_any (v : Value) (ss : List ByteArray) (w : World) (hs : Strs w v ss) (hB : (txs ss).length ≤ 1099511627776) :
    Calls Try.prog 39 #[v] w fun e w' => ∃ v', e = .returned v' ∧ OwnB w' w.heap.size v' (txs ss) ∧ Below w.heap.size w w' := by
  have hcnt := txs_count ss
  rcases hs with ⟨ao, c, rfl, rfl⟩ | ⟨g, o, c, rfl, hlt, hc⟩
  · go_enter Try.func39, Try.ntmps39
    go_wp2
    go_loop [3, 4] (fun x i => x = .slice none 0 0 ∧ i = .int .i64 0) (fun _ _ => 0)
    case atStart => exact ⟨rfl, rfl⟩
    case round =>
      obtain ⟨rfl, rfl⟩ := hrel
      go_wp2_with fail
      go_ret
      exact ⟨_, rfl, OwnB.nil _ _, Below.refl _ _⟩
  · have HC : Hid (∀ j, j < ss.length → w.cell? ⟨g, o + j, none⟩ = some (.string (ss.getD j ByteArray.empty))) := hc
    clear hc
    go_enter Try.func39, Try.ntmps39
    go_wp2
    go_loopw [3, 4] (fun x i wr => ∃ k : Nat, k ≤ ss.length ∧ i = .int .i64 k ∧ OwnB wr w.heap.size x (txs (ss.take k)) ∧ Below w.heap.size w wr) (fun _ i _ => ss.length - (intOf i).toNat)
    case atStart => exact ⟨0, Nat.zero_le _, rfl, OwnB.nil _ _, Below.refl _ _⟩
    case round =>
      obtain ⟨k, hk, rfl, ho, hbl⟩ := hrel
      have HOR := hid (ho)
      have HBL := hid (hbl)
      have hbs := hbl.size
      clear ho hbl
      by_cases hkn : k < ss.length
      · have hcell : wr.cell? ⟨g, o + k, none⟩ = some (.string (ss.getD k ByteArray.empty)) := (HBL.out.cell (p := ⟨g, o + k, none⟩) hlt).trans (HC.out k hkn)
        have HE := hid (txs_snoc ss k hkn)
        have h3 := txs_take_le ss k
        have h4 := txs_take_le ss (k + 1)
        rw [txs_step ss k hkn] at h4
        generalize ss.getD k ByteArray.empty = s at *
        have hs1 : s.size ≤ 1099511627776 := by omega
        have ht : (tx s).length ≤ 1099511627776 := by rw [tx_length]; omega
        clear h4
        go_wp2_with fail
        refine (refText_any s _ hs1).mono ?_
        rintro e w1 ⟨v1, rfl, ho1, hb1⟩
        have HO1 := hid (ho1)
        have HB1 := hid (hb1)
        have hbs1 : w.heap.size ≤ w1.heap.size := Nat.le_trans hbs hb1.size
        clear ho1 hb1 hcell
        go_wp2_with (at_builtin; refine app_src rfl _ _ rfl w.heap.size _ _ rfl (HOR.out.below HB1.out) _ _ rfl (HO1.out.src (by omega)) ?c1 hbs1 ?_)
        case c1 => omega
        intro v2 w2 ho2 hg2
        have HO2 : Hid (OwnB w2 w.heap.size v2 (txs (ss.take (k + 1)))) := (by rw [HE.out]; exact ho2 : OwnB w2 w.heap.size v2 (txs (ss.take (k + 1))))
        have HB2 : Hid (Below w.heap.size w w2) := (HBL.out.trans (HB1.out.mono hbs)).grown hg2 hbs1 (fun j e => (HOR.out.lt j e).1)
        clear ho2 hg2 h3
        go_wp2
        go_roundw
        case rel => exact ⟨k + 1, by omega, by go_num, HO2.out, HB2.out⟩
        case measure => simp [intOf]; omega
      · have HE : Hid (ss.take k = ss) := List.take_of_length_le (by omega)
        go_wp2_with fail
        go_ret
        exact ⟨_, rfl, HE.out ▸ HOR.out, HBL.out⟩

set_option maxHeartbeats 400000 in
theorem refList_any (v : Value) (ss : List ByteArray) (w : World) (hs : Strs w v ss) (hB : (txs ss).length ≤ 549755813888) :
    Calls Try.prog 40 #[v] w fun e w' => ∃ v', e = .returned v' ∧ OwnB w' w.heap.size v' (ls ss) ∧ Below w.heap.size w w' := by
  have HS := hid (hs)
  have hcnt := txs_count ss
  have h10 := sn_length_le ss.length
  obtain ⟨ao, c, rfl⟩ := hs.shape
  clear hs
  go_enter Try.func40, Try.ntmps40
  go_wp2_with fail
  refine (refUint_any ss.length _ (by omega)).mono ?_
  rintro e w1 ⟨v1, rfl, ho1, hb1⟩
  have HO1 := hid (ho1)
  have HB1 := hid (hb1)
  clear ho1 hb1
  go_wp2_with fail
  refine (refTexts_any _ _ _ (HS.out.below HB1.out) (by omega)).mono ?_
  rintro e w2 ⟨v2, rfl, ho2, hb2⟩
  have HO2 := hid (ho2)
  have HB2 := hid (hb2)
  have hsz : w.heap.size ≤ w2.heap.size := Nat.le_trans HB1.out.size hb2.size
  clear ho2 hb2
  go_wp2_with (at_builtin; refine app_src rfl _ _ rfl w.heap.size _ _ rfl (HO1.out.below HB2.out) _ _ rfl (HO2.out.src (by omega)) ?c1 hsz ?_)
  case c1 => omega
  intro v3 w3 ho3 hg3
  go_wp2
  go_ret
  exact ⟨_, rfl, ho3, (HB1.out.trans (HB2.out.mono HB1.out.size)).grown hg3 hsz (fun j e => (HO1.out.lt j e).1)⟩

end Go.Proofs.Ytggmgbdofjhkdaa
