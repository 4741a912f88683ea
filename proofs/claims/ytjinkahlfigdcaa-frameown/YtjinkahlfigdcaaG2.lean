/- Contracts and pure facts that the proof needs, joined. -/
import Derived.Test.YtjinkahlfigdcaaG1
import Derived.Deep.MidRow
import Derived.Laws.CopyOwn
import Derived.Laws.MakeOwn
import Derived.Deep.RegionHeld3
import Derived.Deep.RegionLaw
import Derived.Deep.RegionHeldLaw
import Derived.OrdersHeld
import Derived.Deep.RegionWith

/- Texts and lists: sizeOfTexts, addTexts, PutText, PutList, and the document's Text, Texts, List. -/
namespace Go.Proofs.Ytjinkahlfigdcaa
open Go.RowKit


/-- v is a slice that holds the texts ss, wherever they lie -/
def WStrs (w : World) (v : Value) (ss : List ByteArray) : Prop :=
  (∃ ao c, v = .slice ao 0 c ∧ ss = []) ∨ ∃ g o c, v = .slice (some ⟨g, o, none⟩) ss.length c ∧ g < w.heap.size ∧ ∀ j, j < ss.length → w.cell? ⟨g, o + j, none⟩ = some (.string (ss.getD j ByteArray.empty))
theorem WStrs.below {w w' : World} {v : Value} {ss : List ByteArray} (h : WStrs w v ss) (hb : Below w.heap.size w w') : WStrs w' v ss := by
  rcases h with h | ⟨g, o, c, hv, hlt, hc⟩
  · exact Or.inl h
  · exact Or.inr ⟨g, o, c, hv, Nat.lt_of_lt_of_le hlt hb.size, fun j hj => by rw [hb.cell (p := ⟨g, o + j, none⟩) hlt]; exact hc j hj⟩
theorem WStrs.shape {w : World} {v : Value} {ss : List ByteArray} (h : WStrs w v ss) : ∃ ao c, v = .slice ao ss.length c := by
  rcases h with ⟨ao, c, hv, rfl⟩ | ⟨g, o, c, hv, _⟩
  · exact ⟨ao, c, hv⟩
  · exact ⟨_, _, hv⟩

theorem take_snoc {α : Type} (l : List α) (d : α) (k : Nat) (h : k < l.length) : l.take (k + 1) = l.take k ++ [l.getD k d] := by
  rw [List.take_succ_eq_append_getElem h]
  simp [List.getD_eq_getElem?_getD, List.getElem?_eq_getElem h]
theorem txs_snoc (ss : List ByteArray) (k : Nat) (h : k < ss.length) : txs (ss.take (k + 1)) = txs (ss.take k) ++ tx (ss.getD k ByteArray.empty) := by
  rw [take_snoc ss ByteArray.empty k h, txs_append, txs_one]
theorem txs_take_le (ss : List ByteArray) (k : Nat) : (txs (ss.take k)).length ≤ (txs ss).length := by
  have e : txs ss = txs (ss.take k) ++ txs (ss.drop k) := by rw [← txs_append, List.take_append_drop]
  rw [e]; simp
theorem txs_count (ss : List ByteArray) : ss.length ≤ (txs ss).length := by
  induction ss with
  | nil => simp
  | cons s r ih =>
    have : (txs (s :: r)).length = (tx s).length + (txs r).length := by simp [txs]
    have h1 := tx_length s
    have h2 := sn_length_pos s.size
    simp only [List.length_cons]
    omega

/-- the round's text: how long it is, and what is there behind it -/
theorem txs_step (ss : List ByteArray) (k : Nat) (h : k < ss.length) :
    (txs (ss.take (k + 1))).length = (txs (ss.take k)).length + ((sn (ss.getD k ByteArray.empty).size).length + (ss.getD k ByteArray.empty).size) := by
  rw [txs_snoc ss k h, List.length_append, tx_length]

set_option maxHeartbeats 400000 in
theorem sizeOfTexts_any (v : Value) (ss : List ByteArray) (w : World) (hs : WStrs w v ss) (hB : (txs ss).length ≤ 1099511627776) :
    Calls Try.prog 107 #[v] w fun e w' => e = .returned (.int .i64 (txs ss).length) ∧ w' = w := by
  have hcnt := txs_count ss
  rcases hs with ⟨ao, c, rfl, rfl⟩ | ⟨g, o, c, rfl, hlt, hc⟩
  · go_enter Try.func107, Try.ntmps107
    go_wp2
    go_loop [3, 8] (fun s i => s = .int .i64 0 ∧ i = .int .i64 0) (fun _ _ => 0)
    case atStart => exact ⟨rfl, rfl⟩
    case round =>
      obtain ⟨rfl, rfl⟩ := hrel
      go_wp2
      go_ret
      exact ⟨rfl, rfl⟩
  · have HC : Hid (∀ j, j < ss.length → w.cell? ⟨g, o + j, none⟩ = some (.string (ss.getD j ByteArray.empty))) := hc
    clear hc
    go_enter Try.func107, Try.ntmps107
    go_wp2
    go_loop [3, 8] (fun s i => ∃ k : Nat, k ≤ ss.length ∧ s = .int .i64 (txs (ss.take k)).length ∧ i = .int .i64 k) (fun _ i => ss.length - (intOf i).toNat)
    case atStart => exact ⟨0, Nat.zero_le _, by simp [txs], rfl⟩
    case round =>
      obtain ⟨k, hk, rfl, rfl⟩ := hrel
      by_cases hkn : k < ss.length
      · have hcell := HC.out k hkn
        have HE := hid (txs_step ss k hkn)
        have hle := txs_take_le ss (k + 1)
        have h3 := txs_take_le ss k
        have hst := txs_step ss k hkn
        have h10 := sn_length_le (ss.getD k ByteArray.empty).size
        generalize ss.getD k ByteArray.empty = s at *
        have hs1 : s.size ≤ 1099511627776 := by omega
        have hT : (txs (ss.take k)).length + ((sn s.size).length + s.size) ≤ 1099511627776 := by omega
        clear hst hle
        generalize (txs (ss.take k)).length = T0 at *
        go_wp2_with (go_at_call 29; refine (size_any _ _ (by omega)).mono ?_; rintro e w' ⟨rfl, rfl⟩)
        go_round
        case rel => exact ⟨k + 1, by omega, by rw [HE.out]; go_num, by go_num⟩
        case measure => simp [intOf]; omega
      · have HE : Hid (ss.take k = ss) := List.take_of_length_le (by omega)
        go_wp2
        go_ret
        exact ⟨ret_i64 (by rw [HE.out]), rfl⟩

set_option maxRecDepth 100000 in
set_option maxHeartbeats 400000 in
theorem addTexts_any (base : Nat) (v0 : Value) (bs : List UInt8) (v : Value) (ss : List ByteArray) (w : World) (hown : OwnB w base v0 bs) (hb : base ≤ w.heap.size)
    (hs : WStrs w v ss) (hold : ∀ ao c, v = .slice ao ss.length c → ss ≠ [] → ∀ a, ao = some a → a.block < base) (hl : bs.length ≤ 1099511627776) (hB : (txs ss).length ≤ 1099511627776) :
    Calls Try.prog 106 #[v0, v] w fun e w' => ∃ v', e = .returned v' ∧ OwnB w' base v' (bs ++ txs ss) ∧ Below base w w' := by
  have hcnt := txs_count ss
  have HO : Hid (OwnB w base v0 bs) := hown
  clear hown
  rcases hs with ⟨ao, c, rfl, rfl⟩ | ⟨g, o, c, rfl, hlt, hc⟩
  · clear hold
    go_enter Try.func106, Try.ntmps106
    go_wp2
    go_loop [0, 9] (fun x i => x = v0 ∧ i = .int .i64 0) (fun _ _ => 0)
    case atStart => exact ⟨rfl, rfl⟩
    case round =>
      obtain ⟨rfl, rfl⟩ := hrel
      go_wp2_with fail
      go_ret
      exact ⟨_, rfl, by simpa [txs] using HO.out, Below.refl _ _⟩
  · have HC : Hid (∀ j, j < ss.length → w.cell? ⟨g, o + j, none⟩ = some (.string (ss.getD j ByteArray.empty))) := hc
    have HOLD : Hid (0 < ss.length → g < base) := fun h => hold _ _ rfl (by intro e; rw [e] at h; simp at h) _ rfl
    clear hc hold
    go_enter Try.func106, Try.ntmps106
    go_wp2
    go_loopw [0, 9] (fun x i wr => ∃ k : Nat, k ≤ ss.length ∧ i = .int .i64 k ∧ OwnB wr base x (bs ++ txs (ss.take k)) ∧ Below base w wr ∧ base ≤ wr.heap.size) (fun _ i _ => ss.length - (intOf i).toNat)
    case atStart => exact ⟨0, Nat.zero_le _, rfl, by simpa [txs] using HO.out, Below.refl _ _, hb⟩
    case round =>
      obtain ⟨k, hk, rfl, ho, hbl, hbs⟩ := hrel
      have HOR := hid (ho)
      have HBL := hid (hbl)
      clear ho hbl
      by_cases hkn : k < ss.length
      · have hcell : wr.cell? ⟨g, o + k, none⟩ = some (.string (ss.getD k ByteArray.empty)) := (HBL.out.cell (p := ⟨g, o + k, none⟩) (HOLD.out (by omega))).trans (HC.out k hkn)
        have HE := hid (txs_snoc ss k hkn)
        have h3 := txs_take_le ss k
        have h4 := txs_take_le ss (k + 1)
        rw [txs_step ss k hkn] at h4
        generalize ss.getD k ByteArray.empty = s at *
        have hs1 : s.size ≤ 1099511627776 := by omega
        clear h4
        go_wp2_with fail
        refine (addUint_any base _ _ s.size _ HOR.out hbs (by omega) (by simp; omega)).mono ?_
        rintro e w1 ⟨v1, rfl, ho1, hb1⟩
        have HO1 := hid (ho1)
        have HB1 := hid (hb1)
        have hbs1 : base ≤ w1.heap.size := Nat.le_trans hbs hb1.size
        have h10 := sn_length_le s.size
        clear ho1 hb1 hcell
        go_wp2_with (at_builtin; refine app_str rfl _ _ rfl base _ _ rfl HO1.out s rfl ?c1 hbs1 ?_)
        case c1 => simp; omega
        intro v2 w2 ho2 hg2
        have HO2 : Hid (OwnB w2 base v2 (bs ++ txs (ss.take (k + 1)))) := (by rw [HE.out]; unfold tx; simpa using ho2 : OwnB w2 base v2 (bs ++ txs (ss.take (k + 1))))
        have HB2 : Hid (Below base w w2 ∧ base ≤ w2.heap.size) := ⟨(HBL.out.trans HB1.out).grown hg2 hbs1 (fun j e => (HO1.out.lt j e).1), Nat.le_trans hbs1 hg2.size⟩
        clear ho2 hg2 h10 h3
        go_wp2
        go_roundw
        case rel => exact ⟨k + 1, by omega, by go_num, HO2.out, HB2.out.1, HB2.out.2⟩
        case measure => simp [intOf]; omega
      · have HE : Hid (ss.take k = ss) := List.take_of_length_le (by omega)
        go_wp2_with fail
        go_ret
        exact ⟨_, rfl, HE.out ▸ HOR.out, HBL.out⟩

theorem WStrs.old {w : World} {v : Value} {ss : List ByteArray} (h : WStrs w v ss) : ∀ ao c, v = .slice ao ss.length c → ss ≠ [] → ∀ a, ao = some a → a.block < w.heap.size := by
  intro ao c hv hne a ha
  rcases h with ⟨_, _, _, rfl⟩ | ⟨g, o, c', hv', hlt, _⟩
  · exact absurd rfl hne
  · rw [hv'] at hv
    simp only [Value.slice.injEq] at hv
    rw [← hv.1, Option.some.injEq] at ha
    rw [← ha]
    exact hlt

set_option maxHeartbeats 400000 in
theorem putText_any (v0 : Value) (bs : List UInt8) (v : Value) (ss : List ByteArray) (w : World) (h0 : Src w v0 bs) (hs : WStrs w v ss) (hl : bs.length ≤ 1099511627776) (hB : (txs ss).length ≤ 1099511627776) :
    Calls Try.prog 101 #[v0, v] w fun e w' => ∃ v', e = .returned v' ∧ OwnB w' w.heap.size v' (bs ++ txs ss) ∧ Below w.heap.size w w' := by
  have HS := hid (hs)
  have H0 := hid (h0)
  clear hs h0
  go_enter Try.func101, Try.ntmps101
  go_wp2_with fail
  refine (sizeOfTexts_any _ _ _ HS.out hB).mono ?_
  rintro e w' ⟨rfl, rfl⟩
  go_wp2_with fail
  refine (withRoom_any _ _ _ _ H0.out (by omega)).mono ?_
  rintro e w1 ⟨v1, rfl, ho, hb⟩
  have HO := hid (ho)
  have HB := hid (hb)
  clear ho hb
  go_wp2_with fail
  refine (addTexts_any _ _ _ _ _ _ HO.out HB.out.size (HS.out.below HB.out) HS.out.old hl hB).mono ?_
  rintro e w2 ⟨v2, rfl, ho, hb⟩
  go_wp2
  go_ret
  exact ⟨_, rfl, ho, HB.out.trans hb⟩

set_option maxHeartbeats 400000 in
theorem putList_any (v0 : Value) (bs : List UInt8) (v : Value) (ss : List ByteArray) (w : World) (h0 : Src w v0 bs) (hs : WStrs w v ss) (hl : bs.length ≤ 549755813888) (hB : (txs ss).length ≤ 549755813888) :
    Calls Try.prog 100 #[v0, v] w fun e w' => ∃ v', e = .returned v' ∧ OwnB w' w.heap.size v' (bs ++ ls ss) ∧ Below w.heap.size w w' := by
  have HS := hid (hs)
  have H0 := hid (h0)
  have hcnt := txs_count ss
  have h10 := sn_length_le ss.length
  obtain ⟨ao, c, rfl⟩ := hs.shape
  clear hs h0
  go_enter Try.func100, Try.ntmps100
  go_wp2_with fail
  refine (size_any _ _ (by omega)).mono ?_
  rintro e w' ⟨rfl, rfl⟩
  go_wp2_with fail
  refine (sizeOfTexts_any _ _ _ HS.out (by omega)).mono ?_
  rintro e w' ⟨rfl, rfl⟩
  go_wp2_with fail
  have e1 : ((sn ss.length).length : Int) + ((txs ss).length : Int) = (((sn ss.length).length + (txs ss).length : Nat) : Int) := by omega
  rw [e1]
  refine (withRoom_any _ _ _ _ H0.out (by omega)).mono ?_
  rintro e w1 ⟨v1, rfl, ho, hb⟩
  have HO := hid (ho)
  have HB := hid (hb)
  clear ho hb e1
  go_wp2_with fail
  refine (addUint_any _ _ _ ss.length _ HO.out HB.out.size (by omega) (by omega)).mono ?_
  rintro e w2 ⟨v2, rfl, ho2, hb2⟩
  have HO2 := hid (ho2)
  have HB2 := hid (HB.out.trans hb2)
  clear ho2 hb2
  go_wp2_with fail
  refine (addTexts_any _ _ _ _ _ _ HO2.out HB2.out.size (HS.out.below HB2.out) HS.out.old (by simp; omega) (by omega)).mono ?_
  rintro e w3 ⟨v3, rfl, ho, hb⟩
  go_wp2
  go_ret
  exact ⟨_, rfl, by unfold ls; simpa using ho, HB2.out.trans hb⟩

set_option maxHeartbeats 400000 in
theorem refText_any (s : ByteArray) (w : World) (hs : s.size ≤ 1099511627776) :
    Calls Try.prog 47 #[.string s] w fun e w' => ∃ v, e = .returned v ∧ OwnB w' w.heap.size v (tx s) ∧ Below w.heap.size w w' := by
  have h10 := sn_length_le s.size
  go_enter Try.func47, Try.ntmps47
  go_wp2_with fail
  refine (refUint_any s.size _ (by omega)).mono ?_
  rintro e w1 ⟨v1, rfl, ho, hb⟩
  have HO := hid (ho)
  have HB := hid (hb)
  clear ho hb
  go_wp2_with (at_builtin; refine app_str rfl _ _ rfl w.heap.size _ _ rfl HO.out s rfl ?c1 HB.out.size ?_)
  case c1 => omega
  intro v2 w2 ho2 hg2
  go_wp2
  go_ret
  exact ⟨_, rfl, ho2, HB.out.grown hg2 HB.out.size (fun j e => (HO.out.lt j e).1)⟩

set_option maxRecDepth 100000 in
set_option maxHeartbeats 400000 in
theorem refTexts_any (v : Value) (ss : List ByteArray) (w : World) (hs : WStrs w v ss) (hB : (txs ss).length ≤ 1099511627776) :
    Calls Try.prog 65 #[v] w fun e w' => ∃ v', e = .returned v' ∧ OwnB w' w.heap.size v' (txs ss) ∧ Below w.heap.size w w' := by
  have hcnt := txs_count ss
  rcases hs with ⟨ao, c, rfl, rfl⟩ | ⟨g, o, c, rfl, hlt, hc⟩
  · go_enter Try.func65, Try.ntmps65
    go_wp2
    go_loop [3, 4] (fun x i => x = .slice none 0 0 ∧ i = .int .i64 0) (fun _ _ => 0)
    case atStart => exact ⟨rfl, rfl⟩
    case round =>
      obtain ⟨rfl, rfl⟩ := hrel
      go_wp2_with fail
      go_ret
      exact ⟨_, rfl, OwnB.nil _ _, Below.refl _ _⟩
  · have HC : Hid (∀ j, j < ss.length → w.cell? ⟨g, o + j, none⟩ = some (.string (ss.getD j ByteArray.empty))) := hc
    clear hc
    go_enter Try.func65, Try.ntmps65
    go_wp2
    go_loopw [3, 4] (fun x i wr => ∃ k : Nat, k ≤ ss.length ∧ i = .int .i64 k ∧ OwnB wr w.heap.size x (txs (ss.take k)) ∧ Below w.heap.size w wr) (fun _ i _ => ss.length - (intOf i).toNat)
    case atStart => exact ⟨0, Nat.zero_le _, rfl, OwnB.nil _ _, Below.refl _ _⟩
    case round =>
      obtain ⟨k, hk, rfl, ho, hbl⟩ := hrel
      have HOR := hid (ho)
      have HBL := hid (hbl)
      have hbs := hbl.size
      clear ho hbl
      by_cases hkn : k < ss.length
      · have hcell : wr.cell? ⟨g, o + k, none⟩ = some (.string (ss.getD k ByteArray.empty)) := (HBL.out.cell (p := ⟨g, o + k, none⟩) hlt).trans (HC.out k hkn)
        have HE := hid (txs_snoc ss k hkn)
        have h3 := txs_take_le ss k
        have h4 := txs_take_le ss (k + 1)
        rw [txs_step ss k hkn] at h4
        generalize ss.getD k ByteArray.empty = s at *
        have hs1 : s.size ≤ 1099511627776 := by omega
        have ht : (tx s).length ≤ 1099511627776 := by rw [tx_length]; omega
        clear h4
        go_wp2_with fail
        refine (refText_any s _ hs1).mono ?_
        rintro e w1 ⟨v1, rfl, ho1, hb1⟩
        have HO1 := hid (ho1)
        have HB1 := hid (hb1)
        have hbs1 : w.heap.size ≤ w1.heap.size := Nat.le_trans hbs hb1.size
        clear ho1 hb1 hcell
        go_wp2_with (at_builtin; refine app_src rfl _ _ rfl w.heap.size _ _ rfl (HOR.out.below HB1.out) _ _ rfl (HO1.out.src (by omega)) ?c1 hbs1 ?_)
        case c1 => omega
        intro v2 w2 ho2 hg2
        have HO2 : Hid (OwnB w2 w.heap.size v2 (txs (ss.take (k + 1)))) := (by rw [HE.out]; exact ho2 : OwnB w2 w.heap.size v2 (txs (ss.take (k + 1))))
        have HB2 : Hid (Below w.heap.size w w2) := (HBL.out.trans (HB1.out.mono hbs)).grown hg2 hbs1 (fun j e => (HOR.out.lt j e).1)
        clear ho2 hg2 h3
        go_wp2
        go_roundw
        case rel => exact ⟨k + 1, by omega, by go_num, HO2.out, HB2.out⟩
        case measure => simp [intOf]; omega
      · have HE : Hid (ss.take k = ss) := List.take_of_length_le (by omega)
        go_wp2_with fail
        go_ret
        exact ⟨_, rfl, HE.out ▸ HOR.out, HBL.out⟩

set_option maxHeartbeats 400000 in
theorem refList_any (v : Value) (ss : List ByteArray) (w : World) (hs : WStrs w v ss) (hB : (txs ss).length ≤ 549755813888) :
    Calls Try.prog 46 #[v] w fun e w' => ∃ v', e = .returned v' ∧ OwnB w' w.heap.size v' (ls ss) ∧ Below w.heap.size w w' := by
  have HS := hid (hs)
  have hcnt := txs_count ss
  have h10 := sn_length_le ss.length
  obtain ⟨ao, c, rfl⟩ := hs.shape
  clear hs
  go_enter Try.func46, Try.ntmps46
  go_wp2_with fail
  refine (refUint_any ss.length _ (by omega)).mono ?_
  rintro e w1 ⟨v1, rfl, ho1, hb1⟩
  have HO1 := hid (ho1)
  have HB1 := hid (hb1)
  clear ho1 hb1
  go_wp2_with fail
  refine (refTexts_any _ _ _ (HS.out.below HB1.out) (by omega)).mono ?_
  rintro e w2 ⟨v2, rfl, ho2, hb2⟩
  have HO2 := hid (ho2)
  have HB2 := hid (hb2)
  have hsz : w.heap.size ≤ w2.heap.size := Nat.le_trans HB1.out.size hb2.size
  clear ho2 hb2
  go_wp2_with (at_builtin; refine app_src rfl _ _ rfl w.heap.size _ _ rfl (HO1.out.below HB2.out) _ _ rfl (HO2.out.src (by omega)) ?c1 hsz ?_)
  case c1 => omega
  intro v3 w3 ho3 hg3
  go_wp2
  go_ret
  exact ⟨_, rfl, ho3, (HB1.out.trans (HB2.out.mono HB1.out.size)).grown hg3 hsz (fun j e => (HO1.out.lt j e).1)⟩

end Go.Proofs.Ytjinkahlfigdcaa

/- The fields of a kind as bytes. -/
namespace Go.Proofs.Ytjinkahlfigdcaa
open Go.RowKit Go.BigFrame

theorem wstrs_of {w : World} {v : Value} {ts : List (List UInt8)} (h : Strs w v ts) : WStrs w v (ts.map mk) := by
  rcases h with ⟨ao, c, hv, rfl, _⟩ | ⟨g, o, c, hv, hlt, _, hc⟩
  · exact Or.inl ⟨ao, c, hv, rfl⟩
  · refine Or.inr ⟨g, o, c, by rw [List.length_map]; exact hv, hlt, fun j hj => ?_⟩
    rw [List.length_map] at hj
    rw [hc j hj]
    simp [List.getD_eq_getElem?_getD, List.getElem?_eq_getElem hj]
theorem wstrs_one (w : World) (s : ByteArray) : WStrs (w.alloc (.cells #[.string s] 9)) (.slice (some ⟨w.heap.size, 0, none⟩) 1 1) [s] := by
  refine Or.inr ⟨w.heap.size, 0, 1, rfl, by simp, fun j hj => ?_⟩
  obtain rfl : j = 0 := by simpa using hj
  simp
theorem nums_three (w : World) (a b c : Nat) : Nums (w.alloc (.cells #[.int .i64 (a : Nat), .int .i64 (b : Nat), .int .i64 (c : Nat)] 3)) (.slice (some ⟨w.heap.size, 0, none⟩) 3 3) [a, b, c] := by
  refine ⟨w.heap.size, 0, 3, rfl, by simp, fun j hj => ?_⟩
  match j, hj with
  | 0, _ => simp
  | 1, _ => simp
  | 2, _ => simp
theorem tx_len2 (s : ByteArray) : (tx s).length ≤ 10 + s.size := by
  have := sn_length_le s.size
  unfold tx
  rw [List.length_append]
  have h2 : s.data.toList.length = s.size := by simp
  omega

set_option maxRecDepth 100000 in
set_option maxHeartbeats 1000000 in
theorem layCancel_any (vb : Value) (bs : List UInt8) (f : Fr) (va : Value) (I : Nat) (w : World) (hb : Src w vb bs) (hbl : bs.length ≤ 1000) (hf : f.tool.length = 32) (hi : f.id = (I : Int)) (hI : I < 18446744073709551616) :
    Calls Try.prog 87 #[vb, .agg (fcells f va).toArray] w fun e w' => ∃ v, e = .returned v ∧ Src w' v (bs ++ sn I) ∧ Below w.heap.size w w' := by
  obtain ⟨ab, cb, rfl⟩ := src_shape hb
  have HNB := hid (hp_new w (.cells (fcells f va).toArray 29))
  have HBL := hid (below_walk w (.cells (fcells f va).toArray 29))
  have HS := hid (hb.below HBL.out)
  have HF := hid hf
  have HI := hid hi
  clear hb hf hi
  go_enter Try.func87, Try.ntmps87
  go_upto_region 1 with fail
  generalize w.alloc (.cells (fcells f va).toArray 29) = w1 at HNB HBL HS ⊢
  have x1 := (Fb.of HNB.out HF.out).i
  rw [HI.out] at x1
  generalize fcells f va = FF at *
  clear HNB HF HI
  go_wp2_with fail
  refine (putUint_any _ bs I w1 HS.out hI (by omega)).mono ?_
  rintro e w2 ⟨v2, rfl, ho2, hb2⟩
  have hs2 := ho2.src (by rw [List.length_append]; have := sn_length_le I; omega)
  have HS2 := hid hs2
  have HB2 := hid (below_then HBL.out hb2)
  have hle : (bs ++ sn I).length = bs.length + (sn I).length := List.length_append
  obtain ⟨a2, c2, e2⟩ := src_shape hs2
  rw [hle] at e2
  subst e2
  clear ho2 hb2 hs2 x1 hle
  go_wp2
  go_ret
  exact ⟨_, rfl, HS2.out, HB2.out⟩

set_option maxRecDepth 100000 in
set_option maxHeartbeats 1000000 in
theorem layNote_any (vb : Value) (bs : List UInt8) (f : Fr) (va : Value) (w : World) (hb : Src w vb bs) (hbl : bs.length ≤ 1000) (hf : f.tool.length = 32) (hB : f.body.length ≤ 2097152) :
    Calls Try.prog 93 #[vb, .agg (fcells f va).toArray] w fun e w' => ∃ v, e = .returned v ∧ Src w' v (bs ++ tx (mk f.body)) ∧ Below w.heap.size w w' := by
  obtain ⟨ab, cb, rfl⟩ := src_shape hb
  have HNB := hid (hp_new w (.cells (fcells f va).toArray 29))
  have HBL := hid (below_walk w (.cells (fcells f va).toArray 29))
  have HS := hid (hb.below HBL.out)
  have HF := hid hf
  have HTX := hid (tx_len2 (mk f.body))
  rw [mk_size] at HTX
  clear hb hf
  go_enter Try.func93, Try.ntmps93
  go_upto_region 1 with fail
  generalize w.alloc (.cells (fcells f va).toArray 29) = w1 at HNB HBL HS ⊢
  have x1 := (Fb.of HNB.out HF.out).bd
  generalize fcells f va = FF at *
  clear HNB HF
  obtain ⟨s, HSS⟩ : ∃ s, Hid (mk f.body = s) := ⟨_, rfl⟩
  rw [HSS.out] at x1 HTX
  go_wp2_with fail
  refine (putText_any _ bs _ [s] (w1.alloc (.cells #[.string s] 9)) (HS.out.below (below_walk w1 _)) (wstrs_one w1 s) (by omega) (by rw [txs_one]; have := HTX.out; omega)).mono ?_
  rw [txs_one]
  rintro e w2 ⟨v2, rfl, ho2, hb2⟩
  have hs2 := ho2.src (by rw [List.length_append]; have := HTX.out; omega)
  have HS2 := hid hs2
  have HB2 := hid (below_then (below_then HBL.out (below_walk w1 _)) hb2)
  have hle : (bs ++ tx s).length = bs.length + (tx s).length := List.length_append
  obtain ⟨a2, c2, e2⟩ := src_shape hs2
  rw [hle] at e2
  subst e2
  clear ho2 hb2 hs2 x1 hle
  go_wp2
  go_ret
  exact ⟨_, rfl, by rw [HSS.out]; exact HS2.out, HB2.out⟩

end Go.Proofs.Ytjinkahlfigdcaa

/- A request's fields as bytes. -/
namespace Go.Proofs.Ytjinkahlfigdcaa
open Go.RowKit Go.BigFrame

def layReqP (I a b c : Nat) (A : List (List UInt8)) (B : List UInt8) : List UInt8 := sn I ++ (sns [a, b, c] ++ (ls (A.map mk) ++ tx (mk B)))
theorem put_three (w : World) (v0 : Value) (bs : List UInt8) (a b c : Nat) (hs : Src w v0 bs) (hbl : bs.length ≤ 1000000) (ha : a ≤ 9223372036854775807) (hb : b ≤ 9223372036854775807) (hc : c ≤ 9223372036854775807) :
    Calls Try.prog 23 #[v0, .slice (some ⟨w.heap.size, 0, none⟩) 3 3] (w.alloc (.cells #[.int .i64 (a : Nat), .int .i64 (b : Nat), .int .i64 (c : Nat)] 3)) fun e w' => ∃ v, e = .returned v ∧ Src w' v (bs ++ sns [a, b, c]) ∧ Below w.heap.size w w' := by
  refine (putCounts_any v0 _ bs [a, b, c] _ (hs.below (below_walk w _)) (nums_three w a b c) (by simp; omega) (by simp) (by omega)).mono ?_
  rintro e w' ⟨v, rfl, hs, hb⟩
  exact ⟨v, rfl, hs, below_then (below_walk w _) hb⟩
theorem src_named {w : World} {v : Value} {bs : List UInt8} (h : Src w v bs) : ∃ ao n c, v = .slice ao n c := by
  obtain ⟨a, c, e⟩ := src_shape h
  exact ⟨a, _, c, e⟩

set_option maxRecDepth 100000 in
set_option maxHeartbeats 2000000 in
theorem layRequest_any (vb : Value) (bs : List UInt8) (f : Fr) (va : Value) (I a b c : Nat) (w : World) (hb : Src w vb bs) (hbl : bs.length ≤ 1000) (hf : f.tool.length = 32) (ha : Strs w va f.args) (hi : f.id = (I : Int)) (hI : I < 18446744073709551616)
    (h1 : f.lim.1 = (a : Int)) (h2 : f.lim.2.1 = (b : Int)) (h3 : f.lim.2.2 = (c : Int)) (k1 : a ≤ 9223372036854775807) (k2 : b ≤ 9223372036854775807) (k3 : c ≤ 9223372036854775807) (hA : (txs (f.args.map mk)).length ≤ 100000) (hB : f.body.length ≤ 2097152) :
    Calls Try.prog 79 #[vb, .agg (fcells f va).toArray] w fun e w' => ∃ v, e = .returned v ∧ Src w' v (bs ++ layReqP I a b c f.args f.body) ∧ Below w.heap.size w w' := by
  obtain ⟨ab, nb, cb, rfl⟩ := src_named hb
  have HNB := hid (hp_new w (.cells (fcells f va).toArray 29))
  have HBL := hid (below_walk w (.cells (fcells f va).toArray 29))
  have HS := hid (hb.below HBL.out)
  have HA := hid (ha.below HBL.out)
  have HF := hid hf
  have HTX := hid (tx_len2 (mk f.body))
  rw [mk_size] at HTX
  obtain ⟨av, cv, rfl⟩ := ha.shape
  have HI := hid hi
  have H1 := hid h1
  have H2 := hid h2
  have H3 := hid h3
  clear hb hf ha hi h1 h2 h3
  go_enter Try.func79, Try.ntmps79
  go_upto_region 1 with fail
  generalize w.alloc (.cells (fcells f (.slice av f.args.length cv)).toArray 29) = w1 at HNB HBL HS HA ⊢
  have HL := hid (hp_lt HNB.out)
  have HFB := hid (Fb.of HNB.out HF.out)
  have x1 := HFB.out.i
  rw [HI.out] at x1
  generalize fcells f (.slice av f.args.length cv) = FF at *
  clear HNB HF
  go_wp2_with fail
  refine (putUint_any _ bs I w1 HS.out hI (by omega)).mono ?_
  rintro e w2 ⟨v2, rfl, ho2, hb2⟩
  have h10 := sn_length_le I
  have hs2 := ho2.src (by rw [List.length_append]; omega)
  have HS2 := hid hs2
  have HB2 := hid (below_then HBL.out hb2)
  have HFB2 := hid (HFB.out.below HL.out hb2)
  have HL2 := hid (Nat.lt_of_lt_of_le HL.out hb2.size)
  have HA2 := hid (HA.out.below hb2)
  obtain ⟨a2, n2, c2, e2⟩ := src_named hs2
  subst e2
  have y1 := HFB2.out.l1
  have y2 := HFB2.out.l2
  have y3 := HFB2.out.l3
  rw [H1.out] at y1
  rw [H2.out] at y2
  rw [H3.out] at y3
  clear ho2 hb2 hs2 x1 HFB HBL HL HS HA
  go_wp2_with fail
  refine (put_three w2 _ (bs ++ sn I) a b c HS2.out (by rw [List.length_append]; omega) k1 k2 k3).mono ?_
  rintro e w3 ⟨v3, rfl, hs3, hb3⟩
  have HS3 := hid hs3
  have HB3 := hid (below_then HB2.out hb3)
  have HFB3 := hid (HFB2.out.below HL2.out hb3)
  have HL3 := hid (Nat.lt_of_lt_of_le HL2.out hb3.size)
  have HA3 := hid (HA2.out.below hb3)
  have h30 := sns_length [a, b, c]
  simp only [List.length_cons, List.length_nil] at h30
  obtain ⟨a3, n3, c3, e3⟩ := src_named hs3
  subst e3
  have y7 := HFB3.out.a
  clear hb3 hs3 y1 y2 y3 HFB2 HB2 HL2 HS2 HA2
  go_wp2_with fail
  refine (putList_any _ (bs ++ sn I ++ sns [a, b, c]) _ (f.args.map mk) w3 HS3.out (wstrs_of HA3.out) (by rw [List.length_append, List.length_append]; omega) (by omega)).mono ?_
  rintro e w4 ⟨v4, rfl, ho4, hb4⟩
  have hll : (ls (f.args.map mk)).length ≤ 100010 := by
    have := sn_length_le (f.args.map mk).length
    unfold ls
    rw [List.length_append]
    omega
  have hs4 := ho4.src (by rw [List.length_append, List.length_append, List.length_append]; omega)
  have HS4 := hid hs4
  have HB4 := hid (below_then HB3.out hb4)
  have HFB4 := hid (HFB3.out.below HL3.out hb4)
  obtain ⟨a4, n4, c4, e4⟩ := src_named hs4
  subst e4
  have y8 := HFB4.out.bd
  clear hb4 ho4 hs4 y7 HFB3 HB3 HL3 HS3 HA3
  go_wp2_with fail
  refine (putText_any _ (bs ++ sn I ++ sns [a, b, c] ++ ls (f.args.map mk)) _ [mk f.body] (w4.alloc (.cells #[.string (mk f.body)] 9)) (HS4.out.below (below_walk w4 _)) (wstrs_one w4 (mk f.body)) (by rw [List.length_append, List.length_append, List.length_append]; omega) (by rw [txs_one]; have := HTX.out; omega)).mono ?_
  rw [txs_one]
  rintro e w5 ⟨v5, rfl, ho5, hb5⟩
  have hs5 := ho5.src (by rw [List.length_append, List.length_append, List.length_append, List.length_append]; have := HTX.out; omega)
  have HS5 := hid (show Src w5 v5 (bs ++ layReqP I a b c f.args f.body) by unfold layReqP; simpa only [List.append_assoc] using hs5)
  have HB5 := hid (below_then (below_then HB4.out (below_walk w4 _)) hb5)
  obtain ⟨a5, n5, c5, e5⟩ := src_named hs5
  subst e5
  clear hb5 ho5 hs5 y8 HFB4 HB4 HS4
  go_wp2
  go_ret
  exact ⟨_, rfl, HS5.out, HB5.out⟩

end Go.Proofs.Ytjinkahlfigdcaa

/- Numbers laid down one behind the other, in memory of one's own. -/
namespace Go.Proofs.Ytjinkahlfigdcaa
open Go.RowKit Go.BigFrame

set_option maxRecDepth 100000 in
set_option maxHeartbeats 1000000 in
theorem putCounts_own (vb vl : Value) (bs : List UInt8) (ks : List Nat) (w : World) (hb : Src w vb bs) (hl : Nums w vl ks) (hk : ∀ k ∈ ks, k ≤ 9223372036854775807) (hn : ks.length ≤ 100) (hp : 0 < ks.length) (hbl : bs.length ≤ 1099511620000) :
    Calls Try.prog 23 #[vb, vl] w fun e w' => ∃ v, e = .returned v ∧ OwnB w' w.heap.size v (bs ++ sns ks) ∧ Below w.heap.size w w' := by
  obtain ⟨g, o, c, rfl, hlt, hc⟩ := hl
  obtain ⟨ab, cb, rfl⟩ := src_shape hb
  have HS := hid hb
  have HC := hid hc
  have HLT := hid hlt
  have HK := hid hk
  have HBL := hid hbl
  clear hb hc hlt hk hbl
  go_enter Try.func23, Try.ntmps23
  go_wp2
  go_loopw [0, 9] (fun v i wr => ∃ k : Nat, k ≤ ks.length ∧ i = .int .i64 k ∧ Hid (Src wr v (bs ++ sns (ks.take k))) ∧ Hid (Below w.heap.size w wr) ∧ Hid (k = 0 ∨ OwnB wr w.heap.size v (bs ++ sns (ks.take k)))) (fun _ i _ => ks.length - (intOf i).toNat)
  case atStart => exact ⟨0, by omega, rfl, hid (by simpa [sns] using HS.out), hid (Below.refl _ _), hid (Or.inl rfl)⟩
  case round =>
    obtain ⟨k, hkl, rfl, HV, HB, HO⟩ := hrel
    by_cases hlt : k < ks.length
    · have c1 : _ = _ := (HB.out.cell (p := ⟨g, o + k, none⟩) HLT.out).trans (HC.out k hlt)
      have HSN := hid (sns_snoc ks k hlt)
      have hm : ks.getD k 0 ≤ 9223372036854775807 := by
        refine HK.out _ ?_
        rw [List.getD_eq_getElem?_getD, List.getElem?_eq_getElem hlt]
        exact List.getElem_mem hlt
      have HLN := hid (show (bs ++ sns (ks.take k)).length ≤ 1099511627776 by
        have := HBL.out
        have h2 := sns_length (ks.take k)
        rw [List.length_take] at h2
        rw [List.length_append]
        omega)
      generalize ks.getD k 0 = m at c1 HSN hm
      obtain ⟨X, HXX⟩ : ∃ X, Hid (bs ++ sns (ks.take k) = X) := ⟨_, rfl⟩
      rw [HXX.out] at HV HLN
      clear HO
      obtain ⟨av, cv, ev⟩ := src_shape HV.out
      subst ev
      have hki : (k : Int) < (ks.length : Int) := by omega
      have hd : decide ((k : Int) < (ks.length : Int)) = true := by simpa using hki
      have hwr : IntKind.u64.wrap (m : Int) = (m : Int) := by rw [IntKind.wrap_u64]; omega
      have HPU := hid (putUint_any _ X m wr HV.out (by omega) HLN.out)
      have hkw : IntKind.i64.wrap ((k : Int) + 1) = (k : Int) + 1 := by rw [IntKind.wrap_i64]; omega
      go_wp2_with fail
      refine HPU.out.mono ?_
      rintro e w2 ⟨v2, rfl, ho2, hb2⟩
      have hsr := ho2.src (by rw [List.length_append]; have := sn_length_le m; have := HLN.out; omega)
      have HS2 := hid (show Src w2 v2 (bs ++ sns (ks.take (k + 1))) by rw [HSN.out, ← List.append_assoc, HXX.out]; exact hsr)
      have HB2 := hid (below_then HB.out hb2)
      have HO2 := hid (show k + 1 = 0 ∨ OwnB w2 w.heap.size v2 (bs ++ sns (ks.take (k + 1))) from Or.inr (by rw [HSN.out, ← List.append_assoc, HXX.out]; exact ho2.le HB.out.size))
      have hle : (X ++ sn m).length = X.length + (sn m).length := List.length_append
      obtain ⟨a2, c2, e2⟩ := src_shape hsr
      rw [hle] at e2
      subst e2
      clear ho2 hb2 hsr hle
      go_wp2
      exact ⟨⟨k + 1, by omega, by simp, HS2, HB2, HO2⟩, by simp [intOf]; omega⟩
    · obtain rfl : k = ks.length := by omega
      rw [List.take_length] at HV
      obtain ⟨av, cv, ev⟩ := src_shape HV.out
      subst ev
      go_wp2
      go_ret
      exact ⟨_, rfl, HO.out.elim (fun h => absurd h (by omega)) (fun h => by rwa [List.take_length] at h), HB.out⟩

end Go.Proofs.Ytjinkahlfigdcaa

/- An answer of a whole struct that lies in a variable, and a value beside it. -/
namespace Go.Proofs.Ytjinkahlfigdcaa
open Go.RowKit

theorem results_cell2 {fn : Func} {p q : Tmp} {ty : TypeId} (h : fn.results = #[.cell p ty, .tmp q]) (tmps : Array Value) (P : Program) (w : World) :
    (results fn tmps).run P w = ((asAddr (tmps.getD p undef)).run P w).andThen fun a w₁ => ((loadVar ty a).run P w₁).andThen fun v w₂ => .ok (.tuple #[v, tmps.getD q undef]) w₂ := by
  simp only [results, h]
  simp [Sem.run_bind, Result.andThen]
/-- the answer is a whole row that lies in a variable, and a number -/
theorem ret_row2 {P : Program} {fn : Func} {R : Ending → World → Prop} {a : Act} {w : World} (p q : Tmp) (ty : TypeId) (h : fn.results = #[.cell p ty, .tmp q]) (g : Nat) (hp : a.tmps.getD p undef = .pointer (some ⟨g, 0, none⟩))
    (cs : List Value) (t : TypeId) (hb : w.heap[g]? = some (.cells cs.toArray t (0, 0))) (d : TypeDesc) (hu : P.underlying ty = some d) (hd : d.isRow = true) (hi : (P.info? ty).map (·.size) = some cs.length)
    (v : Value) (hq : a.tmps.getD q undef = v) (hdf : a.defers = []) (hR : R (.returned (.tuple #[.agg cs.toArray, v])) w) : bodyPost P fn R .ret a w := by
  refine bodyPost_ret (v := .tuple #[.agg cs.toArray, v]) ?_ hdf hR
  rw [results_cell2 h, hp, hq]
  have := run_loadVar_mid (P := P) w g 0 ty cs d (fun j v hv => by rw [Nat.zero_add, cell_of_row w g j cs.toArray t (0, 0) hb]; simpa using hv) hu hd hi
  simp [asAddr, this]

end Go.Proofs.Ytjinkahlfigdcaa

/- The table of kinds, and the kind of a number. -/
namespace Go.Proofs.Ytjinkahlfigdcaa
open Go.RowKit Go.BigFrame

def fnV (f : Nat) : Value := .func (.func f) #[] #[]
def kRow (n : Int) (o m l r : Nat) : List Value := [.int .i64 n, fnV o, fnV m, fnV l, fnV r]
def zRow : List Value := [.int .i64 0, .nilFunc, .nilFunc, .nilFunc, .nilFunc]
def k1 : List Value := kRow 1 73 74 75 76
def k2 : List Value := kRow 2 77 78 79 80
def k3 : List Value := kRow 3 81 82 83 84
def k4 : List Value := kRow 4 85 86 87 88
def k5 : List Value := kRow 5 89 86 90 91
def k6 : List Value := kRow 6 92 86 93 94
def kindsC : List Value := k1 ++ (k2 ++ (k3 ++ (k4 ++ (k5 ++ k6))))

theorem zeroKinds : ∀ w, (zeroValue 107).run Try.prog w = .ok (.agg (zRow ++ (zRow ++ (zRow ++ (zRow ++ (zRow ++ zRow))))).toArray) w := fun w => by
  have h : (Try.prog.info? 107).bind (·.zero) = some (.agg (zRow ++ (zRow ++ (zRow ++ (zRow ++ (zRow ++ zRow))))).toArray) := by kernel_rfl
  cases hi : Try.prog.info? 107 with
  | none => rw [hi] at h; cases h
  | some i =>
    rw [hi] at h
    simp only [Option.bind_some] at h
    simp [zeroValue, typeInfo, hi, h]
theorem zeroKind : ∀ w, (zeroValue 61).run Try.prog w = .ok (.agg zRow.toArray) w := fun w => by
  have h : (Try.prog.info? 61).bind (·.zero) = some (.agg zRow.toArray) := by kernel_rfl
  cases hi : Try.prog.info? 61 with
  | none => rw [hi] at h; cases h
  | some i =>
    rw [hi] at h
    simp only [Option.bind_some] at h
    simp [zeroValue, typeInfo, hi, h]
theorem kindSize : (Try.prog.info? 61).map (·.size) = some 5 := by kernel_rfl
theorem kindsSize : (Try.prog.info? 107).map (·.size) = some 30 := by kernel_rfl
theorem kindsOne : ∀ v ∈ kindsC, v.oneCell' = true := by
  intro v hv
  simp only [kindsC, k1, k2, k3, k4, k5, k6, kRow, List.mem_append, List.mem_cons, List.not_mem_nil, or_false] at hv
  rcases hv with (rfl | rfl | rfl | rfl | rfl) | (rfl | rfl | rfl | rfl | rfl) | (rfl | rfl | rfl | rfl | rfl) | (rfl | rfl | rfl | rfl | rfl) | (rfl | rfl | rfl | rfl | rfl) | (rfl | rfl | rfl | rfl | rfl)
  all_goals rfl

set_option maxRecDepth 100000 in
set_option maxHeartbeats 2000000 in
theorem kinds_any (w : World) :
    Calls Try.prog 60 #[] w fun e w' => e = .returned (.agg kindsC.toArray) ∧ Below w.heap.size w w' := by
  go_enter Try.func60, Try.ntmps60
  go_wp2_with (first
    | (refine al_row (by rfl) 107 (by rfl) _ zeroKinds ?_)
    | (refine st_new (by rfl) 107 _ _ (by rfl) kindsC (by rfl) (by rfl) 107 _ kindsSize rfl kindsOne ?_))
  refine ret_row 0 107 rfl w.heap.size rfl kindsC 107 (hp_new w _) _ Try.underlying107 rfl kindsSize rfl ⟨rfl, below_walk w _⟩

end Go.Proofs.Ytjinkahlfigdcaa

/- The kind of a number. -/
namespace Go.Proofs.Ytjinkahlfigdcaa
open Go.RowKit Go.BigFrame

/-- the row of a number; zeros for one that is no kind -/
def kOf (n : Int) : List Value := if n = 1 then k1 else if n = 2 then k2 else if n = 3 then k3 else if n = 4 then k4 else if n = 5 then k5 else if n = 6 then k6 else zRow
theorem kOf_length (n : Int) : (kOf n).length = 5 := by
  unfold kOf
  repeat' split
  all_goals rfl
theorem zOne : ∀ v ∈ zRow, v.oneCell' = true := by
  intro v hv
  simp only [zRow, List.mem_cons, List.not_mem_nil, or_false] at hv
  rcases hv with rfl | rfl | rfl | rfl | rfl
  all_goals rfl
theorem kOne (n : Int) (a b c d : Nat) : ∀ v ∈ kRow n a b c d, v.oneCell' = true := by
  intro v hv
  simp only [kRow, List.mem_cons, List.not_mem_nil, or_false] at hv
  rcases hv with rfl | rfl | rfl | rfl | rfl
  all_goals rfl
theorem setFive (w : World) (g : Nat) (cs : List Value) (t : TypeId) (old : Array Value) (hg : w.heap[g]? = some (.cells old t (0, 0))) (B : Nat) (hB : B ≤ g) : Below B w (w.setRow g cs.toArray) :=
  let h := rowSet w g cs t old hg
  ⟨h.grown.os, h.grown.tape, h.grown.output, h.grown.size, fun k hk => h.grown.block k (by have := h.size; have := hp_lt hg; omega) (by simp; omega)⟩

theorem ix0 (W : World) : (Instr.index 107 (.agg kindsC.toArray) (.int .i64 0)).run Try.prog W = .ok (.agg k1.toArray) W := by
  have u1 := run_underlying Try.underlying107 W
  have z1 := Try.sizeOf61 W
  unfold Instr.index
  simp [asIntOf, Sem.run_bind, u1, part, z1]
  rfl
theorem ix1 (W : World) : (Instr.index 107 (.agg kindsC.toArray) (.int .i64 1)).run Try.prog W = .ok (.agg k2.toArray) W := by
  have u1 := run_underlying Try.underlying107 W
  have z1 := Try.sizeOf61 W
  unfold Instr.index
  simp [asIntOf, Sem.run_bind, u1, part, z1]
  rfl
theorem ix2 (W : World) : (Instr.index 107 (.agg kindsC.toArray) (.int .i64 2)).run Try.prog W = .ok (.agg k3.toArray) W := by
  have u1 := run_underlying Try.underlying107 W
  have z1 := Try.sizeOf61 W
  unfold Instr.index
  simp [asIntOf, Sem.run_bind, u1, part, z1]
  rfl
theorem ix3 (W : World) : (Instr.index 107 (.agg kindsC.toArray) (.int .i64 3)).run Try.prog W = .ok (.agg k4.toArray) W := by
  have u1 := run_underlying Try.underlying107 W
  have z1 := Try.sizeOf61 W
  unfold Instr.index
  simp [asIntOf, Sem.run_bind, u1, part, z1]
  rfl
theorem ix4 (W : World) : (Instr.index 107 (.agg kindsC.toArray) (.int .i64 4)).run Try.prog W = .ok (.agg k5.toArray) W := by
  have u1 := run_underlying Try.underlying107 W
  have z1 := Try.sizeOf61 W
  unfold Instr.index
  simp [asIntOf, Sem.run_bind, u1, part, z1]
  rfl
theorem ix5 (W : World) : (Instr.index 107 (.agg kindsC.toArray) (.int .i64 5)).run Try.prog W = .ok (.agg k6.toArray) W := by
  have u1 := run_underlying Try.underlying107 W
  have z1 := Try.sizeOf61 W
  unfold Instr.index
  simp [asIntOf, Sem.run_bind, u1, part, z1]
  rfl

set_option maxRecDepth 100000 in
set_option maxHeartbeats 4000000 in
theorem kindOf_any (n : Int) (w : World) :
    Calls Try.prog 40 #[.int .i64 n] w fun e w' => e = .returned (.tuple #[.agg (kOf n).toArray, .bool (decide (1 ≤ n ∧ n ≤ 6))]) ∧ Below w.heap.size w w' := by
  have HNB := hid (hp_new w (.cells zRow.toArray 61))
  have HBL := hid (below_walk w (.cells zRow.toArray 61))
  have HLT := hid (hp_lt HNB.out)
  go_enter Try.func40, Try.ntmps40
  go_wp2_with (refine al_row (by rfl) 61 (by rfl) _ zeroKind ?_)
  generalize w.alloc (.cells zRow.toArray 61) = w1 at HNB HBL HLT ⊢
  refine (kinds_any w1).mono ?_
  rintro e w2 ⟨rfl, hb2⟩
  have HN2 := hid ((hb2.block _ HLT.out).trans HNB.out)
  have HB2 := hid (below_then HBL.out hb2)
  clear hb2 HNB HBL HLT
  go_wp2_with fail
  go_loopw [7] (fun i wr => ∃ k : Nat, k ≤ 6 ∧ i = .int .i64 k ∧ Hid (¬ (1 ≤ n ∧ n ≤ (k : Int))) ∧ Hid (wr.heap[w.heap.size]? = some (.cells zRow.toArray 61)) ∧ Hid (Below w.heap.size w wr)) (fun i _ => 6 - (intOf i).toNat)
  case atStart => exact ⟨0, by omega, rfl, hid (by omega), HN2, HB2⟩
  case round =>
    obtain ⟨k, hk, rfl, HNO, HZ, HB⟩ := hrel
    clear HN2 HB2
    match k, hk with
    | 0, _ =>
      have HLT := hid (hp_lt HZ.out)
      have HB1 := hid (below_then HB.out (below_walk wr (.cells k1.toArray 61)))
      have HZ1 := hid ((below_walk wr (.cells k1.toArray 61)).block _ HLT.out |>.trans HZ.out)
      have HX1 := hid (hp_new wr (.cells k1.toArray 61))
      have x0 : (wr.alloc (.cells k1.toArray 61)).cell? ⟨wr.heap.size, 0, none⟩ = some (.int .i64 1) := by rw [cell_of_row (wr.alloc (.cells k1.toArray 61)) wr.heap.size 0 _ _ _ (hp_new wr (.cells k1.toArray 61))]; rfl
      have ix := ix0
      by_cases hn : n = 1
      · have HR := hid (show k1 = kOf n by subst hn; rfl)
        have HD := hid (show true = decide (1 ≤ n ∧ n ≤ 6) from (decide_eq_true (by omega)).symm)
        have q1 : ((1 : Int) == n) = true := by simpa using hn.symm
        have q2 : (1 : Int) = n := hn.symm
        clear HNO hn
        go_wp2_with (first
          | (refine al_row (by rfl) 61 (by rfl) _ zeroKind ?_)
          | (refine st_new (by rfl) 61 _ _ (by rfl) k1 (by rfl) (by rfl) 61 _ kindSize rfl (kOne _ _ _ _ _) ?_)
          | (refine ld_row (by rfl) 61 (.tmp 5) (by rfl) wr.heap.size (by rfl) k1 61 HX1.out _ Try.underlying61 rfl kindSize ?_)
          | (refine st_row (by rfl) 61 _ _ (by rfl) w.heap.size k1 (by rfl) (by rfl) 61 _ HZ1.out kindSize rfl (kOne _ _ _ _ _) ?_; intro w5 hw5))
        refine ret_row2 2 3 61 rfl w.heap.size rfl k1 61 hw5.blk _ Try.underlying61 rfl kindSize (.bool true) rfl rfl ⟨?_, Below.of_gb HB1.out hw5.grown (Nat.le_refl _)⟩
        rw [HR.out, HD.out]
      · have q1 : ((1 : Int) == n) = false := by simpa using fun h => hn h.symm
        have q2 : ¬ (1 : Int) = n := fun h => hn h.symm
        have HN2 := hid (show ¬ (1 ≤ n ∧ n ≤ ((1 : Nat) : Int)) by have := HNO.out; omega)
        clear HNO hn
        go_wp2_with (first
          | (refine al_row (by rfl) 61 (by rfl) _ zeroKind ?_)
          | (refine st_new (by rfl) 61 _ _ (by rfl) k1 (by rfl) (by rfl) 61 _ kindSize rfl (kOne _ _ _ _ _) ?_))
        exact ⟨⟨1, by omega, by rfl, HN2, HZ1, HB1⟩, by simp [intOf]⟩
    | 1, _ =>
      have HLT := hid (hp_lt HZ.out)
      have HB1 := hid (below_then HB.out (below_walk wr (.cells k2.toArray 61)))
      have HZ1 := hid ((below_walk wr (.cells k2.toArray 61)).block _ HLT.out |>.trans HZ.out)
      have HX1 := hid (hp_new wr (.cells k2.toArray 61))
      have x0 : (wr.alloc (.cells k2.toArray 61)).cell? ⟨wr.heap.size, 0, none⟩ = some (.int .i64 2) := by rw [cell_of_row (wr.alloc (.cells k2.toArray 61)) wr.heap.size 0 _ _ _ (hp_new wr (.cells k2.toArray 61))]; rfl
      have ix := ix1
      by_cases hn : n = 2
      · have HR := hid (show k2 = kOf n by subst hn; rfl)
        have HD := hid (show true = decide (1 ≤ n ∧ n ≤ 6) from (decide_eq_true (by omega)).symm)
        have q1 : ((2 : Int) == n) = true := by simpa using hn.symm
        have q2 : (2 : Int) = n := hn.symm
        clear HNO hn
        go_wp2_with (first
          | (refine al_row (by rfl) 61 (by rfl) _ zeroKind ?_)
          | (refine st_new (by rfl) 61 _ _ (by rfl) k2 (by rfl) (by rfl) 61 _ kindSize rfl (kOne _ _ _ _ _) ?_)
          | (refine ld_row (by rfl) 61 (.tmp 5) (by rfl) wr.heap.size (by rfl) k2 61 HX1.out _ Try.underlying61 rfl kindSize ?_)
          | (refine st_row (by rfl) 61 _ _ (by rfl) w.heap.size k2 (by rfl) (by rfl) 61 _ HZ1.out kindSize rfl (kOne _ _ _ _ _) ?_; intro w5 hw5))
        refine ret_row2 2 3 61 rfl w.heap.size rfl k2 61 hw5.blk _ Try.underlying61 rfl kindSize (.bool true) rfl rfl ⟨?_, Below.of_gb HB1.out hw5.grown (Nat.le_refl _)⟩
        rw [HR.out, HD.out]
      · have q1 : ((2 : Int) == n) = false := by simpa using fun h => hn h.symm
        have q2 : ¬ (2 : Int) = n := fun h => hn h.symm
        have HN2 := hid (show ¬ (1 ≤ n ∧ n ≤ ((2 : Nat) : Int)) by have := HNO.out; omega)
        clear HNO hn
        go_wp2_with (first
          | (refine al_row (by rfl) 61 (by rfl) _ zeroKind ?_)
          | (refine st_new (by rfl) 61 _ _ (by rfl) k2 (by rfl) (by rfl) 61 _ kindSize rfl (kOne _ _ _ _ _) ?_))
        exact ⟨⟨2, by omega, by rfl, HN2, HZ1, HB1⟩, by simp [intOf]⟩
    | 2, _ =>
      have HLT := hid (hp_lt HZ.out)
      have HB1 := hid (below_then HB.out (below_walk wr (.cells k3.toArray 61)))
      have HZ1 := hid ((below_walk wr (.cells k3.toArray 61)).block _ HLT.out |>.trans HZ.out)
      have HX1 := hid (hp_new wr (.cells k3.toArray 61))
      have x0 : (wr.alloc (.cells k3.toArray 61)).cell? ⟨wr.heap.size, 0, none⟩ = some (.int .i64 3) := by rw [cell_of_row (wr.alloc (.cells k3.toArray 61)) wr.heap.size 0 _ _ _ (hp_new wr (.cells k3.toArray 61))]; rfl
      have ix := ix2
      by_cases hn : n = 3
      · have HR := hid (show k3 = kOf n by subst hn; rfl)
        have HD := hid (show true = decide (1 ≤ n ∧ n ≤ 6) from (decide_eq_true (by omega)).symm)
        have q1 : ((3 : Int) == n) = true := by simpa using hn.symm
        have q2 : (3 : Int) = n := hn.symm
        clear HNO hn
        go_wp2_with (first
          | (refine al_row (by rfl) 61 (by rfl) _ zeroKind ?_)
          | (refine st_new (by rfl) 61 _ _ (by rfl) k3 (by rfl) (by rfl) 61 _ kindSize rfl (kOne _ _ _ _ _) ?_)
          | (refine ld_row (by rfl) 61 (.tmp 5) (by rfl) wr.heap.size (by rfl) k3 61 HX1.out _ Try.underlying61 rfl kindSize ?_)
          | (refine st_row (by rfl) 61 _ _ (by rfl) w.heap.size k3 (by rfl) (by rfl) 61 _ HZ1.out kindSize rfl (kOne _ _ _ _ _) ?_; intro w5 hw5))
        refine ret_row2 2 3 61 rfl w.heap.size rfl k3 61 hw5.blk _ Try.underlying61 rfl kindSize (.bool true) rfl rfl ⟨?_, Below.of_gb HB1.out hw5.grown (Nat.le_refl _)⟩
        rw [HR.out, HD.out]
      · have q1 : ((3 : Int) == n) = false := by simpa using fun h => hn h.symm
        have q2 : ¬ (3 : Int) = n := fun h => hn h.symm
        have HN2 := hid (show ¬ (1 ≤ n ∧ n ≤ ((3 : Nat) : Int)) by have := HNO.out; omega)
        clear HNO hn
        go_wp2_with (first
          | (refine al_row (by rfl) 61 (by rfl) _ zeroKind ?_)
          | (refine st_new (by rfl) 61 _ _ (by rfl) k3 (by rfl) (by rfl) 61 _ kindSize rfl (kOne _ _ _ _ _) ?_))
        exact ⟨⟨3, by omega, by rfl, HN2, HZ1, HB1⟩, by simp [intOf]⟩
    | 3, _ =>
      have HLT := hid (hp_lt HZ.out)
      have HB1 := hid (below_then HB.out (below_walk wr (.cells k4.toArray 61)))
      have HZ1 := hid ((below_walk wr (.cells k4.toArray 61)).block _ HLT.out |>.trans HZ.out)
      have HX1 := hid (hp_new wr (.cells k4.toArray 61))
      have x0 : (wr.alloc (.cells k4.toArray 61)).cell? ⟨wr.heap.size, 0, none⟩ = some (.int .i64 4) := by rw [cell_of_row (wr.alloc (.cells k4.toArray 61)) wr.heap.size 0 _ _ _ (hp_new wr (.cells k4.toArray 61))]; rfl
      have ix := ix3
      by_cases hn : n = 4
      · have HR := hid (show k4 = kOf n by subst hn; rfl)
        have HD := hid (show true = decide (1 ≤ n ∧ n ≤ 6) from (decide_eq_true (by omega)).symm)
        have q1 : ((4 : Int) == n) = true := by simpa using hn.symm
        have q2 : (4 : Int) = n := hn.symm
        clear HNO hn
        go_wp2_with (first
          | (refine al_row (by rfl) 61 (by rfl) _ zeroKind ?_)
          | (refine st_new (by rfl) 61 _ _ (by rfl) k4 (by rfl) (by rfl) 61 _ kindSize rfl (kOne _ _ _ _ _) ?_)
          | (refine ld_row (by rfl) 61 (.tmp 5) (by rfl) wr.heap.size (by rfl) k4 61 HX1.out _ Try.underlying61 rfl kindSize ?_)
          | (refine st_row (by rfl) 61 _ _ (by rfl) w.heap.size k4 (by rfl) (by rfl) 61 _ HZ1.out kindSize rfl (kOne _ _ _ _ _) ?_; intro w5 hw5))
        refine ret_row2 2 3 61 rfl w.heap.size rfl k4 61 hw5.blk _ Try.underlying61 rfl kindSize (.bool true) rfl rfl ⟨?_, Below.of_gb HB1.out hw5.grown (Nat.le_refl _)⟩
        rw [HR.out, HD.out]
      · have q1 : ((4 : Int) == n) = false := by simpa using fun h => hn h.symm
        have q2 : ¬ (4 : Int) = n := fun h => hn h.symm
        have HN2 := hid (show ¬ (1 ≤ n ∧ n ≤ ((4 : Nat) : Int)) by have := HNO.out; omega)
        clear HNO hn
        go_wp2_with (first
          | (refine al_row (by rfl) 61 (by rfl) _ zeroKind ?_)
          | (refine st_new (by rfl) 61 _ _ (by rfl) k4 (by rfl) (by rfl) 61 _ kindSize rfl (kOne _ _ _ _ _) ?_))
        exact ⟨⟨4, by omega, by rfl, HN2, HZ1, HB1⟩, by simp [intOf]⟩
    | 4, _ =>
      have HLT := hid (hp_lt HZ.out)
      have HB1 := hid (below_then HB.out (below_walk wr (.cells k5.toArray 61)))
      have HZ1 := hid ((below_walk wr (.cells k5.toArray 61)).block _ HLT.out |>.trans HZ.out)
      have HX1 := hid (hp_new wr (.cells k5.toArray 61))
      have x0 : (wr.alloc (.cells k5.toArray 61)).cell? ⟨wr.heap.size, 0, none⟩ = some (.int .i64 5) := by rw [cell_of_row (wr.alloc (.cells k5.toArray 61)) wr.heap.size 0 _ _ _ (hp_new wr (.cells k5.toArray 61))]; rfl
      have ix := ix4
      by_cases hn : n = 5
      · have HR := hid (show k5 = kOf n by subst hn; rfl)
        have HD := hid (show true = decide (1 ≤ n ∧ n ≤ 6) from (decide_eq_true (by omega)).symm)
        have q1 : ((5 : Int) == n) = true := by simpa using hn.symm
        have q2 : (5 : Int) = n := hn.symm
        clear HNO hn
        go_wp2_with (first
          | (refine al_row (by rfl) 61 (by rfl) _ zeroKind ?_)
          | (refine st_new (by rfl) 61 _ _ (by rfl) k5 (by rfl) (by rfl) 61 _ kindSize rfl (kOne _ _ _ _ _) ?_)
          | (refine ld_row (by rfl) 61 (.tmp 5) (by rfl) wr.heap.size (by rfl) k5 61 HX1.out _ Try.underlying61 rfl kindSize ?_)
          | (refine st_row (by rfl) 61 _ _ (by rfl) w.heap.size k5 (by rfl) (by rfl) 61 _ HZ1.out kindSize rfl (kOne _ _ _ _ _) ?_; intro w5 hw5))
        refine ret_row2 2 3 61 rfl w.heap.size rfl k5 61 hw5.blk _ Try.underlying61 rfl kindSize (.bool true) rfl rfl ⟨?_, Below.of_gb HB1.out hw5.grown (Nat.le_refl _)⟩
        rw [HR.out, HD.out]
      · have q1 : ((5 : Int) == n) = false := by simpa using fun h => hn h.symm
        have q2 : ¬ (5 : Int) = n := fun h => hn h.symm
        have HN2 := hid (show ¬ (1 ≤ n ∧ n ≤ ((5 : Nat) : Int)) by have := HNO.out; omega)
        clear HNO hn
        go_wp2_with (first
          | (refine al_row (by rfl) 61 (by rfl) _ zeroKind ?_)
          | (refine st_new (by rfl) 61 _ _ (by rfl) k5 (by rfl) (by rfl) 61 _ kindSize rfl (kOne _ _ _ _ _) ?_))
        exact ⟨⟨5, by omega, by rfl, HN2, HZ1, HB1⟩, by simp [intOf]⟩
    | 5, _ =>
      have HLT := hid (hp_lt HZ.out)
      have HB1 := hid (below_then HB.out (below_walk wr (.cells k6.toArray 61)))
      have HZ1 := hid ((below_walk wr (.cells k6.toArray 61)).block _ HLT.out |>.trans HZ.out)
      have HX1 := hid (hp_new wr (.cells k6.toArray 61))
      have x0 : (wr.alloc (.cells k6.toArray 61)).cell? ⟨wr.heap.size, 0, none⟩ = some (.int .i64 6) := by rw [cell_of_row (wr.alloc (.cells k6.toArray 61)) wr.heap.size 0 _ _ _ (hp_new wr (.cells k6.toArray 61))]; rfl
      have ix := ix5
      by_cases hn : n = 6
      · have HR := hid (show k6 = kOf n by subst hn; rfl)
        have HD := hid (show true = decide (1 ≤ n ∧ n ≤ 6) from (decide_eq_true (by omega)).symm)
        have q1 : ((6 : Int) == n) = true := by simpa using hn.symm
        have q2 : (6 : Int) = n := hn.symm
        clear HNO hn
        go_wp2_with (first
          | (refine al_row (by rfl) 61 (by rfl) _ zeroKind ?_)
          | (refine st_new (by rfl) 61 _ _ (by rfl) k6 (by rfl) (by rfl) 61 _ kindSize rfl (kOne _ _ _ _ _) ?_)
          | (refine ld_row (by rfl) 61 (.tmp 5) (by rfl) wr.heap.size (by rfl) k6 61 HX1.out _ Try.underlying61 rfl kindSize ?_)
          | (refine st_row (by rfl) 61 _ _ (by rfl) w.heap.size k6 (by rfl) (by rfl) 61 _ HZ1.out kindSize rfl (kOne _ _ _ _ _) ?_; intro w5 hw5))
        refine ret_row2 2 3 61 rfl w.heap.size rfl k6 61 hw5.blk _ Try.underlying61 rfl kindSize (.bool true) rfl rfl ⟨?_, Below.of_gb HB1.out hw5.grown (Nat.le_refl _)⟩
        rw [HR.out, HD.out]
      · have q1 : ((6 : Int) == n) = false := by simpa using fun h => hn h.symm
        have q2 : ¬ (6 : Int) = n := fun h => hn h.symm
        have HN2 := hid (show ¬ (1 ≤ n ∧ n ≤ ((6 : Nat) : Int)) by have := HNO.out; omega)
        clear HNO hn
        go_wp2_with (first
          | (refine al_row (by rfl) 61 (by rfl) _ zeroKind ?_)
          | (refine st_new (by rfl) 61 _ _ (by rfl) k6 (by rfl) (by rfl) 61 _ kindSize rfl (kOne _ _ _ _ _) ?_))
        exact ⟨⟨6, by omega, by rfl, HN2, HZ1, HB1⟩, by simp [intOf]⟩
    | 6, _ =>
      have HR := hid (show zRow = kOf n by
        have := HNO.out
        unfold kOf
        rw [if_neg (by omega), if_neg (by omega), if_neg (by omega), if_neg (by omega), if_neg (by omega), if_neg (by omega)])
      have HD := hid (show false = decide (1 ≤ n ∧ n ≤ 6) from (decide_eq_false (by have := HNO.out; omega)).symm)
      clear HNO
      go_wp2_with (first
        | (refine bd_row (by rfl) 61 #[] (by rfl) [] (by simp) zRow.toArray (by kernel_rfl) ?_)
        | (refine st_row (by rfl) 61 _ _ (by rfl) w.heap.size zRow (by rfl) (by rfl) 61 _ HZ.out kindSize rfl zOne ?_; intro w5 hw5))
      refine ret_row2 2 3 61 rfl w.heap.size rfl zRow 61 hw5.blk _ Try.underlying61 rfl kindSize (.bool false) rfl rfl ⟨?_, Below.of_gb HB.out hw5.grown (Nat.le_refl _)⟩
      rw [HR.out, HD.out]

end Go.Proofs.Ytjinkahlfigdcaa

/- Whether all fields of two frames are the same. -/
namespace Go.Proofs.Ytjinkahlfigdcaa
open Go.RowKit

set_option maxRecDepth 100000 in
set_option maxHeartbeats 4000000 in
theorem same_any (f g : Fr) (va vb : Value) (w : World) (hf : f.tool.length = 32) (hg : g.tool.length = 32) (ha : Strs w va f.args) (hb : Strs w vb g.args) (hn : f.args.length ≤ 9223372036854775807) :
    Calls Try.prog 20 #[.agg (fcells f va).toArray, .agg (fcells g vb).toArray] w fun e w' => e = .returned (.bool (sameP f g)) ∧ Below w.heap.size w w' := by
  have HNA := hid (hp_two w (.cells (fcells f va).toArray 29) (.cells (fcells g vb).toArray 29))
  have HBL := hid (below_walk2 w (.cells (fcells f va).toArray 29) (.cells (fcells g vb).toArray 29))
  have HSA := hid ha
  have HSB := hid hb
  have HN := hid hn
  have HF := hid hf
  have HG := hid hg
  clear ha hb hn hf hg
  go_enter Try.func20, Try.ntmps20
  go_upto_region 1 with fail
  generalize (w.alloc (.cells (fcells f va).toArray 29)).alloc (.cells (fcells g vb).toArray 29) = w2 at HNA HBL ⊢
  have HA := hid (Fb.of HNA.out.1 HF.out)
  have HB := hid (Fb.of HNA.out.2 HG.out)
  clear HNA
  have HSA2 := hid (HSA.out.below HBL.out)
  have HSB2 := hid (HSB.out.below HBL.out)
  clear HSA HSB
  have hlg := limG
  have hdg := digG
  have HEQ := hid (eqs_any va vb f.args g.args w2 HSA2.out HSB2.out HN.out)
  obtain ⟨fk, fi, fv, fs, ft, fst, fl, fa, fb⟩ := f
  obtain ⟨gk, gi, gv, gs, gt, gst, gl, ga, gb⟩ := g
  obtain ⟨fl1, fl2, fl3⟩ := fl
  obtain ⟨gl1, gl2, gl3⟩ := gl
  obtain ⟨B2, HB2⟩ : ∃ b : Nat, Hid (w.heap.size + 1 = b) := ⟨_, rfl⟩
  obtain ⟨B1, HB1⟩ : ∃ b : Nat, Hid (w.heap.size = b) := ⟨_, rfl⟩
  rw [HB2.out] at HB ⊢
  rw [HB1.out] at HA ⊢
  clear HB1 HB2
  by_cases hne : fk = gk
  · subst hne
    by_cases hne : fi = gi
    · subst hne
      by_cases hne : fv = gv
      · subst hne
        by_cases hne : fs = gs
        · subst hne
          by_cases hne : ft = gt
          · subst hne
            by_cases hne : fst = gst
            · subst hne
              by_cases hne : (fl1, fl2, fl3) = (gl1, gl2, gl3)
              · injection hne with h1 h2; injection h2 with h2 h3; subst h1; subst h2; subst h3
                by_cases hne : fa = ga
                · subst hne
                  by_cases hne : fb = gb
                  · subst hne
                    have HR : Hid (sameP ⟨fk, fi, fv, fs, ft, fst, (fl1, fl2, fl3), fa, fb⟩ ⟨fk, fi, fv, fs, ft, fst, (fl1, fl2, fl3), fa, fb⟩ = true) := hid (sameP_self _)
                    have a0 := HA.out.k
                    have b0 := HB.out.k
                    have a1 := HA.out.i
                    have b1 := HB.out.i
                    have a2 := HA.out.v
                    have b2 := HB.out.v
                    have a3 := HA.out.s
                    have b3 := HB.out.s
                    have a4 := hid HA.out.t
                    have b4 := hid HB.out.t
                    have HS1 := hid (tool_size ft HF.out)
                    have HS2 := hid (tool_size ft HG.out)
                    have a5 := HA.out.st
                    have b5 := HB.out.st
                    have a61 := HA.out.l1
                    have b61 := HB.out.l1
                    have a62 := HA.out.l2
                    have b62 := HB.out.l2
                    have a63 := HA.out.l3
                    have b63 := HB.out.l3
                    have a7 := HA.out.a
                    have b7 := HB.out.a
                    have e4 := dig_eql ft ft HF.out HF.out
                    rw [decide_eq_true rfl] at e4
                    have e6 := lim_eql fl1 fl2 fl3 fl1 fl2 fl3
                    rw [decide_eq_true rfl] at e6
                    have HE2 := hid HEQ.out
                    simp only [decide_true] at HE2
                    have HA8 := hid (fun n => (show (w2.drewN n).cell? ⟨B1, 41, none⟩ = _ from HA.out.bd))
                    have HB8 := hid (fun n => (show (w2.drewN n).cell? ⟨B2, 41, none⟩ = _ from HB.out.bd))
                    clear HA HB HEQ HF HG
                    go_wp2_with (first | (refine ld_gd (by rfl) 24 (.tmp 32) (by rfl) B1 4 (by rfl) _ _ a4.out Try.underlying24 rfl HS1.out ?_) | (refine ld_gd (by rfl) 24 (.tmp 34) (by rfl) B2 4 (by rfl) _ _ b4.out Try.underlying24 rfl HS2.out ?_))
                    refine HE2.out.mono ?_
                    rintro e w3 ⟨rfl, n, rfl⟩
                    have a8 := HA8.out n
                    have b8 := HB8.out n
                    clear HA8 HB8
                    clear HE2
                    go_wp2
                    go_ret
                    exact ⟨ret_eq HR.out.symm, HBL.out.trans ⟨rfl, rfl, rfl, Nat.le_refl _, fun _ _ => rfl⟩⟩
                  · have HR : Hid (sameP ⟨fk, fi, fv, fs, ft, fst, (fl1, fl2, fl3), fa, fb⟩ ⟨fk, fi, fv, fs, ft, fst, (fl1, fl2, fl3), fa, gb⟩ = false) := hid (decide_eq_false (fun h9 => hne (by exact h9.2.2.2.2.2.2.2.2)))
                    have a0 := HA.out.k
                    have b0 := HB.out.k
                    have a1 := HA.out.i
                    have b1 := HB.out.i
                    have a2 := HA.out.v
                    have b2 := HB.out.v
                    have a3 := HA.out.s
                    have b3 := HB.out.s
                    have a4 := hid HA.out.t
                    have b4 := hid HB.out.t
                    have HS1 := hid (tool_size ft HF.out)
                    have HS2 := hid (tool_size ft HG.out)
                    have a5 := HA.out.st
                    have b5 := HB.out.st
                    have a61 := HA.out.l1
                    have b61 := HB.out.l1
                    have a62 := HA.out.l2
                    have b62 := HB.out.l2
                    have a63 := HA.out.l3
                    have b63 := HB.out.l3
                    have a7 := HA.out.a
                    have b7 := HB.out.a
                    have e4 := dig_eql ft ft HF.out HF.out
                    rw [decide_eq_true rfl] at e4
                    have e6 := lim_eql fl1 fl2 fl3 fl1 fl2 fl3
                    rw [decide_eq_true rfl] at e6
                    have HE2 := hid HEQ.out
                    simp only [decide_true] at HE2
                    have HA8 := hid (fun n => (show (w2.drewN n).cell? ⟨B1, 41, none⟩ = _ from HA.out.bd))
                    have HB8 := hid (fun n => (show (w2.drewN n).cell? ⟨B2, 41, none⟩ = _ from HB.out.bd))
                    have t1 : ¬ (mk fb).toList = (mk gb).toList := fun h9 => hne ((bl_mk fb).symm.trans (h9.trans (bl_mk gb)))
                    have t2 : ((mk fb).toList == (mk gb).toList) = false := by simpa using t1
                    clear HA HB HEQ HF HG
                    clear hne
                    go_wp2_with (first | (refine ld_gd (by rfl) 24 (.tmp 32) (by rfl) B1 4 (by rfl) _ _ a4.out Try.underlying24 rfl HS1.out ?_) | (refine ld_gd (by rfl) 24 (.tmp 34) (by rfl) B2 4 (by rfl) _ _ b4.out Try.underlying24 rfl HS2.out ?_))
                    refine HE2.out.mono ?_
                    rintro e w3 ⟨rfl, n, rfl⟩
                    have a8 := HA8.out n
                    have b8 := HB8.out n
                    clear HA8 HB8
                    clear HE2
                    go_wp2
                    go_ret
                    exact ⟨ret_eq HR.out.symm, HBL.out.trans ⟨rfl, rfl, rfl, Nat.le_refl _, fun _ _ => rfl⟩⟩
                · have HR : Hid (sameP ⟨fk, fi, fv, fs, ft, fst, (fl1, fl2, fl3), fa, fb⟩ ⟨fk, fi, fv, fs, ft, fst, (fl1, fl2, fl3), ga, gb⟩ = false) := hid (decide_eq_false (fun h9 => hne (by exact h9.2.2.2.2.2.2.2.1)))
                  have a0 := HA.out.k
                  have b0 := HB.out.k
                  have a1 := HA.out.i
                  have b1 := HB.out.i
                  have a2 := HA.out.v
                  have b2 := HB.out.v
                  have a3 := HA.out.s
                  have b3 := HB.out.s
                  have a4 := hid HA.out.t
                  have b4 := hid HB.out.t
                  have HS1 := hid (tool_size ft HF.out)
                  have HS2 := hid (tool_size ft HG.out)
                  have a5 := HA.out.st
                  have b5 := HB.out.st
                  have a61 := HA.out.l1
                  have b61 := HB.out.l1
                  have a62 := HA.out.l2
                  have b62 := HB.out.l2
                  have a63 := HA.out.l3
                  have b63 := HB.out.l3
                  have a7 := HA.out.a
                  have b7 := HB.out.a
                  have e4 := dig_eql ft ft HF.out HF.out
                  rw [decide_eq_true rfl] at e4
                  have e6 := lim_eql fl1 fl2 fl3 fl1 fl2 fl3
                  rw [decide_eq_true rfl] at e6
                  have HE2 := hid HEQ.out
                  simp only [decide_eq_false hne] at HE2
                  clear HA HB HEQ HF HG
                  clear hne
                  go_wp2_with (first | (refine ld_gd (by rfl) 24 (.tmp 32) (by rfl) B1 4 (by rfl) _ _ a4.out Try.underlying24 rfl HS1.out ?_) | (refine ld_gd (by rfl) 24 (.tmp 34) (by rfl) B2 4 (by rfl) _ _ b4.out Try.underlying24 rfl HS2.out ?_))
                  refine HE2.out.mono ?_
                  rintro e w3 ⟨rfl, n, rfl⟩
                  clear HE2
                  go_wp2
                  go_ret
                  exact ⟨ret_eq HR.out.symm, HBL.out.trans ⟨rfl, rfl, rfl, Nat.le_refl _, fun _ _ => rfl⟩⟩
              · have HR : Hid (sameP ⟨fk, fi, fv, fs, ft, fst, (fl1, fl2, fl3), fa, fb⟩ ⟨fk, fi, fv, fs, ft, fst, (gl1, gl2, gl3), ga, gb⟩ = false) := hid (decide_eq_false (fun h9 => hne (by exact h9.2.2.2.2.2.2.1)))
                have a0 := HA.out.k
                have b0 := HB.out.k
                have a1 := HA.out.i
                have b1 := HB.out.i
                have a2 := HA.out.v
                have b2 := HB.out.v
                have a3 := HA.out.s
                have b3 := HB.out.s
                have a4 := hid HA.out.t
                have b4 := hid HB.out.t
                have HS1 := hid (tool_size ft HF.out)
                have HS2 := hid (tool_size ft HG.out)
                have a5 := HA.out.st
                have b5 := HB.out.st
                have a61 := HA.out.l1
                have b61 := HB.out.l1
                have a62 := HA.out.l2
                have b62 := HB.out.l2
                have a63 := HA.out.l3
                have b63 := HB.out.l3
                have e4 := dig_eql ft ft HF.out HF.out
                rw [decide_eq_true rfl] at e4
                have e6 := lim_eql fl1 fl2 fl3 gl1 gl2 gl3
                rw [decide_eq_false hne] at e6
                clear HA HB HEQ HF HG
                clear hne
                go_wp2_with (first | (refine ld_gd (by rfl) 24 (.tmp 32) (by rfl) B1 4 (by rfl) _ _ a4.out Try.underlying24 rfl HS1.out ?_) | (refine ld_gd (by rfl) 24 (.tmp 34) (by rfl) B2 4 (by rfl) _ _ b4.out Try.underlying24 rfl HS2.out ?_))
                go_ret
                exact ⟨ret_eq HR.out.symm, HBL.out⟩
            · have HR : Hid (sameP ⟨fk, fi, fv, fs, ft, fst, (fl1, fl2, fl3), fa, fb⟩ ⟨fk, fi, fv, fs, ft, gst, (gl1, gl2, gl3), ga, gb⟩ = false) := hid (decide_eq_false (fun h9 => hne (by exact h9.2.2.2.2.2.1)))
              have a0 := HA.out.k
              have b0 := HB.out.k
              have a1 := HA.out.i
              have b1 := HB.out.i
              have a2 := HA.out.v
              have b2 := HB.out.v
              have a3 := HA.out.s
              have b3 := HB.out.s
              have a4 := hid HA.out.t
              have b4 := hid HB.out.t
              have HS1 := hid (tool_size ft HF.out)
              have HS2 := hid (tool_size ft HG.out)
              have a5 := HA.out.st
              have b5 := HB.out.st
              have e4 := dig_eql ft ft HF.out HF.out
              rw [decide_eq_true rfl] at e4
              have q1 : (fst == gst) = false := by simpa using hne
              clear HA HB HEQ HF HG
              go_wp2_with (first | (refine ld_gd (by rfl) 24 (.tmp 32) (by rfl) B1 4 (by rfl) _ _ a4.out Try.underlying24 rfl HS1.out ?_) | (refine ld_gd (by rfl) 24 (.tmp 34) (by rfl) B2 4 (by rfl) _ _ b4.out Try.underlying24 rfl HS2.out ?_))
              go_ret
              exact ⟨ret_eq HR.out.symm, HBL.out⟩
          · have HR : Hid (sameP ⟨fk, fi, fv, fs, ft, fst, (fl1, fl2, fl3), fa, fb⟩ ⟨fk, fi, fv, fs, gt, gst, (gl1, gl2, gl3), ga, gb⟩ = false) := hid (decide_eq_false (fun h9 => hne (by exact h9.2.2.2.2.1)))
            have a0 := HA.out.k
            have b0 := HB.out.k
            have a1 := HA.out.i
            have b1 := HB.out.i
            have a2 := HA.out.v
            have b2 := HB.out.v
            have a3 := HA.out.s
            have b3 := HB.out.s
            have a4 := hid HA.out.t
            have b4 := hid HB.out.t
            have HS1 := hid (tool_size ft HF.out)
            have HS2 := hid (tool_size gt HG.out)
            have e4 := dig_eql ft gt HF.out HG.out
            rw [decide_eq_false hne] at e4
            clear HA HB HEQ HF HG
            clear hne
            go_wp2_with (first | (refine ld_gd (by rfl) 24 (.tmp 32) (by rfl) B1 4 (by rfl) _ _ a4.out Try.underlying24 rfl HS1.out ?_) | (refine ld_gd (by rfl) 24 (.tmp 34) (by rfl) B2 4 (by rfl) _ _ b4.out Try.underlying24 rfl HS2.out ?_))
            go_ret
            exact ⟨ret_eq HR.out.symm, HBL.out⟩
        · have HR : Hid (sameP ⟨fk, fi, fv, fs, ft, fst, (fl1, fl2, fl3), fa, fb⟩ ⟨fk, fi, fv, gs, gt, gst, (gl1, gl2, gl3), ga, gb⟩ = false) := hid (decide_eq_false (fun h9 => hne (by exact h9.2.2.2.1)))
          have a0 := HA.out.k
          have b0 := HB.out.k
          have a1 := HA.out.i
          have b1 := HB.out.i
          have a2 := HA.out.v
          have b2 := HB.out.v
          have a3 := HA.out.s
          have b3 := HB.out.s
          have q1 : (fs == gs) = false := by simpa using hne
          clear HA HB HEQ HF HG
          go_wp2
          go_ret
          exact ⟨ret_eq HR.out.symm, HBL.out⟩
      · have HR : Hid (sameP ⟨fk, fi, fv, fs, ft, fst, (fl1, fl2, fl3), fa, fb⟩ ⟨fk, fi, gv, gs, gt, gst, (gl1, gl2, gl3), ga, gb⟩ = false) := hid (decide_eq_false (fun h9 => hne (by exact h9.2.2.1)))
        have a0 := HA.out.k
        have b0 := HB.out.k
        have a1 := HA.out.i
        have b1 := HB.out.i
        have a2 := HA.out.v
        have b2 := HB.out.v
        have q1 : (fv == gv) = false := by simpa using hne
        clear HA HB HEQ HF HG
        go_wp2
        go_ret
        exact ⟨ret_eq HR.out.symm, HBL.out⟩
    · have HR : Hid (sameP ⟨fk, fi, fv, fs, ft, fst, (fl1, fl2, fl3), fa, fb⟩ ⟨fk, gi, gv, gs, gt, gst, (gl1, gl2, gl3), ga, gb⟩ = false) := hid (decide_eq_false (fun h9 => hne (by exact h9.2.1)))
      have a0 := HA.out.k
      have b0 := HB.out.k
      have a1 := HA.out.i
      have b1 := HB.out.i
      have q1 : (fi == gi) = false := by simpa using hne
      clear HA HB HEQ HF HG
      go_wp2
      go_ret
      exact ⟨ret_eq HR.out.symm, HBL.out⟩
  · have HR : Hid (sameP ⟨fk, fi, fv, fs, ft, fst, (fl1, fl2, fl3), fa, fb⟩ ⟨gk, gi, gv, gs, gt, gst, (gl1, gl2, gl3), ga, gb⟩ = false) := hid (decide_eq_false (fun h9 => hne (by exact h9.1)))
    have a0 := HA.out.k
    have b0 := HB.out.k
    have q1 : (fk == gk) = false := by simpa using hne
    clear HA HB HEQ HF HG
    go_wp2
    go_ret
    exact ⟨ret_eq HR.out.symm, HBL.out⟩

end Go.Proofs.Ytjinkahlfigdcaa

/- shift and byteOn. -/
namespace Go.Proofs.Ytjinkahlfigdcaa
open Go.RowKit

theorem and_one (c : Nat) (hc : c < 4294967296) : bits .and .u32 (c : Int) 1 = ((c % 2 : Nat) : Int) := by
  have := u32_and_nat c 1 hc (by omega)
  rw [Nat.and_one_is_mod] at this
  exact this
theorem half (c : Nat) : (c : Int) / 2 ^ 1 = ((c / 2 : Nat) : Int) := by omega
theorem xor_poly (c : Nat) (hc : c < 4294967296) : bits .xor .u32 (c : Int) 2197175160 = ((c ^^^ 2197175160 : Nat) : Int) := u32_xor_nat c 2197175160 hc (by omega)
theorem sh_odd {c : Nat} (h : c % 2 = 1) : sh c = (c / 2) ^^^ 2197175160 := by unfold sh; rw [if_pos h]
theorem sh_even {c : Nat} (h : c % 2 = 0) : sh c = c / 2 := by unfold sh; rw [if_neg (by omega)]

set_option maxHeartbeats 400000 in
theorem shift_any (c : Nat) (hc : c < 4294967296) (w : World) :
    Calls Try.prog 95 #[.int .u32 (c : Int)] w fun e w' => e = .returned (.int .u32 (sh c : Nat)) ∧ w' = w := by
  have ha := and_one c hc
  have hx := hid (xor_poly (c / 2) (by omega))
  rcases Nat.mod_two_eq_zero_or_one c with h | h
  · have HS := hid (sh_even h)
    rw [h] at ha
    clear h
    go_enter Try.func95, Try.ntmps95
    go_wp2
    go_ret
    exact ⟨by rw [HS.out]; rfl, rfl⟩
  · have HS := hid (sh_odd h)
    rw [h] at ha
    clear h
    go_enter Try.func95, Try.ntmps95
    go_wp2
    go_ret
    refine ⟨?_, rfl⟩
    rw [HS.out, ← hx.out]
    rfl

set_option maxHeartbeats 1000000 in
theorem byteOn_any (c b : Nat) (hc : c < 4294967296) (hb : b < 256) (w : World) :
    Calls Try.prog 66 #[.int .u32 (c : Int), .int .u8 (b : Int)] w fun e w' => e = .returned (.int .u32 (shN 8 (c ^^^ b) : Nat)) ∧ w' = w := by
  have HC := hid (u32_xor_nat c b hc (by omega))
  have HL := hid (xlt hc (show b < 4294967296 by omega))
  go_enter Try.func66, Try.ntmps66
  go_wp2
  go_loop [0, 5] (fun vc vi => ∃ k : Nat, k ≤ 8 ∧ vc = .int .u32 (shN k (c ^^^ b) : Nat) ∧ vi = .int .i64 k) (fun _ vi => 8 - (intOf vi).toNat)
  case atStart => exact ⟨0, by omega, by rw [show shN 0 (c ^^^ b) = c ^^^ b from rfl, ← HC.out], rfl⟩
  case round =>
    obtain ⟨k, hk, rfl, rfl⟩ := hrel
    have HN := hid (show shN (k + 1) (c ^^^ b) = sh (shN k (c ^^^ b)) from rfl)
    have HQ := hid (shN_lt HL.out k)
    by_cases hlt : k < 8
    · have hb1 := and_one (shN k (c ^^^ b)) HQ.out
      have HXP := hid (xor_poly (shN k (c ^^^ b) / 2) (by have := HQ.out; omega))
      rcases Nat.mod_two_eq_zero_or_one (shN k (c ^^^ b)) with h | h
      all_goals
        rw [h] at hb1
        first | (have HE := hid (sh_even h)) | (have HE := hid (sh_odd h))
        clear h
        go_wp2
        refine ⟨⟨k + 1, hlt, ?_, by simp⟩, by simp [intOf]; omega⟩
        rw [HN.out, HE.out]
        first | rfl | (rw [← HXP.out]; rfl)
    · obtain rfl : k = 8 := by omega
      go_wp2
      go_ret
      exact ⟨rfl, rfl⟩

end Go.Proofs.Ytjinkahlfigdcaa

/- makeTable: the table's 256 words. -/
namespace Go.Proofs.Ytjinkahlfigdcaa
open Go.RowKit

def zerosN (n : Nat) : List Nat := List.replicate n 0
theorem zerosN_length (n : Nat) : (zerosN n).length = n := by simp [zerosN]
/-- the table, as far as it is made: the words at multiples of 2B, and at those of B below L -/
structure Tb (T : List Nat) (B L : Nat) : Prop where
  len : T.length = 256
  at_ : ∀ i, i < 256 → (i % (2 * B) = 0 ∨ (i % B = 0 ∧ i < L)) → T.getD i 0 = shN 8 i
theorem shN_row (j : Nat) (hj : j < 8) : shN (j + 1) 1 = shN 8 (128 / 2 ^ j) := by
  match j, hj with
  | 0, _ => decide +kernel
  | 1, _ => decide +kernel
  | 2, _ => decide +kernel
  | 3, _ => decide +kernel
  | 4, _ => decide +kernel
  | 5, _ => decide +kernel
  | 6, _ => decide +kernel
  | 7, _ => decide +kernel
theorem getD_set (T : List Nat) (i j y : Nat) (hj : j < T.length) : (T.set j y).getD i 0 = if j = i then y else T.getD i 0 := by
  simp only [List.getD_eq_getElem?_getD, List.getElem?_set]
  by_cases h : j = i
  · subst h; simp [hj]
  · simp [h]
theorem tb_step' {T : List Nat} {B L : Nat} (e : Nat) (he : e < 8) (hB : B = 2 ^ e) (h : Tb T B L) (hL : L < 256) (hm : L % (2 * B) = 0) :
    L + B < 256 ∧ (L + 2 * B) % (2 * B) = 0 ∧ L + 2 * B ≤ 256 ∧ Tb (T.set (L + B) (T.getD L 0 ^^^ shN 8 B)) B (L + 2 * B) := by
  have key : L + B < 256 ∧ L + 2 * B ≤ 256 ∧ ∀ i, i < 256 → ¬ L + B = i → (i % (2 * B) = 0 ∨ (i % B = 0 ∧ i < L + 2 * B)) → (i % (2 * B) = 0 ∨ (i % B = 0 ∧ i < L)) := by
    subst hB
    match e, he with
    | 0, _ => simp only [Nat.reducePow, Nat.reduceMul] at hm ⊢; exact ⟨by omega, by omega, fun i h1 h2 h3 => by omega⟩
    | 1, _ => simp only [Nat.reducePow, Nat.reduceMul] at hm ⊢; exact ⟨by omega, by omega, fun i h1 h2 h3 => by omega⟩
    | 2, _ => simp only [Nat.reducePow, Nat.reduceMul] at hm ⊢; exact ⟨by omega, by omega, fun i h1 h2 h3 => by omega⟩
    | 3, _ => simp only [Nat.reducePow, Nat.reduceMul] at hm ⊢; exact ⟨by omega, by omega, fun i h1 h2 h3 => by omega⟩
    | 4, _ => simp only [Nat.reducePow, Nat.reduceMul] at hm ⊢; exact ⟨by omega, by omega, fun i h1 h2 h3 => by omega⟩
    | 5, _ => simp only [Nat.reducePow, Nat.reduceMul] at hm ⊢; exact ⟨by omega, by omega, fun i h1 h2 h3 => by omega⟩
    | 6, _ => simp only [Nat.reducePow, Nat.reduceMul] at hm ⊢; exact ⟨by omega, by omega, fun i h1 h2 h3 => by omega⟩
    | 7, _ => simp only [Nat.reducePow, Nat.reduceMul] at hm ⊢; exact ⟨by omega, by omega, fun i h1 h2 h3 => by omega⟩
  obtain ⟨k1, k2, k3⟩ := key
  refine ⟨k1, by rw [Nat.add_mod_right]; exact hm, k2, ⟨by rw [List.length_set]; exact h.len, fun i hi hc => ?_⟩⟩
  rw [getD_set _ _ _ _ (by rw [h.len]; exact k1)]
  by_cases hi2 : L + B = i
  · rw [if_pos hi2, h.at_ L hL (Or.inl hm), ← shN_xor, ← row_add L B e (by rw [Nat.pow_succ, Nat.mul_comm, ← hB]; exact hm) hB, hi2]
  · rw [if_neg hi2]
    exact h.at_ i hi (k3 i hi hi2 hc)
/-- the step's bit -/
def pb (j : Nat) : Nat := 128 / 2 ^ j
theorem pb_lt (j : Nat) (h : j < 8) : pb j = 2 ^ (7 - j) := by
  unfold pb
  rw [show (128 : Nat) = 2 ^ 7 from rfl, Nat.pow_div (by omega) (by omega)]
theorem pb_end : pb 8 = 0 := rfl
theorem pb_succ (j : Nat) : pb j / 2 = pb (j + 1) := by
  unfold pb
  rw [Nat.div_div_eq_div_mul, Nat.pow_succ]
theorem pb_row (j : Nat) (hj : j < 8) : shN (j + 1) 1 = shN 8 (pb j) := shN_row j hj
/-- the words at multiples of so many -/
structure To (T : List Nat) (j : Nat) : Prop where
  len : T.length = 256
  at_ : ∀ i, i < 256 → i % (256 / 2 ^ j) = 0 → T.getD i 0 = shN 8 i
theorem pb_two (j : Nat) (h : j < 8) : 2 * pb j = 256 / 2 ^ j := by
  rw [pb_lt j h, show (256 : Nat) = 2 ^ 8 from rfl, Nat.pow_div (by omega) (by omega), Nat.mul_comm, ← Nat.pow_succ]
  congr 1
  omega
theorem pb_one (j : Nat) : pb j = 256 / 2 ^ (j + 1) := by
  unfold pb
  rw [Nat.pow_succ, Nat.mul_comm, ← Nat.div_div_eq_div_mul]
theorem to_begin : To (zerosN 256) 0 := by
  refine ⟨zerosN_length _, fun i hi h => ?_⟩
  obtain rfl : i = 0 := by simp only [Nat.pow_zero, Nat.div_one] at h; omega
  rfl
theorem To.inner {T : List Nat} {j : Nat} (h : To T j) (hj : j < 8) : Tb T (pb j) 0 :=
  ⟨h.len, fun i hi hc => h.at_ i hi (by rw [← pb_two j hj]; rcases hc with hc | hc; exact hc; omega)⟩
theorem Tb.outer {T : List Nat} {j L : Nat} (h : Tb T (pb j) L) (hL : 256 ≤ L) : To T (j + 1) :=
  ⟨h.len, fun i hi hc => h.at_ i hi (Or.inr ⟨by rw [pb_one]; exact hc, by omega⟩)⟩
theorem Tb.step {T : List Nat} {j L : Nat} (h : Tb T (pb j) L) (hj : j < 8) (hL : L < 256) (hm : L % (2 * pb j) = 0) :
    L + pb j < 256 ∧ (L + 2 * pb j) % (2 * pb j) = 0 ∧ L + 2 * pb j ≤ 256 ∧ Tb (T.set (L + pb j) (T.getD L 0 ^^^ shN 8 (pb j))) (pb j) (L + 2 * pb j) :=
  tb_step' (7 - j) (by omega) (pb_lt j hj) h hL hm

/-- the whole table -/
structure TabN (T : List Nat) : Prop where
  len : T.length = 256
  at_ : ∀ i, i < 256 → T.getD i 0 = shN 8 i
theorem To.done {T : List Nat} (h : To T 8) : TabN T := ⟨h.len, fun i hi => h.at_ i hi (by omega)⟩

/-- while the table is made -/
structure Mk (w : World) (T : List Nat) (wr : World) : Prop where
  b0 : wr.heap[w.heap.size]? = some (.cells (u32N (zerosN 256)).toArray 112 (0, 0))
  b1 : wr.heap[w.heap.size + 1]? = some (.cells (u32N T).toArray 112 (0, 0))
  bel : Below w.heap.size w wr
theorem Mk.step {w : World} {T : List Nat} {wr : World} (h : Mk w T wr) (t x : Nat) : Mk w (T.set t x) (wr.setCell ⟨w.heap.size + 1, t, none⟩ (.int .u32 (x : Int))) := by
  refine ⟨?_, ?_, ?_⟩
  · exact (hp_set wr _ _ _ _ (by omega)).trans h.b0
  · refine (blk_set (w := wr) (i := t) h.b1 (.int .u32 (x : Int))).trans ?_
    simp [← u32N_set]
  · exact h.bel.grown (gb_set wr _ _) h.bel.size (by intro k hk; cases hk; simp only []; omega)

set_option maxRecDepth 100000 in
set_option maxHeartbeats 1000000 in
theorem makeTable_any (w : World) :
    Calls Try.prog 63 #[] w fun e w' => ∃ T, TabN T ∧ e = .returned (.agg (u32N T).toArray) ∧ Below w.heap.size w w' := by
  obtain ⟨z, s⟩ := zero_of_info (P := Try.prog) (t := 112) (v := .agg (u32N (zerosN 256)).toArray) (n := 256) (by kernel_rfl)
  have HZ := hid s
  clear s
  go_enter Try.func63, Try.ntmps63
  go_wp2
  go_loopw [2, 3] (fun vr vb wr => ∃ (j : Nat) (T : List Nat), j ≤ 8 ∧ vr = .int .u32 (shN j 1 : Nat) ∧ vb = .int .i64 (pb j : Nat) ∧ To T j ∧ Mk w T wr) (fun _ vb _ => (intOf vb).toNat)
  case atStart =>
    refine ⟨0, zerosN 256, by omega, rfl, rfl, to_begin, ?_, ?_, ?_⟩
    · exact (hp_two w _ _).1
    · exact (hp_two w _ _).2
    · exact below_walk2 w _ _
  case round =>
    obtain ⟨j, T, hj, rfl, rfl, hT, hM⟩ := hrel
    clear z
    have HM := hid hM
    have HT := hid hT
    clear hM hT
    by_cases hlt : j < 8
    · have hp := pb_lt j hlt
      have hpos : 0 < pb j := by rw [hp]; exact Nat.two_pow_pos _
      have hple : pb j ≤ 128 := Nat.div_le_self _ _
      have HI := hid (HT.out.inner hlt)
      have HR := hid (pb_row j hlt)
      have HS := hid (pb_succ j)
      have HSL := hid (shN_lt (show (1 : Nat) < 4294967296 by omega) j)
      clear hp HT
      go_wp2_with (go_at_call 95; refine (shift_any _ HSL.out _).mono ?_; rintro e w' ⟨rfl, rfl⟩)
      go_loopw [4] (fun vl wr => ∃ (L : Nat) (T : List Nat), L ≤ 256 ∧ Hid (L % (2 * pb j) = 0) ∧ vl = .int .i64 (L : Nat) ∧ Tb T (pb j) L ∧ Mk w T wr) (fun vl _ => 256 - (intOf vl).toNat)
      case atStart => exact ⟨0, T, by omega, Nat.zero_mod _, rfl, HI.out, HM.out⟩
      case round =>
        obtain ⟨L, T, hL, HLM, rfl, hT, hM⟩ := hrel
        clear HM HI
        have HM := hid hM
        have HT := hid hT
        clear hM hT
        by_cases hl2 : L < 256
        · obtain ⟨k1, k2, k3, k4⟩ := HT.out.step hlt hl2 HLM.out
          have HK2 := hid k2
          have HK4 := hid k4
          clear k2 k4
          have c1 := u32N_cell HM.out.b1 L (by rw [HT.out.len]; exact hl2)
          obtain ⟨I, HI⟩ : ∃ I, Hid (I = L + pb j) := ⟨_, rfl⟩
          have hw : IntKind.i64.wrap ((L : Int) + ((pb j : Nat) : Int)) = (I : Int) := by rw [IntKind.wrap_i64, HI.out]; omega
          have hI1 : (I : Int) < 256 := by rw [HI.out]; omega
          have hI0 : (0 : Int) ≤ (I : Int) := by omega
          have f1 := row_fz HM.out.b1 I
          have c2 := u32N_cell HM.out.b1 I (by rw [HT.out.len, HI.out]; exact k1)
          have HX := hid (u32_xor_nat (T.getD L 0) (sh (shN j 1)) (by rw [HT.out.at_ L hl2 (Or.inl HLM.out)]; exact shN_lt (by omega) 8) (sh_lt HSL.out))
          have HN := hid (HM.out.step (L + pb j) (T.getD L 0 ^^^ sh (shN j 1)))
          go_wp2
          refine ⟨⟨L + 2 * pb j, _, k3, HK2, ?_, HK4.out, ?_⟩, ?_⟩
          · exact congrArg (Value.int .i64) (by omega)
          · rw [← HR.out]
            have := HN.out
            rw [← HI.out] at this ⊢
            rw [← HX.out] at this
            exact this
          · simp only [intOf]; omega
        · have HO := hid (HT.out.outer (show 256 ≤ L by omega))
          have hl3 : ¬ (L : Int) < 256 := by omega
          clear HT HLM hl2
          go_wp2
          refine ⟨⟨j + 1, T, hlt, rfl, ?_, HO.out, HM.out⟩, ?_⟩
          · rw [← HS.out]; rfl
          · simp only [intOf]; omega
    · obtain rfl : j = 8 := by omega
      have HD := hid HT.out.done
      rw [pb_end]
      clear HT
      have HL : Hid ((Try.prog.info? 112).map (·.size) = some (u32N T).length) := by rw [u32N_length, HD.out.len]; exact HZ.out
      go_upto_region 11 with fail
      refine wp_region_list ?_
      show wpList _ _ _ (_ :: _) _ _
      refine ld_row (by rfl) 112 (.tmp 1) (by rfl) (w.heap.size + 1) (by rfl) _ 112 HM.out.b1 _ Try.underlying112 rfl HL.out ?_
      refine st_row (by rfl) 112 (.tmp 0) (.tmp 26) (by rfl) w.heap.size _ (by rfl) (by rfl) 112 _ HM.out.b0 HL.out (by rw [List.size_toArray, u32N_length, u32N_length, HD.out.len, zerosN_length]) (u32N_one _) ?_
      intro w4 hw4
      have HWW := hid hw4
      clear hw4
      go_wp2
      refine ret_row 0 112 rfl w.heap.size rfl _ 112 HWW.out.blk _ Try.underlying112 rfl HL.out rfl ⟨T, HD.out, rfl, ?_⟩
      exact HM.out.bel.grown HWW.out.grown HM.out.bel.size (by intro k hk; cases hk; omega)

end Go.Proofs.Ytjinkahlfigdcaa

/- over, More, Sum; the document's More and Sum; check. -/
namespace Go.Proofs.Ytjinkahlfigdcaa
open Go.RowKit

/-- block b holds the table -/
def TabAt (w : World) (b : Nat) : Prop := ∃ T, TabN T ∧ w.heap[b]? = some (.cells (u32N T).toArray 112 (0, 0))
theorem TabAt.below {w w' : World} {b : Nat} (h : TabAt w b) (hb : Below w.heap.size w w') : TabAt w' b := by
  obtain ⟨T, h1, h2⟩ := h
  exact ⟨T, h1, (hb.block b (hp_lt h2)).trans h2⟩
theorem word_ok (c : Nat) (b : UInt8) (hc : c < 4294967296) : ∃ q : Nat, q < 256 ∧ bits .xor .u8 ((c : Int) % 256) ((b.toNat : Nat) : Int) = (q : Int) ∧ bits .xor .u32 ((shN 8 q : Nat) : Int) ((c : Int) / 256) = ((shN 8 (c ^^^ b.toNat) : Nat) : Int) := by
  have hb := b.toNat_lt
  have hq : c % 256 ^^^ b.toNat < 256 := Nat.xor_lt_two_pow (n := 8) (by omega) (by omega)
  refine ⟨c % 256 ^^^ b.toNat, hq, ?_, ?_⟩
  · have := u8_xor_nat (c % 256) b.toNat (by omega) (by omega)
    rw [← this]
    rfl
  · have := u32_xor_nat (shN 8 (c % 256 ^^^ b.toNat)) (c / 256) (shN_lt (by omega) 8) (by omega)
    rw [table_word c b.toNat, ← this]
    rfl

set_option maxRecDepth 100000 in
set_option maxHeartbeats 1000000 in
theorem crcOver_any (w : World) (b c : Nat) (v : Value) (bs : List UInt8) (hT : TabAt w b) (hc : c < 4294967296) (hv : Src w v bs) :
    Calls Try.prog 64 #[.pointer (some ⟨b, 0, none⟩), .int .u32 (c : Int), v] w fun e w' => e = .returned (.int .u32 (raw c bs : Nat)) ∧ w' = w := by
  obtain ⟨ao, cv, rfl⟩ := src_shape hv
  have hl := hv.1
  obtain ⟨T, hTN, hTB⟩ := hT
  have HV := hid hv
  have HTN := hid hTN
  have HTB := hid hTB
  clear hv hTN hTB
  go_enter Try.func64, Try.ntmps64
  go_wp2
  go_loop [1, 11] (fun vc vi => ∃ k : Nat, k ≤ bs.length ∧ vc = .int .u32 (raw c (bs.take k) : Nat) ∧ vi = .int .i64 k) (fun _ vi => bs.length - (intOf vi).toNat)
  case atStart => exact ⟨0, by omega, rfl, rfl⟩
  case round =>
    obtain ⟨k, hk, rfl, rfl⟩ := hrel
    by_cases hlt : k < bs.length
    · obtain ⟨ad, rfl, c1⟩ := src_at HV.out k hlt
      have HR := hid (raw_take c bs k hlt)
      obtain ⟨x, HXX⟩ : ∃ x : UInt8, Hid (x = bs.getD k 0) := ⟨_, rfl⟩
      rw [← HXX.out] at c1 HR
      obtain ⟨q, hq, hx1, hx2⟩ := word_ok (raw c (bs.take k)) x (raw_lt hc _)
      rw [← HR.out] at hx2
      have HX2 := hid hx2
      have c2 := u32N_cell HTB.out q (by rw [HTN.out.len]; exact hq)
      rw [HTN.out.at_ q hq] at c2
      clear hx2
      go_wp2
      refine ⟨⟨k + 1, hlt, ?_, by simp⟩, by simp [intOf]; omega⟩
      rw [← HX2.out]
    · obtain rfl : k = bs.length := by omega
      rw [List.take_length]
      go_wp2
      go_ret
      exact ⟨rfl, rfl⟩

theorem not32 (c : Nat) (hc : c < 4294967296) : bits .xor .u32 IntKind.u32.max (c : Int) = ((4294967295 ^^^ c : Nat) : Int) := u32_xor_nat 4294967295 c (by omega) hc

set_option maxRecDepth 100000 in
set_option maxHeartbeats 1000000 in
theorem rmore_any (w : World) (c : Nat) (v : Value) (bs : List UInt8) (hc : c < 4294967296) (hv : Src w v bs) :
    Calls Try.prog 49 #[.int .u32 (c : Int), v] w fun e w' => e = .returned (.int .u32 (moreP c bs : Nat)) ∧ w' = w := by
  obtain ⟨ao, cv, rfl⟩ := src_shape hv
  have hl := hv.1
  have HV := hid hv
  clear hv
  have hn1 := not32 c hc
  have HL := hid (xlt (show 4294967295 < 4294967296 by omega) hc)
  have hsg : IntKind.u32.signed = false := rfl
  go_enter Try.func49, Try.ntmps49
  go_wp2
  go_loop [0, 5] (fun vc vi => ∃ k : Nat, k ≤ bs.length ∧ vc = .int .u32 (raw (4294967295 ^^^ c) (bs.take k) : Nat) ∧ vi = .int .i64 k) (fun _ vi => bs.length - (intOf vi).toNat)
  case atStart => exact ⟨0, by omega, rfl, rfl⟩
  case round =>
    obtain ⟨k, hk, rfl, rfl⟩ := hrel
    clear hn1
    by_cases hlt : k < bs.length
    · obtain ⟨ad, rfl, c1⟩ := src_at HV.out k hlt
      have HR := hid (raw_take (4294967295 ^^^ c) bs k hlt)
      obtain ⟨x, HXX⟩ : ∃ x : UInt8, Hid (x = bs.getD k 0) := ⟨_, rfl⟩
      rw [← HXX.out] at c1 HR
      have HQ := hid (raw_lt HL.out (bs.take k))
      go_wp2_with (go_at_call 66; refine (byteOn_any _ _ HQ.out x.toNat_lt _).mono ?_; rintro e w' ⟨rfl, rfl⟩)
      refine ⟨⟨k + 1, hlt, ?_, by simp⟩, by simp [intOf]; omega⟩
      rw [HR.out]
    · obtain rfl : k = bs.length := by omega
      rw [List.take_length]
      have hn2 := not32 (raw (4294967295 ^^^ c) bs) (raw_lt HL.out bs)
      go_wp2
      go_ret
      exact ⟨rfl, rfl⟩

theorem moreP_take (c : Nat) (pss : List (List UInt8)) (k : Nat) (hk : k < pss.length) : moreP c (fl (pss.take (k + 1))) = moreP (moreP c (fl (pss.take k))) (pss.getD k []) := by
  rw [fl_snoc pss k hk, moreP_append]
theorem rawP_take (c : Nat) (pss : List (List UInt8)) (k : Nat) (hk : k < pss.length) : raw c (fl (pss.take (k + 1))) = raw (raw c (fl (pss.take k))) (pss.getD k []) := by
  rw [fl_snoc pss k hk, raw_append]

set_option maxRecDepth 100000 in
set_option maxHeartbeats 1000000 in
theorem sum_any (w : World) (v : Value) (pss : List (List UInt8)) (hv : Lists w v pss) (hn : pss.length ≤ 140737488355327) :
    Calls Try.prog 44 #[v] w fun e w' => e = .returned (.int .u32 (sumP (fl pss) : Nat)) ∧ Below w.heap.size w w' := by
  obtain ⟨z, s⟩ := zero_of_info (P := Try.prog) (t := 112) (v := .agg (u32N (zerosN 256)).toArray) (n := 256) (by kernel_rfl)
  have HZ := hid s
  have HZ2 := hid z
  clear s z
  obtain ⟨ao, cv, rfl⟩ := hv.shape
  have HV := hid hv
  clear hv
  have hsg : IntKind.u32.signed = false := rfl
  go_enter Try.func44, Try.ntmps44
  go_wp2_with fail
  refine (makeTable_any w).mono ?_
  rintro e w1 ⟨T, hT, rfl, hb⟩
  have HB := hid hb
  have HT := hid hT
  clear hT hb
  rename_i Kx hKx
  refine hKx _ _ ?_
  clear hKx
  refine al_row (by rfl) 112 (by rfl) _ HZ2.out ?_
  refine st_new (by rfl) 112 (.tmp 3) (.tmp 7) (by rfl) (u32N T) (by rfl) (by rfl) _ _ (by rw [u32N_length, HT.out.len]; exact HZ.out) (by rw [List.size_toArray, u32N_length, u32N_length, zerosN_length, HT.out.len]) (u32N_one _) ?_
  have HTA := hid (show TabAt (w1.alloc (.cells (u32N T).toArray 112)) w1.heap.size from ⟨T, HT.out, hp_new _ _⟩)
  have HBel := hid (HB.out.alloc HB.out.size (.cells (u32N T).toArray 112))
  generalize w1.alloc (.cells (u32N T).toArray 112) = w2 at HTA HBel ⊢
  have HV2 := hid (HV.out.below HBel.out)
  clear HV HB HT
  go_wp2
  go_loop [4, 10] (fun vc vi => ∃ k : Nat, k ≤ pss.length ∧ vc = .int .u32 (raw 4294967295 (fl (pss.take k)) : Nat) ∧ vi = .int .i64 k) (fun _ vi => pss.length - (intOf vi).toNat)
  case atStart => exact ⟨0, by omega, by rw [List.take_zero, fl_nil, raw_nil]; rfl, rfl⟩
  case round =>
    obtain ⟨k, hk, rfl, rfl⟩ := hrel
    by_cases hlt : k < pss.length
    · obtain ⟨g, o, rfl, u, c1, hsrc⟩ := HV2.out.at k hlt
      obtain ⟨p, HP⟩ : ∃ p, Hid (p = pss.getD k []) := ⟨_, rfl⟩
      rw [← HP.out] at hsrc
      have HS := hid hsrc
      have HR := hid (rawP_take 4294967295 pss k hlt)
      rw [← HP.out] at HR
      have HQ := hid (raw_lt (show 4294967295 < 4294967296 by omega) (fl (pss.take k)))
      clear hsrc
      go_wp2_with (go_at_call 64; refine (crcOver_any _ _ _ _ _ HTA.out HQ.out HS.out).mono ?_; rintro e w' ⟨rfl, rfl⟩)
      refine ⟨⟨k + 1, hlt, ?_, by simp⟩, by simp [intOf]; omega⟩
      rw [HR.out]
    · obtain rfl : k = pss.length := by omega
      rw [fl_all]
      have hn2 := not32 (raw 4294967295 (fl pss)) (raw_lt (by omega) _)
      go_wp2
      go_ret
      exact ⟨by unfold sumP moreP; rfl, HBel.out⟩

theorem check_sum : sumP [49, 50, 51, 52, 53, 54, 55, 56, 57] = 3808858755 := by decide +kernel
theorem parts9 (w : World) (f1 : Nat × Nat) :
    Lists ((w.alloc (.cells #[.int .u8 49, .int .u8 50, .int .u8 51, .int .u8 52, .int .u8 53, .int .u8 54, .int .u8 55, .int .u8 56, .int .u8 57] 5 f1)).alloc (.cells #[.slice (some ⟨w.heap.size, 0, none⟩) 9 9] 30))
      (.slice (some ⟨w.heap.size + 1, 0, none⟩) 1 1) [[49, 50, 51, 52, 53, 54, 55, 56, 57]] := by
  have h1 := hp_two w (.cells #[.int .u8 49, .int .u8 50, .int .u8 51, .int .u8 52, .int .u8 53, .int .u8 54, .int .u8 55, .int .u8 56, .int .u8 57] 5 f1) (.cells #[.slice (some ⟨w.heap.size, 0, none⟩) 9 9] 30)
  refine Or.inr ⟨w.heap.size + 1, 0, 1, rfl, hp_lt h1.2, fun j hj => ?_⟩
  match j, hj with
  | 0, _ => exact ⟨_, by rw [cell_of_row _ _ _ _ _ _ h1.2]; rfl, src_lit h1.1 rfl (by decide) _ rfl⟩

end Go.Proofs.Ytjinkahlfigdcaa

/- Bytes, Seal: the program's and the document's; bytes.Equal, slices.Equal. -/
namespace Go.Proofs.Ytjinkahlfigdcaa
open Go.RowKit

/-- make([]byte, L, C) -/
theorem make_len {w : World} {ops : Array Oper} {rest : List Oper} {o : Oper} {a : Act} {Q : Exit → Act → World → Prop} (hgd : o.guard = none) (l c : Operand) (ho : o.op = Op.makeSlice 30 l c)
    (kl kc : IntKind) (Li Ci : Int) (L C : Nat) (hl : a.eval l = .int kl Li) (hc : a.eval c = .int kc Ci) (hLi : Li = (L : Int)) (hCi : Ci = (C : Int)) (hLC : L ≤ C) (hC : C ≤ 140737488355327)
    (h : ∀ w', OwnB w' w.heap.size (.slice (some ⟨w.heap.size, 0, none⟩) L C) (List.replicate L 0) → Below w.heap.size w w' → wpList Try.prog ops Q rest (a.put o.dst (.slice (some ⟨w.heap.size, 0, none⟩) L C)) w') : wpList Try.prog ops Q (o :: rest) a w := by
  subst hLi hCi
  obtain ⟨i0, hi, hz0, hz1, hz2⟩ := info_parts Try.infoU8
  refine wpList_plain hgd fun K hK => ?_
  have hr := run_make (P := Try.prog) w 30 5 i0 (.int .u8 0) Try.underlying30 hi hz0 kl kc L C (by omega) (by omega) (by rw [hz2]; omega) (by omega)
  simp only [Int.toNat_natCast, hz1, Nat.mul_one] at hr
  unfold Oper.wp
  simp [execOp, ho, hl, hc, hr, Result.andThen]
  refine hK _ _ (h _ ?_ (below_walk w _))
  refine ⟨by simp [bytesV], Or.inr ⟨w.heap.size, C, madeCells (Value.int .u8 0).cells C, by simp, Nat.le_refl _, hp_new _ _, by simpa using hLC, by unfold maxLen; omega, by simp [size_madeCells], ?_⟩⟩
  simp only [List.length_replicate, Nat.mul_one]
  apply List.ext_getElem?
  intro j
  by_cases hj : j < L
  · simp [madeCells, bytesV, Value.cells, hj, show j < C by omega, Nat.mod_one]
  · simp [List.getElem?_take, hj, bytesV]

theorem cut_end {w : World} {v : Value} {bs : List UInt8} (h : Src w v bs) (k : Nat) (hk : k ≤ bs.length) :
    ∃ vx, Src w vx (bs.drop k) ∧ (∀ j, vx.ownBlock = some j → v.ownBlock = some j) ∧ (∀ W, (Instr.sliceAt 30 v (some (.int .i64 (k : Int))) none none).run Try.prog W = .ok vx W) := by
  obtain ⟨hl, ⟨rfl, rfl⟩ | ⟨ad, cap, rfl, h1, h2, hlt, hc⟩⟩ := h
  · simp at hk
    subst hk
    exact ⟨.slice none 0 0, ⟨by simp, Or.inl ⟨rfl, rfl⟩⟩, fun j e => e, fun W => by go_simp⟩
  · have hlen : (bs.drop k).length = bs.length - k := by simp
    have hk2 : (k : Int) ≤ (bs.length : Int) := by omega
    refine ⟨.slice (if cap = k then some ad else some (ad.add k)) (bs.length - k) (cap - k), ⟨by omega, Or.inr ?_⟩, fun j e => ?_, fun W => ?_⟩
    · by_cases hck : cap = k
      · rw [if_pos hck]
        exact ⟨ad, cap - k, by rw [hlen], by omega, by omega, fun h => by omega, fun j hj => by omega⟩
      · rw [if_neg hck]
        refine ⟨ad.add k, cap - k, by rw [hlen], by omega, by omega, fun h => by rw [addr_block]; exact hlt (by omega), fun j hj => ?_⟩
        rw [hlen] at hj
        rw [Addr.add_add, hc (k + j) (by omega)]
        simp [List.getD_eq_getElem?_getD]
    · by_cases hck : cap = k
      · rw [if_pos hck] at e; exact e
      · rw [if_neg hck] at e
        simpa [Value.ownBlock, addr_block] using e
    · go_simp

/-- how a slice is cut at its beginning -/
theorem cut_begin {w : World} {v : Value} {bs : List UInt8} (h : Src w v bs) (k : Nat) (hk : k ≤ bs.length) :
    ∃ vx, Src w vx (bs.take k) ∧ (∀ W, (Instr.sliceAt 30 v none (some (.int .i64 (k : Int))) none).run Try.prog W = .ok vx W) := by
  obtain ⟨hl, ⟨rfl, rfl⟩ | ⟨ad, cap, rfl, h1, h2, hlt, hc⟩⟩ := h
  · simp at hk
    subst hk
    exact ⟨.slice none 0 0, ⟨by simp, Or.inl ⟨rfl, rfl⟩⟩, fun W => by go_simp⟩
  · have hlen : (bs.take k).length = k := by simp; omega
    refine ⟨.slice (some ad) k cap, ⟨by omega, Or.inr ⟨ad, cap, by rw [hlen], by omega, h2, fun h => hlt (by omega), fun j hj => ?_⟩⟩, fun W => ?_⟩
    · rw [hlen] at hj
      rw [hc j (by omega)]
      simp [List.getD_eq_getElem?_getD, hj]
    · have hk2 : (k : Int) ≤ (cap : Int) := by omega
      go_simp

/-- a number xs four bytes, the lowest first -/
def le4 (c : Nat) : List UInt8 := [c.toUInt8, (c / 256).toUInt8, (c / 65536).toUInt8, (c / 16777216).toUInt8]
theorem le4_length (c : Nat) : (le4 c).length = 4 := rfl
theorem le4_V (c : Nat) : bytesV (le4 c) = [.int .u8 ((c : Int) % 256), .int .u8 ((c : Int) / 256 % 256), .int .u8 ((c : Int) / 65536 % 256), .int .u8 ((c : Int) / 16777216 % 256)] := by
  have h0 : ((c % 256 : Nat) : Int) = (c : Int) % 256 := by omega
  have h1 : ((c / 256 % 256 : Nat) : Int) = (c : Int) / 256 % 256 := by omega
  have h2 : ((c / 65536 % 256 : Nat) : Int) = (c : Int) / 65536 % 256 := by omega
  have h3 : ((c / 16777216 % 256 : Nat) : Int) = (c : Int) / 16777216 % 256 := by omega
  rw [← h0, ← h1, ← h2, ← h3]
  simp only [bytesV, le4, List.map_cons, List.map_nil, byte_of]

set_option maxRecDepth 100000 in
set_option maxHeartbeats 1000000 in
theorem bytes_any (w : World) (c : Nat) :
    Calls Try.prog 43 #[.int .u32 (c : Int)] w fun e w' => e = .returned (.agg (bytesV (le4 c)).toArray) ∧ Below w.heap.size w w' := by
  have HV := hid (le4_V c)
  go_enter Try.func43, Try.ntmps43
  go_wp2
  refine ret_row 2 84 rfl w.heap.size rfl (bytesV (le4 c)) 84 ?_ _ Try.underlying84 rfl (by kernel_rfl) rfl ⟨rfl, ?_⟩
  · rw [HV.out]; exact hp_new _ _
  · exact below_walk w _

set_option maxRecDepth 100000 in
set_option maxHeartbeats 1000000 in
theorem rbytes_any (w : World) (c : Nat) :
    Calls Try.prog 48 #[.int .u32 (c : Int)] w fun e w' => e = .returned (.agg (bytesV (le4 c)).toArray) ∧ Below w.heap.size w w' := by
  have HV := hid (le4_V c)
  go_enter Try.func48, Try.ntmps48
  go_wp2
  refine ret_row 2 84 rfl w.heap.size rfl (bytesV (le4 c)) 84 ?_ _ Try.underlying84 rfl (by kernel_rfl) rfl ⟨rfl, ?_⟩
  · rw [HV.out]; exact hp_new _ _
  · exact below_walk w _

set_option maxHeartbeats 1000000 in
theorem bequal_true (w : World) (va vb : Value) (bs : List UInt8) (ha : Src w va bs) (hb : Src w vb bs) :
    Calls Try.prog 12 #[va, vb] w fun e w' => e = .returned (.bool true) ∧ w' = w := by
  have k1 := run_str ha
  have k2 := run_str hb
  clear ha hb
  go_enter Try.func12, Try.ntmps12
  go_wp2
  go_ret
  exact ⟨rfl, rfl⟩

theorem drewN_two (w : World) (a b : Nat) : (w.drewN a).drewN b = w.drewN (a + b) := by simp [World.drewN, Nat.add_assoc]
theorem take_eq_succ {xs bs : List UInt8} {k : Nat} (hl : xs.length = bs.length) (hk : k < xs.length) (h : xs.take k = bs.take k) (e : xs.getD k 0 = bs.getD k 0) : xs.take (k + 1) = bs.take (k + 1) := by
  rw [List.take_succ_eq_append_getElem hk, List.take_succ_eq_append_getElem (by omega), h]
  simp only [List.getD_eq_getElem?_getD, List.getElem?_eq_getElem hk, List.getElem?_eq_getElem (show k < bs.length by omega), Option.getD_some] at e
  rw [e]

set_option maxRecDepth 100000 in
set_option maxHeartbeats 1000000 in
theorem sequal_any (w : World) (va vb : Value) (xs bs : List UInt8) (ha : Src w va xs) (hb : Src w vb bs) :
    Calls Try.prog 67 #[va, vb] w fun e w' => e = .returned (.bool (decide (xs = bs))) ∧ ∃ k, w' = w.drewN k := by
  obtain ⟨aa, ca, rfl⟩ := src_shape ha
  obtain ⟨ab, cb, rfl⟩ := src_shape hb
  have hl := ha.1
  have hl2 := hb.1
  have HA := hid ha
  have HB := hid hb
  clear ha hb
  by_cases hlen : xs.length = bs.length
  · have HL := hid hlen
    have hle : (xs.length : Int) = (bs.length : Int) := by omega
    have hne : (((xs.length : Nat) : Int) != ((bs.length : Nat) : Int)) = false := by rw [hlen]; simp
    clear hlen
    have HLE := hid hle
    clear hle
    go_enter Try.func67, Try.ntmps67
    go_wp2
    go_loopw [13] (fun i wr => ∃ k q : Nat, k ≤ xs.length ∧ i = .int .i64 k ∧ wr = w.drewN q ∧ Hid (xs.take k = bs.take k)) (fun i _ => xs.length - (intOf i).toNat)
    case atStart => exact ⟨0, 0, by omega, rfl, rfl, rfl⟩
    case round =>
      obtain ⟨k, q, hk, rfl, rfl, HT⟩ := hrel
      clear hne
      by_cases hlt : k < xs.length
      · obtain ⟨ad, rfl, c1⟩ := src_at HA.out k hlt
        obtain ⟨bd, rfl, c2⟩ := src_at HB.out k (by have := HL.out; omega)
        have hlt2 : (k : Int) < (bs.length : Int) := by have := HLE.out; omega
        obtain ⟨x, HX⟩ : ∃ x : UInt8, Hid (x = xs.getD k 0) := ⟨_, rfl⟩
        obtain ⟨y, HY⟩ : ∃ y : UInt8, Hid (y = bs.getD k 0) := ⟨_, rfl⟩
        rw [← HX.out] at c1
        rw [← HY.out] at c2
        by_cases hxy : x = y
        · subst hxy
          have HN := hid (take_eq_succ HL.out hlt HT.out (by rw [← HX.out, ← HY.out]))
          go_wp2
          go_quiet (fail)
          go_wp2
          exact ⟨⟨k + 1, _, by omega, by simp, rfl, HN⟩, by simp [intOf]; omega⟩
        · have hd : ((((x.toNat : Nat) : Int)) != ((y.toNat : Nat) : Int)) = true := by
            simp only [bne_iff_ne, ne_eq]
            intro e
            exact hxy (UInt8.toNat_inj.1 (by omega))
          have HNE := hid (show decide (xs = bs) = false from decide_eq_false (fun e => hxy (by rw [HX.out, HY.out, e])))
          clear hxy
          go_wp2
          go_quiet (fail)
          go_wp2
          go_ret
          exact ⟨by rw [HNE.out]; rfl, _, drewN_two _ _ _⟩
      · have HE := hid (show decide (xs = bs) = true from decide_eq_true (by
          have h1 := HT.out
          have h2 := HL.out
          rwa [List.take_of_length_le (by omega), List.take_of_length_le (by omega)] at h1))
        have hge : ¬ (k : Int) < (xs.length : Int) := by omega
        clear hlt HT
        go_wp2
        go_ret
        exact ⟨by rw [HE.out]; rfl, _, rfl⟩
  · have hne : (((xs.length : Nat) : Int) != ((bs.length : Nat) : Int)) = true := by simp only [bne_iff_ne, ne_eq]; omega
    have HNE := hid (show decide (xs = bs) = false from decide_eq_false (fun e => hlen (by rw [e])))
    clear hlen
    go_enter Try.func67, Try.ntmps67
    go_wp2
    go_ret
    exact ⟨by rw [HNE.out]; rfl, 0, rfl⟩

theorem sum_one (w : World) (v : Value) (bs : List UInt8) (hv : Src w v bs) :
    Calls Try.prog 44 #[.slice (some ⟨w.heap.size, 0, none⟩) 1 1] (w.alloc (.cells #[v] 30)) fun e w' => e = .returned (.int .u32 (sumP bs : Nat)) ∧ Below w.heap.size w w' := by
  refine (sum_any _ _ [bs] (lists_one hv) (by simp)).mono ?_
  rintro e w' ⟨rfl, hb⟩
  refine ⟨by simp [fl], (below_walk w _).trans (hb.mono (by rw [hp_size]; omega))⟩

/-- sealed bytes -/
def sealP (bs : List UInt8) : List UInt8 := bs ++ le4 (sumP bs)
theorem sealP_length (bs : List UInt8) : (sealP bs).length = bs.length + 4 := by simp [sealP, le4_length]

/-- bytes of which something was copied over a row that is one's own -/
theorem own_splice {w : World} {g base cap n : Nat} {cur : List Value} {bs : List UInt8} (hb : w.heap[g]? = some (.cells cur.toArray 5 (0, 0))) (hbase : base ≤ g) (hn : n = bs.length) (hc : n ≤ cap) (hcm : cap ≤ maxLen) (hl : cur.length = cap) (ht : cur.take n = bytesV bs) :
    OwnB w base (.slice (some ⟨g, 0, none⟩) n cap) bs := by
  subst hn
  exact ⟨by simp [bytesV], Or.inr ⟨g, cap, cur.toArray, rfl, hbase, hb, hc, hcm, by simpa using hl, by simpa using ht⟩⟩

end Go.Proofs.Ytjinkahlfigdcaa

/- Seal: the program's and the document's. -/
namespace Go.Proofs.Ytjinkahlfigdcaa
open Go.RowKit

/-- how a small array is cut whole -/
theorem cut_array {w : World} {b : Nat} {bs : List UInt8} (hb : w.heap[b]? = some (.cells (bytesV bs).toArray 84 (0, 0))) (h4 : bs.length = 4) : Src w (.slice (some ⟨b, 0, none⟩) 4 4) bs := by
  refine ⟨by omega, Or.inr ⟨⟨b, 0, none⟩, 4, by rw [h4], by omega, by unfold maxLen; omega, fun _ => hp_lt hb, fun j hj => ?_⟩⟩
  rw [addr_add, cell_of_row w b j _ _ _ hb]
  simp [bytesV, List.getD_eq_getElem?_getD, hj]

theorem cut_tail (g n : Nat) (W : World) : (Instr.sliceAt 30 (.slice (some ⟨g, 0, none⟩) (n + 4) (n + 4)) (some (.int .i64 (n : Int))) none none).run Try.prog W = .ok (.slice (some ⟨g, n, none⟩) 4 4) W := by
  have h1 : (n : Int) ≤ (n : Int) + 4 := by omega
  go_simp
theorem splice_two (cur : List Value) (A B : List Value) (n : Nat) (hA : A.length = n) : (splice (splice cur 0 A) n B).take (n + B.length) = A ++ B := by
  subst hA
  have e : (splice cur 0 A).take A.length = A := by simp [splice]
  show List.take _ ((splice cur 0 A).take A.length ++ (B ++ (splice cur 0 A).drop (A.length + B.length))) = _
  rw [e, ← List.append_assoc, List.take_left' (by simp)]
theorem splice_len2 (cur : List Value) (A B : List Value) (n : Nat) (hA : A.length = n) (hc : cur.length = n + B.length) : (splice (splice cur 0 A) n B).length = n + B.length := by
  rw [length_splice _ _ _ (by rw [length_splice _ _ _ (by omega)]; omega), length_splice _ _ _ (by omega), hc]

set_option maxRecDepth 100000 in
set_option maxHeartbeats 1000000 in
theorem seal_any (w : World) (v : Value) (bs : List UInt8) (hv : Src w v bs) (hl : bs.length ≤ 140737488355000) :
    Calls Try.prog 24 #[v] w fun e w' => ∃ v', e = .returned v' ∧ OwnB w' w.heap.size v' (sealP bs) ∧ Below w.heap.size w w' := by
  obtain ⟨av, cv, rfl⟩ := src_shape hv
  have HV := hid hv
  clear hv
  go_enter Try.func24, Try.ntmps24
  go_wp2_with (at_make; refine make_len rfl _ _ rfl _ _ _ _ (bs.length + 4) (bs.length + 4) rfl rfl ?c1 ?c2 ?c3 ?c4 ?_)
  case c1 => push_cast; rfl
  case c2 => push_cast; rfl
  case c3 => exact Nat.le_refl _
  case c4 => omega
  intro w1 ho1 hb1
  have HO1 := hid ho1
  have HB1 := hid hb1
  clear ho1 hb1
  obtain ⟨cur, hcb, hcl⟩ : ∃ cur : List Value, w1.heap[w.heap.size]? = some (.cells cur.toArray 5 (0, 0)) ∧ cur.length = bs.length + 4 := by
    obtain ⟨_, ⟨h2, _⟩ | ⟨g', cap', cur, hv, hb, hh, h3, h4, h5, h6⟩⟩ := HO1.out
    · simp at h2
    · simp only [Value.slice.injEq, Option.some.injEq, Addr.mk.injEq, and_true] at hv
      obtain ⟨rfl, _, rfl⟩ := hv
      exact ⟨cur.toList, by simpa using hh, by simpa using h5⟩
  have HCB := hid hcb
  have HCL := hid hcl
  clear hcb hcl HO1
  obtain ⟨X1, HX1⟩ : ∃ X1, Hid (X1 = bytesV bs) := ⟨_, rfl⟩
  have HXL := hid (show X1.length = bs.length by rw [HX1.out, bytesV_length])
  have HX1C := hid (show ∀ u ∈ X1, u.oneCell' = true by rw [HX1.out]; exact bytesV_one bs)
  have HU := hid (show (Try.prog.info? 5).map (·.size) = some 1 by kernel_rfl)
  have HXS := hid (show 0 < X1.length → (some (⟨w.heap.size, 0, none⟩ : Addr)) = some ⟨w.heap.size, 0, none⟩ ∧ ∃ ad, av = some ad ∧ ∀ j u, X1[j]? = some u → w1.cell? (ad.add j) = some u by
    intro hp
    refine ⟨rfl, ?_⟩
    rcases (HV.out.below HB1.out).2 with ⟨_, h0⟩ | ⟨ad, cap, hv, _, _, _, hc⟩
    · rw [HXL.out, h0] at hp; simp at hp
    · injection hv with h1
      rw [HX1.out]
      exact ⟨ad, h1, src_cells hc⟩)
  go_upto_region 2 with fail
  refine wp_region_list ?_
  show wpList _ _ _ (_ :: _) _ _
  refine mv_row (by rfl) (.tmp 3) (by rfl) (.slice (some ⟨w.heap.size, 0, none⟩) (bs.length + 4) (bs.length + 4)) (by rfl) ?_
  refine mv_row (by rfl) (.tmp 0) (by rfl) (.slice av bs.length cv) (by rfl) ?_
  refine wpList_copy_splice (by rfl) (.tmp 9) (.tmp 10) 30 30 (by rfl) 5 Try.underlying30 HU.out _ _ _ _ _ _ (by rfl) (by rfl) w.heap.size 0 cur 5 HCB.out X1 (by rw [HXL.out]; exact (Nat.min_eq_left (Nat.le_add_right _ _)).symm) HXS.out (by have := HXL.out; have := HCL.out; omega) HX1C.out w.heap.size w HB1.out (Nat.le_refl _) ?_
  intro w2 HC2 hb2
  have HB2 := hid hb2
  clear hb2 HXS HX1C HCB HB1
  have HV2 := hid (HV.out.below HB2.out)
  clear HV
  go_wp2_with fail
  refine (sum_one w2 _ bs HV2.out).mono ?_
  rintro e w3 ⟨rfl, hb3⟩
  have HB3 := hid (HB2.out.trans (hb3.mono HB2.out.size))
  have HC3 := hid ((hb3.block w.heap.size (hp_lt HC2.out)).trans HC2.out)
  clear hb3 HC2 HB2 HV2
  go_wp2_with fail
  refine (bytes_any w3 _).mono ?_
  rintro e w4 ⟨rfl, hb4⟩
  have HB4 := hid (HB3.out.trans (hb4.mono HB3.out.size))
  have HC4 := hid ((hb4.block w.heap.size (hp_lt HC3.out)).trans HC3.out)
  clear hb4 HC3 HB3
  obtain ⟨X2, HX2⟩ : ∃ X2, Hid (X2 = bytesV (le4 (sumP bs))) := ⟨_, rfl⟩
  have HX2L := hid (show X2.length = 4 by rw [HX2.out, bytesV_length]; rfl)
  rw [← HX2.out]
  rename_i Kx hKx
  refine hKx _ _ ?_
  clear hKx
  obtain ⟨z, s⟩ := zero_of_info (P := Try.prog) (t := 84) (v := .agg (bytesV [0, 0, 0, 0]).toArray) (n := 4) (by kernel_rfl)
  refine al_row (by rfl) 84 (by rfl) _ z ?_
  refine st_new (by rfl) 84 (.tmp 4) (.tmp 15) (by rfl) X2 (by rfl) (by rfl) _ _ (by rw [HX2L.out]; exact s) (by rw [List.size_toArray, HX2L.out]; rfl) (by rw [HX2.out]; exact bytesV_one _) ?_
  have HN := hid (hp_new w4 (.cells X2.toArray 84))
  have HB5 := hid (HB4.out.alloc HB4.out.size (.cells X2.toArray 84))
  have HC5 := hid ((hp_old w4 (.cells X2.toArray 84) _ (hp_lt HC4.out)).trans HC4.out)
  have HNE := hid (show w.heap.size ≠ w4.heap.size by have := hp_lt HC4.out; omega)
  clear z s
  generalize w4.alloc (.cells X2.toArray 84) = w5 at HN HB5 HC5 ⊢
  have HS2 := hid (show 0 < X2.length → some (⟨w.heap.size, bs.length, none⟩ : Addr) = some ⟨w.heap.size, bs.length, none⟩ ∧ ∃ ad, some (⟨w4.heap.size, 0, none⟩ : Addr) = some ad ∧ ∀ j u, X2[j]? = some u → w5.cell? (ad.add j) = some u by
    intro _
    refine ⟨rfl, _, rfl, fun j u hj => ?_⟩
    rw [addr_add, cell_of_row _ _ _ _ _ _ HN.out]
    simpa using hj)
  have hcut := cut_tail w.heap.size bs.length
  have HF := hid (show bs.length + X2.length ≤ (splice cur 0 X1).length by
    have h1 := HXL.out
    have h2 := HCL.out
    have h3 := HX2L.out
    rw [length_splice _ _ _ (by omega)]
    omega)
  have H1C := hid (show ∀ u ∈ X2, u.oneCell' = true by rw [HX2.out]; exact bytesV_one _)
  have HML := hid (show X2.length = Nat.min 4 4 by rw [HX2L.out]; rfl)
  clear HC4 HB4
  go_upto_region 4 with fail
  go_region_law ((refine step_copy_splice (by rfl) (.tmp 19) (.tmp 20) 30 30 (by rfl) 5 Try.underlying30 HU.out (some ⟨w.heap.size, bs.length, none⟩) (some ⟨w4.heap.size, 0, none⟩) 4 4 4 4 (by rfl) (by rfl) w.heap.size bs.length (splice cur 0 X1) 5 (by exact HC5.out) X2 HML.out (by exact HS2.out) HF.out H1C.out w.heap.size w (by exact ⟨HB5.out.os, HB5.out.tape, HB5.out.output, HB5.out.size, HB5.out.block⟩) (Nat.le_refl _) ?_; intro w6 HC6 hb6; have HB6 := hid hb6; clear hb6))
  go_wp2
  go_ret
  refine ⟨_, rfl, ?_, HB6.out⟩
  refine own_splice HC6.out (Nat.le_refl _) (by rw [sealP_length]) (Nat.le_refl _) (by unfold maxLen; omega) ?_ ?_
  · rw [show bs.length + 4 = bs.length + X2.length by rw [HX2L.out]]
    exact splice_len2 cur X1 X2 bs.length HXL.out (by rw [HCL.out, HX2L.out])
  · rw [show bs.length + 4 = bs.length + X2.length by rw [HX2L.out], splice_two cur X1 X2 bs.length HXL.out, HX1.out, HX2.out, ← bytesV_append]
    rfl

end Go.Proofs.Ytjinkahlfigdcaa

/- The document's Seal; Open: the program's and the document's. -/
namespace Go.Proofs.Ytjinkahlfigdcaa
open Go.RowKit

/-- four bytes that a literal lays -/
theorem src_four (w : World) (c : Nat) : Src (w.alloc (.cells (bytesV (le4 c)).toArray 5)) (.slice (some ⟨w.heap.size, 0, none⟩) 4 4) (le4 c) := src_lit (hp_new _ _) rfl (by rw [le4_length]; omega) _ rfl

set_option maxRecDepth 100000 in
set_option maxHeartbeats 1000000 in
theorem rseal_any (w : World) (v : Value) (bs : List UInt8) (hv : Src w v bs) (hl : bs.length ≤ 140737488355000) :
    Calls Try.prog 28 #[v] w fun e w' => ∃ v', e = .returned v' ∧ OwnB w' w.heap.size v' (sealP bs) ∧ Below w.heap.size w w' := by
  obtain ⟨av, cv, rfl⟩ := src_shape hv
  have HV := hid hv
  clear hv
  go_enter Try.func28, Try.ntmps28
  go_wp2_with (at_builtin; refine app_src rfl _ _ rfl w.heap.size _ [] rfl (OwnB.nil _ _) _ bs rfl HV.out (by simp; omega) (Nat.le_refl _) ?_)
  intro v1 w1 ho1 hg1
  have HO1 := hid (show OwnB w1 w.heap.size v1 bs from ho1)
  have HB1 := hid (gb_below hg1)
  have HV1 := hid (HV.out.below HB1.out)
  clear ho1 hg1 HV
  go_wp2_with fail
  refine (rmore_any w1 0 _ bs (by omega) HV1.out).mono ?_
  rintro e w2 ⟨rfl, rfl⟩
  go_wp2_with fail
  refine (rbytes_any w2 _).mono ?_
  rintro e w3 ⟨rfl, hb3⟩
  have HO3 := hid (HO1.out.below hb3)
  have HB3 := hid (HB1.out.trans (hb3.mono HB1.out.size))
  clear hb3 HO1 HB1 HV1
  rw [show moreP 0 bs = sumP bs from rfl]
  rename_i Kx hKx
  refine hKx _ _ ?_
  clear hKx
  obtain ⟨z, s⟩ := zero_of_info (P := Try.prog) (t := 84) (v := .agg (bytesV [0, 0, 0, 0]).toArray) (n := 4) (by kernel_rfl)
  refine al_row (by rfl) 84 (by rfl) _ z ?_
  refine st_new (by rfl) 84 (.tmp 4) (.tmp 9) (by rfl) (bytesV (le4 (sumP bs))) (by rfl) (by rfl) _ _ (by rw [bytesV_length]; exact s) (by rw [List.size_toArray]; rfl) (bytesV_one _) ?_
  have HN := hid (hp_new w3 (.cells (bytesV (le4 (sumP bs))).toArray 84))
  have HB5 := hid (HB3.out.alloc HB3.out.size (.cells (bytesV (le4 (sumP bs))).toArray 84))
  have HO5 := hid (HO3.out.below (below_walk w3 (.cells (bytesV (le4 (sumP bs))).toArray 84)))
  clear z s HO3 HB3
  generalize w3.alloc (.cells (bytesV (le4 (sumP bs))).toArray 84) = w5 at HN HB5 HO5 ⊢
  have HC := hid (le4_V (sumP bs))
  obtain ⟨q0, q1, q2, q3, HQ⟩ : ∃ q0 q1 q2 q3, Hid (bytesV (le4 (sumP bs)) = [.int .u8 q0, .int .u8 q1, .int .u8 q2, .int .u8 q3]) := ⟨_, _, _, _, HC.out⟩
  rw [HQ.out] at HN
  have c0 : w5.cell? ⟨w3.heap.size, 0, none⟩ = some (.int .u8 q0) := by rw [cell_of_row _ _ _ _ _ _ HN.out]; rfl
  have c1 : w5.cell? ⟨w3.heap.size, 1, none⟩ = some (.int .u8 q1) := by rw [cell_of_row _ _ _ _ _ _ HN.out]; rfl
  have c2 : w5.cell? ⟨w3.heap.size, 2, none⟩ = some (.int .u8 q2) := by rw [cell_of_row _ _ _ _ _ _ HN.out]; rfl
  have c3 : w5.cell? ⟨w3.heap.size, 3, none⟩ = some (.int .u8 q3) := by rw [cell_of_row _ _ _ _ _ _ HN.out]; rfl
  have HS := hid (src_four w5 (sumP bs))
  rw [HQ.out] at HS
  have HSZ := HB5.out.size
  clear HC
  go_wp2_with (at_builtin; refine app_src rfl _ _ rfl w.heap.size _ bs rfl (HO5.out.below (below_walk w5 _)) _ (le4 (sumP bs)) rfl HS.out ?e1 ?e2 ?_)
  case e1 => rw [le4_length]; omega
  case e2 => rw [hp_size]; omega
  intro v6 w6 ho6 hg6
  have HO6 := hid (show OwnB w6 w.heap.size v6 (sealP bs) from ho6)
  have HB6 := hid ((HB5.out.alloc HSZ (.cells #[.int .u8 q0, .int .u8 q1, .int .u8 q2, .int .u8 q3] 5)).grown hg6 (by rw [hp_size]; omega) (fun q hq => (HO5.out.lt q hq).1))
  clear ho6 hg6
  go_wp2
  go_ret
  exact ⟨_, rfl, HO6.out, HB6.out⟩

/-- these bytes are sealed -/
def cokP (p : List UInt8) : Bool := decide (p.drop (p.length - 4) = le4 (sumP (p.take (p.length - 4))))

set_option maxRecDepth 100000 in
set_option maxHeartbeats 1000000 in
theorem open_short (w : World) (v : Value) (bs : List UInt8) (hv : Src w v bs) (h4 : bs.length < 4) :
    Calls Try.prog 51 #[v] w fun e w' => e = .returned (.tuple #[.slice none 0 0, .int .i64 4]) ∧ w' = w := by
  obtain ⟨av, cv, rfl⟩ := src_shape hv
  have h4' : (bs.length : Int) < 4 := by omega
  clear hv
  go_enter Try.func51, Try.ntmps51
  go_wp2
  exact bodyPost_ret (results_tmp2 rfl _ _ _) rfl ⟨rfl, rfl⟩

/-- what Open says of at least four bytes -/
def OpenPost (w : World) (bs : List UInt8) (e : Ending) (w' : World) : Prop :=
  (if cokP bs then ∃ v', e = .returned (.tuple #[v', .int .i64 0]) ∧ OwnB w' w.heap.size v' (bs.take (bs.length - 4)) else e = .returned (.tuple #[.slice none 0 0, .int .i64 71])) ∧ Below w.heap.size w w'
theorem OpenPost.bad {w w' : World} {bs : List UInt8} (h : cokP bs = false) (hb : Below w.heap.size w w') : OpenPost w bs (.returned (.tuple #[.slice none 0 0, .int .i64 71])) w' := by
  unfold OpenPost
  rw [h]
  exact ⟨rfl, hb⟩
theorem OpenPost.good {w w' : World} {bs : List UInt8} {v' : Value} (h : cokP bs = true) (hb : Below w.heap.size w w') (ho : OwnB w' w.heap.size v' (bs.take (bs.length - 4))) : OpenPost w bs (.returned (.tuple #[v', .int .i64 0])) w' := by
  unfold OpenPost
  rw [h]
  exact ⟨⟨v', rfl, ho⟩, hb⟩
theorem okP_at (bs : List UInt8) (n : Nat) (hn : bs.length = n + 4) : cokP bs = decide (bs.drop n = le4 (sumP (bs.take n))) := by
  unfold cokP
  rw [show bs.length - 4 = n by omega]

set_option maxRecDepth 100000 in
set_option maxHeartbeats 1000000 in
theorem open_any (w : World) (v : Value) (bs : List UInt8) (hv : Src w v bs) (h4 : 4 ≤ bs.length) :
    Calls Try.prog 51 #[v] w (OpenPost w bs) := by
  obtain ⟨n, HNN⟩ : ∃ n, Hid (n = bs.length - 4) := ⟨_, rfl⟩
  have hn : bs.length = n + 4 := by rw [HNN.out]; omega
  have hl := hv.1
  obtain ⟨vx, hsx, hcx⟩ := cut_begin hv n (by omega)
  obtain ⟨vy, hsy, _, hcy⟩ := cut_end hv n (by omega)
  obtain ⟨av, cv, rfl⟩ := src_shape hv
  obtain ⟨ax, cx, rfl⟩ := src_shape hsx
  have HV := hid hv
  have HX := hid hsx
  have HY := hid hsy
  clear hv hsx hsy
  have hxl : (bs.take n).length = n := by rw [List.length_take]; omega
  rw [hxl] at hcx HX
  rw [hn] at hcx hcy HV
  rw [hn]
  have hln : ((n : Int) + 4) - 4 = (n : Int) := by omega
  have HOK := hid (okP_at bs n hn)
  have HHN := hid hn
  have hnl : n ≤ 140737488355323 := by omega
  clear hn hxl hl h4
  go_enter Try.func51, Try.ntmps51
  go_wp2_with fail
  refine (sum_one w _ (bs.take n) HX.out).mono ?_
  rintro e w1 ⟨rfl, hb1⟩
  have HB1 := hid hb1
  clear hb1
  go_wp2_with fail
  refine (bytes_any w1 _).mono ?_
  rintro e w2 ⟨rfl, hb2⟩
  have HB2 := hid (HB1.out.trans (hb2.mono HB1.out.size))
  clear hb2 HB1
  rename_i Kx hKx
  refine hKx _ _ ?_
  clear hKx
  obtain ⟨z, s⟩ := zero_of_info (P := Try.prog) (t := 84) (v := .agg (bytesV [0, 0, 0, 0]).toArray) (n := 4) (by kernel_rfl)
  refine al_row (by rfl) 84 (by rfl) _ z ?_
  refine st_new (by rfl) 84 (.tmp 5) (.tmp 18) (by rfl) (bytesV (le4 (sumP (bs.take n)))) (by rfl) (by rfl) _ _ (by rw [bytesV_length]; exact s) (by rw [List.size_toArray]; rfl) (bytesV_one _) ?_
  have HN := hid (hp_new w2 (.cells (bytesV (le4 (sumP (bs.take n)))).toArray 84))
  have HB5 := hid (HB2.out.alloc HB2.out.size (.cells (bytesV (le4 (sumP (bs.take n)))).toArray 84))
  clear z s HB2
  generalize w2.alloc (.cells (bytesV (le4 (sumP (bs.take n)))).toArray 84) = w5 at HN HB5 ⊢
  have HS4 := hid (cut_array HN.out (le4_length _))
  have HY5 := hid (HY.out.below HB5.out)
  have HE := hid (fun (k : Nat) => sequal_any (w5.drewN k) vy (.slice (some ⟨w2.heap.size, 0, none⟩) 4 4) _ _ (show Src (w5.drewN k) _ _ from HY5.out) (show Src (w5.drewN k) _ _ from HS4.out))
  cases hok : cokP bs with
  | false =>
    have HO := hid hok
    rw [← HOK.out, hok] at HE
    clear hok HOK
    go_upto_region 5 with fail
    go_quiet (first | (go_at_call 67; exact Calls.quiet_of (HE.out _)))
    go_wp2
    refine bodyPost_ret (results_tmp2 rfl _ _ _) rfl (OpenPost.bad HO.out ?_)
    exact ⟨HB5.out.os, HB5.out.tape, HB5.out.output, HB5.out.size, HB5.out.block⟩
  | true =>
    have HO := hid hok
    rw [← HOK.out, hok] at HE
    clear hok HOK
    go_upto_region 5 with fail
    go_quiet (first | (go_at_call 67; exact Calls.quiet_of (HE.out _)))
    obtain ⟨w6, HW6⟩ : ∃ w6, Hid (w6 = w5.drewN nq) := ⟨_, rfl⟩
    rw [← HW6.out]
    have HB6 := hid (show Below w.heap.size w w6 by rw [HW6.out]; exact ⟨HB5.out.os, HB5.out.tape, HB5.out.output, HB5.out.size, HB5.out.block⟩)
    have HX6 := hid (HX.out.below HB6.out)
    have HV6 := hid (HV.out.below HB6.out)
    clear HW6 HE HY5 HS4 HB5 HN HX HV HY hcx hcy
    go_wp2_with (at_make; refine make_len rfl _ _ rfl _ _ _ _ n n rfl rfl ?c1 ?c2 ?c3 ?c4 ?_)
    case c1 => rfl
    case c2 => rfl
    case c3 => exact Nat.le_refl _
    case c4 => omega
    intro w7 ho7 hb7
    have HO7 := hid ho7
    have HB7 := hid (HB6.out.trans (hb7.mono HB6.out.size))
    have HSZ := hid HB6.out.size
    have HV7 := hid (HV6.out.below hb7)
    clear ho7 hb7
    obtain ⟨cur, hcb, hcl⟩ : ∃ cur : List Value, w7.heap[w6.heap.size]? = some (.cells cur.toArray 5 (0, 0)) ∧ cur.length = n := by
      obtain ⟨_, ⟨h2, _⟩ | ⟨g', cap', cur, hv, hb, hh, h3, h4, h5, h6⟩⟩ := HO7.out
      · simp at h2
      · simp only [Value.slice.injEq, Option.some.injEq, Addr.mk.injEq, and_true] at hv
        obtain ⟨rfl, _, rfl⟩ := hv
        exact ⟨cur.toList, by simpa using hh, by simpa using h5⟩
    have HCB := hid hcb
    have HCL := hid hcl
    clear hcb hcl HO7
    obtain ⟨X1, HX1⟩ : ∃ X1, Hid (X1 = bytesV (bs.take n)) := ⟨_, rfl⟩
    have HXL := hid (show X1.length = n by rw [HX1.out, bytesV_length, List.length_take, HHN.out]; omega)
    have HX1C := hid (show ∀ u ∈ X1, u.oneCell' = true by rw [HX1.out]; exact bytesV_one _)
    have HU := hid (show (Try.prog.info? 5).map (·.size) = some 1 by kernel_rfl)
    have HXS := hid (show 0 < X1.length → (some (⟨w6.heap.size, 0, none⟩ : Addr)) = some ⟨w6.heap.size, 0, none⟩ ∧ ∃ ad, av = some ad ∧ ∀ j u, X1[j]? = some u → w7.cell? (ad.add j) = some u by
      intro hp
      refine ⟨rfl, ?_⟩
      rcases HV7.out.2 with ⟨_, h0⟩ | ⟨ad, cap, hv, _, _, _, hc⟩
      · have := HHN.out
        rw [h0] at this
        simp at this
      · injection hv with h1
        refine ⟨ad, h1, fun j u hj => ?_⟩
        rw [HX1.out, bytesV_get] at hj
        refine src_cells hc j u ?_
        rw [bytesV_get]
        by_cases hjn : j < n
        · rwa [List.getElem?_take_of_lt hjn] at hj
        · rw [List.getElem?_eq_none (by rw [List.length_take]; omega)] at hj
          cases hj)
    go_upto_region 8 with fail
    refine wp_region_list ?_
    show wpList _ _ _ (_ :: _) _ _
    refine mv_row (by rfl) (.tmp 6) (by rfl) (.slice (some ⟨w6.heap.size, 0, none⟩) n n) (by rfl) ?_
    refine mv_row (by rfl) (.tmp 0) (by rfl) (.slice av (n + 4) cv) (by rfl) ?_
    refine wpList_copy_splice (by rfl) (.tmp 27) (.tmp 28) 30 30 (by rfl) 5 Try.underlying30 HU.out _ _ _ _ _ _ (by rfl) (by rfl) w6.heap.size 0 cur 5 HCB.out X1 (by rw [HXL.out]; exact (Nat.min_eq_right (Nat.le_add_right _ _)).symm) HXS.out (by have := HXL.out; have := HCL.out; omega) HX1C.out w.heap.size w HB7.out HSZ.out ?_
    intro w8 HC8 hb8
    have HB8 := hid hb8
    clear hb8 HXS HX1C HCB HB7
    go_wp2
    refine bodyPost_ret (results_tmp2 rfl _ _ _) rfl (OpenPost.good HO.out HB8.out ?_)
    rw [HHN.out, Nat.add_sub_cancel]
    refine own_splice HC8.out HSZ.out (by rw [List.length_take, HHN.out]; omega) (Nat.le_refl _) (by unfold maxLen; omega) ?_ ?_
    · rw [length_splice _ _ _ (by have := HXL.out; have := HCL.out; omega), HCL.out]
    · rw [← HX1.out]
      have e := HXL.out
      simp [splice, ← e]

end Go.Proofs.Ytjinkahlfigdcaa

/- A region in which no step can panic. -/
namespace Go.Proofs.Ytjinkahlfigdcaa
open Go.RowKit
variable {P : Program}

/-- what must be shown where no step can panic -/
def noPanic (Q : Exit → Act → World → Prop) : Exit → Act → World → Prop := fun e a w => match e with
  | .panic _ => False
  | e => Q e a w
theorem wp_noPanic {c : Code} {Q : Exit → Act → World → Prop} {a : Act} {w : World} (h : c.wp P (noPanic Q) a w) : c.wp P Q a w :=
  Code.wp_mono (fun e a w h => by
    cases e
    all_goals first | exact h | exact h.elim) h

end Go.Proofs.Ytjinkahlfigdcaa

/- Toward a Bye, written by the program. -/
namespace Go.Proofs.Ytjinkahlfigdcaa
open Go.RowKit Go.BigFrame

theorem strs_nil (w : World) : Strs w nS [] := Or.inl ⟨none, 0, rfl, rfl, fun _ => rfl⟩

set_option maxRecDepth 100000 in
set_option maxHeartbeats 1000000 in
theorem ownBye_any (f : Fr) (va : Value) (w : World) (hk : f.kind = 5) (hf : f.tool.length = 32) :
    Calls Try.prog 89 #[.agg (fcells f va).toArray] w fun e w' => e = .returned (.agg (fcells byeF nS).toArray) ∧ Below w.heap.size w w' := by
  have HNB := hid (hp_two w (.cells (fcells f va).toArray 29) (.cells (fcells zF nS).toArray 29))
  have HBL := hid (below_walk2 w (.cells (fcells f va).toArray 29) (.cells (fcells zF nS).toArray 29))
  have HZ : Hid ((w.alloc (.cells (fcells f va).toArray 29)).heap.size = w.heap.size + 1) := hid (by simp)
  have HK := hid hk
  have HF := hid hf
  clear hk hf
  go_enter Try.func89, Try.ntmps89
  go_upto_region 1 with (refine al_row (by rfl) 29 (by rfl) _ zeroFrame ?_)
  try rw [HZ.out]
  generalize (w.alloc (.cells (fcells f va).toArray 29)).alloc (.cells (fcells zF nS).toArray 29) = w2 at HNB HBL ⊢
  have x0 := (Fb.of HNB.out.1 HF.out).k
  rw [HK.out] at x0
  go_wp2_with (first
    | (refine bd_row (by rfl) 29 #[(0, .tmp 4)] (by rfl) _ (by simp [Act.eval]) _ built_bye ?_)
    | (refine st_row (by rfl) 29 _ _ (by rfl) (w.heap.size + 1) (fcells byeF nS) (by rfl) (by rfl) 29 _ HNB.out.2 (frame_size byeF nS rfl) rfl (fcells_one byeF nS rfl) ?_; intro w3 hw3))
  refine ret_row 2 29 rfl (w.heap.size + 1) rfl (fcells byeF nS) 29 hw3.blk _ Try.underlying29 rfl (frame_size byeF nS rfl) rfl ⟨rfl, Below.of_gb HBL.out hw3.grown (by omega)⟩

set_option maxHeartbeats 1000000 in
theorem mayAlways_any (v : Array Value) (w : World) :
    Calls Try.prog 86 #[.agg v] w fun e w' => e = .returned (.bool true) ∧ Below w.heap.size w w' := by
  go_enter Try.func86, Try.ntmps86
  go_wp2
  go_ret
  exact ⟨rfl, below_walk w _⟩

set_option maxHeartbeats 1000000 in
theorem layBye_any (ao : Option Addr) (n c : Nat) (v : Array Value) (w : World) :
    Calls Try.prog 90 #[.slice ao n c, .agg v] w fun e w' => e = .returned (.slice ao n c) ∧ Below w.heap.size w w' := by
  go_enter Try.func90, Try.ntmps90
  go_wp2
  go_ret
  exact ⟨rfl, below_walk w _⟩

theorem below_tr {w w' w'' : World} {a : Nat} (h : Below a w w') (k : Below a w' w'') : Below a w w'' :=
  ⟨k.os.trans h.os, k.tape.trans h.tape, k.output.trans h.output, Nat.le_trans h.size k.size, fun i hi => (k.block i hi).trans (h.block i hi)⟩
theorem srcNil (w : World) : Src w nS [] := ⟨by simp, Or.inl ⟨rfl, rfl⟩⟩
theorem nums_five (w : World) : Nums (w.alloc (.cells #[.int .i64 5] 3)) (.slice (some ⟨w.heap.size, 0, none⟩) 1 1) [5] := nums_one w 5
theorem nums_bye (w : World) : Nums (w.alloc (.cells #[.int .i64 1, .int .i64 5] 3)) (.slice (some ⟨w.heap.size, 0, none⟩) 2 2) [1, 5] := nums_two w 1 5
theorem size_zero (w : World) : Calls Try.prog 29 #[.int .u64 0] w fun e w' => e = .returned (.int .i64 1) ∧ w' = w := size_any 0 w (by decide)
theorem put_five (w : World) : Calls Try.prog 23 #[.slice none 0 0, .slice (some ⟨w.heap.size, 0, none⟩) 1 1] (w.alloc (.cells #[.int .i64 5] 3)) fun e w' => ∃ ao c, e = .returned (.slice ao 1 c) ∧ Src w' (.slice ao 1 c) [5] ∧ Below w.heap.size w w' := by
  refine (putCounts_any nS _ [] [5] _ (srcNil _) (nums_five w) (by simp) (by simp) (by simp)).mono ?_
  rintro e w' ⟨v, rfl, hs, hb⟩
  have hs' : Src w' v [5] := hs
  obtain ⟨ao, c, rfl⟩ := src_shape hs'
  exact ⟨ao, c, rfl, hs', below_then (below_walk w _) hb⟩
theorem put_bye (w : World) : Calls Try.prog 23 #[.slice none 0 0, .slice (some ⟨w.heap.size, 0, none⟩) 2 2] (w.alloc (.cells #[.int .i64 1, .int .i64 5] 3)) fun e w' => ∃ ao c, e = .returned (.slice ao 2 c) ∧ Src w' (.slice ao 2 c) [1, 5] ∧ Below w.heap.size w w' := by
  refine (putCounts_any nS _ [] [1, 5] _ (srcNil _) (nums_bye w) (by simp) (by simp) (by simp)).mono ?_
  rintro e w' ⟨v, rfl, hs, hb⟩
  have hs' : Src w' v [1, 5] := hs
  obtain ⟨ao, c, rfl⟩ := src_shape hs'
  exact ⟨ao, c, rfl, hs', below_then (below_walk w _) hb⟩

end Go.Proofs.Ytjinkahlfigdcaa

/- A hello's fields as bytes. -/
namespace Go.Proofs.Ytjinkahlfigdcaa
open Go.RowKit Go.BigFrame

theorem src_tool {w : World} {b : Nat} {f : Fr} {va : Value} (h : Fb w b f va) (hl : f.tool.length = 32) (hb : b < w.heap.size) : Src w (.slice (some ⟨b, 4, none⟩) 32 32) f.tool := by
  refine ⟨by omega, Or.inr ⟨⟨b, 4, none⟩, 32, by rw [hl], by omega, by unfold maxLen; omega, fun _ => hb, fun j hj => ?_⟩⟩
  rw [Addr.add_mid]
  refine h.t j _ ?_
  rw [bytesV_get, List.getElem?_eq_getElem hj]
  simp [List.getD_eq_getElem?_getD, List.getElem?_eq_getElem hj]
theorem step_app2 {ops : Array Oper} {o : Oper} {act : Act} {w : World} {K : Act → World → Prop} {Q : Exit → Act → World → Prop} {E : Prop} (hgd : o.guard = none) (s x : Operand)
    (ho : o.op = .call { callee := .builtin .append, args := #[s, x], argTypes := #[30, 30] })
    (base : Nat) (v : Value) (bs : List UInt8) (hs : act.eval s = v) (hown : OwnB w base v bs) (vx : Value) (cs : List UInt8) (hx : act.eval x = vx) (hsrc : Src w vx cs)
    (hlen : bs.length + cs.length ≤ 140737488355327) (hbase : base ≤ w.heap.size)
    (h : ∀ v' w', OwnB w' base v' (bs ++ cs) → w.grownBy w' v.ownBlock → K (act.put o.dst v') w') :
    if Region.wanted o (yielded ops act.tmps) = true then Oper.wp Try.prog o act w K Q else E := by
  have hw : Region.wanted o (yielded ops act.tmps) = true := by simp [Region.wanted, hgd]
  rw [if_pos hw]
  obtain ⟨i0, hi, hz0, hz1, hz2⟩ := info_parts Try.infoU8
  obtain ⟨_, ⟨rfl, rfl⟩ | ⟨ad, cap, rfl, h1, h2, hlt, hc⟩⟩ := hsrc
  · have hrun := run_append_owned_none (P := Try.prog) (w := w) base 30 o.type 5 i0 1 Try.underlying30 hi v bs.length (bytesV bs) hown
    unfold Oper.wp
    simp [execOp, ho, resolve, invoke, builtin, hs, hx, hrun, Result.andThen]
    exact h v w (by simpa using hown) (gb_refl _ _)
  · obtain ⟨v', w', hrun, r1, r2, _⟩ := run_append_own (P := Try.prog) w base 30 o.type 5 i0 (.int .u8 0) 1 1 Try.underlying30 hi hz0 hz1 hz2 rfl (by decide) v bs.length (bytesV bs) hown ad cs.length cap (bytesV cs) (by simp [bytesV]) (src_cells hc) (bytesV_one cs) (by unfold maxLen; omega) (by omega) hbase
    unfold Oper.wp
    simp [execOp, ho, resolve, invoke, builtin, hs, hx, hrun, Result.andThen]
    exact h v' w' (by unfold OwnB; rw [bytesV_append, List.length_append]; exact r1) r2

set_option maxRecDepth 100000 in
set_option maxHeartbeats 4000000 in
theorem layHello_any (vb : Value) (bs : List UInt8) (f : Fr) (va : Value) (V S : Nat) (w : World) (hb : Src w vb bs) (hbl : bs.length ≤ 1000) (hf : f.tool.length = 32) (h1 : f.ver = (V : Int)) (h2 : f.slots = (S : Int)) (k1 : V ≤ 9223372036854775807) (k2 : S ≤ 9223372036854775807) :
    Calls Try.prog 75 #[vb, .agg (fcells f va).toArray] w fun e w' => ∃ v, e = .returned v ∧ Src w' v (bs ++ (sns [V, S] ++ f.tool)) ∧ Below w.heap.size w w' := by
  obtain ⟨ab, nb, cb, rfl⟩ := src_named hb
  have HNB := hid (hp_new w (.cells (fcells f va).toArray 29))
  have HBL := hid (below_walk w (.cells (fcells f va).toArray 29))
  have HS := hid (hb.below HBL.out)
  have HF := hid hf
  have H1 := hid h1
  have H2 := hid h2
  clear hb hf h1 h2
  go_enter Try.func75, Try.ntmps75
  go_upto_region 1 with fail
  generalize w.alloc (.cells (fcells f va).toArray 29) = w1 at HNB HBL HS ⊢
  have HL := hid (hp_lt HNB.out)
  have HFB := hid (Fb.of HNB.out HF.out)
  have HX2 := hid HFB.out.v
  have HX3 := hid HFB.out.s
  rw [H1.out] at HX2
  rw [H2.out] at HX3
  refine wp_noPanic (wp_region_held_drew (S := fun W => Below w1.heap.size w1 W) (by kernel_rfl) ⟨rfl, rfl, rfl, Nat.le_refl _, fun _ _ => rfl⟩ ?_)
  intro hHeld
  refine wpAnyH_take (i := 0) (v := .slice ab nb cb) rfl (by kernel_rfl) (by kernel_rfl) (by kernel_rfl) (fun _ _ _ h => h) (Or.inl ⟨by rfl, fun W _ => by go_simp⟩) hHeld ?_
  simp only [Act.put, List.getElem_toArray, List.getElem_cons_zero, List.setIfInBounds_toArray, List.set_cons_succ, List.set_cons_zero]
  refine wpAnyH_take (i := 1) (v := .pointer (some ⟨w.heap.size, 2, none⟩)) rfl (by kernel_rfl) (by kernel_rfl) (by kernel_rfl) (fun _ _ _ h => h) (Or.inl ⟨by rfl, fun W _ => by go_simp⟩) hHeld ?_
  simp only [Act.put, List.getElem_toArray, List.getElem_cons_zero, List.getElem_cons_succ, List.setIfInBounds_toArray, List.set_cons_succ, List.set_cons_zero]
  refine wpAnyH_take (i := 2) (v := .int .i64 (V : Nat)) rfl (by kernel_rfl) (by kernel_rfl) (by kernel_rfl) (fun _ _ _ h => h) (Or.inl ⟨by rfl, fun W hW => by have hcell := (hW.cell (p := ⟨w.heap.size, 2, none⟩) HL.out).trans HX2.out; clear hW; go_simp⟩) hHeld ?_
  simp only [Act.put, List.getElem_toArray, List.getElem_cons_zero, List.getElem_cons_succ, List.setIfInBounds_toArray, List.set_cons_succ, List.set_cons_zero]
  refine wpAnyH_take (i := 3) (v := .pointer (some ⟨w.heap.size, 3, none⟩)) rfl (by kernel_rfl) (by kernel_rfl) (by kernel_rfl) (fun _ _ _ h => h) (Or.inl ⟨by rfl, fun W _ => by go_simp⟩) hHeld ?_
  simp only [Act.put, List.getElem_toArray, List.getElem_cons_zero, List.getElem_cons_succ, List.setIfInBounds_toArray, List.set_cons_succ, List.set_cons_zero]
  refine wpAnyH_take (i := 4) (v := .int .i64 (S : Nat)) rfl (by kernel_rfl) (by kernel_rfl) (by kernel_rfl) (fun _ _ _ h => h) (Or.inl ⟨by rfl, fun W hW => by have hcell := (hW.cell (p := ⟨w.heap.size, 3, none⟩) HL.out).trans HX3.out; clear hW; go_simp⟩) hHeld ?_
  simp only [Act.put, List.getElem_toArray, List.getElem_cons_zero, List.getElem_cons_succ, List.setIfInBounds_toArray, List.set_cons_succ, List.set_cons_zero]
  refine wpAnyH_take (i := 7) (v := .pointer (some ⟨w.heap.size, 4, none⟩)) rfl (by kernel_rfl) (by kernel_rfl) (by kernel_rfl) (fun _ _ _ h => h) (Or.inl ⟨by rfl, fun W _ => by go_simp⟩) hHeld ?_
  simp only [Act.put, List.getElem_toArray, List.getElem_cons_zero, List.getElem_cons_succ, List.setIfInBounds_toArray, List.set_cons_succ, List.set_cons_zero]
  refine wpAnyH_take (i := 8) (v := .slice (some ⟨w.heap.size, 4, none⟩) 32 32) rfl (by kernel_rfl) (by kernel_rfl) (by kernel_rfl) (fun _ _ _ h => h) (Or.inl ⟨by rfl, fun W _ => by go_simp⟩) hHeld ?_
  simp only [Act.put, List.getElem_toArray, List.getElem_cons_zero, List.getElem_cons_succ, List.setIfInBounds_toArray, List.set_cons_succ, List.set_cons_zero]
  obtain ⟨wx, HWX⟩ : ∃ x, Hid (w1.drew = x) := ⟨_, rfl⟩
  rw [HWX.out] at hHeld ⊢
  have hH0 := hHeld
  refine wpAnyH_ready (rs := [5]) (by kernel_rfl) (by simp) ?_
  refine AllReadyH.cons rfl (fun K hK => ?_) AllReadyH.nil
  go_simp
  have hq := below_tr hH0 ((below_walk wx (.cells #[.int .i64 (V : Nat), .int .i64 (S : Nat)] 3)).mono hH0.size)
  refine hK.out _ _ hq (fun hHeld => ?_)
  clear hK K
  try simp only [Act.put, List.getElem_toArray, List.getElem_cons_zero, List.getElem_cons_succ, List.setIfInBounds_toArray, List.set_cons_succ, List.set_cons_zero]
  refine wpAnyH_ready (rs := [6]) (by kernel_rfl) (by simp) ?_
  refine AllReadyH.cons rfl (fun K hK => ?_) AllReadyH.nil
  go_simp
  refine (putCounts_own (.slice ab nb cb) _ bs [V, S] _ (HS.out.below hq) (nums_two wx V S) (by simp; omega) (by simp) (by simp) (by omega)).mono ?_
  rintro e w2 ⟨v2, rfl, ho2, hb2⟩
  have hq2 := below_tr hq (hb2.mono hq.size)
  have HO2 := hid ho2
  have HZ2 := hid hb2.size
  obtain ⟨a2, n2, c2, e2⟩ := src_named (ho2.src (by rw [List.length_append]; have := sns_length [V, S]; simp only [List.length_cons, List.length_nil] at this; omega))
  subst e2
  have HT2 := hid (show Src w2 (.slice (some ⟨w.heap.size, 4, none⟩) 32 32) f.tool from src_tool (HFB.out.below HL.out hq2) HF.out (Nat.lt_of_lt_of_le HL.out hq2.size))
  clear ho2 hb2
  go_wp2_with fail
  refine hK.out _ _ hq2 (fun hHeld => ?_)
  clear hK K
  try simp only [Act.put, List.getElem_toArray, List.getElem_cons_zero, List.getElem_cons_succ, List.setIfInBounds_toArray, List.set_cons_succ, List.set_cons_zero]
  refine wpAnyH_ready (rs := [9]) (by kernel_rfl) (by simp) ?_
  refine AllReadyH.cons rfl (fun K hK => ?_) AllReadyH.nil
  refine step_app2 (by rfl) (.tmp 11) (.tmp 13) (by rfl) (wx.alloc (.cells #[.int .i64 (V : Nat), .int .i64 (S : Nat)] 3)).heap.size _ (bs ++ sns [V, S]) (by rfl) HO2.out _ f.tool (by rfl) HT2.out (by rw [List.length_append, HF.out]; have := sns_length [V, S]; simp only [List.length_cons, List.length_nil] at this; omega) HZ2.out ?_
  intro v3 w3 ho3 hg3
  have hs3 := ho3.src (by rw [List.length_append, List.length_append, HF.out]; have := sns_length [V, S]; simp only [List.length_cons, List.length_nil] at this; omega)
  have HS3 := hid (show Src w3 v3 (bs ++ (sns [V, S] ++ f.tool)) by rw [← List.append_assoc]; exact hs3)
  have hq3 : Below w1.heap.size w1 w3 := below_tr hq2 ⟨hg3.os, hg3.tape, hg3.output, hg3.size, fun k hk => hg3.block k (by have := hq2.size; omega) (fun e => by have := (HO2.out.lt k e.symm).1; have := hq.size; omega)⟩
  obtain ⟨a3, n3, c3, e3⟩ := src_named hs3
  subst e3
  clear ho3 hg3 hs3 HO2 HT2
  refine hK.out _ _ hq3 (fun hHeld => ?_)
  clear hK K
  try simp only [Act.put, List.getElem_toArray, List.getElem_cons_zero, List.getElem_cons_succ, List.setIfInBounds_toArray, List.set_cons_succ, List.set_cons_zero]
  refine wpAnyH_take (i := 10) (v := .slice a3 n3 c3) rfl (by kernel_rfl) (by kernel_rfl) (by kernel_rfl) (fun _ _ _ h => h) (Or.inl ⟨by rfl, fun W _ => by go_simp⟩) hHeld ?_
  simp only [Act.put, List.getElem_toArray, List.getElem_cons_zero, List.getElem_cons_succ, List.setIfInBounds_toArray, List.set_cons_succ, List.set_cons_zero]
  have HB3 := hid (below_then HBL.out hq3)
  refine wpAnyH_done (by kernel_rfl) ?_ _
  simp only [noPanic]
  clear hHeld
  go_wp2
  go_ret
  exact ⟨_, rfl, HS3.out, HB3.out⟩

end Go.Proofs.Ytjinkahlfigdcaa

/- A response's fields as bytes. -/
namespace Go.Proofs.Ytjinkahlfigdcaa
open Go.RowKit Go.BigFrame

set_option maxRecDepth 100000 in
set_option maxHeartbeats 8000000 in
theorem layResponse_any (vb : Value) (bs : List UInt8) (f : Fr) (va : Value) (I S : Nat) (w : World) (hb : Src w vb bs) (hbl : bs.length ≤ 1000) (hf : f.tool.length = 32) (hi : f.id = (I : Int)) (hI : I < 18446744073709551616) (hst : f.status = (S : Int)) (k1 : S ≤ 9223372036854775807) (hB : f.body.length ≤ 2097152) :
    Calls Try.prog 83 #[vb, .agg (fcells f va).toArray] w fun e w' => ∃ v, e = .returned v ∧ Src w' v (bs ++ (sn I ++ (sns [S] ++ tx (mk f.body)))) ∧ Below w.heap.size w w' := by
  obtain ⟨ab, nb, cb, rfl⟩ := src_named hb
  have HNB := hid (hp_new w (.cells (fcells f va).toArray 29))
  have HBL := hid (below_walk w (.cells (fcells f va).toArray 29))
  have HS := hid (hb.below HBL.out)
  have HF := hid hf
  have H1 := hid hi
  have H2 := hid hst
  have HTX := hid (tx_len2 (mk f.body))
  rw [mk_size] at HTX
  have h10 := sn_length_le I
  have h20 := sns_length [S]
  simp only [List.length_cons, List.length_nil] at h20
  clear hb hf hi hst
  go_enter Try.func83, Try.ntmps83
  go_upto_region 1 with fail
  generalize w.alloc (.cells (fcells f va).toArray 29) = w1 at HNB HBL HS ⊢
  have HL := hid (hp_lt HNB.out)
  have HFB := hid (Fb.of HNB.out HF.out)
  have HX1 := hid HFB.out.i
  have HX5 := hid HFB.out.st
  have HX8 := hid HFB.out.bd
  rw [H1.out] at HX1
  rw [H2.out] at HX5
  obtain ⟨s, HSS⟩ : ∃ s, Hid (mk f.body = s) := ⟨_, rfl⟩
  rw [HSS.out] at HX8 HTX
  refine wp_noPanic (wp_region_held_drew (S := fun W => Below w1.heap.size w1 W) (by kernel_rfl) ⟨rfl, rfl, rfl, Nat.le_refl _, fun _ _ => rfl⟩ ?_)
  intro hHeld
  refine wpAnyH_take (i := 0) (v := .slice ab nb cb) rfl (by kernel_rfl) (by kernel_rfl) (by kernel_rfl) (fun _ _ _ h => h) (Or.inl ⟨by rfl, fun W _ => by go_simp⟩) hHeld ?_
  simp only [Act.put, List.getElem_toArray, List.getElem_cons_zero, List.setIfInBounds_toArray, List.set_cons_succ, List.set_cons_zero]
  refine wpAnyH_take (i := 1) (v := .pointer (some ⟨w.heap.size, 1, none⟩)) rfl (by kernel_rfl) (by kernel_rfl) (by kernel_rfl) (fun _ _ _ h => h) (Or.inl ⟨by rfl, fun W _ => by go_simp⟩) hHeld ?_
  simp only [Act.put, List.getElem_toArray, List.getElem_cons_zero, List.getElem_cons_succ, List.setIfInBounds_toArray, List.set_cons_succ, List.set_cons_zero]
  refine wpAnyH_take (i := 2) (v := .int .u64 (I : Nat)) rfl (by kernel_rfl) (by kernel_rfl) (by kernel_rfl) (fun _ _ _ h => h) (Or.inl ⟨by rfl, fun W hW => by have hcell := (hW.cell (p := ⟨w.heap.size, 1, none⟩) HL.out).trans HX1.out; clear hW; go_simp⟩) hHeld ?_
  simp only [Act.put, List.getElem_toArray, List.getElem_cons_zero, List.getElem_cons_succ, List.setIfInBounds_toArray, List.set_cons_succ, List.set_cons_zero]
  refine wpAnyH_take (i := 4) (v := .pointer (some ⟨w.heap.size, 36, none⟩)) rfl (by kernel_rfl) (by kernel_rfl) (by kernel_rfl) (fun _ _ _ h => h) (Or.inl ⟨by rfl, fun W _ => by go_simp⟩) hHeld ?_
  simp only [Act.put, List.getElem_toArray, List.getElem_cons_zero, List.getElem_cons_succ, List.setIfInBounds_toArray, List.set_cons_succ, List.set_cons_zero]
  refine wpAnyH_take (i := 5) (v := .int .i64 (S : Nat)) rfl (by kernel_rfl) (by kernel_rfl) (by kernel_rfl) (fun _ _ _ h => h) (Or.inl ⟨by rfl, fun W hW => by have hcell := (hW.cell (p := ⟨w.heap.size, 36, none⟩) HL.out).trans HX5.out; clear hW; go_simp⟩) hHeld ?_
  simp only [Act.put, List.getElem_toArray, List.getElem_cons_zero, List.getElem_cons_succ, List.setIfInBounds_toArray, List.set_cons_succ, List.set_cons_zero]
  refine wpAnyH_take (i := 8) (v := .pointer (some ⟨w.heap.size, 41, none⟩)) rfl (by kernel_rfl) (by kernel_rfl) (by kernel_rfl) (fun _ _ _ h => h) (Or.inl ⟨by rfl, fun W _ => by go_simp⟩) hHeld ?_
  simp only [Act.put, List.getElem_toArray, List.getElem_cons_zero, List.getElem_cons_succ, List.setIfInBounds_toArray, List.set_cons_succ, List.set_cons_zero]
  refine wpAnyH_take (i := 9) (v := .string s) rfl (by kernel_rfl) (by kernel_rfl) (by kernel_rfl) (fun _ _ _ h => h) (Or.inl ⟨by rfl, fun W hW => by have hcell := (hW.cell (p := ⟨w.heap.size, 41, none⟩) HL.out).trans HX8.out; clear hW; go_simp⟩) hHeld ?_
  simp only [Act.put, List.getElem_toArray, List.getElem_cons_zero, List.getElem_cons_succ, List.setIfInBounds_toArray, List.set_cons_succ, List.set_cons_zero]
  obtain ⟨wx, HWX⟩ : ∃ x, Hid (w1.drew = x) := ⟨_, rfl⟩
  rw [HWX.out] at hHeld ⊢
  have hH0 := hHeld
  have hS0 := HS.out.below hH0
  refine wpAnyH_ready (rs := [3, 6, 10]) (by kernel_rfl) (by simp) ?_
  refine AllReadyH.cons rfl (fun K hK => ?_) (AllReadyH.cons rfl (fun K hK => ?_) (AllReadyH.cons rfl (fun K hK => ?_) AllReadyH.nil))
  · go_simp
    refine (putUint_any _ bs I wx hS0 hI (by omega)).mono ?_
    rintro e wk1 ⟨v3, rfl, ho1, hb1⟩
    have hq1 := below_tr hH0 (hb1.mono hH0.size)
    have sx1 := hS0.below hb1
    have v3x1 := ho1.src (by rw [List.length_append]; omega)
    obtain ⟨a3, n3, c3, e3⟩ := src_named v3x1
    subst e3
    clear ho1 hb1
    go_wp2_with fail
    refine hK.out _ _ hq1 (fun hHeld => ?_)
    clear hK K
    try simp only [Act.put, List.getElem_toArray, List.getElem_cons_zero, List.getElem_cons_succ, List.setIfInBounds_toArray, List.set_cons_succ, List.set_cons_zero]
    refine wpAnyH_ready (rs := [6, 10]) (by kernel_rfl) (by simp) ?_
    refine AllReadyH.cons rfl (fun K hK => ?_) (AllReadyH.cons rfl (fun K hK => ?_) AllReadyH.nil)
    · go_simp
      have hb2 := below_walk wk1 (.cells #[.int .i64 (S : Nat)] 3)
      have hq2 := below_tr hq1 (hb2.mono hq1.size)
      have sx2 := sx1.below hb2
      have v3x2 := v3x1.below hb2
      have n6x2 := nums_one wk1 S
      refine hK.out _ _ hq2 (fun hHeld => ?_)
      clear hK K
      try simp only [Act.put, List.getElem_toArray, List.getElem_cons_zero, List.getElem_cons_succ, List.setIfInBounds_toArray, List.set_cons_succ, List.set_cons_zero]
      obtain ⟨wn2, hwn2⟩ : ∃ x, (wk1.alloc (.cells #[.int .i64 (S : Nat)] 3)) = x := ⟨_, rfl⟩
      rw [hwn2] at hq2 hHeld sx2 v3x2 n6x2 ⊢
      clear hb2
      refine wpAnyH_ready (rs := [7, 10]) (by kernel_rfl) (by simp) ?_
      refine AllReadyH.cons rfl (fun K hK => ?_) (AllReadyH.cons rfl (fun K hK => ?_) AllReadyH.nil)
      · go_simp
        refine (putCounts_any _ _ (bs ++ sn I) [S] wn2 v3x2 n6x2 (by simp; omega) (by simp) (by rw [List.length_append]; omega)).mono ?_
        rintro e wk3 ⟨v7, rfl, ho3, hb3⟩
        have hq3 := below_tr hq2 (hb3.mono hq2.size)
        have sx3 := sx2.below hb3
        have v3x3 := v3x2.below hb3
        have n6x3 := n6x2.below hb3
        have v7x3 := ho3
        obtain ⟨a7, n7, c7, e7⟩ := src_named v7x3
        subst e7
        clear ho3 hb3
        go_wp2_with fail
        refine hK.out _ _ hq3 (fun hHeld => ?_)
        clear hK K
        try simp only [Act.put, List.getElem_toArray, List.getElem_cons_zero, List.getElem_cons_succ, List.setIfInBounds_toArray, List.set_cons_succ, List.set_cons_zero]
        refine wpAnyH_ready (rs := [10]) (by kernel_rfl) (by simp) ?_
        refine AllReadyH.cons rfl (fun K hK => ?_) AllReadyH.nil
        go_simp
        have hb4 := below_walk wk3 (.cells #[.string s] 9)
        have hq4 := below_tr hq3 (hb4.mono hq3.size)
        have sx4 := sx3.below hb4
        have v3x4 := v3x3.below hb4
        have n6x4 := n6x3.below hb4
        have v7x4 := v7x3.below hb4
        have t10x4 := wstrs_one wk3 s
        refine hK.out _ _ hq4 (fun hHeld => ?_)
        clear hK K
        try simp only [Act.put, List.getElem_toArray, List.getElem_cons_zero, List.getElem_cons_succ, List.setIfInBounds_toArray, List.set_cons_succ, List.set_cons_zero]
        obtain ⟨wn4, hwn4⟩ : ∃ x, (wk3.alloc (.cells #[.string s] 9)) = x := ⟨_, rfl⟩
        rw [hwn4] at hq4 hHeld sx4 v3x4 n6x4 v7x4 t10x4 ⊢
        clear hb4
        refine wpAnyH_ready (rs := [11]) (by kernel_rfl) (by simp) ?_
        refine AllReadyH.cons rfl (fun K hK => ?_) AllReadyH.nil
        go_simp
        refine (putText_any _ (bs ++ sn I ++ sns [S]) _ [s] wn4 v7x4 t10x4 (by rw [List.length_append, List.length_append]; omega) (by rw [txs_one]; have := HTX.out; omega)).mono ?_
        rw [txs_one]
        rintro e wk5 ⟨v11, rfl, ho5, hb5⟩
        have hq5 := below_tr hq4 (hb5.mono hq4.size)
        have sx5 := sx4.below hb5
        have v3x5 := v3x4.below hb5
        have n6x5 := n6x4.below hb5
        have v7x5 := v7x4.below hb5
        have t10x5 := t10x4.below hb5
        have v11x5 := ho5.src (by rw [List.length_append, List.length_append, List.length_append]; have := HTX.out; omega)
        have HS9 := hid (show Src wk5 v11 (bs ++ (sn I ++ (sns [S] ++ tx s))) by simpa only [List.append_assoc] using v11x5)
        obtain ⟨a11, n11, c11, e11⟩ := src_named v11x5
        subst e11
        clear ho5 hb5
        go_wp2_with fail
        refine hK.out _ _ hq5 (fun hHeld => ?_)
        clear hK K
        try simp only [Act.put, List.getElem_toArray, List.getElem_cons_zero, List.getElem_cons_succ, List.setIfInBounds_toArray, List.set_cons_succ, List.set_cons_zero]
        refine wpAnyH_take (i := 12) (v := .slice a11 n11 c11) rfl (by kernel_rfl) (by kernel_rfl) (by kernel_rfl) (fun _ _ _ h => h) (Or.inl ⟨by rfl, fun W _ => by go_simp⟩) hHeld ?_
        simp only [Act.put, List.getElem_toArray, List.getElem_cons_zero, List.getElem_cons_succ, List.setIfInBounds_toArray, List.set_cons_succ, List.set_cons_zero]
        have HB9 := hid (below_then HBL.out hq5)
        refine wpAnyH_done (by kernel_rfl) ?_ _
        simp only [noPanic]
        clear hHeld
        go_wp2
        go_ret
        exact ⟨_, rfl, by rw [HSS.out]; exact HS9.out, HB9.out⟩
      · go_simp
        have hb6 := below_walk wn2 (.cells #[.string s] 9)
        have hq6 := below_tr hq2 (hb6.mono hq2.size)
        have sx6 := sx2.below hb6
        have v3x6 := v3x2.below hb6
        have n6x6 := n6x2.below hb6
        have t10x6 := wstrs_one wn2 s
        refine hK.out _ _ hq6 (fun hHeld => ?_)
        clear hK K
        try simp only [Act.put, List.getElem_toArray, List.getElem_cons_zero, List.getElem_cons_succ, List.setIfInBounds_toArray, List.set_cons_succ, List.set_cons_zero]
        obtain ⟨wn6, hwn6⟩ : ∃ x, (wn2.alloc (.cells #[.string s] 9)) = x := ⟨_, rfl⟩
        rw [hwn6] at hq6 hHeld sx6 v3x6 n6x6 t10x6 ⊢
        clear hb6
        refine wpAnyH_ready (rs := [7]) (by kernel_rfl) (by simp) ?_
        refine AllReadyH.cons rfl (fun K hK => ?_) AllReadyH.nil
        go_simp
        refine (putCounts_any _ _ (bs ++ sn I) [S] wn6 v3x6 n6x6 (by simp; omega) (by simp) (by rw [List.length_append]; omega)).mono ?_
        rintro e wk7 ⟨v7, rfl, ho7, hb7⟩
        have hq7 := below_tr hq6 (hb7.mono hq6.size)
        have sx7 := sx6.below hb7
        have v3x7 := v3x6.below hb7
        have n6x7 := n6x6.below hb7
        have t10x7 := t10x6.below hb7
        have v7x7 := ho7
        obtain ⟨a7, n7, c7, e7⟩ := src_named v7x7
        subst e7
        clear ho7 hb7
        go_wp2_with fail
        refine hK.out _ _ hq7 (fun hHeld => ?_)
        clear hK K
        try simp only [Act.put, List.getElem_toArray, List.getElem_cons_zero, List.getElem_cons_succ, List.setIfInBounds_toArray, List.set_cons_succ, List.set_cons_zero]
        refine wpAnyH_ready (rs := [11]) (by kernel_rfl) (by simp) ?_
        refine AllReadyH.cons rfl (fun K hK => ?_) AllReadyH.nil
        go_simp
        refine (putText_any _ (bs ++ sn I ++ sns [S]) _ [s] wk7 v7x7 t10x7 (by rw [List.length_append, List.length_append]; omega) (by rw [txs_one]; have := HTX.out; omega)).mono ?_
        rw [txs_one]
        rintro e wk8 ⟨v11, rfl, ho8, hb8⟩
        have hq8 := below_tr hq7 (hb8.mono hq7.size)
        have sx8 := sx7.below hb8
        have v3x8 := v3x7.below hb8
        have n6x8 := n6x7.below hb8
        have t10x8 := t10x7.below hb8
        have v7x8 := v7x7.below hb8
        have v11x8 := ho8.src (by rw [List.length_append, List.length_append, List.length_append]; have := HTX.out; omega)
        have HS9 := hid (show Src wk8 v11 (bs ++ (sn I ++ (sns [S] ++ tx s))) by simpa only [List.append_assoc] using v11x8)
        obtain ⟨a11, n11, c11, e11⟩ := src_named v11x8
        subst e11
        clear ho8 hb8
        go_wp2_with fail
        refine hK.out _ _ hq8 (fun hHeld => ?_)
        clear hK K
        try simp only [Act.put, List.getElem_toArray, List.getElem_cons_zero, List.getElem_cons_succ, List.setIfInBounds_toArray, List.set_cons_succ, List.set_cons_zero]
        refine wpAnyH_take (i := 12) (v := .slice a11 n11 c11) rfl (by kernel_rfl) (by kernel_rfl) (by kernel_rfl) (fun _ _ _ h => h) (Or.inl ⟨by rfl, fun W _ => by go_simp⟩) hHeld ?_
        simp only [Act.put, List.getElem_toArray, List.getElem_cons_zero, List.getElem_cons_succ, List.setIfInBounds_toArray, List.set_cons_succ, List.set_cons_zero]
        have HB9 := hid (below_then HBL.out hq8)
        refine wpAnyH_done (by kernel_rfl) ?_ _
        simp only [noPanic]
        clear hHeld
        go_wp2
        go_ret
        exact ⟨_, rfl, by rw [HSS.out]; exact HS9.out, HB9.out⟩
    · go_simp
      have hb9 := below_walk wk1 (.cells #[.string s] 9)
      have hq9 := below_tr hq1 (hb9.mono hq1.size)
      have sx9 := sx1.below hb9
      have v3x9 := v3x1.below hb9
      have t10x9 := wstrs_one wk1 s
      refine hK.out _ _ hq9 (fun hHeld => ?_)
      clear hK K
      try simp only [Act.put, List.getElem_toArray, List.getElem_cons_zero, List.getElem_cons_succ, List.setIfInBounds_toArray, List.set_cons_succ, List.set_cons_zero]
      obtain ⟨wn9, hwn9⟩ : ∃ x, (wk1.alloc (.cells #[.string s] 9)) = x := ⟨_, rfl⟩
      rw [hwn9] at hq9 hHeld sx9 v3x9 t10x9 ⊢
      clear hb9
      refine wpAnyH_ready (rs := [6]) (by kernel_rfl) (by simp) ?_
      refine AllReadyH.cons rfl (fun K hK => ?_) AllReadyH.nil
      go_simp
      have hb10 := below_walk wn9 (.cells #[.int .i64 (S : Nat)] 3)
      have hq10 := below_tr hq9 (hb10.mono hq9.size)
      have sx10 := sx9.below hb10
      have v3x10 := v3x9.below hb10
      have t10x10 := t10x9.below hb10
      have n6x10 := nums_one wn9 S
      refine hK.out _ _ hq10 (fun hHeld => ?_)
      clear hK K
      try simp only [Act.put, List.getElem_toArray, List.getElem_cons_zero, List.getElem_cons_succ, List.setIfInBounds_toArray, List.set_cons_succ, List.set_cons_zero]
      obtain ⟨wn10, hwn10⟩ : ∃ x, (wn9.alloc (.cells #[.int .i64 (S : Nat)] 3)) = x := ⟨_, rfl⟩
      rw [hwn10] at hq10 hHeld sx10 v3x10 t10x10 n6x10 ⊢
      clear hb10
      refine wpAnyH_ready (rs := [7]) (by kernel_rfl) (by simp) ?_
      refine AllReadyH.cons rfl (fun K hK => ?_) AllReadyH.nil
      go_simp
      refine (putCounts_any _ _ (bs ++ sn I) [S] wn10 v3x10 n6x10 (by simp; omega) (by simp) (by rw [List.length_append]; omega)).mono ?_
      rintro e wk11 ⟨v7, rfl, ho11, hb11⟩
      have hq11 := below_tr hq10 (hb11.mono hq10.size)
      have sx11 := sx10.below hb11
      have v3x11 := v3x10.below hb11
      have t10x11 := t10x10.below hb11
      have n6x11 := n6x10.below hb11
      have v7x11 := ho11
      obtain ⟨a7, n7, c7, e7⟩ := src_named v7x11
      subst e7
      clear ho11 hb11
      go_wp2_with fail
      refine hK.out _ _ hq11 (fun hHeld => ?_)
      clear hK K
      try simp only [Act.put, List.getElem_toArray, List.getElem_cons_zero, List.getElem_cons_succ, List.setIfInBounds_toArray, List.set_cons_succ, List.set_cons_zero]
      refine wpAnyH_ready (rs := [11]) (by kernel_rfl) (by simp) ?_
      refine AllReadyH.cons rfl (fun K hK => ?_) AllReadyH.nil
      go_simp
      refine (putText_any _ (bs ++ sn I ++ sns [S]) _ [s] wk11 v7x11 t10x11 (by rw [List.length_append, List.length_append]; omega) (by rw [txs_one]; have := HTX.out; omega)).mono ?_
      rw [txs_one]
      rintro e wk12 ⟨v11, rfl, ho12, hb12⟩
      have hq12 := below_tr hq11 (hb12.mono hq11.size)
      have sx12 := sx11.below hb12
      have v3x12 := v3x11.below hb12
      have t10x12 := t10x11.below hb12
      have n6x12 := n6x11.below hb12
      have v7x12 := v7x11.below hb12
      have v11x12 := ho12.src (by rw [List.length_append, List.length_append, List.length_append]; have := HTX.out; omega)
      have HS9 := hid (show Src wk12 v11 (bs ++ (sn I ++ (sns [S] ++ tx s))) by simpa only [List.append_assoc] using v11x12)
      obtain ⟨a11, n11, c11, e11⟩ := src_named v11x12
      subst e11
      clear ho12 hb12
      go_wp2_with fail
      refine hK.out _ _ hq12 (fun hHeld => ?_)
      clear hK K
      try simp only [Act.put, List.getElem_toArray, List.getElem_cons_zero, List.getElem_cons_succ, List.setIfInBounds_toArray, List.set_cons_succ, List.set_cons_zero]
      refine wpAnyH_take (i := 12) (v := .slice a11 n11 c11) rfl (by kernel_rfl) (by kernel_rfl) (by kernel_rfl) (fun _ _ _ h => h) (Or.inl ⟨by rfl, fun W _ => by go_simp⟩) hHeld ?_
      simp only [Act.put, List.getElem_toArray, List.getElem_cons_zero, List.getElem_cons_succ, List.setIfInBounds_toArray, List.set_cons_succ, List.set_cons_zero]
      have HB9 := hid (below_then HBL.out hq12)
      refine wpAnyH_done (by kernel_rfl) ?_ _
      simp only [noPanic]
      clear hHeld
      go_wp2
      go_ret
      exact ⟨_, rfl, by rw [HSS.out]; exact HS9.out, HB9.out⟩
  · go_simp
    have hb13 := below_walk wx (.cells #[.int .i64 (S : Nat)] 3)
    have hq13 := below_tr hH0 (hb13.mono hH0.size)
    have sx13 := hS0.below hb13
    have n6x13 := nums_one wx S
    refine hK.out _ _ hq13 (fun hHeld => ?_)
    clear hK K
    try simp only [Act.put, List.getElem_toArray, List.getElem_cons_zero, List.getElem_cons_succ, List.setIfInBounds_toArray, List.set_cons_succ, List.set_cons_zero]
    obtain ⟨wn13, hwn13⟩ : ∃ x, (wx.alloc (.cells #[.int .i64 (S : Nat)] 3)) = x := ⟨_, rfl⟩
    rw [hwn13] at hq13 hHeld sx13 n6x13 ⊢
    clear hb13
    refine wpAnyH_ready (rs := [3, 10]) (by kernel_rfl) (by simp) ?_
    refine AllReadyH.cons rfl (fun K hK => ?_) (AllReadyH.cons rfl (fun K hK => ?_) AllReadyH.nil)
    · go_simp
      refine (putUint_any _ bs I wn13 sx13 hI (by omega)).mono ?_
      rintro e wk14 ⟨v3, rfl, ho14, hb14⟩
      have hq14 := below_tr hq13 (hb14.mono hq13.size)
      have sx14 := sx13.below hb14
      have n6x14 := n6x13.below hb14
      have v3x14 := ho14.src (by rw [List.length_append]; omega)
      obtain ⟨a3, n3, c3, e3⟩ := src_named v3x14
      subst e3
      clear ho14 hb14
      go_wp2_with fail
      refine hK.out _ _ hq14 (fun hHeld => ?_)
      clear hK K
      try simp only [Act.put, List.getElem_toArray, List.getElem_cons_zero, List.getElem_cons_succ, List.setIfInBounds_toArray, List.set_cons_succ, List.set_cons_zero]
      refine wpAnyH_ready (rs := [7, 10]) (by kernel_rfl) (by simp) ?_
      refine AllReadyH.cons rfl (fun K hK => ?_) (AllReadyH.cons rfl (fun K hK => ?_) AllReadyH.nil)
      · go_simp
        refine (putCounts_any _ _ (bs ++ sn I) [S] wk14 v3x14 n6x14 (by simp; omega) (by simp) (by rw [List.length_append]; omega)).mono ?_
        rintro e wk15 ⟨v7, rfl, ho15, hb15⟩
        have hq15 := below_tr hq14 (hb15.mono hq14.size)
        have sx15 := sx14.below hb15
        have n6x15 := n6x14.below hb15
        have v3x15 := v3x14.below hb15
        have v7x15 := ho15
        obtain ⟨a7, n7, c7, e7⟩ := src_named v7x15
        subst e7
        clear ho15 hb15
        go_wp2_with fail
        refine hK.out _ _ hq15 (fun hHeld => ?_)
        clear hK K
        try simp only [Act.put, List.getElem_toArray, List.getElem_cons_zero, List.getElem_cons_succ, List.setIfInBounds_toArray, List.set_cons_succ, List.set_cons_zero]
        refine wpAnyH_ready (rs := [10]) (by kernel_rfl) (by simp) ?_
        refine AllReadyH.cons rfl (fun K hK => ?_) AllReadyH.nil
        go_simp
        have hb16 := below_walk wk15 (.cells #[.string s] 9)
        have hq16 := below_tr hq15 (hb16.mono hq15.size)
        have sx16 := sx15.below hb16
        have n6x16 := n6x15.below hb16
        have v3x16 := v3x15.below hb16
        have v7x16 := v7x15.below hb16
        have t10x16 := wstrs_one wk15 s
        refine hK.out _ _ hq16 (fun hHeld => ?_)
        clear hK K
        try simp only [Act.put, List.getElem_toArray, List.getElem_cons_zero, List.getElem_cons_succ, List.setIfInBounds_toArray, List.set_cons_succ, List.set_cons_zero]
        obtain ⟨wn16, hwn16⟩ : ∃ x, (wk15.alloc (.cells #[.string s] 9)) = x := ⟨_, rfl⟩
        rw [hwn16] at hq16 hHeld sx16 n6x16 v3x16 v7x16 t10x16 ⊢
        clear hb16
        refine wpAnyH_ready (rs := [11]) (by kernel_rfl) (by simp) ?_
        refine AllReadyH.cons rfl (fun K hK => ?_) AllReadyH.nil
        go_simp
        refine (putText_any _ (bs ++ sn I ++ sns [S]) _ [s] wn16 v7x16 t10x16 (by rw [List.length_append, List.length_append]; omega) (by rw [txs_one]; have := HTX.out; omega)).mono ?_
        rw [txs_one]
        rintro e wk17 ⟨v11, rfl, ho17, hb17⟩
        have hq17 := below_tr hq16 (hb17.mono hq16.size)
        have sx17 := sx16.below hb17
        have n6x17 := n6x16.below hb17
        have v3x17 := v3x16.below hb17
        have v7x17 := v7x16.below hb17
        have t10x17 := t10x16.below hb17
        have v11x17 := ho17.src (by rw [List.length_append, List.length_append, List.length_append]; have := HTX.out; omega)
        have HS9 := hid (show Src wk17 v11 (bs ++ (sn I ++ (sns [S] ++ tx s))) by simpa only [List.append_assoc] using v11x17)
        obtain ⟨a11, n11, c11, e11⟩ := src_named v11x17
        subst e11
        clear ho17 hb17
        go_wp2_with fail
        refine hK.out _ _ hq17 (fun hHeld => ?_)
        clear hK K
        try simp only [Act.put, List.getElem_toArray, List.getElem_cons_zero, List.getElem_cons_succ, List.setIfInBounds_toArray, List.set_cons_succ, List.set_cons_zero]
        refine wpAnyH_take (i := 12) (v := .slice a11 n11 c11) rfl (by kernel_rfl) (by kernel_rfl) (by kernel_rfl) (fun _ _ _ h => h) (Or.inl ⟨by rfl, fun W _ => by go_simp⟩) hHeld ?_
        simp only [Act.put, List.getElem_toArray, List.getElem_cons_zero, List.getElem_cons_succ, List.setIfInBounds_toArray, List.set_cons_succ, List.set_cons_zero]
        have HB9 := hid (below_then HBL.out hq17)
        refine wpAnyH_done (by kernel_rfl) ?_ _
        simp only [noPanic]
        clear hHeld
        go_wp2
        go_ret
        exact ⟨_, rfl, by rw [HSS.out]; exact HS9.out, HB9.out⟩
      · go_simp
        have hb18 := below_walk wk14 (.cells #[.string s] 9)
        have hq18 := below_tr hq14 (hb18.mono hq14.size)
        have sx18 := sx14.below hb18
        have n6x18 := n6x14.below hb18
        have v3x18 := v3x14.below hb18
        have t10x18 := wstrs_one wk14 s
        refine hK.out _ _ hq18 (fun hHeld => ?_)
        clear hK K
        try simp only [Act.put, List.getElem_toArray, List.getElem_cons_zero, List.getElem_cons_succ, List.setIfInBounds_toArray, List.set_cons_succ, List.set_cons_zero]
        obtain ⟨wn18, hwn18⟩ : ∃ x, (wk14.alloc (.cells #[.string s] 9)) = x := ⟨_, rfl⟩
        rw [hwn18] at hq18 hHeld sx18 n6x18 v3x18 t10x18 ⊢
        clear hb18
        refine wpAnyH_ready (rs := [7]) (by kernel_rfl) (by simp) ?_
        refine AllReadyH.cons rfl (fun K hK => ?_) AllReadyH.nil
        go_simp
        refine (putCounts_any _ _ (bs ++ sn I) [S] wn18 v3x18 n6x18 (by simp; omega) (by simp) (by rw [List.length_append]; omega)).mono ?_
        rintro e wk19 ⟨v7, rfl, ho19, hb19⟩
        have hq19 := below_tr hq18 (hb19.mono hq18.size)
        have sx19 := sx18.below hb19
        have n6x19 := n6x18.below hb19
        have v3x19 := v3x18.below hb19
        have t10x19 := t10x18.below hb19
        have v7x19 := ho19
        obtain ⟨a7, n7, c7, e7⟩ := src_named v7x19
        subst e7
        clear ho19 hb19
        go_wp2_with fail
        refine hK.out _ _ hq19 (fun hHeld => ?_)
        clear hK K
        try simp only [Act.put, List.getElem_toArray, List.getElem_cons_zero, List.getElem_cons_succ, List.setIfInBounds_toArray, List.set_cons_succ, List.set_cons_zero]
        refine wpAnyH_ready (rs := [11]) (by kernel_rfl) (by simp) ?_
        refine AllReadyH.cons rfl (fun K hK => ?_) AllReadyH.nil
        go_simp
        refine (putText_any _ (bs ++ sn I ++ sns [S]) _ [s] wk19 v7x19 t10x19 (by rw [List.length_append, List.length_append]; omega) (by rw [txs_one]; have := HTX.out; omega)).mono ?_
        rw [txs_one]
        rintro e wk20 ⟨v11, rfl, ho20, hb20⟩
        have hq20 := below_tr hq19 (hb20.mono hq19.size)
        have sx20 := sx19.below hb20
        have n6x20 := n6x19.below hb20
        have v3x20 := v3x19.below hb20
        have t10x20 := t10x19.below hb20
        have v7x20 := v7x19.below hb20
        have v11x20 := ho20.src (by rw [List.length_append, List.length_append, List.length_append]; have := HTX.out; omega)
        have HS9 := hid (show Src wk20 v11 (bs ++ (sn I ++ (sns [S] ++ tx s))) by simpa only [List.append_assoc] using v11x20)
        obtain ⟨a11, n11, c11, e11⟩ := src_named v11x20
        subst e11
        clear ho20 hb20
        go_wp2_with fail
        refine hK.out _ _ hq20 (fun hHeld => ?_)
        clear hK K
        try simp only [Act.put, List.getElem_toArray, List.getElem_cons_zero, List.getElem_cons_succ, List.setIfInBounds_toArray, List.set_cons_succ, List.set_cons_zero]
        refine wpAnyH_take (i := 12) (v := .slice a11 n11 c11) rfl (by kernel_rfl) (by kernel_rfl) (by kernel_rfl) (fun _ _ _ h => h) (Or.inl ⟨by rfl, fun W _ => by go_simp⟩) hHeld ?_
        simp only [Act.put, List.getElem_toArray, List.getElem_cons_zero, List.getElem_cons_succ, List.setIfInBounds_toArray, List.set_cons_succ, List.set_cons_zero]
        have HB9 := hid (below_then HBL.out hq20)
        refine wpAnyH_done (by kernel_rfl) ?_ _
        simp only [noPanic]
        clear hHeld
        go_wp2
        go_ret
        exact ⟨_, rfl, by rw [HSS.out]; exact HS9.out, HB9.out⟩
    · go_simp
      have hb21 := below_walk wn13 (.cells #[.string s] 9)
      have hq21 := below_tr hq13 (hb21.mono hq13.size)
      have sx21 := sx13.below hb21
      have n6x21 := n6x13.below hb21
      have t10x21 := wstrs_one wn13 s
      refine hK.out _ _ hq21 (fun hHeld => ?_)
      clear hK K
      try simp only [Act.put, List.getElem_toArray, List.getElem_cons_zero, List.getElem_cons_succ, List.setIfInBounds_toArray, List.set_cons_succ, List.set_cons_zero]
      obtain ⟨wn21, hwn21⟩ : ∃ x, (wn13.alloc (.cells #[.string s] 9)) = x := ⟨_, rfl⟩
      rw [hwn21] at hq21 hHeld sx21 n6x21 t10x21 ⊢
      clear hb21
      refine wpAnyH_ready (rs := [3]) (by kernel_rfl) (by simp) ?_
      refine AllReadyH.cons rfl (fun K hK => ?_) AllReadyH.nil
      go_simp
      refine (putUint_any _ bs I wn21 sx21 hI (by omega)).mono ?_
      rintro e wk22 ⟨v3, rfl, ho22, hb22⟩
      have hq22 := below_tr hq21 (hb22.mono hq21.size)
      have sx22 := sx21.below hb22
      have n6x22 := n6x21.below hb22
      have t10x22 := t10x21.below hb22
      have v3x22 := ho22.src (by rw [List.length_append]; omega)
      obtain ⟨a3, n3, c3, e3⟩ := src_named v3x22
      subst e3
      clear ho22 hb22
      go_wp2_with fail
      refine hK.out _ _ hq22 (fun hHeld => ?_)
      clear hK K
      try simp only [Act.put, List.getElem_toArray, List.getElem_cons_zero, List.getElem_cons_succ, List.setIfInBounds_toArray, List.set_cons_succ, List.set_cons_zero]
      refine wpAnyH_ready (rs := [7]) (by kernel_rfl) (by simp) ?_
      refine AllReadyH.cons rfl (fun K hK => ?_) AllReadyH.nil
      go_simp
      refine (putCounts_any _ _ (bs ++ sn I) [S] wk22 v3x22 n6x22 (by simp; omega) (by simp) (by rw [List.length_append]; omega)).mono ?_
      rintro e wk23 ⟨v7, rfl, ho23, hb23⟩
      have hq23 := below_tr hq22 (hb23.mono hq22.size)
      have sx23 := sx22.below hb23
      have n6x23 := n6x22.below hb23
      have t10x23 := t10x22.below hb23
      have v3x23 := v3x22.below hb23
      have v7x23 := ho23
      obtain ⟨a7, n7, c7, e7⟩ := src_named v7x23
      subst e7
      clear ho23 hb23
      go_wp2_with fail
      refine hK.out _ _ hq23 (fun hHeld => ?_)
      clear hK K
      try simp only [Act.put, List.getElem_toArray, List.getElem_cons_zero, List.getElem_cons_succ, List.setIfInBounds_toArray, List.set_cons_succ, List.set_cons_zero]
      refine wpAnyH_ready (rs := [11]) (by kernel_rfl) (by simp) ?_
      refine AllReadyH.cons rfl (fun K hK => ?_) AllReadyH.nil
      go_simp
      refine (putText_any _ (bs ++ sn I ++ sns [S]) _ [s] wk23 v7x23 t10x23 (by rw [List.length_append, List.length_append]; omega) (by rw [txs_one]; have := HTX.out; omega)).mono ?_
      rw [txs_one]
      rintro e wk24 ⟨v11, rfl, ho24, hb24⟩
      have hq24 := below_tr hq23 (hb24.mono hq23.size)
      have sx24 := sx23.below hb24
      have n6x24 := n6x23.below hb24
      have t10x24 := t10x23.below hb24
      have v3x24 := v3x23.below hb24
      have v7x24 := v7x23.below hb24
      have v11x24 := ho24.src (by rw [List.length_append, List.length_append, List.length_append]; have := HTX.out; omega)
      have HS9 := hid (show Src wk24 v11 (bs ++ (sn I ++ (sns [S] ++ tx s))) by simpa only [List.append_assoc] using v11x24)
      obtain ⟨a11, n11, c11, e11⟩ := src_named v11x24
      subst e11
      clear ho24 hb24
      go_wp2_with fail
      refine hK.out _ _ hq24 (fun hHeld => ?_)
      clear hK K
      try simp only [Act.put, List.getElem_toArray, List.getElem_cons_zero, List.getElem_cons_succ, List.setIfInBounds_toArray, List.set_cons_succ, List.set_cons_zero]
      refine wpAnyH_take (i := 12) (v := .slice a11 n11 c11) rfl (by kernel_rfl) (by kernel_rfl) (by kernel_rfl) (fun _ _ _ h => h) (Or.inl ⟨by rfl, fun W _ => by go_simp⟩) hHeld ?_
      simp only [Act.put, List.getElem_toArray, List.getElem_cons_zero, List.getElem_cons_succ, List.setIfInBounds_toArray, List.set_cons_succ, List.set_cons_zero]
      have HB9 := hid (below_then HBL.out hq24)
      refine wpAnyH_done (by kernel_rfl) ?_ _
      simp only [noPanic]
      clear hHeld
      go_wp2
      go_ret
      exact ⟨_, rfl, by rw [HSS.out]; exact HS9.out, HB9.out⟩
  · go_simp
    have hb25 := below_walk wx (.cells #[.string s] 9)
    have hq25 := below_tr hH0 (hb25.mono hH0.size)
    have sx25 := hS0.below hb25
    have t10x25 := wstrs_one wx s
    refine hK.out _ _ hq25 (fun hHeld => ?_)
    clear hK K
    try simp only [Act.put, List.getElem_toArray, List.getElem_cons_zero, List.getElem_cons_succ, List.setIfInBounds_toArray, List.set_cons_succ, List.set_cons_zero]
    obtain ⟨wn25, hwn25⟩ : ∃ x, (wx.alloc (.cells #[.string s] 9)) = x := ⟨_, rfl⟩
    rw [hwn25] at hq25 hHeld sx25 t10x25 ⊢
    clear hb25
    refine wpAnyH_ready (rs := [3, 6]) (by kernel_rfl) (by simp) ?_
    refine AllReadyH.cons rfl (fun K hK => ?_) (AllReadyH.cons rfl (fun K hK => ?_) AllReadyH.nil)
    · go_simp
      refine (putUint_any _ bs I wn25 sx25 hI (by omega)).mono ?_
      rintro e wk26 ⟨v3, rfl, ho26, hb26⟩
      have hq26 := below_tr hq25 (hb26.mono hq25.size)
      have sx26 := sx25.below hb26
      have t10x26 := t10x25.below hb26
      have v3x26 := ho26.src (by rw [List.length_append]; omega)
      obtain ⟨a3, n3, c3, e3⟩ := src_named v3x26
      subst e3
      clear ho26 hb26
      go_wp2_with fail
      refine hK.out _ _ hq26 (fun hHeld => ?_)
      clear hK K
      try simp only [Act.put, List.getElem_toArray, List.getElem_cons_zero, List.getElem_cons_succ, List.setIfInBounds_toArray, List.set_cons_succ, List.set_cons_zero]
      refine wpAnyH_ready (rs := [6]) (by kernel_rfl) (by simp) ?_
      refine AllReadyH.cons rfl (fun K hK => ?_) AllReadyH.nil
      go_simp
      have hb27 := below_walk wk26 (.cells #[.int .i64 (S : Nat)] 3)
      have hq27 := below_tr hq26 (hb27.mono hq26.size)
      have sx27 := sx26.below hb27
      have t10x27 := t10x26.below hb27
      have v3x27 := v3x26.below hb27
      have n6x27 := nums_one wk26 S
      refine hK.out _ _ hq27 (fun hHeld => ?_)
      clear hK K
      try simp only [Act.put, List.getElem_toArray, List.getElem_cons_zero, List.getElem_cons_succ, List.setIfInBounds_toArray, List.set_cons_succ, List.set_cons_zero]
      obtain ⟨wn27, hwn27⟩ : ∃ x, (wk26.alloc (.cells #[.int .i64 (S : Nat)] 3)) = x := ⟨_, rfl⟩
      rw [hwn27] at hq27 hHeld sx27 t10x27 v3x27 n6x27 ⊢
      clear hb27
      refine wpAnyH_ready (rs := [7]) (by kernel_rfl) (by simp) ?_
      refine AllReadyH.cons rfl (fun K hK => ?_) AllReadyH.nil
      go_simp
      refine (putCounts_any _ _ (bs ++ sn I) [S] wn27 v3x27 n6x27 (by simp; omega) (by simp) (by rw [List.length_append]; omega)).mono ?_
      rintro e wk28 ⟨v7, rfl, ho28, hb28⟩
      have hq28 := below_tr hq27 (hb28.mono hq27.size)
      have sx28 := sx27.below hb28
      have t10x28 := t10x27.below hb28
      have v3x28 := v3x27.below hb28
      have n6x28 := n6x27.below hb28
      have v7x28 := ho28
      obtain ⟨a7, n7, c7, e7⟩ := src_named v7x28
      subst e7
      clear ho28 hb28
      go_wp2_with fail
      refine hK.out _ _ hq28 (fun hHeld => ?_)
      clear hK K
      try simp only [Act.put, List.getElem_toArray, List.getElem_cons_zero, List.getElem_cons_succ, List.setIfInBounds_toArray, List.set_cons_succ, List.set_cons_zero]
      refine wpAnyH_ready (rs := [11]) (by kernel_rfl) (by simp) ?_
      refine AllReadyH.cons rfl (fun K hK => ?_) AllReadyH.nil
      go_simp
      refine (putText_any _ (bs ++ sn I ++ sns [S]) _ [s] wk28 v7x28 t10x28 (by rw [List.length_append, List.length_append]; omega) (by rw [txs_one]; have := HTX.out; omega)).mono ?_
      rw [txs_one]
      rintro e wk29 ⟨v11, rfl, ho29, hb29⟩
      have hq29 := below_tr hq28 (hb29.mono hq28.size)
      have sx29 := sx28.below hb29
      have t10x29 := t10x28.below hb29
      have v3x29 := v3x28.below hb29
      have n6x29 := n6x28.below hb29
      have v7x29 := v7x28.below hb29
      have v11x29 := ho29.src (by rw [List.length_append, List.length_append, List.length_append]; have := HTX.out; omega)
      have HS9 := hid (show Src wk29 v11 (bs ++ (sn I ++ (sns [S] ++ tx s))) by simpa only [List.append_assoc] using v11x29)
      obtain ⟨a11, n11, c11, e11⟩ := src_named v11x29
      subst e11
      clear ho29 hb29
      go_wp2_with fail
      refine hK.out _ _ hq29 (fun hHeld => ?_)
      clear hK K
      try simp only [Act.put, List.getElem_toArray, List.getElem_cons_zero, List.getElem_cons_succ, List.setIfInBounds_toArray, List.set_cons_succ, List.set_cons_zero]
      refine wpAnyH_take (i := 12) (v := .slice a11 n11 c11) rfl (by kernel_rfl) (by kernel_rfl) (by kernel_rfl) (fun _ _ _ h => h) (Or.inl ⟨by rfl, fun W _ => by go_simp⟩) hHeld ?_
      simp only [Act.put, List.getElem_toArray, List.getElem_cons_zero, List.getElem_cons_succ, List.setIfInBounds_toArray, List.set_cons_succ, List.set_cons_zero]
      have HB9 := hid (below_then HBL.out hq29)
      refine wpAnyH_done (by kernel_rfl) ?_ _
      simp only [noPanic]
      clear hHeld
      go_wp2
      go_ret
      exact ⟨_, rfl, by rw [HSS.out]; exact HS9.out, HB9.out⟩
    · go_simp
      have hb30 := below_walk wn25 (.cells #[.int .i64 (S : Nat)] 3)
      have hq30 := below_tr hq25 (hb30.mono hq25.size)
      have sx30 := sx25.below hb30
      have t10x30 := t10x25.below hb30
      have n6x30 := nums_one wn25 S
      refine hK.out _ _ hq30 (fun hHeld => ?_)
      clear hK K
      try simp only [Act.put, List.getElem_toArray, List.getElem_cons_zero, List.getElem_cons_succ, List.setIfInBounds_toArray, List.set_cons_succ, List.set_cons_zero]
      obtain ⟨wn30, hwn30⟩ : ∃ x, (wn25.alloc (.cells #[.int .i64 (S : Nat)] 3)) = x := ⟨_, rfl⟩
      rw [hwn30] at hq30 hHeld sx30 t10x30 n6x30 ⊢
      clear hb30
      refine wpAnyH_ready (rs := [3]) (by kernel_rfl) (by simp) ?_
      refine AllReadyH.cons rfl (fun K hK => ?_) AllReadyH.nil
      go_simp
      refine (putUint_any _ bs I wn30 sx30 hI (by omega)).mono ?_
      rintro e wk31 ⟨v3, rfl, ho31, hb31⟩
      have hq31 := below_tr hq30 (hb31.mono hq30.size)
      have sx31 := sx30.below hb31
      have t10x31 := t10x30.below hb31
      have n6x31 := n6x30.below hb31
      have v3x31 := ho31.src (by rw [List.length_append]; omega)
      obtain ⟨a3, n3, c3, e3⟩ := src_named v3x31
      subst e3
      clear ho31 hb31
      go_wp2_with fail
      refine hK.out _ _ hq31 (fun hHeld => ?_)
      clear hK K
      try simp only [Act.put, List.getElem_toArray, List.getElem_cons_zero, List.getElem_cons_succ, List.setIfInBounds_toArray, List.set_cons_succ, List.set_cons_zero]
      refine wpAnyH_ready (rs := [7]) (by kernel_rfl) (by simp) ?_
      refine AllReadyH.cons rfl (fun K hK => ?_) AllReadyH.nil
      go_simp
      refine (putCounts_any _ _ (bs ++ sn I) [S] wk31 v3x31 n6x31 (by simp; omega) (by simp) (by rw [List.length_append]; omega)).mono ?_
      rintro e wk32 ⟨v7, rfl, ho32, hb32⟩
      have hq32 := below_tr hq31 (hb32.mono hq31.size)
      have sx32 := sx31.below hb32
      have t10x32 := t10x31.below hb32
      have n6x32 := n6x31.below hb32
      have v3x32 := v3x31.below hb32
      have v7x32 := ho32
      obtain ⟨a7, n7, c7, e7⟩ := src_named v7x32
      subst e7
      clear ho32 hb32
      go_wp2_with fail
      refine hK.out _ _ hq32 (fun hHeld => ?_)
      clear hK K
      try simp only [Act.put, List.getElem_toArray, List.getElem_cons_zero, List.getElem_cons_succ, List.setIfInBounds_toArray, List.set_cons_succ, List.set_cons_zero]
      refine wpAnyH_ready (rs := [11]) (by kernel_rfl) (by simp) ?_
      refine AllReadyH.cons rfl (fun K hK => ?_) AllReadyH.nil
      go_simp
      refine (putText_any _ (bs ++ sn I ++ sns [S]) _ [s] wk32 v7x32 t10x32 (by rw [List.length_append, List.length_append]; omega) (by rw [txs_one]; have := HTX.out; omega)).mono ?_
      rw [txs_one]
      rintro e wk33 ⟨v11, rfl, ho33, hb33⟩
      have hq33 := below_tr hq32 (hb33.mono hq32.size)
      have sx33 := sx32.below hb33
      have t10x33 := t10x32.below hb33
      have n6x33 := n6x32.below hb33
      have v3x33 := v3x32.below hb33
      have v7x33 := v7x32.below hb33
      have v11x33 := ho33.src (by rw [List.length_append, List.length_append, List.length_append]; have := HTX.out; omega)
      have HS9 := hid (show Src wk33 v11 (bs ++ (sn I ++ (sns [S] ++ tx s))) by simpa only [List.append_assoc] using v11x33)
      obtain ⟨a11, n11, c11, e11⟩ := src_named v11x33
      subst e11
      clear ho33 hb33
      go_wp2_with fail
      refine hK.out _ _ hq33 (fun hHeld => ?_)
      clear hK K
      try simp only [Act.put, List.getElem_toArray, List.getElem_cons_zero, List.getElem_cons_succ, List.setIfInBounds_toArray, List.set_cons_succ, List.set_cons_zero]
      refine wpAnyH_take (i := 12) (v := .slice a11 n11 c11) rfl (by kernel_rfl) (by kernel_rfl) (by kernel_rfl) (fun _ _ _ h => h) (Or.inl ⟨by rfl, fun W _ => by go_simp⟩) hHeld ?_
      simp only [Act.put, List.getElem_toArray, List.getElem_cons_zero, List.getElem_cons_succ, List.setIfInBounds_toArray, List.set_cons_succ, List.set_cons_zero]
      have HB9 := hid (below_then HBL.out hq33)
      refine wpAnyH_done (by kernel_rfl) ?_ _
      simp only [noPanic]
      clear hHeld
      go_wp2
      go_ret
      exact ⟨_, rfl, by rw [HSS.out]; exact HS9.out, HB9.out⟩

end Go.Proofs.Ytjinkahlfigdcaa

/- A frame with those fields alone that its kind has. -/
namespace Go.Proofs.Ytjinkahlfigdcaa
open Go.RowKit Go.BigFrame

/-- those fields alone that the kind has; of a number that is no kind: none -/
def ownF (f : Fr) : Fr :=
  if f.kind = 1 then ⟨1, 0, f.ver, f.slots, f.tool, 0, (0, 0, 0), [], []⟩ else if f.kind = 2 then reqF f.id f.lim f.args f.body else if f.kind = 3 then resF f.id f.status f.body else if f.kind = 4 then canF f.id else if f.kind = 5 then byeF else if f.kind = 6 then noteF f.body else { zF with kind := f.kind }
def ownV (f : Fr) (va : Value) : Value := if f.kind = 2 then va else nS
theorem ownF_tool (f : Fr) (h : f.tool.length = 32) : (ownF f).tool.length = 32 := by
  unfold ownF
  repeat' split
  all_goals first | exact h | rfl
theorem built_hello2 (v s : Int) (T : List UInt8) (h : T.length = 32) : Try.prog.built 29 [(0, .int .i64 1), (2, .int .i64 v), (3, .int .i64 s), (4, .agg (bytesV T).toArray)] = some (fcells ⟨1, 0, v, s, T, 0, (0, 0, 0), [], []⟩ nS).toArray := by
  obtain ⟨t0, t1, t2, t3, t4, t5, t6, t7, t8, t9, t10, t11, t12, t13, t14, t15, t16, t17, t18, t19, t20, t21, t22, t23, t24, t25, t26, t27, t28, t29, t30, t31, rfl⟩ := list32 h
  kernel_rfl
theorem ld_mid10 {P : Program} {w : World} {ops : Array Oper} {rest : List Oper} {o : Oper} {a : Act} {Q : Exit → Act → World → Prop} (hgd : o.guard = none) (ty : TypeId) (x : Operand) (ho : o.op = .load ty x)
    (b off : Nat) (hx : a.eval x = .pointer (some ⟨b, off, none⟩)) (cs : List Value) (d : TypeDesc) (hc : w.rangeAt b off cs)
    (hu : P.underlying ty = some d) (hd : d.isRow = true) (hi : (P.info? ty).map (·.size) = some cs.length)
    (h : wpList P ops Q rest (a.put o.dst (.agg cs.toArray)) w) : wpList P ops Q (o :: rest) a w := wpList_load_mid hgd ty x ho b off hx cs d hc hu hd hi h

set_option maxRecDepth 100000 in
set_option maxHeartbeats 1000000 in
theorem ownHello_any (f : Fr) (va : Value) (w : World) (hk : f.kind = 1) (hf : f.tool.length = 32) (hv : ∃ ao n c, va = .slice ao n c) :
    Calls Try.prog 73 #[.agg (fcells f va).toArray] w fun e w' => e = .returned (.agg (fcells (ownF f) (ownV f va)).toArray) ∧ Below w.heap.size w w' := by
  obtain ⟨ao, nn, cc, rfl⟩ := hv
  have HNB := hid (hp_two w (.cells (fcells f (.slice ao nn cc)).toArray 29) (.cells (fcells zF nS).toArray 29))
  have HBL := hid (below_walk2 w (.cells (fcells f (.slice ao nn cc)).toArray 29) (.cells (fcells zF nS).toArray 29))
  have HZ : Hid ((w.alloc (.cells (fcells f (.slice ao nn cc)).toArray 29)).heap.size = w.heap.size + 1) := hid (by simp)
  have HBU : Hid (Try.prog.built 29 [(0, .int .i64 1), (2, .int .i64 f.ver), (3, .int .i64 f.slots), (4, .agg (bytesV f.tool).toArray)] = some (fcells (ownF f) (ownV f (.slice ao nn cc))).toArray) := hid (by
    unfold ownF ownV
    rw [if_pos hk, if_neg (show ¬ f.kind = 2 by omega)]
    exact built_hello2 f.ver f.slots f.tool hf)
  have HOT := hid (ownF_tool f hf)
  have HSZ := hid (frame_size (ownF f) (ownV f (.slice ao nn cc)) HOT.out)
  have HON := hid (fcells_one (ownF f) (ownV f (.slice ao nn cc)) (by unfold ownV; split <;> rfl))
  have HOS := hid (show (fcells zF nS).toArray.size = (fcells (ownF f) (ownV f (.slice ao nn cc))).length by rw [fcells_length _ _ HOT.out]; rfl)
  have HTS := hid (tool_size f.tool hf)
  have HK := hid hk
  have HF := hid hf
  clear hk hf
  go_enter Try.func73, Try.ntmps73
  go_upto_region 1 with (refine al_row (by rfl) 29 (by rfl) _ zeroFrame ?_)
  try rw [HZ.out]
  generalize (w.alloc (.cells (fcells f (.slice ao nn cc)).toArray 29)).alloc (.cells (fcells zF nS).toArray 29) = w2 at HNB HBL ⊢
  have HFB := hid (Fb.of HNB.out.1 HF.out)
  have HTR := hid HFB.out.t
  have x0 := HFB.out.k
  rw [HK.out] at x0
  have y_v := HFB.out.v
  have y_s := HFB.out.s
  obtain ⟨FO, HFO⟩ : ∃ L, Hid (fcells (ownF f) (ownV f (.slice ao nn cc)) = L) := ⟨_, rfl⟩
  rw [HFO.out] at HBU HSZ HON HOS
  clear HFB
  go_wp2_with (first
    | (refine ld_mid10 (by rfl) 24 (.tmp 9) (by rfl) w.heap.size 4 (by rfl) (bytesV f.tool) _ HTR.out Try.underlying24 rfl HTS.out ?_)
    | (refine bd_row (by rfl) 29 #[(0, .tmp 4), (2, .tmp 6), (3, .tmp 8), (4, .tmp 10)] (by rfl) _ (by simp [Act.eval, Act.put]) _ HBU.out ?_)
    | (refine st_row (by rfl) 29 _ _ (by rfl) (w.heap.size + 1) FO (by rfl) (by rfl) 29 _ HNB.out.2 HSZ.out HOS.out HON.out ?_; intro w3 hw3))
  refine ret_row 2 29 rfl (w.heap.size + 1) rfl FO 29 hw3.blk _ Try.underlying29 rfl HSZ.out rfl ⟨by rw [HFO.out], Below.of_gb HBL.out hw3.grown (by omega)⟩

set_option maxRecDepth 100000 in
set_option maxHeartbeats 1000000 in
theorem ownRequest_any (f : Fr) (va : Value) (w : World) (hk : f.kind = 2) (hf : f.tool.length = 32) (hv : ∃ ao n c, va = .slice ao n c) :
    Calls Try.prog 77 #[.agg (fcells f va).toArray] w fun e w' => e = .returned (.agg (fcells (ownF f) (ownV f va)).toArray) ∧ Below w.heap.size w w' := by
  obtain ⟨ao, nn, cc, rfl⟩ := hv
  have HNB := hid (hp_two w (.cells (fcells f (.slice ao nn cc)).toArray 29) (.cells (fcells zF nS).toArray 29))
  have HBL := hid (below_walk2 w (.cells (fcells f (.slice ao nn cc)).toArray 29) (.cells (fcells zF nS).toArray 29))
  have HZ : Hid ((w.alloc (.cells (fcells f (.slice ao nn cc)).toArray 29)).heap.size = w.heap.size + 1) := hid (by simp)
  have HBU : Hid (Try.prog.built 29 [(0, .int .i64 2), (1, .int .u64 f.id), (6, .agg #[.int .i64 f.lim.1, .int .i64 f.lim.2.1, .int .i64 f.lim.2.2]), (7, .slice ao nn cc), (8, .string (mk f.body))] = some (fcells (ownF f) (ownV f (.slice ao nn cc))).toArray) := hid (by
    unfold ownF ownV
    rw [if_neg (show ¬ f.kind = 1 by omega), if_pos hk, if_pos hk]
    exact built_req f.id f.lim.1 f.lim.2.1 f.lim.2.2 ao nn cc f.body f.args)
  have HOT := hid (ownF_tool f hf)
  have HSZ := hid (frame_size (ownF f) (ownV f (.slice ao nn cc)) HOT.out)
  have HON := hid (fcells_one (ownF f) (ownV f (.slice ao nn cc)) (by unfold ownV; split <;> rfl))
  have HOS := hid (show (fcells zF nS).toArray.size = (fcells (ownF f) (ownV f (.slice ao nn cc))).length by rw [fcells_length _ _ HOT.out]; rfl)
  have HTS := hid (tool_size f.tool hf)
  have HK := hid hk
  have HF := hid hf
  clear hk hf
  go_enter Try.func77, Try.ntmps77
  go_upto_region 1 with (refine al_row (by rfl) 29 (by rfl) _ zeroFrame ?_)
  try rw [HZ.out]
  generalize (w.alloc (.cells (fcells f (.slice ao nn cc)).toArray 29)).alloc (.cells (fcells zF nS).toArray 29) = w2 at HNB HBL ⊢
  have HFB := hid (Fb.of HNB.out.1 HF.out)
  have HTR := hid HFB.out.t
  have x0 := HFB.out.k
  rw [HK.out] at x0
  have y_i := HFB.out.i
  have y_l1 := HFB.out.l1
  have y_l2 := HFB.out.l2
  have y_l3 := HFB.out.l3
  have y_a := HFB.out.a
  have y_bd := HFB.out.bd
  obtain ⟨FO, HFO⟩ : ∃ L, Hid (fcells (ownF f) (ownV f (.slice ao nn cc)) = L) := ⟨_, rfl⟩
  rw [HFO.out] at HBU HSZ HON HOS
  clear HFB
  go_wp2_with (first
    | (refine bd_row (by rfl) 29 #[(0, .tmp 4), (1, .tmp 6), (6, .tmp 8), (7, .tmp 10), (8, .tmp 12)] (by rfl) _ (by simp [Act.eval]) _ HBU.out ?_)
    | (refine st_row (by rfl) 29 _ _ (by rfl) (w.heap.size + 1) FO (by rfl) (by rfl) 29 _ HNB.out.2 HSZ.out HOS.out HON.out ?_; intro w3 hw3))
  refine ret_row 2 29 rfl (w.heap.size + 1) rfl FO 29 hw3.blk _ Try.underlying29 rfl HSZ.out rfl ⟨by rw [HFO.out], Below.of_gb HBL.out hw3.grown (by omega)⟩

set_option maxRecDepth 100000 in
set_option maxHeartbeats 1000000 in
theorem ownResponse_any (f : Fr) (va : Value) (w : World) (hk : f.kind = 3) (hf : f.tool.length = 32) (hv : ∃ ao n c, va = .slice ao n c) :
    Calls Try.prog 81 #[.agg (fcells f va).toArray] w fun e w' => e = .returned (.agg (fcells (ownF f) (ownV f va)).toArray) ∧ Below w.heap.size w w' := by
  obtain ⟨ao, nn, cc, rfl⟩ := hv
  have HNB := hid (hp_two w (.cells (fcells f (.slice ao nn cc)).toArray 29) (.cells (fcells zF nS).toArray 29))
  have HBL := hid (below_walk2 w (.cells (fcells f (.slice ao nn cc)).toArray 29) (.cells (fcells zF nS).toArray 29))
  have HZ : Hid ((w.alloc (.cells (fcells f (.slice ao nn cc)).toArray 29)).heap.size = w.heap.size + 1) := hid (by simp)
  have HBU : Hid (Try.prog.built 29 [(0, .int .i64 3), (1, .int .u64 f.id), (5, .int .i64 f.status), (8, .string (mk f.body))] = some (fcells (ownF f) (ownV f (.slice ao nn cc))).toArray) := hid (by
    unfold ownF ownV
    rw [if_neg (show ¬ f.kind = 1 by omega), if_neg (show ¬ f.kind = 2 by omega), if_pos hk, if_neg (show ¬ f.kind = 2 by omega)]
    exact built_res f.id f.status f.body)
  have HOT := hid (ownF_tool f hf)
  have HSZ := hid (frame_size (ownF f) (ownV f (.slice ao nn cc)) HOT.out)
  have HON := hid (fcells_one (ownF f) (ownV f (.slice ao nn cc)) (by unfold ownV; split <;> rfl))
  have HOS := hid (show (fcells zF nS).toArray.size = (fcells (ownF f) (ownV f (.slice ao nn cc))).length by rw [fcells_length _ _ HOT.out]; rfl)
  have HTS := hid (tool_size f.tool hf)
  have HK := hid hk
  have HF := hid hf
  clear hk hf
  go_enter Try.func81, Try.ntmps81
  go_upto_region 1 with (refine al_row (by rfl) 29 (by rfl) _ zeroFrame ?_)
  try rw [HZ.out]
  generalize (w.alloc (.cells (fcells f (.slice ao nn cc)).toArray 29)).alloc (.cells (fcells zF nS).toArray 29) = w2 at HNB HBL ⊢
  have HFB := hid (Fb.of HNB.out.1 HF.out)
  have HTR := hid HFB.out.t
  have x0 := HFB.out.k
  rw [HK.out] at x0
  have y_i := HFB.out.i
  have y_st := HFB.out.st
  have y_bd := HFB.out.bd
  obtain ⟨FO, HFO⟩ : ∃ L, Hid (fcells (ownF f) (ownV f (.slice ao nn cc)) = L) := ⟨_, rfl⟩
  rw [HFO.out] at HBU HSZ HON HOS
  clear HFB
  go_wp2_with (first
    | (refine bd_row (by rfl) 29 #[(0, .tmp 4), (1, .tmp 6), (5, .tmp 8), (8, .tmp 10)] (by rfl) _ (by simp [Act.eval]) _ HBU.out ?_)
    | (refine st_row (by rfl) 29 _ _ (by rfl) (w.heap.size + 1) FO (by rfl) (by rfl) 29 _ HNB.out.2 HSZ.out HOS.out HON.out ?_; intro w3 hw3))
  refine ret_row 2 29 rfl (w.heap.size + 1) rfl FO 29 hw3.blk _ Try.underlying29 rfl HSZ.out rfl ⟨by rw [HFO.out], Below.of_gb HBL.out hw3.grown (by omega)⟩

set_option maxRecDepth 100000 in
set_option maxHeartbeats 1000000 in
theorem ownCancel_any (f : Fr) (va : Value) (w : World) (hk : f.kind = 4) (hf : f.tool.length = 32) (hv : ∃ ao n c, va = .slice ao n c) :
    Calls Try.prog 85 #[.agg (fcells f va).toArray] w fun e w' => e = .returned (.agg (fcells (ownF f) (ownV f va)).toArray) ∧ Below w.heap.size w w' := by
  obtain ⟨ao, nn, cc, rfl⟩ := hv
  have HNB := hid (hp_two w (.cells (fcells f (.slice ao nn cc)).toArray 29) (.cells (fcells zF nS).toArray 29))
  have HBL := hid (below_walk2 w (.cells (fcells f (.slice ao nn cc)).toArray 29) (.cells (fcells zF nS).toArray 29))
  have HZ : Hid ((w.alloc (.cells (fcells f (.slice ao nn cc)).toArray 29)).heap.size = w.heap.size + 1) := hid (by simp)
  have HBU : Hid (Try.prog.built 29 [(0, .int .i64 4), (1, .int .u64 f.id)] = some (fcells (ownF f) (ownV f (.slice ao nn cc))).toArray) := hid (by
    unfold ownF ownV
    rw [if_neg (show ¬ f.kind = 1 by omega), if_neg (show ¬ f.kind = 2 by omega), if_neg (show ¬ f.kind = 3 by omega), if_pos hk, if_neg (show ¬ f.kind = 2 by omega)]
    exact built_can f.id)
  have HOT := hid (ownF_tool f hf)
  have HSZ := hid (frame_size (ownF f) (ownV f (.slice ao nn cc)) HOT.out)
  have HON := hid (fcells_one (ownF f) (ownV f (.slice ao nn cc)) (by unfold ownV; split <;> rfl))
  have HOS := hid (show (fcells zF nS).toArray.size = (fcells (ownF f) (ownV f (.slice ao nn cc))).length by rw [fcells_length _ _ HOT.out]; rfl)
  have HTS := hid (tool_size f.tool hf)
  have HK := hid hk
  have HF := hid hf
  clear hk hf
  go_enter Try.func85, Try.ntmps85
  go_upto_region 1 with (refine al_row (by rfl) 29 (by rfl) _ zeroFrame ?_)
  try rw [HZ.out]
  generalize (w.alloc (.cells (fcells f (.slice ao nn cc)).toArray 29)).alloc (.cells (fcells zF nS).toArray 29) = w2 at HNB HBL ⊢
  have HFB := hid (Fb.of HNB.out.1 HF.out)
  have HTR := hid HFB.out.t
  have x0 := HFB.out.k
  rw [HK.out] at x0
  have y_i := HFB.out.i
  obtain ⟨FO, HFO⟩ : ∃ L, Hid (fcells (ownF f) (ownV f (.slice ao nn cc)) = L) := ⟨_, rfl⟩
  rw [HFO.out] at HBU HSZ HON HOS
  clear HFB
  go_wp2_with (first
    | (refine bd_row (by rfl) 29 #[(0, .tmp 4), (1, .tmp 6)] (by rfl) _ (by simp [Act.eval]) _ HBU.out ?_)
    | (refine st_row (by rfl) 29 _ _ (by rfl) (w.heap.size + 1) FO (by rfl) (by rfl) 29 _ HNB.out.2 HSZ.out HOS.out HON.out ?_; intro w3 hw3))
  refine ret_row 2 29 rfl (w.heap.size + 1) rfl FO 29 hw3.blk _ Try.underlying29 rfl HSZ.out rfl ⟨by rw [HFO.out], Below.of_gb HBL.out hw3.grown (by omega)⟩

set_option maxRecDepth 100000 in
set_option maxHeartbeats 1000000 in
theorem ownBye2_any (f : Fr) (va : Value) (w : World) (hk : f.kind = 5) (hf : f.tool.length = 32) (hv : ∃ ao n c, va = .slice ao n c) :
    Calls Try.prog 89 #[.agg (fcells f va).toArray] w fun e w' => e = .returned (.agg (fcells (ownF f) (ownV f va)).toArray) ∧ Below w.heap.size w w' := by
  obtain ⟨ao, nn, cc, rfl⟩ := hv
  have HNB := hid (hp_two w (.cells (fcells f (.slice ao nn cc)).toArray 29) (.cells (fcells zF nS).toArray 29))
  have HBL := hid (below_walk2 w (.cells (fcells f (.slice ao nn cc)).toArray 29) (.cells (fcells zF nS).toArray 29))
  have HZ : Hid ((w.alloc (.cells (fcells f (.slice ao nn cc)).toArray 29)).heap.size = w.heap.size + 1) := hid (by simp)
  have HBU : Hid (Try.prog.built 29 [(0, .int .i64 5)] = some (fcells (ownF f) (ownV f (.slice ao nn cc))).toArray) := hid (by
    unfold ownF ownV
    rw [if_neg (show ¬ f.kind = 1 by omega), if_neg (show ¬ f.kind = 2 by omega), if_neg (show ¬ f.kind = 3 by omega), if_neg (show ¬ f.kind = 4 by omega), if_pos hk, if_neg (show ¬ f.kind = 2 by omega)]
    exact built_bye)
  have HOT := hid (ownF_tool f hf)
  have HSZ := hid (frame_size (ownF f) (ownV f (.slice ao nn cc)) HOT.out)
  have HON := hid (fcells_one (ownF f) (ownV f (.slice ao nn cc)) (by unfold ownV; split <;> rfl))
  have HOS := hid (show (fcells zF nS).toArray.size = (fcells (ownF f) (ownV f (.slice ao nn cc))).length by rw [fcells_length _ _ HOT.out]; rfl)
  have HTS := hid (tool_size f.tool hf)
  have HK := hid hk
  have HF := hid hf
  clear hk hf
  go_enter Try.func89, Try.ntmps89
  go_upto_region 1 with (refine al_row (by rfl) 29 (by rfl) _ zeroFrame ?_)
  try rw [HZ.out]
  generalize (w.alloc (.cells (fcells f (.slice ao nn cc)).toArray 29)).alloc (.cells (fcells zF nS).toArray 29) = w2 at HNB HBL ⊢
  have HFB := hid (Fb.of HNB.out.1 HF.out)
  have HTR := hid HFB.out.t
  have x0 := HFB.out.k
  rw [HK.out] at x0
  obtain ⟨FO, HFO⟩ : ∃ L, Hid (fcells (ownF f) (ownV f (.slice ao nn cc)) = L) := ⟨_, rfl⟩
  rw [HFO.out] at HBU HSZ HON HOS
  clear HFB
  go_wp2_with (first
    | (refine bd_row (by rfl) 29 #[(0, .tmp 4)] (by rfl) _ (by simp [Act.eval]) _ HBU.out ?_)
    | (refine st_row (by rfl) 29 _ _ (by rfl) (w.heap.size + 1) FO (by rfl) (by rfl) 29 _ HNB.out.2 HSZ.out HOS.out HON.out ?_; intro w3 hw3))
  refine ret_row 2 29 rfl (w.heap.size + 1) rfl FO 29 hw3.blk _ Try.underlying29 rfl HSZ.out rfl ⟨by rw [HFO.out], Below.of_gb HBL.out hw3.grown (by omega)⟩

set_option maxRecDepth 100000 in
set_option maxHeartbeats 1000000 in
theorem ownNote_any (f : Fr) (va : Value) (w : World) (hk : f.kind = 6) (hf : f.tool.length = 32) (hv : ∃ ao n c, va = .slice ao n c) :
    Calls Try.prog 92 #[.agg (fcells f va).toArray] w fun e w' => e = .returned (.agg (fcells (ownF f) (ownV f va)).toArray) ∧ Below w.heap.size w w' := by
  obtain ⟨ao, nn, cc, rfl⟩ := hv
  have HNB := hid (hp_two w (.cells (fcells f (.slice ao nn cc)).toArray 29) (.cells (fcells zF nS).toArray 29))
  have HBL := hid (below_walk2 w (.cells (fcells f (.slice ao nn cc)).toArray 29) (.cells (fcells zF nS).toArray 29))
  have HZ : Hid ((w.alloc (.cells (fcells f (.slice ao nn cc)).toArray 29)).heap.size = w.heap.size + 1) := hid (by simp)
  have HBU : Hid (Try.prog.built 29 [(0, .int .i64 6), (8, .string (mk f.body))] = some (fcells (ownF f) (ownV f (.slice ao nn cc))).toArray) := hid (by
    unfold ownF ownV
    rw [if_neg (show ¬ f.kind = 1 by omega), if_neg (show ¬ f.kind = 2 by omega), if_neg (show ¬ f.kind = 3 by omega), if_neg (show ¬ f.kind = 4 by omega), if_neg (show ¬ f.kind = 5 by omega), if_pos hk, if_neg (show ¬ f.kind = 2 by omega)]
    exact built_note f.body)
  have HOT := hid (ownF_tool f hf)
  have HSZ := hid (frame_size (ownF f) (ownV f (.slice ao nn cc)) HOT.out)
  have HON := hid (fcells_one (ownF f) (ownV f (.slice ao nn cc)) (by unfold ownV; split <;> rfl))
  have HOS := hid (show (fcells zF nS).toArray.size = (fcells (ownF f) (ownV f (.slice ao nn cc))).length by rw [fcells_length _ _ HOT.out]; rfl)
  have HTS := hid (tool_size f.tool hf)
  have HK := hid hk
  have HF := hid hf
  clear hk hf
  go_enter Try.func92, Try.ntmps92
  go_upto_region 1 with (refine al_row (by rfl) 29 (by rfl) _ zeroFrame ?_)
  try rw [HZ.out]
  generalize (w.alloc (.cells (fcells f (.slice ao nn cc)).toArray 29)).alloc (.cells (fcells zF nS).toArray 29) = w2 at HNB HBL ⊢
  have HFB := hid (Fb.of HNB.out.1 HF.out)
  have HTR := hid HFB.out.t
  have x0 := HFB.out.k
  rw [HK.out] at x0
  have y_bd := HFB.out.bd
  obtain ⟨FO, HFO⟩ : ∃ L, Hid (fcells (ownF f) (ownV f (.slice ao nn cc)) = L) := ⟨_, rfl⟩
  rw [HFO.out] at HBU HSZ HON HOS
  clear HFB
  go_wp2_with (first
    | (refine bd_row (by rfl) 29 #[(0, .tmp 4), (8, .tmp 6)] (by rfl) _ (by simp [Act.eval]) _ HBU.out ?_)
    | (refine st_row (by rfl) 29 _ _ (by rfl) (w.heap.size + 1) FO (by rfl) (by rfl) 29 _ HNB.out.2 HSZ.out HOS.out HON.out ?_; intro w3 hw3))
  refine ret_row 2 29 rfl (w.heap.size + 1) rfl FO 29 hw3.blk _ Try.underlying29 rfl HSZ.out rfl ⟨by rw [HFO.out], Below.of_gb HBL.out hw3.grown (by omega)⟩

end Go.Proofs.Ytjinkahlfigdcaa
