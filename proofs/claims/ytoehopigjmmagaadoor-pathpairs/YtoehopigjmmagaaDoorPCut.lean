/- strings.Cut, Split, HasPrefix at a slash; Join with slashes. -/
import Derived.Test.YtoehopigjmmagaaDoorPName
import Derived.Test.YtoehopigjmmagaaDoorShelf
import Derived.Lib.SplitLaws
import Derived.Lib.IndexLaws
namespace Go.Proofs.YtoehopigjmmagaaDoor
open Go.RowKit

theorem idx_no : ∀ {l : List UInt8}, (47 : UInt8) ∉ l → Lib.indexByte l 47 = -1
  | [], _ => rfl
  | c :: r, h => by
    simp only [List.mem_cons, not_or] at h
    have e := idx_no h.2
    have hc : (c == 47) = false := by simp; exact fun e => h.1 e.symm
    simp [Lib.indexByte, hc, e]
theorem idx_yes : ∀ {a b : List UInt8}, (47 : UInt8) ∉ a → Lib.indexByte (a ++ 47 :: b) 47 = (a.length : Int)
  | [], b, _ => by simp [Lib.indexByte]
  | c :: r, b, h => by
    simp only [List.mem_cons, not_or] at h
    have e := idx_yes (b := b) h.2
    have hc : (c == 47) = false := by simp; exact fun e => h.1 e.symm
    simp only [List.cons_append, Lib.indexByte, hc, e, List.length_cons]
    have : ((r.length : Int) == -1) = false := by simp
    simp [this]
theorem slash_parts {l : List UInt8} (h : (47 : UInt8) ∈ l) : ∃ a b, l = a ++ 47 :: b ∧ (47 : UInt8) ∉ a := List.eq_append_cons_of_mem h

theorem split_pcs : ∀ (n : Nat) (l : List UInt8), l.length ≤ n → Lib.splitK [47] 0 (l.count 47) l = pcs l
  | 0, l, h => by
    obtain rfl : l = [] := List.length_eq_zero_iff.1 (by omega)
    rfl
  | n + 1, l, h => by
    by_cases hm : (47 : UInt8) ∈ l
    · obtain ⟨a, b, rfl, ha⟩ := slash_parts hm
      have hc : (a ++ 47 :: b).count 47 = b.count 47 + 1 := by
        rw [List.count_append, List.count_eq_zero.2 ha, List.count_cons_self]; omega
      rw [hc, Lib.splitK, Lib.index_one, idx_yes ha]
      have h0 : (((a.length : Int)) == -1) = false := by simp
      rw [h0]
      simp only [Bool.false_eq_true, if_false, Int.toNat_natCast, Nat.add_zero]
      rw [List.take_left, pcs_append, pcs_whole ha]
      have hd : (a ++ 47 :: b).drop (a.length + [(47 : UInt8)].length) = b := by
        rw [show a.length + [(47 : UInt8)].length = a.length + 1 from rfl, ← List.drop_drop, List.drop_left]; rfl
      rw [hd, split_pcs n b (by simp at h; omega)]
      rfl
    · rw [List.count_eq_zero.2 hm, pcs_whole hm]; rfl

theorem splitB_pcs (s : ByteArray) : (Lib.splitB ⟨#[47]⟩ 0 (Lib.countB s ⟨#[47]⟩) s).map Value.string = strV (pcs (bl s)) := by
  have e := Lib.splitB_data ⟨#[47]⟩ 0 (Lib.countB s ⟨#[47]⟩) s
  have hc : Lib.countB s ⟨#[47]⟩ = (bl s).count 47 := by rw [bl_eq]; exact Lib.count_one 47 _
  rw [hc] at e ⊢
  have e2 : Lib.splitK (⟨#[47]⟩ : ByteArray).data.toList 0 ((bl s).count 47) s.data.toList = pcs (bl s) := by
    show Lib.splitK [47] 0 _ s.data.toList = _
    rw [← bl_eq s]; exact split_pcs _ _ (Nat.le_refl _)
  rw [e2] at e
  unfold strV
  rw [← e, List.map_map]
  congr 1

theorem count_len (s : ByteArray) : Lib.countB s ⟨#[47]⟩ + 1 = (pcs (bl s)).length := by
  have e := congrArg List.length (splitB_pcs s)
  rw [List.length_map, strV_length] at e
  rw [← e]
  exact (Lib.splitB_all ⟨#[47]⟩ (by decide) 0 _ s rfl).symm

theorem Tryd.infoStr' : (Tryd.prog.info? 9).map (fun i => (i.zero, i.size, i.bytes)) = some (some (.string ByteArray.empty), 1, 16) := by kernel_rfl

set_option maxHeartbeats 1000000 in
/-- strings.Split at a slash -/
theorem split_any (s : ByteArray) (w : World) (hs : s.size < 4294967281) :
    Calls Tryd.prog 53 #[.string s, .string ⟨#[47]⟩] w fun e w' => e = .returned (.slice (some ⟨w.heap.size, 0, none⟩) (pcs (bl s)).length (pcs (bl s)).length) ∧ w' = w.alloc (.cells (strV (pcs (bl s))).toArray 9) := by
  have hle := Lib.countB_le ⟨#[47]⟩ (by decide) s.size s (Nat.le_refl _)
  have hlen := Lib.splitB_all ⟨#[47]⟩ (by decide) 0 _ s rfl
  have c := Any.strings_genSplit_core Tryd.lays221 Tryd.infoStr' s ⟨#[47]⟩ 0 (-1) (Lib.countB s ⟨#[47]⟩ + 1) w hs (by decide) (by decide)
    (fun x cc _ => (Tryd.strings_Index_one x 47 _).mono fun e w' ⟨he, hw⟩ => ⟨by rw [he]; show _ = Ending.returned (Value.int .i64 (Lib.index x.data.toList [47])); rw [Lib.index_one], hw⟩)
    ((Tryd.strings_Count_one s 47 w).mono fun e w' ⟨he, hw⟩ => ⟨by rw [he]; show _ = Ending.returned (Value.int .i64 ((Lib.count s.data.toList [47] : Nat) : Int)); rw [Lib.count_one]; rfl, hw⟩)
    (by decide) (by decide) (by rw [if_pos (by decide)]; omega)
  rw [Nat.add_sub_cancel, hlen] at c
  have e2 : Lib.cellsOf (Lib.splitB ⟨#[47]⟩ 0 (Lib.countB s ⟨#[47]⟩) s) (Lib.countB s ⟨#[47]⟩ + 1) = (strV (pcs (bl s))).toArray := by rw [← hlen, ← splitB_pcs]; exact Lib.cellsOf_full _
  rw [e2, count_len] at c
  have HC : Hid (Calls Tryd.prog 64 #[.string s, .string ⟨#[47]⟩, .int .i64 0, .int .i64 (-1)] w fun e w' => e = .returned (.slice (some ⟨w.heap.size, 0, none⟩) (pcs (bl s)).length (pcs (bl s)).length) ∧ w' = w.alloc (.cells (strV (pcs (bl s))).toArray 9)) := c
  clear c e2 hlen hle
  go_enter Tryd.func53, Tryd.ntmps53
  go_wp2_with (go_at_call 64; refine HC.out.mono ?_; rintro e w' ⟨rfl, hw⟩; rw [hw])
  go_ret
  exact ⟨rfl, rfl⟩

set_option maxHeartbeats 1000000 in
theorem lcut_no (s : ByteArray) (w : World) (h : (47 : UInt8) ∉ bl s) :
    Calls Tryd.prog 54 #[.string s, .string ⟨#[47]⟩] w fun e w' => e = .returned (.tuple #[.string s, .string (mk []), .bool false]) ∧ w' = w := by
  have hi : Lib.indexByte s.data.toList 47 = -1 := by rw [← bl_eq]; exact idx_no h
  have HI := hid (Tryd.stringslite_Index_one s 47)
  rw [hi] at HI
  clear h hi
  go_enter Tryd.func54, Tryd.ntmps54
  go_wp2_with (go_at_call 65; refine (HI.out _).mono ?_; rintro e w' ⟨rfl, rfl⟩)
  go_ret3
  exact ⟨rfl, rfl⟩

set_option maxHeartbeats 1000000 in
theorem lcut_yes (s : ByteArray) (a b : List UInt8) (w : World) (h : bl s = a ++ 47 :: b) (ha : (47 : UInt8) ∉ a) (hs : (bl s).length ≤ 9223372036854775807) :
    Calls Tryd.prog 54 #[.string s, .string ⟨#[47]⟩] w fun e w' => e = .returned (.tuple #[.string (mk a), .string (mk b), .bool true]) ∧ ∃ n, w' = w.drewN n := by
  have hi : Lib.indexByte s.data.toList 47 = (a.length : Int) := by rw [← bl_eq, h]; exact idx_yes ha
  have HI := hid (Tryd.stringslite_Index_one s 47)
  rw [hi] at HI
  have hsz : s.size = a.length + 1 + b.length := by rw [bl_size, h]; simp; omega
  have e1 : s.extract 0 a.length = mk a := by rw [ext_bl, h]; simp
  have e2 : s.extract (a.length + 1) s.size = mk b := by
    rw [ext_bl, hsz, h, List.take_of_length_le (by simp; omega), ← List.drop_drop, List.drop_left]; rfl
  have HE1 := hid e1
  have HE2 := hid e2
  have HSZ := hid hsz
  rw [← bl_size] at hs
  have mixed : Tryd.prog.follows Departure.mixedOrders = true := by kernel_rfl
  have hw : IntKind.i64.wrap ((a.length : Int) + 1) = (a.length : Int) + 1 := by
    rw [IntKind.wrap_i64]; omega
  clear h hi e1 e2
  have c1 : (0 : Int) ≤ (a.length : Int) := by omega
  have c2 : (a.length : Int) ≤ (s.size : Int) := by omega
  have c3 : (0 : Int) ≤ (a.length : Int) + 1 := by omega
  have c4 : (a.length : Int) + 1 ≤ (s.size : Int) := by omega
  clear hsz
  go_enter Tryd.func54, Tryd.ntmps54
  go_wp2_with (go_at_call 65; refine (HI.out _).mono ?_; rintro e w' ⟨rfl, rfl⟩)
  go_region_o
  go_wp2
  go_ret3
  refine ⟨?_, 1, rfl⟩
  rw [← HE1.out, ← HE2.out]
  rfl

set_option maxHeartbeats 1000000 in
theorem cut_no (s : ByteArray) (w : World) (h : (47 : UInt8) ∉ bl s) :
    Calls Tryd.prog 39 #[.string s, .string ⟨#[47]⟩] w fun e w' => e = .returned (.tuple #[.string s, .string (mk []), .bool false]) ∧ w' = w := by
  have H := hid (lcut_no s · h)
  go_enter Tryd.func39, Tryd.ntmps39
  go_wp2_with (go_at_call 54; refine (H.out _).mono ?_; rintro e w' ⟨rfl, rfl⟩)
  go_ret3
  exact ⟨rfl, rfl⟩

set_option maxHeartbeats 1000000 in
theorem cut_yes (s : ByteArray) (a b : List UInt8) (w : World) (h : bl s = a ++ 47 :: b) (ha : (47 : UInt8) ∉ a) (hs : (bl s).length ≤ 9223372036854775807) :
    Calls Tryd.prog 39 #[.string s, .string ⟨#[47]⟩] w fun e w' => e = .returned (.tuple #[.string (mk a), .string (mk b), .bool true]) ∧ ∃ n, w' = w.drewN n := by
  have H := hid (lcut_yes s a b · h ha hs)
  clear h hs
  go_enter Tryd.func39, Tryd.ntmps39
  go_wp2_with (go_at_call 54; refine (H.out _).mono ?_; rintro e w' ⟨rfl, n, rfl⟩)
  go_ret3
  exact ⟨rfl, n, rfl⟩

/-- strings.HasPrefix -/
theorem pre_any (s p : ByteArray) (w : World) :
    Calls Tryd.prog 46 #[.string s, .string p] w fun e w' => e = .returned (.bool ((bl p).isPrefixOf (bl s))) ∧ w' = w := by
  rw [bl_eq, bl_eq]
  exact Tryd.strings_HasPrefix s p w

/-- strings.Join with slashes -/
theorem joins_any (v : Value) (ts : List (List UInt8)) (w : World) (h : Strs w v ts) (hl : ts.length ≤ 140737488355328) (hb : (txt ts).length ≤ 140737488355328) :
    Calls Tryd.prog 51 #[v, .string ⟨#[47]⟩] w fun e w' => e = .returned (.string (mk (txt ts))) ∧ Below w.heap.size w w' := by
  rcases h with ⟨ao, c, rfl, rfl, _⟩ | ⟨g, o, c, rfl, hlt, hc, hcell⟩
  · exact (Tryd.strings_Join_none ao c _ w).mono fun e w' ⟨he, hw⟩ => ⟨he, hw ▸ Below.refl _ _⟩
  · have hm : (ts.map mk).map (fun (x : ByteArray) => x.data.toList) = ts := by
      rw [List.map_map]
      conv => rhs; rw [← List.map_id ts]
      congr 1
    have e := Tryd.strings_Join g o c (ts.map mk) ⟨#[47]⟩ w (fun j x hj => ?_) hlt (by rw [List.length_map]; exact hl) (by rw [List.length_map]; exact hc) (by rw [hm, show (⟨#[47]⟩ : ByteArray).data.toList = [47] from rfl, txt_join]; exact hb)
    · rw [hm, show (⟨#[47]⟩ : ByteArray).data.toList = [47] from rfl, txt_join, List.length_map] at e
      exact e
    · rw [List.getElem?_map] at hj
      have hjl : j < ts.length := by
        rcases Nat.lt_or_ge j ts.length with h | h
        · exact h
        · rw [List.getElem?_eq_none h] at hj; cases hj
      have := hcell j hjl
      rw [List.getD_eq_getElem?_getD, List.getElem?_eq_getElem hjl] at this
      rw [List.getElem?_eq_getElem hjl] at hj
      have hj := Option.some.inj hj
      rw [← hj]
      exact this

end Go.Proofs.YtoehopigjmmagaaDoor
