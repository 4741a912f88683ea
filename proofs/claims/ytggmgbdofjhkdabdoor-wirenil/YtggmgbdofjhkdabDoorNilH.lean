/- The law WireNil, walked: it answers true, and only makes memory. -/
import Derived.Test.YtggmgbdofjhkdabDoorNilG
namespace Go.Proofs.YtggmgbdofjhkdabDoor.nilr
open Go.RowKit

/-- the calls lie at v: each is three numbers -/
def CallsAt (w : World) (v : Value) : Prop :=
  (∃ ao c, v = .slice ao 0 c) ∨ ∃ bc off n c, v = .slice (some ⟨bc, off, none⟩) n c ∧ n ≤ maxLen ∧
    ∀ k : Nat, k < n → ∃ K A B : Int, w.cell? ⟨bc, off + k * 3, none⟩ = some (.int .i64 K) ∧ w.cell? ⟨bc, off + k * 3 + 1, none⟩ = some (.int .i64 A) ∧ w.cell? ⟨bc, off + k * 3 + 2, none⟩ = some (.int .i64 B)

set_option maxRecDepth 100000 in
set_option maxHeartbeats 1000000 in
theorem law_some (bc off n c : Nat) (w : World) (hn : n ≤ maxLen)
    (hk : ∀ k : Nat, k < n → ∃ K A B : Int, w.cell? ⟨bc, off + k * 3, none⟩ = some (.int .i64 K) ∧ w.cell? ⟨bc, off + k * 3 + 1, none⟩ = some (.int .i64 A) ∧ w.cell? ⟨bc, off + k * 3 + 2, none⟩ = some (.int .i64 B)) :
    Calls Tryd.prog 3 #[.slice (some ⟨bc, off, none⟩) n c] w fun e w' => e = .returned (.bool true) ∧ Below w.heap.size w w' := by
  have HK : Hid (∀ k : Nat, k < n → ∃ K A B : Int, w.cell? ⟨bc, off + k * 3, none⟩ = some (.int .i64 K) ∧ w.cell? ⟨bc, off + k * 3 + 1, none⟩ = some (.int .i64 A) ∧ w.cell? ⟨bc, off + k * 3 + 2, none⟩ = some (.int .i64 B)) := hk
  clear hk
  unfold maxLen at hn
  go_enter Tryd.func3, Tryd.ntmps3
  go_wp2_with fail
  refine (alive_true _).mono ?_
  rintro e w1 ⟨rfl, hb1⟩
  have HB1 : Hid (Below w.heap.size w w1) := hb1
  clear hb1
  go_wp2_with fail
  have HW : ∃ W2, Hid (W2 = ((w1.alloc (.cells #[.slice none 0 0, .int .i64 0, .int .i64 0, .int .i64 0, .bool false] 34)).alloc (.cells #[.pointer none, .pointer (some ⟨w1.heap.size, 0, none⟩)] 24))) := ⟨_, rfl⟩
  obtain ⟨W2, HW⟩ := HW
  go_loopw [14] (fun i wr => ∃ k : Nat, k ≤ 2 ∧ i = .int .i64 k ∧ Below W2.heap.size W2 wr) (fun i _ => 2 - (intOf i).toNat)
  case atStart => exact ⟨0, by omega, rfl, by rw [HW.out]; exact Below.refl _ _⟩
  case round =>
    obtain ⟨k, hk2, rfl, hbr⟩ := hrel
    have HBR : Hid (Below W2.heap.size W2 wr) := hbr
    clear hbr
    by_cases hlt : k < 2
    · have hsz : W2.heap.size = w1.heap.size + 2 := by rw [HW.out]; simp
      have hp0 : wr.cell? ⟨w1.heap.size + 1, 0, none⟩ = some (.pointer none) := by
        rw [HBR.out.cell (p := ⟨w1.heap.size + 1, 0, none⟩) (by show w1.heap.size + 1 < _; omega), HW.out]; simp
      have hp1 : wr.cell? ⟨w1.heap.size + 1, 1, none⟩ = some (.pointer (some ⟨w1.heap.size, 0, none⟩)) := by
        rw [HBR.out.cell (p := ⟨w1.heap.size + 1, 1, none⟩) (by show w1.heap.size + 1 < _; omega), HW.out]; simp
      have hq : wr.cell? ⟨w1.heap.size, 4, none⟩ = some (.bool false) := by
        rw [HBR.out.cell (p := ⟨w1.heap.size, 4, none⟩) (by show w1.heap.size < _; omega), HW.out]; simp
      have hwr := HBR.out.size
      have hr : ∃ r, wr.cell? ⟨w1.heap.size + 1, k, none⟩ = some r ∧ NilR W2 r := by
        rcases (show k = 0 ∨ k = 1 by omega) with rfl | rfl
        · exact ⟨_, hp0, Or.inl rfl⟩
        · exact ⟨_, hp1, Or.inr ⟨w1.heap.size, by omega, rfl, by rw [HW.out]; simp⟩⟩
      obtain ⟨r, hcr, HN⟩ := hr
      have HN : Hid (NilR W2 r) := HN
      have HSZ : Hid (W2.heap.size = w1.heap.size + 2) := hsz
      have hd : decide ((k : Int) < 2) = true := by simp; omega
      clear hp0 hp1 hq hsz
      go_wp2_with fail
      clear hcr hd
      go_loopw [20] (fun i wq => ∃ j : Nat, j ≤ n ∧ i = .int .i64 j ∧ Below W2.heap.size W2 wq) (fun i _ => n - (intOf i).toNat)
      case atStart => exact ⟨0, by omega, rfl, HBR.out⟩
      case round =>
        obtain ⟨j, hj, rfl, hbq⟩ := hrel
        have HBQ : Hid (Below W2.heap.size W2 wr) := hbq
        clear hbq
        by_cases hjn : j < n
        · obtain ⟨K, A, B, cK, cA, cB⟩ := HK.out j hjn
          have hbc : bc < w.heap.size := World.block_lt_of_cell? w ⟨bc, off + j * 3, none⟩ cK
          have H02 : Below w.heap.size w wr := by
            refine HB1.out.trans (Below.trans ?_ (HBQ.out.mono ?_))
            · rw [HW.out]; exact (((Below.refl _ _).alloc (Nat.le_refl _) _).alloc (by simp) _).mono HB1.out.size
            · have := HB1.out.size; have := HSZ.out; omega
          have c0 : wr.cell? ⟨bc, off + j * 3, none⟩ = some (.int .i64 K) := (H02.cell (p := ⟨bc, off + j * 3, none⟩) hbc).trans cK
          have c1 : wr.cell? ⟨bc, off + j * 3 + 1, none⟩ = some (.int .i64 A) := (H02.cell (p := ⟨bc, off + j * 3 + 1, none⟩) hbc).trans cA
          have c2 : wr.cell? ⟨bc, off + j * 3 + 2, none⟩ = some (.int .i64 B) := (H02.cell (p := ⟨bc, off + j * 3 + 2, none⟩) hbc).trans cB
          clear cK cA cB H02 hbc
          have HA : Hid (Below W2.heap.size W2 (wr.alloc (.cells #[.int .i64 K, .int .i64 A, .int .i64 B] 37))) := HBQ.out.alloc HBQ.out.size _
          clear HBQ
          by_cases h8 : ((wrap64 (K.tmod 10 + 10)).tmod 10 == 8) = true
          · go_wp2_with fail
            refine (failr_nil _ _ _ (HN.out.below HA.out)).mono ?_
            rintro e w0 ⟨rfl, hb⟩
            have HE0 : Hid (Below W2.heap.size W2 w0) := HA.out.trans (hb.mono HA.out.size)
            clear hb HA
            go_wp2_with fail
            refine (end_nil _ _ (HN.out.below HE0.out)).mono ?_
            rintro e wa ⟨rfl, hb⟩
            have HE1 : Hid (Below W2.heap.size W2 wa) := HE0.out.trans (hb.mono HE0.out.size)
            clear hb HE0
            go_wp2_with fail
            refine (fault_nil _ _ (HN.out.below HE1.out)).mono ?_
            rintro e wb ⟨rfl, hb⟩
            have HE2 : Hid (Below W2.heap.size W2 wb) := HE1.out.trans (hb.mono HE1.out.size)
            clear hb HE1
            go_wp2_with fail
            refine (at_nil _ _ (HN.out.below HE2.out)).mono ?_
            rintro e wc ⟨rfl, hb⟩
            have HE3 : Hid (Below W2.heap.size W2 wc) := HE2.out.trans (hb.mono HE2.out.size)
            clear hb HE2
            go_wp2_with fail
            refine (left_nil _ _ (HN.out.below HE3.out)).mono ?_
            rintro e wd ⟨rfl, hb⟩
            have HE4 : Hid (Below W2.heap.size W2 wd) := HE3.out.trans (hb.mono HE3.out.size)
            clear hb HE3
            go_wp2
            go_roundw
            case rel => exact ⟨j + 1, by omega, by go_num, HE4.out⟩
            case measure => simp [intOf]; omega
          · have h8' : ((wrap64 (K.tmod 10 + 10)).tmod 10 == 8) = false := by simpa using h8
            clear h8
            by_cases hl8 : (wrap64 (K.tmod 10 + 10)).tmod 10 < 8
            · go_wp2_with fail
              refine (word_nil _ _ _ _ _ (HN.out.below HA.out)).mono ?_
              rintro e w0 ⟨v, rfl, hz, hb⟩
              have HE0 : Hid (Below W2.heap.size W2 w0) := HA.out.trans (hb.mono HA.out.size)
              clear hb HA
              go_wp2_with fail
              refine (trim_zs _ _ hz).mono ?_
              rintro e w5 ⟨rfl, hb⟩
              have HE5 : Hid (Below W2.heap.size W2 w5) := HE0.out.trans (hb.mono HE0.out.size)
              clear hb HE0 hz
              go_wp2_with fail
              refine (end_nil _ _ (HN.out.below HE5.out)).mono ?_
              rintro e wa ⟨rfl, hb⟩
              have HE1 : Hid (Below W2.heap.size W2 wa) := HE5.out.trans (hb.mono HE5.out.size)
              clear hb HE5
              go_wp2_with fail
              refine (fault_nil _ _ (HN.out.below HE1.out)).mono ?_
              rintro e wb ⟨rfl, hb⟩
              have HE2 : Hid (Below W2.heap.size W2 wb) := HE1.out.trans (hb.mono HE1.out.size)
              clear hb HE1
              go_wp2_with fail
              refine (at_nil _ _ (HN.out.below HE2.out)).mono ?_
              rintro e wc ⟨rfl, hb⟩
              have HE3 : Hid (Below W2.heap.size W2 wc) := HE2.out.trans (hb.mono HE2.out.size)
              clear hb HE2
              go_wp2_with fail
              refine (left_nil _ _ (HN.out.below HE3.out)).mono ?_
              rintro e wd ⟨rfl, hb⟩
              have HE4 : Hid (Below W2.heap.size W2 wd) := HE3.out.trans (hb.mono HE3.out.size)
              clear hb HE3
              go_wp2
              go_roundw
              case rel => exact ⟨j + 1, by omega, by go_num, HE4.out⟩
              case measure => simp [intOf]; omega
            · go_wp2_with fail
              refine (end_nil _ _ (HN.out.below HA.out)).mono ?_
              rintro e wa ⟨rfl, hb⟩
              have HE1 : Hid (Below W2.heap.size W2 wa) := HA.out.trans (hb.mono HA.out.size)
              clear hb HA
              go_wp2_with fail
              refine (fault_nil _ _ (HN.out.below HE1.out)).mono ?_
              rintro e wb ⟨rfl, hb⟩
              have HE2 : Hid (Below W2.heap.size W2 wb) := HE1.out.trans (hb.mono HE1.out.size)
              clear hb HE1
              go_wp2_with fail
              refine (at_nil _ _ (HN.out.below HE2.out)).mono ?_
              rintro e wc ⟨rfl, hb⟩
              have HE3 : Hid (Below W2.heap.size W2 wc) := HE2.out.trans (hb.mono HE2.out.size)
              clear hb HE2
              go_wp2_with fail
              refine (left_nil _ _ (HN.out.below HE3.out)).mono ?_
              rintro e wd ⟨rfl, hb⟩
              have HE4 : Hid (Below W2.heap.size W2 wd) := HE3.out.trans (hb.mono HE3.out.size)
              clear hb HE3
              go_wp2
              go_roundw
              case rel => exact ⟨j + 1, by omega, by go_num, HE4.out⟩
              case measure => simp [intOf]; omega
        · go_wp2_with fail
          go_roundw
          case rel => exact ⟨k + 1, by omega, by go_num, HBQ.out⟩
          case measure => simp [intOf]; omega
    · go_wp2_with fail
      go_ret
      refine ⟨rfl, ?_⟩
      refine HB1.out.trans (Below.trans ?_ (HBR.out.mono ?_))
      · rw [HW.out]; exact (((Below.refl _ _).alloc (Nat.le_refl _) _).alloc (by simp) _).mono HB1.out.size
      · have h1 := HB1.out.size
        have h2 : W2.heap.size = w1.heap.size + 2 := by rw [HW.out]; simp
        omega

set_option maxRecDepth 100000 in
set_option maxHeartbeats 1000000 in
theorem law_none (ao : Option Addr) (c : Nat) (w : World) :
    Calls Tryd.prog 3 #[.slice ao 0 c] w fun e w' => e = .returned (.bool true) ∧ Below w.heap.size w w' := by
  go_enter Tryd.func3, Tryd.ntmps3
  go_wp2_with fail
  refine (alive_true _).mono ?_
  rintro e w1 ⟨rfl, hb1⟩
  have HB1 : Hid (Below w.heap.size w w1) := hb1
  clear hb1
  go_wp2_with fail
  have HW : ∃ W2, Hid (W2 = ((w1.alloc (.cells #[.slice none 0 0, .int .i64 0, .int .i64 0, .int .i64 0, .bool false] 34)).alloc (.cells #[.pointer none, .pointer (some ⟨w1.heap.size, 0, none⟩)] 24))) := ⟨_, rfl⟩
  obtain ⟨W2, HW⟩ := HW
  go_loopw [14] (fun i wr => ∃ k : Nat, k ≤ 2 ∧ i = .int .i64 k ∧ Below W2.heap.size W2 wr) (fun i _ => 2 - (intOf i).toNat)
  case atStart => exact ⟨0, by omega, rfl, by rw [HW.out]; exact Below.refl _ _⟩
  case round =>
    obtain ⟨k, hk2, rfl, hbr⟩ := hrel
    have HBR : Hid (Below W2.heap.size W2 wr) := hbr
    clear hbr
    by_cases hlt : k < 2
    · have hsz : W2.heap.size = w1.heap.size + 2 := by rw [HW.out]; simp
      have hp0 : wr.cell? ⟨w1.heap.size + 1, 0, none⟩ = some (.pointer none) := by
        rw [HBR.out.cell (p := ⟨w1.heap.size + 1, 0, none⟩) (by show w1.heap.size + 1 < _; omega), HW.out]; simp
      have hp1 : wr.cell? ⟨w1.heap.size + 1, 1, none⟩ = some (.pointer (some ⟨w1.heap.size, 0, none⟩)) := by
        rw [HBR.out.cell (p := ⟨w1.heap.size + 1, 1, none⟩) (by show w1.heap.size + 1 < _; omega), HW.out]; simp
      have hq : wr.cell? ⟨w1.heap.size, 4, none⟩ = some (.bool false) := by
        rw [HBR.out.cell (p := ⟨w1.heap.size, 4, none⟩) (by show w1.heap.size < _; omega), HW.out]; simp
      have hwr := HBR.out.size
      have hr : ∃ r, wr.cell? ⟨w1.heap.size + 1, k, none⟩ = some r ∧ NilR W2 r := by
        rcases (show k = 0 ∨ k = 1 by omega) with rfl | rfl
        · exact ⟨_, hp0, Or.inl rfl⟩
        · exact ⟨_, hp1, Or.inr ⟨w1.heap.size, by omega, rfl, by rw [HW.out]; simp⟩⟩
      obtain ⟨r, hcr, HN⟩ := hr
      have HN : Hid (NilR W2 r) := HN
      have HSZ : Hid (W2.heap.size = w1.heap.size + 2) := hsz
      have hd : decide ((k : Int) < 2) = true := by simp; omega
      clear hp0 hp1 hq hsz
      go_wp2_with fail
      clear hcr hd
      go_loopw [20] (fun i wq => ∃ j : Nat, j ≤ 0 ∧ i = .int .i64 j ∧ Below W2.heap.size W2 wq) (fun i _ => 0 - (intOf i).toNat)
      case atStart => exact ⟨0, by omega, rfl, HBR.out⟩
      case round =>
        obtain ⟨j, hj, rfl, hbq⟩ := hrel
        have HBQ : Hid (Below W2.heap.size W2 wr) := hbq
        clear hbq
        obtain rfl : j = 0 := by omega
        · go_wp2_with fail
          go_roundw
          case rel => exact ⟨k + 1, by omega, by go_num, HBQ.out⟩
          case measure => simp [intOf]; omega
    · go_wp2_with fail
      go_ret
      refine ⟨rfl, ?_⟩
      refine HB1.out.trans (Below.trans ?_ (HBR.out.mono ?_))
      · rw [HW.out]; exact (((Below.refl _ _).alloc (Nat.le_refl _) _).alloc (by simp) _).mono HB1.out.size
      · have h1 := HB1.out.size
        have h2 : W2.heap.size = w1.heap.size + 2 := by rw [HW.out]; simp
        omega

theorem law_any (v : Value) (w : World) (h : CallsAt w v) :
    Calls Tryd.prog 3 #[v] w fun e w' => e = .returned (.bool true) ∧ Below w.heap.size w w' := by
  rcases h with ⟨ao, c, rfl⟩ | ⟨bc, off, n, c, rfl, hn, hk⟩
  · exact law_none ao c w
  · exact law_some bc off n c w hn hk

end Go.Proofs.YtggmgbdofjhkdabDoor.nilr
