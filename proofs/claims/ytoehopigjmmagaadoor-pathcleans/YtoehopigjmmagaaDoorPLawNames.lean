/- PathNames: a text is a name or a path just when it is told to be. -/
import Derived.Test.YtoehopigjmmagaaDoorPPieces
namespace Go.Proofs.YtoehopigjmmagaaDoor
open Go.RowKit

theorem Strs.drewN {w : World} {v : Value} {ts : List (List UInt8)} (h : Strs w v ts) (n : Nat) : Strs (w.drewN n) v ts := h
theorem check_is (s : ByteArray) (x : Int) (h : chN (bl s) = x) (hs : (bl s).length ≤ 9223372036854775807) (w : World) :
    Calls Tryd.prog 13 #[.string s] w fun e w' => e = .returned (.int .i64 x) ∧ ∃ n, w' = w.drewN n := h ▸ check_any s w hs
theorem below_drew {w w' w'' : World} {a n : Nat} (h : Below a w w') (k : Below (w'.drewN n).heap.size (w'.drewN n) w'') (ha : a ≤ w'.heap.size) : Below a w w'' :=
  ⟨k.os.trans h.os, k.tape.trans h.tape, k.output.trans h.output, Nat.le_trans h.size k.size, fun i hi => (k.block i (Nat.lt_of_lt_of_le hi ha)).trans (h.block i hi)⟩

/-- what both Names say -/
def BNames (l : List UInt8) (w : World) (e : Ending) (w' : World) : Prop :=
  (okP l = true ∧ (∃ v, e = .returned (.tuple #[v, .int .i64 0]) ∧ OwnS w' w.heap.size v (nms l)) ∨ okP l = false ∧ e = .returned (.tuple #[.slice none 0 0, .int .i64 45])) ∧ Below w.heap.size w w'
theorem names_any (s : ByteArray) (w : World) (hs : (bl s).length ≤ 9223372036854775807) :
    Calls Tryd.prog 9 #[.string s] w fun e w' => BNames (bl s) w e w' := by
  cases h : okP (bl s) with
  | true => exact (names_ok s w h).mono fun e w' ⟨v, he, ho, hb⟩ => ⟨Or.inl ⟨h, v, he, ho⟩, hb⟩
  | false => exact (names_bad s w h hs).mono fun e w' ⟨he, hb⟩ => ⟨Or.inr ⟨h, he⟩, hb⟩

set_option maxRecDepth 100000 in
set_option maxHeartbeats 2000000 in
theorem lawNames_any (s : ByteArray) (w : World) (hs : (bl s).length ≤ 1048576) :
    Calls Tryd.prog 3 #[.string s] w fun e w' => e = .returned (.bool true) ∧ Below w.heap.size w w' := by
  have HN := hid (names_any s w (by omega))
  have HR := hid (rnames_any s · (by omega))
  have HAW := hid awake_any
  have HSH := hid (show okP (bl s) = true → (nms (bl s)).length ≤ 32 from fun h => ((okP_iff _).1 h).2)
  obtain ⟨nm, HNM⟩ : ∃ nm, Hid (nmP (bl s) = nm) := ⟨_, rfl⟩
  have HR2 := hid (rname_is s nm HNM.out)
  have HCK := hid (fun x h => check_is s x h (by omega))
  have HCN := hid (show chN (bl s) = if okP (bl s) = true then 0 else 45 from rfl)
  have HN1 := hid (fun h => name_ok s h)
  have HN2 := hid (fun h => name_bad s h)
  clear hs
  go_enter Tryd.func3, Tryd.ntmps3
  go_wp2_with fail
  refine HN.out.mono ?_
  rintro e w1 ⟨⟨hok, v1, rfl, ho1⟩ | ⟨hok, rfl⟩, hb1⟩
  · obtain ⟨a1, c1, rfl⟩ := ho1.strs.shape
    have HO1 := hid ho1
    have HB1 := hid hb1
    have HOK := hid hok
    clear ho1 hb1 hok HN
    go_wp2_with fail
    refine (HR.out w1).mono ?_
    rintro e w2 ⟨⟨_, v2, rfl, ho2⟩ | ⟨hno, rfl⟩, hb2⟩
    · obtain ⟨a2, c2, rfl⟩ := ho2.strs.shape
      have HO2 := hid ho2
      have HB2 := hid (below_tr HB1.out (below_le hb2 HB1.out.size))
      have HO3 := hid (HO1.out.below hb2)
      have HC0 := hid (HCK.out 0 (by rw [HCN.out, HOK.out]; rfl))
      have HSA := hid (fun n => same_true _ _ _ (w2.drewN n) (HO3.out.strs.drewN n) (HO2.out.strs.drewN n) (by have := HSH.out HOK.out; omega))
      have hle := HB2.out.size
      clear ho2 hb2 HO1 HB1
      cases nm with
      | true =>
        have HNA := hid (HN1.out HNM.out)
        go_wp2_with (first | (go_at_call 11; refine (HNA.out _).mono ?_; rintro e w' ⟨rfl, hw⟩; subst w') | (go_at_call 12; refine (HR2.out _).mono ?_; rintro e w' ⟨rfl, hw⟩; subst w') | (go_at_call 13; refine (HC0.out _).mono ?_; rintro e w' ⟨rfl, n, rfl⟩) | (go_at_call 14; refine (HSA.out _).mono ?_; rintro e w' ⟨rfl, n2, rfl⟩) | (go_at_call 15; refine (HAW.out _).mono ?_; rintro e w4 ⟨rfl, hb4⟩))
        go_ret
        exact ⟨rfl, below_tr HB2.out ⟨hb4.os, hb4.tape, hb4.output, hb4.size, fun k hk => hb4.block k (Nat.lt_of_lt_of_le hk hle)⟩⟩
      | false =>
        have HNA := hid (HN2.out HNM.out)
        go_wp2_with (first | (go_at_call 11; refine (HNA.out _).mono ?_; rintro e w' ⟨rfl, hw⟩; subst w') | (go_at_call 12; refine (HR2.out _).mono ?_; rintro e w' ⟨rfl, hw⟩; subst w') | (go_at_call 13; refine (HC0.out _).mono ?_; rintro e w' ⟨rfl, n, rfl⟩) | (go_at_call 14; refine (HSA.out _).mono ?_; rintro e w' ⟨rfl, n2, rfl⟩) | (go_at_call 15; refine (HAW.out _).mono ?_; rintro e w4 ⟨rfl, hb4⟩))
        go_ret
        exact ⟨rfl, below_tr HB2.out ⟨hb4.os, hb4.tape, hb4.output, hb4.size, fun k hk => hb4.block k (Nat.lt_of_lt_of_le hk hle)⟩⟩
    · rw [HOK.out] at hno; cases hno
  · have HB1 := hid hb1
    have HOK := hid hok
    clear hb1 hok HN
    go_wp2_with fail
    refine (HR.out w1).mono ?_
    rintro e w2 ⟨⟨hno, v2, rfl, ho2⟩ | ⟨_, rfl⟩, hb2⟩
    · rw [HOK.out] at hno; cases hno
    · have HB2 := hid (below_tr HB1.out (below_le hb2 HB1.out.size))
      have HC0 := hid (HCK.out 45 (by rw [HCN.out, HOK.out]; rfl))
      have HSA := hid (fun n => same_true (.slice none 0 0) (.slice none 0 0) [] (w2.drewN n) (Or.inl ⟨_, _, rfl, rfl, fun _ => rfl⟩) (Or.inl ⟨_, _, rfl, rfl, fun _ => rfl⟩) (by simp))
      have hle := HB2.out.size
      clear hb2 HB1
      cases nm with
      | true =>
        have HNA := hid (HN1.out HNM.out)
        go_wp2_with (first | (go_at_call 11; refine (HNA.out _).mono ?_; rintro e w' ⟨rfl, hw⟩; subst w') | (go_at_call 12; refine (HR2.out _).mono ?_; rintro e w' ⟨rfl, hw⟩; subst w') | (go_at_call 13; refine (HC0.out _).mono ?_; rintro e w' ⟨rfl, n, rfl⟩) | (go_at_call 14; refine (HSA.out _).mono ?_; rintro e w' ⟨rfl, n2, rfl⟩) | (go_at_call 15; refine (HAW.out _).mono ?_; rintro e w4 ⟨rfl, hb4⟩))
        go_ret
        exact ⟨rfl, below_tr HB2.out ⟨hb4.os, hb4.tape, hb4.output, hb4.size, fun k hk => hb4.block k (Nat.lt_of_lt_of_le hk hle)⟩⟩
      | false =>
        have HNA := hid (HN2.out HNM.out)
        go_wp2_with (first | (go_at_call 11; refine (HNA.out _).mono ?_; rintro e w' ⟨rfl, hw⟩; subst w') | (go_at_call 12; refine (HR2.out _).mono ?_; rintro e w' ⟨rfl, hw⟩; subst w') | (go_at_call 13; refine (HC0.out _).mono ?_; rintro e w' ⟨rfl, n, rfl⟩) | (go_at_call 14; refine (HSA.out _).mono ?_; rintro e w' ⟨rfl, n2, rfl⟩) | (go_at_call 15; refine (HAW.out _).mono ?_; rintro e w4 ⟨rfl, hb4⟩))
        go_ret
        exact ⟨rfl, below_tr HB2.out ⟨hb4.os, hb4.tape, hb4.output, hb4.size, fun k hk => hb4.block k (Nat.lt_of_lt_of_le hk hle)⟩⟩

end Go.Proofs.YtoehopigjmmagaaDoor
