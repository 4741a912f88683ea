/- PathOwn: no names are shared with the caller. -/
import Derived.Test.YtoehopigjmmagabDoorPLawNames
namespace Go.Proofs.YtoehopigjmmagabDoor
open Go.RowKit

/-- the names of a path; of no path none -/
def nmsO (l : List UInt8) : List (List UInt8) := if okP l = true then nms l else []
theorem nmsO_len (l : List UInt8) : (nmsO l).length ≤ 32 := by
  unfold nmsO
  split
  · rename_i h; exact ((okP_iff l).1 h).2
  · simp
theorem namesO (s : ByteArray) (w : World) (hs : (bl s).length ≤ 9223372036854775807) :
    Calls Tryd.prog 17 #[.string s] w fun e w' => ∃ v x, e = .returned (.tuple #[v, .int .i64 x]) ∧ OwnS w' w.heap.size v (nmsO (bl s)) ∧ Below w.heap.size w w' := by
  refine (names_any s w hs).mono ?_
  rintro e w' ⟨⟨h, v, he, ho⟩ | ⟨h, he⟩, hb⟩
  · exact ⟨v, 0, he, by unfold nmsO; rw [if_pos h]; exact ho, hb⟩
  · exact ⟨_, 45, he, by unfold nmsO; rw [if_neg (by rw [h]; decide)]; exact OwnS.nil _ _, hb⟩
theorem rnamesO (s : ByteArray) (w : World) (hs : (bl s).length ≤ 1099511627776) :
    Calls Tryd.prog 21 #[.string s] w fun e w' => ∃ v b, e = .returned (.tuple #[v, .bool b]) ∧ OwnS w' w.heap.size v (nmsO (bl s)) ∧ Below w.heap.size w w' := by
  refine (rnames_any s w hs).mono ?_
  rintro e w' ⟨⟨h, v, he, ho⟩ | ⟨h, he⟩, hb⟩
  · exact ⟨v, true, he, by unfold nmsO; rw [if_pos h]; exact ho, hb⟩
  · exact ⟨_, false, he, by unfold nmsO; rw [if_neg (by rw [h]; decide)]; exact OwnS.nil _ _, hb⟩
theorem OwnS.put {w : World} {base g cap j : Nat} {ts : List (List UInt8)} (h : OwnS w base (.slice (some ⟨g, 0, none⟩) ts.length cap) ts) (p : List UInt8) :
    OwnS (w.setCell ⟨g, j, none⟩ (.string (mk p))) base (.slice (some ⟨g, 0, none⟩) ts.length cap) (ts.set j p) ∧ w.grownBy (w.setCell ⟨g, j, none⟩ (.string (mk p))) (some g) := by
  have h2 := World.ownsRow.stored h j (.string (mk p))
  refine ⟨?_, h2.2⟩
  unfold OwnS
  have e : strV (ts.set j p) = (strV ts).set j (.string (mk p)) := by simp [strV, List.map_set]
  rw [e, List.length_set]
  exact h2.1
theorem strs_four (w : World) (p q r s : ByteArray) : Strs (w.alloc (.cells #[.string p, .string q, .string r, .string s] 9)) (.slice (some ⟨w.heap.size, 0, none⟩) 4 4) [bl p, bl q, bl r, bl s] := by
  refine Or.inr ⟨w.heap.size, 0, 4, rfl, by simp, Nat.le_refl _, fun j hj => ?_⟩
  match j, hj with
  | 0, _ => simp [mk_bl]
  | 1, _ => simp [mk_bl]
  | 2, _ => simp [mk_bl]
  | 3, _ => simp [mk_bl]

set_option maxRecDepth 100000 in
set_option maxHeartbeats 2000000 in
theorem lawOwn_any (s : ByteArray) (w : World) (hs : (bl s).length ≤ 1048576) :
    Calls Tryd.prog 8 #[.string s] w fun e w' => e = .returned (.bool true) ∧ Below w.heap.size w w' := by
  have HR := hid (rnamesO s w (by omega))
  have HN := hid (namesO s · (by omega))
  have HAW := hid awake_any
  have hT := nmsO_len (bl s)
  generalize nmsO (bl s) = T at *
  clear hs
  go_enter Tryd.func8, Tryd.ntmps8
  go_wp2_with fail
  refine HR.out.mono ?_
  rintro e w1 ⟨v1, b1, rfl, ho1, hb1⟩
  obtain ⟨a1, c1, rfl⟩ := ho1.strs.shape
  have HO1 := hid ho1.strs
  have HB1 := hid hb1
  clear ho1 hb1 HR
  go_wp2
  go_loopw [5] (fun i wr => ∃ r : Nat, r ≤ 2 ∧ i = .int .i64 r ∧ Below w1.heap.size w1 wr) (fun i _ => 2 - (intOf i).toNat)
  case atStart => exact ⟨0, by omega, rfl, Below.refl _ _⟩
  case round =>
    obtain ⟨r, hr, rfl, hbr⟩ := hrel
    have HBR := hid hbr
    have hsr := hbr.size
    clear hbr
    by_cases hlt : r < 2
    · have q1 : (r : Int) < 2 := by omega
      go_wp2_with fail
      refine (HN.out wr).mono ?_
      rintro e w2 ⟨v2, x2, rfl, ho2, hb2⟩
      have HB2 := hid (below_tr HBR.out (below_le hb2 hsr))
      have HO2 := hid ho2
      have hs2 := hb2.size
      obtain ⟨a2, c2, rfl⟩ := ho2.strs.shape
      have HSA := hid (same_true _ _ T w2 ho2.strs (HO1.out.below HB2.out) (by omega))
      clear ho2 hb2
      obtain ⟨B, HBE⟩ : ∃ B : Nat, Hid (wr.heap.size = B) := ⟨_, rfl⟩
      rw [HBE.out] at hs2 HO2 hsr
      go_wp2_with (go_at_call 22; refine HSA.out.mono ?_; rintro e w' ⟨rfl, n, rfl⟩)
      go_loopw [8] (fun i wq => ∃ (j : Nat) (ts : List (List UInt8)), j ≤ T.length ∧ i = .int .i64 j ∧ ts.length = T.length ∧ OwnS wq B (.slice a2 T.length c2) ts ∧ B ≤ wq.heap.size ∧ Below w1.heap.size w1 wq) (fun i _ => T.length - (intOf i).toNat)
      case atStart => exact ⟨0, T, by omega, rfl, rfl, HO2.out, hs2, ⟨HB2.out.os, HB2.out.tape, HB2.out.output, HB2.out.size, HB2.out.block⟩⟩
      case round =>
        obtain ⟨j, ts, hj, rfl, htl, ho, hsq, hbq⟩ := hrel
        have HO := hid ho
        have HBQ := hid hbq
        by_cases hjl : j < T.length
        · have q2 : (j : Int) < (T.length : Int) := by omega
          rcases ho.forms with ⟨_, e⟩ | ⟨g, cap, hv, _, _, _, _, hfz, hcell⟩
          · rw [e] at htl; simp at htl; omega
          · injection hv with e1 e2 e3
            subst e1 e3
            have hc := hcell j (by omega)
            have hf := hfz j
            have ho' : OwnS wr B (.slice (some ⟨g, 0, none⟩) ts.length c2) ts := by rw [htl]; exact ho
            have HP := hid (ho'.put (j := j) [63])
            have HB3 := hid (below_tr hbq (below_le (own_below ho' hsq HP.out.2) hsr))
            have HSZ := hid (HP.out.2.size)
            have HTL := hid htl
            clear hfz hcell ho ho' hbq e2 htl
            go_wp2
            refine ⟨⟨j + 1, ts.set j [63], by omega, by simp, by simp; exact HTL.out, ?_, Nat.le_trans hsq HSZ.out, HB3.out⟩, by simp [intOf]; omega⟩
            rw [← HTL.out]
            exact HP.out.1
        · have q2 : ¬ (j : Int) < (T.length : Int) := by omega
          have HTL := hid htl
          clear ho hbq htl
          go_wp2_with (at_builtin; refine app_text rfl _ _ rfl B _ _ rfl (HO.out.alloc _) _ _ rfl (strs_four _ _ _ _ _) ?c1 ?c2 ?_)
          case c1 =>
            have := HTL.out
            first | omega | (simp only [List.length_cons, List.length_nil]; omega)
          case c2 => first | omega | (simp only [World.heap_size_alloc]; omega) | exact Nat.le_trans hsq (Nat.le_succ _)
          intro v3 w3 ho3 hg3 hp3
          have HB3 := hid (below_tr HBQ.out (below_le (below_tr (below_le (below_walk wr _) hsq) (own_below (HO.out.alloc _) (by simp; omega) hg3)) hsr))
          obtain ⟨Z, HZ⟩ : ∃ Z, Hid (ts ++ [bl ⟨#[33]⟩, bl ⟨#[33]⟩, bl ⟨#[33]⟩, bl ⟨#[33]⟩] = Z) := ⟨_, rfl⟩
          rw [HZ.out] at ho3
          have hZl : Z.length = T.length + 4 := by rw [← HZ.out]; simp; exact HTL.out
          obtain ⟨a3, c3, rfl⟩ := ho3.strs.shape
          rw [hZl]
          clear ho3 hg3 hp3
          go_wp2
          exact ⟨⟨r + 1, by omega, by simp, HB3.out⟩, by simp [intOf]; omega⟩
    · have q1 : ¬ (r : Int) < 2 := by omega
      go_wp2_with (go_at_call 10; refine (HAW.out _).mono ?_; rintro e w5 ⟨rfl, hb5⟩)
      go_ret
      exact ⟨rfl, below_tr HB1.out (below_le (below_tr HBR.out (below_le hb5 hsr)) HB1.out.size)⟩

end Go.Proofs.YtoehopigjmmagabDoor
