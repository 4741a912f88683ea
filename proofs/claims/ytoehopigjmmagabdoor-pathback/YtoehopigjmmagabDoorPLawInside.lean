/- PathInside: nothing escapes: a written path never leads outside of where it begins. -/
import Derived.Test.YtoehopigjmmagabDoorPAbove
import Derived.Test.YtoehopigjmmagabDoorPPieces
import Derived.Test.YtoehopigjmmagabDoorPLawParts
namespace Go.Proofs.YtoehopigjmmagabDoor
open Go.RowKit

theorem steps_names : ∀ {r l : List (List UInt8)}, (∀ p ∈ r, nmP p = true) → stepsP l r = .ok (l ++ r)
  | [], l, _ => by simp [stepsP]
  | p :: r, l, h => by
    obtain ⟨h1, h2, h3⟩ := nmP_ne (h p (by simp))
    have e : stepP l p = .ok (l ++ [p]) := by unfold stepP; rw [if_neg (by simp [h1, h2]), if_neg h3, if_pos (h p (by simp))]
    rw [stepsP, e]
    show stepsP (l ++ [p]) r = _
    rw [steps_names (fun q hq => h q (List.mem_cons_of_mem _ hq)), List.append_assoc]
    rfl
/-- a path that is walked from names on: its names come behind -/
theorem walk_path {l : List (List UInt8)} {s : List UInt8} (h : okP s = true) : walkP l s = .ok (l ++ nms s) := by
  have hs := okP_short h
  have hp := (okP_iff s).1 h
  unfold walkP
  rw [if_neg (by omega)]
  by_cases h0 : s = []
  · subst h0
    rw [if_neg (by simp)]
    simp [pcs, stepsP, stepP, nms]
  · have e : nms s = pcs s := by unfold nms; rw [if_neg h0]
    rw [e] at hp ⊢
    rw [if_neg, steps_names hp.1]
    intro hh
    cases s with
    | nil => simp at hh
    | cons c r =>
      simp at hh
      subst hh
      rw [pcs_slash] at hp
      have := (nmP_ne (hp.1 [] (by simp))).1
      exact this rfl
theorem clean_path {s : List UInt8} (h : okP s = true) : joinP [] [s] = .ok s := by
  unfold joinP
  rw [okP_nil, if_pos rfl]
  have e : walksP (nms []) [s] = .ok (nms s) := by
    rw [walksP, walk_path h]
    rfl
  rw [e]
  unfold finP endP
  simp only
  rw [if_neg (by have := ((okP_iff s).1 h).2; omega), txt_nms]

theorem steps_on : ∀ {r l m : List (List UInt8)}, stepsP l r = .ok m → (∀ p ∈ r, p ≠ [46, 46]) → ∃ t, m = l ++ t
  | [], l, m, h, _ => by cases h; exact ⟨[], by simp⟩
  | p :: r, l, m, h, hn => by
    unfold stepsP at h
    split at h
    · rename_i k hk
      obtain ⟨t, rfl⟩ := steps_on h (fun q hq => hn q (List.mem_cons_of_mem _ hq))
      unfold stepP at hk
      rw [if_neg (hn p (by simp))] at hk
      split at hk
      · cases hk; exact ⟨t, rfl⟩
      · split at hk
        · cases hk; exact ⟨p :: t, by simp⟩
        · cases hk
    · cases h
theorem walks_on : ∀ {r l m : List (List UInt8)}, walksP l r = .ok m → (∀ s ∈ r, ∀ p ∈ pcs s, p ≠ [46, 46]) → ∃ t, m = l ++ t
  | [], l, m, h, _ => by cases h; exact ⟨[], by simp⟩
  | s :: r, l, m, h, hn => by
    unfold walksP at h
    split at h
    · rename_i k hk
      obtain ⟨t, rfl⟩ := walks_on h (fun q hq => hn q (List.mem_cons_of_mem _ hq))
      unfold walkP at hk
      split at hk
      · cases hk
      · split at hk
        · cases hk
        · obtain ⟨u, rfl⟩ := steps_on hk (hn s (by simp))
          exact ⟨u ++ t, by simp⟩
    · cases h
theorem inside_pure {B s : List UInt8} {more : List (List UInt8)} (h : joinP B more = .ok s) (hn : ∀ t ∈ more, ∀ p ∈ pcs t, p ≠ [46, 46]) : abB B s = true ∨ B = s := by
  obtain ⟨m, hB, hw, hp, rfl⟩ := joinP_ok h
  obtain ⟨t, rfl⟩ := walks_on hw hn
  by_cases ht : t = []
  · subst ht
    right
    rw [List.append_nil, txt_nms]
  · left
    unfold abB
    rw [hB, okP_txt hp, nms_txt hp.1, upP_iff.2 ⟨t, ht, rfl⟩]
    rfl

/-- so far no piece leads up -/
def noUp (more : List (List UInt8)) (k : Nat) : Prop := ∀ j, j < k → ∀ p ∈ pcs (more.getD j []), p ≠ [46, 46]
theorem noUp_all {more : List (List UInt8)} (h : noUp more more.length) : ∀ t ∈ more, ∀ p ∈ pcs t, p ≠ [46, 46] := by
  intro t ht
  obtain ⟨j, hj, rfl⟩ := List.mem_iff_getElem.1 ht
  have := h j hj
  rw [List.getD_eq_getElem?_getD, List.getElem?_eq_getElem hj] at this
  exact this
theorem noUp_next {more P : List (List UInt8)} {k : Nat} (h : noUp more k) (hP : pcs (more.getD k []) = P) (hn : ∀ i, i < P.length → P.getD i [] ≠ [46, 46]) : noUp more (k + 1) := by
  intro j hj
  by_cases hjk : j = k
  · subst hjk
    rw [hP]
    intro p hp
    obtain ⟨i, hi, rfl⟩ := List.mem_iff_getElem.1 hp
    have := hn i hi
    rw [List.getD_eq_getElem?_getD, List.getElem?_eq_getElem hi] at this
    exact this
  · exact h j (by omega)

set_option maxRecDepth 100000 in
set_option maxHeartbeats 2000000 in
theorem lawInside_any (B : ByteArray) (vm : Value) (more : List (List UInt8)) (w : World) (hB : (bl B).length ≤ 1048576) (hm : Strs w vm more) (hl : more.length ≤ 1048576) (hb : ∀ t ∈ more, t.length ≤ 1048576) :
    Calls Tryd.prog 3 #[.string B, vm] w fun e w' => e = .returned (.bool true) ∧ Below w.heap.size w w' := by
  have HJ := hid (join_any B _ more w (by omega) hm (by omega))
  have HM := hid hm
  have HBT := hid hb
  have HBB := hid hB
  obtain ⟨am, cm, rfl⟩ := hm.shape
  have HAW := hid awake_any
  clear hm hb hB
  cases hr : joinP (bl B) more with
  | error x =>
    rw [hr] at HJ
    have hx := joinP_num hr
    have q1 : (aN (.error x : Except Int (List UInt8)) != 0) = true := by simp [aN, hx]
    have q2 : ¬ aN (.error x : Except Int (List UInt8)) = 0 := hx
    have e1 : (mk (aS (.error x : Except Int (List UInt8)))).toList = [] := bl_mk []
    clear hr hx
    generalize aN (.error x : Except Int (List UInt8)) = N at *
    go_enter Tryd.func3, Tryd.ntmps3
    go_wp2_with (first | (go_at_call 9; refine HJ.out.mono ?_; rintro e w1 ⟨rfl, hb1⟩) | (go_at_call 10; refine (HAW.out _).mono ?_; rintro e w2 ⟨rfl, hb2⟩))
    go_ret
    exact ⟨rfl, below_tr hb1 (below_le hb2 hb1.size)⟩
  | ok s =>
    rw [hr] at HJ
    have HJ2 : Hid (Calls Tryd.prog 9 #[.string B, .slice am more.length cm] w fun e w' => e = .returned (.tuple #[.string (mk s), .int .i64 0]) ∧ Below w.heap.size w w') := HJ.out
    have HIN := hid (fun hn => inside_pure hr hn)
    obtain ⟨m, hokB, _, hp, hsm⟩ := joinP_ok hr
    have hok : okP s = true := by rw [hsm]; exact okP_txt hp
    have hsh := okP_short hok
    have HCL := hid (clean_any (mk s))
    rw [bl_mk, clean_path hok] at HCL
    have HCL2 : Hid (∀ w, Calls Tryd.prog 11 #[.string (mk s)] w fun e w' => e = .returned (.tuple #[.string (mk s), .int .i64 0]) ∧ Below w.heap.size w w') := HCL.out
    have HCK := hid (check_is (mk s) 0 (by rw [bl_mk]; unfold chN; rw [hok]; rfl) (by rw [bl_mk]; omega))
    have HAB := hid (above_any B (mk s) · (by have := HBB.out; omega) (by rw [bl_mk]; omega))
    have HPN := hid (show pN (bl B) s = 0 by unfold pN; rw [if_pos ⟨hokB, hok⟩])
    rw [bl_mk, HPN.out] at HAB
    clear hr HJ HCL hokB hp hsm hok hsh
    have e1 : (mk s).toList = s := bl_mk s
    have e2 : B.toList = bl B := rfl
    go_enter Tryd.func3, Tryd.ntmps3
    go_wp2_with fail
    refine HJ2.out.mono ?_
    rintro e w1 ⟨rfl, hb1⟩
    have HB1 := hid hb1
    clear hb1 HJ2
    go_wp2_with fail
    refine (HCL2.out w1).mono ?_
    rintro e w2 ⟨rfl, hb2⟩
    have HB2 := hid (below_tr HB1.out (below_le hb2 HB1.out.size))
    clear hb2 HCL2 HB1
    go_wp2_with (go_at_call 12; refine (HCK.out _).mono ?_; rintro e w3 ⟨rfl, n, rfl⟩)
    have HB3 : Hid (Below w.heap.size w (w2.drewN n)) := ⟨HB2.out.os, HB2.out.tape, HB2.out.output, HB2.out.size, HB2.out.block⟩
    clear HB2 HCK
    go_loopw [9] (fun i wr => ∃ k : Nat, k ≤ more.length ∧ i = .int .i64 k ∧ noUp more k ∧ Below w.heap.size w wr) (fun i _ => more.length - (intOf i).toNat)
    case atStart => exact ⟨0, by omega, rfl, fun j hj => by omega, HB3.out⟩
    case round =>
      obtain ⟨k, hk, rfl, hno, hbr⟩ := hrel
      have HNO := hid hno
      have HBR := hid hbr
      have HMR := hid (HM.out.below hbr)
      clear hno hbr HB3
      by_cases hlt : k < more.length
      · have q1 : (k : Int) < (more.length : Int) := by omega
        obtain ⟨g, o, rfl, hc⟩ := HMR.out.at k hlt
        have hbk : (more.getD k []).length ≤ 1048576 := HBT.out _ (by rw [List.getD_eq_getElem?_getD, List.getElem?_eq_getElem hlt]; exact List.getElem_mem hlt)
        have HPI := hid (rpieces_any (mk (more.getD k [])) wr (by rw [bl_mk]; omega))
        rw [bl_mk] at HPI
        have hpl := pcs_len (more.getD k [])
        obtain ⟨P, HP⟩ : ∃ P, Hid (pcs (more.getD k []) = P) := ⟨_, rfl⟩
        rw [HP.out] at HPI hpl
        have HNX := hid (fun hn => noUp_next HNO.out HP.out hn)
        generalize mk (more.getD k []) = x at hc HPI
        go_wp2_with fail
        refine HPI.out.mono ?_
        rintro e w4 ⟨v4, rfl, ho4, hb4⟩
        have HB4 := hid (below_tr HBR.out (below_le hb4 HBR.out.size))
        have HO4 := hid ho4
        obtain ⟨a4, c4, rfl⟩ := ho4.strs.shape
        clear ho4 hb4 HPI
        go_wp2
        go_loop [11] (fun i => ∃ j : Nat, j ≤ P.length ∧ i = .int .i64 j ∧ (∀ i, i < j → P.getD i [] ≠ [46, 46])) (fun i => P.length - (intOf i).toNat)
        case atStart => exact ⟨0, by omega, rfl, fun i hi => by omega⟩
        case round =>
          obtain ⟨j, hj, rfl, hnp⟩ := hrel
          have HNP := hid hnp
          clear hnp
          by_cases hjl : j < P.length
          · have q2 : (j : Int) < (P.length : Int) := by omega
            obtain ⟨g2, o2, rfl, hc2⟩ := HO4.out.strs.at j hjl
            obtain ⟨pc, HPC⟩ : ∃ pc, Hid (P.getD j [] = pc) := ⟨_, rfl⟩
            rw [HPC.out] at hc2
            have e3 : (mk pc).toList = pc := bl_mk pc
            by_cases hup : pc = [46, 46]
            · subst hup
              go_wp2_with (go_at_call 10; refine (HAW.out _).mono ?_; rintro e w5 ⟨rfl, hb5⟩)
              go_ret
              exact ⟨rfl, below_tr HB4.out (below_le hb5 HB4.out.size)⟩
            · have n1 : (pc == [46, 46]) = false := by simpa using hup
              have HN2 : Hid (∀ i, i < j + 1 → P.getD i [] ≠ [46, 46]) := by
                intro i hi
                by_cases hij : i = j
                · subst hij; rw [HPC.out]; exact hup
                · exact HNP.out i (by omega)
              go_wp2
              exact ⟨⟨j + 1, by omega, by simp, HN2.out⟩, by simp [intOf]; omega⟩
          · have q2 : ¬ (j : Int) < (P.length : Int) := by omega
            obtain rfl : j = P.length := by omega
            have HN2 := hid (HNX.out HNP.out)
            go_wp2
            exact ⟨⟨k + 1, by omega, by simp, HN2.out, HB4.out⟩, by simp [intOf]; omega⟩
      · have q1 : ¬ (k : Int) < (more.length : Int) := by omega
        obtain rfl : k = more.length := by omega
        have HI2 := hid (HIN.out (noUp_all HNO.out))
        go_wp2_with fail
        refine (HAB.out wr).mono ?_
        rintro e w4 ⟨rfl, hb4⟩
        have HB4 := hid (below_tr HBR.out (below_le hb4 HBR.out.size))
        clear hb4
        rcases HI2.out with h | h
        · rw [h]
          go_wp2_with (go_at_call 10; refine (HAW.out _).mono ?_; rintro e w5 ⟨rfl, hb5⟩)
          go_ret
          exact ⟨rfl, below_tr HB4.out (below_le hb5 HB4.out.size)⟩
        · have e4 : B.toList = s := h
          have e5 : B = mk s := by rw [← h, mk_bl]
          generalize abB (bl B) s = X
          cases X
          all_goals go_wp2_with (go_at_call 10; refine (HAW.out _).mono ?_; rintro e w5 ⟨rfl, hb5⟩)
          all_goals go_ret
          all_goals exact ⟨rfl, below_tr HB4.out (below_le hb5 HB4.out.size)⟩

end Go.Proofs.YtoehopigjmmagabDoor
