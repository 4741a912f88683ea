/- Contracts and pure facts that the proof needs, joined. -/
import Derived.Test.YtlpengaclkidiaaDoorG3
import Derived.Test.YtlpengaclkidiaaDoorG2
import Derived.Deep.RegionLaw
import Derived.Test.YtlpengaclkidiaaDoorRows
import Derived.ProofKit
import Derived.OpenShut
import Derived.Deep.Slices
import Derived.Deep.Strs
import Derived.ChangeSame
import Derived.SizedLaws
import Derived.Test.YtlpengaclkidiaaDoorG1
import Derived.Lib.LaidU8
import Derived.Lib.LaidTab

/- The program's With. -/
namespace Go.Proofs.YtlpengaclkidiaaDoor
open Go.RowKit

theorem OwnN.oth {w w' : World} {base b : Nat} {v : Value} {L : List (List UInt8 × List UInt8 × Int)} (h : OwnN w base v L) (ho : Oth w w' b) (hb : ∀ k, v.ownBlock = some k → k ≠ b) : OwnN w' base v L := by
  obtain ⟨h0, h1 | ⟨g, cap, cur, hv, hB, hh, r⟩⟩ := h
  · exact ⟨h0, Or.inl h1⟩
  · exact ⟨h0, Or.inr ⟨g, cap, cur, hv, hB, ho g cur _ _ (by decide) (hb g (by rw [hv]; rfl)) hh, r⟩⟩
theorem is_short {l : List UInt8} (h : (isP l).2.2.1 = 0) : l.length ≤ 65536 := by
  unfold isP at h
  by_cases hl : 65536 < l.length
  · rw [if_pos hl] at h; simp at h
  · omega
theorem is_to (l : List UInt8) : (isP l).2.1 ≤ l.length := by
  rcases is_last l with ⟨_, h⟩ | ⟨_, _, L', x, _, k, m, _, _, h, _⟩
  · omega
  · exact h

set_option maxRecDepth 20000 in
set_option maxHeartbeats 1000000 in
theorem with_err (l : List UInt8) (v : Value) (w : World) (hT : Tabs w) (he : (isP l).2.2.1 ≠ 0) :
    Calls Tryd.prog 17 #[.string (mk l), v] w fun r w' => r = .returned (.tuple #[.string ⟨#[]⟩, .int .i64 (isP l).2.2.1]) ∧ Below w.heap.size w w' := by
  have HI := hid (incls_any l w hT)
  obtain ⟨e, HE1⟩ : ∃ e, Hid ((isP l).2.2.1 = e) := ⟨_, rfl⟩
  obtain ⟨g, HE2⟩ : ∃ e, Hid ((isP l).2.2.2 = e) := ⟨_, rfl⟩
  obtain ⟨L0, HE4⟩ : ∃ e, Hid ((isP l).1 = e) := ⟨_, rfl⟩
  rw [HE1.out, HE2.out, HE4.out] at HI
  rw [HE1.out] at he
  rw [HE1.out]
  have he0 : ¬ e = 0 := he
  clear hT he
  go_enter Tryd.func17, Tryd.ntmps17
  go_upto_region 3 with (go_at_call 8; refine HI.out.mono ?_; rintro r w2 ⟨v1, rfl, ho, hb⟩; have HB1 := hid hb; obtain ⟨sa1, sc1, hv⟩ := ho.shape; subst hv; clear ho hb)
  have HB2 := hid (HB1.out.trans ((below_walk w2 (.cells #[.int .i64 e, .int .i64 (g : Int)] 25)).mono HB1.out.size))
  have c0 : (w2.alloc (.cells #[.int .i64 e, .int .i64 (g : Int)] 25)).cell? ⟨w2.heap.size, 0, none⟩ = some (.int .i64 e) := by rw [cell_of_row _ _ _ _ _ _ (hp_new _ _)]; rfl
  generalize w2.alloc (.cells #[.int .i64 e, .int .i64 (g : Int)] 25) = w3 at *
  go_quiet (fail)
  go_wp2
  go_ret2
  exact ⟨rfl, below_drewN HB2.out _⟩

/-- up to a place all may be -/
def AllOk (L : List (List UInt8 × List UInt8 × Int)) (k : Nat) : Prop := ∀ j, j < k → okI (L.getD j noI) = true
theorem AllOk.all {L : List (List UInt8 × List UInt8 × Int)} (h : AllOk L L.length) : L.all okI = true := by
  rw [List.all_eq_true]
  intro x hx
  obtain ⟨j, hj, rfl⟩ := List.mem_iff_getElem.1 hx
  have := h j hj
  rwa [List.getD_eq_getElem?_getD, List.getElem?_eq_getElem hj] at this
theorem all_not {L : List (List UInt8 × List UInt8 × Int)} {k : Nat} (hk : k < L.length) (h : okI (L.getD k noI) = false) : L.all okI = false := by
  rw [Bool.eq_false_iff]
  intro ha
  rw [List.all_eq_true] at ha
  have := ha _ (List.getElem_mem hk)
  rw [List.getD_eq_getElem?_getD, List.getElem?_eq_getElem hk] at h
  rw [show (some L[k]).getD noI = L[k] from rfl, this] at h
  cases h
theorem fl_succ (L : List (List UInt8 × List UInt8 × Int)) (k : Nat) (hk : k < L.length) : (L.take k).flatMap wlP ++ wlP (L.getD k noI) = (L.take (k + 1)).flatMap wlP := by
  rw [List.take_succ_eq_append_getElem hk, List.flatMap_append, List.getD_eq_getElem?_getD, List.getElem?_eq_getElem hk]
  simp
theorem fl_le (L : List (List UInt8 × List UInt8 × Int)) (k : Nat) : ((L.take k).flatMap wlP).length ≤ (L.flatMap wlP).length := by
  have h : L.flatMap wlP = (L.take k).flatMap wlP ++ (L.drop k).flatMap wlP := by rw [← List.flatMap_append, List.take_append_drop]
  rw [h, List.length_append]
  omega

set_option maxRecDepth 20000 in
set_option maxHeartbeats 8000000 in
theorem with_ok (l : List UInt8) (v : Value) (L : List (List UInt8 × List UInt8 × Int)) (hn : L.length ≤ 140737488355328) (hp : ∀ x ∈ L, x.1.length ≤ 140737488355328 ∧ x.2.1.length ≤ 140737488355328) (w : World) (hT : Tabs w) (h : Incs w v L) (he : (isP l).2.2.1 = 0) :
    Calls Tryd.prog 17 #[.string (mk l), v] w fun r w' => r = .returned (.tuple #[.string (mk (wiP l L).1), .int .i64 (wiP l L).2]) ∧ Below w.heap.size w w' := by
  have HI := hid (incls_any l w hT)
  have HEN := hid (fun v W hT h => end_is l v W hT h)
  have hl := is_short he
  have hto := is_to l
  have hmk := mk_size l
  have hwi : wiP l L = if L.all okI = false then ([], 1) else if 65536 < (L.flatMap wlP ++ l.drop (isP l).2.1).length then ([], 3) else (L.flatMap wlP ++ l.drop (isP l).2.1, 0) := by
    unfold wiP; rw [he, if_neg (by simp)]
  obtain ⟨g, HE2⟩ : ∃ e, Hid ((isP l).2.2.2 = e) := ⟨_, rfl⟩
  obtain ⟨L0, HE4⟩ : ∃ e, Hid ((isP l).1 = e) := ⟨_, rfl⟩
  obtain ⟨to, HE3⟩ : ∃ e, Hid ((isP l).2.1 = e) := ⟨_, rfl⟩
  rw [he, HE2.out, HE4.out] at HI
  rw [HE3.out] at HEN hto hwi
  rw [HE4.out] at HEN
  have HWI := hid hwi
  have HT := hid hT
  have HIN := hid h
  have HP := hid hp
  obtain ⟨ao, c, rfl⟩ := h.shape
  clear hT h hp hwi he
  go_enter Tryd.func17, Tryd.ntmps17
  go_upto_region 2 with (go_at_call 8; refine HI.out.mono ?_; rintro r w2 ⟨v1, rfl, ho, hb⟩; have HO1 := hid ho; have HB1 := hid hb; obtain ⟨sa1, sc1, hv⟩ := ho.shape; rw [toI_len] at hv; subst hv; clear ho hb)
  have HB2 := hid (HB1.out.trans ((below_walk w2 (.cells #[.int .i64 0, .int .i64 (g : Int)] 25)).mono HB1.out.size))
  have HO2 := hid (HO1.out.below (below_walk w2 (.cells #[.int .i64 0, .int .i64 (g : Int)] 25)))
  have c0 : (w2.alloc (.cells #[.int .i64 0, .int .i64 (g : Int)] 25)).cell? ⟨w2.heap.size, 0, none⟩ = some (.int .i64 0) := by rw [cell_of_row _ _ _ _ _ _ (hp_new _ _)]; rfl
  generalize w2.alloc (.cells #[.int .i64 0, .int .i64 (g : Int)] 25) = w3 at *
  clear HI HB1 HO1
  go_wp2
  go_loopw [25] (fun i wr => ∃ k : Nat, i = .int .i64 k ∧ k ≤ L.length ∧ AllOk L k ∧ OwnN wr w.heap.size (.slice sa1 L0.length sc1) (toI L0) ∧ Below w.heap.size w wr) (fun i _ => L.length - (intOf i).toNat)
  case atStart => exact ⟨0, rfl, Nat.zero_le _, fun j hj => by omega, HO2.out, HB2.out⟩
  case round =>
    clear HO2 HB2 c0
    obtain ⟨k, rfl, hk, hok, ho, hb⟩ := hrel
    have HOK := hid hok
    have HO := hid ho
    have HB := hid hb
    clear hok ho hb
    by_cases hlt : k < L.length
    · have q1 : (k : Int) < (L.length : Int) := by omega
      obtain ⟨g1, o1, hs1, _, e0, e1, e2⟩ := (HIN.out.below HB.out).at k hlt
      subst hs1
      have hpx := HP.out (L.getD k noI) (by rw [List.getD_eq_getElem?_getD, List.getElem?_eq_getElem hlt]; exact List.getElem_mem hlt)
      have HMB := hid (fun W hT => maybe_any (L.getD k noI) hpx.1 hpx.2 W hT)
      obtain ⟨⟨x, y, z⟩, HX⟩ : ∃ t, Hid (L.getD k noI = t) := ⟨_, rfl⟩
      rw [HX.out] at e0 e1 e2 HMB
      cases hj : okI (x, y, z) with
      | false =>
        have FIN : Hid (wiP l L = ([], 1)) := by
          show wiP l L = _
          rw [HWI.out, if_pos (all_not hlt (by rw [HX.out]; exact hj))]
        rw [hj] at HMB
        clear hj
        go_wp2_with (go_at_call 31; refine (HMB.out _ ((HT.out.below HB.out).below (below_walk _ _))).mono ?_; rintro r w4 ⟨rfl, hb⟩)
        go_ret2
        rw [FIN.out]
        exact ⟨rfl, (HB.out.trans ((below_walk _ _).mono HB.out.size)).trans (hb.mono (by rw [hp_size]; have := HB.out.size; omega))⟩
      | true =>
        have NXT : Hid (AllOk L (k + 1)) := fun j hjk => by
          rcases Nat.lt_or_ge j k with h | h
          · exact HOK.out j h
          · obtain rfl : j = k := by omega
            rw [HX.out]; exact hj
        rw [hj] at HMB
        clear hj
        go_wp2_with (go_at_call 31; refine (HMB.out _ ((HT.out.below HB.out).below (below_walk _ _))).mono ?_; rintro r w4 ⟨rfl, hb⟩; have HB4 := hid ((below_walk wr (.cells #[.string (mk x), .string (mk y), .int .i64 z] 35)).trans (hb.mono (by rw [hp_size]; omega))); clear hb)
        exact ⟨⟨k + 1, by simp, by omega, NXT.out, HO.out.below HB4.out, HB.out.trans (HB4.out.mono HB.out.size)⟩, by simp [intOf]; omega⟩
    · have q1 : ¬ (k : Int) < (L.length : Int) := by omega
      obtain rfl : k = L.length := by omega
      have HAL := hid HOK.out.all
      have HW2 : Hid (wiP l L = if 65536 < (L.flatMap wlP ++ l.drop to).length then ([], 3) else (L.flatMap wlP ++ l.drop to, 0)) := by
        show wiP l L = _
        rw [HWI.out, HAL.out, if_neg (by simp)]
      go_upto_region 11 with fail
      have HB5 := hid (HB.out.trans ((below_walk wr (.cells #[.pointer none, .slice none 0 0] 68)).mono HB.out.size))
      have HO5 := hid (HO.out.below (below_walk wr (.cells #[.pointer none, .slice none 0 0] 68)))
      have HQ5 : Hid (Bq (wr.alloc (.cells #[.pointer none, .slice none 0 0] 68)) w.heap.size wr.heap.size []) := Or.inl ⟨HB.out.size, _, hp_new _ _, World.ownsRow_nil _ _ _ _, by simp [Value.ownBlock]⟩
      have HNB := hid (show ∀ q, (Value.slice sa1 L0.length sc1).ownBlock = some q → q ≠ wr.heap.size from fun q hq => Nat.ne_of_lt (HO.out.lt q hq).2)
      generalize wr.alloc (.cells #[.pointer none, .slice none 0 0] 68) = w5 at *
      obtain ⟨b, HBE⟩ : ∃ b, Hid (wr.heap.size = b) := ⟨_, rfl⟩
      rw [HBE.out] at HQ5 HNB
      rw [HBE.out]
      clear HO HB HBE HOK HWI
      go_wp2
      go_loopw [35] (fun i wr => ∃ k : Nat, i = .int .i64 k ∧ k ≤ L.length ∧ Bq wr w.heap.size b ((L.take k).flatMap wlP) ∧ ((L.take k).flatMap wlP).length ≤ 65536 ∧ OwnN wr w.heap.size (.slice sa1 L0.length sc1) (toI L0) ∧ Below w.heap.size w wr) (fun i _ => L.length - (intOf i).toNat)
      case atStart => exact ⟨0, rfl, Nat.zero_le _, HQ5.out, by simp, HO5.out, HB5.out⟩
      case round =>
        clear HQ5 HO5 HB5
        obtain ⟨k, rfl, hk, hq, hql, ho, hb⟩ := hrel
        have HQ := hid hq
        have HO := hid ho
        have HB := hid hb
        clear hq ho hb
        by_cases hlt : k < L.length
        · have q1 : (k : Int) < (L.length : Int) := by omega
          obtain ⟨g1, o1, hs1, _, e0, e1, e2⟩ := (HIN.out.below HB.out).at k hlt
          subst hs1
          have hokx : okI (L.getD k noI) = true := by
            have := List.all_eq_true.1 HAL.out _ (List.getElem_mem hlt)
            rw [List.getD_eq_getElem?_getD, List.getElem?_eq_getElem hlt]; exact this
          have HWR := hid (fun W hQ hs => wrinc_any w.heap.size b ((L.take k).flatMap wlP) (L.getD k noI) hokx W hQ (by omega) hs)
          have hwl := wl_len hokx
          have HFS := hid (fl_succ L k hlt)
          have HFL := hid (fl_le L (k + 1))
          rw [HFS.out] at HWR
          have hnl : ((L.take (k + 1)).flatMap wlP).length ≤ 100000 := by rw [← HFS.out, List.length_append]; omega
          obtain ⟨⟨x, y, z⟩, HX⟩ : ∃ t, Hid (L.getD k noI = t) := ⟨_, rfl⟩
          rw [HX.out] at e0 e1 e2 HWR
          obtain ⟨F, HF⟩ : ∃ F, Hid ((L.take (k + 1)).flatMap wlP = F) := ⟨_, rfl⟩
          rw [HF.out] at HWR HFL hnl
          have HLN := hid (fun W hQ => blen_any w.heap.size b F W hQ)
          clear hwl hokx
          by_cases hlong : 65536 < F.length
          · have q2 : (65536 : Int) < (F.length : Int) := by omega
            have FIN : Hid (wiP l L = ([], 3)) := by
              show wiP l L = _
              rw [HW2.out, if_pos (by rw [List.length_append]; have := HFL.out; omega)]
            go_wp2_with first
              | (go_at_call 32; refine (HWR.out _ (HQ.out.below (below_walk _ _)) (by rw [hp_size]; have := HB.out.size; omega)).mono ?_; rintro r w6 ⟨rfl, hq6, hb6, _⟩; have HQ6 := hid hq6; have HB6 := hid hb6; clear hq6 hb6)
              | (go_at_call 33; refine (HLN.out _ HQ6.out).mono ?_; rintro r w7 ⟨rfl, h7⟩; have h7 := h7.symm; subst h7)
            go_ret2
            rw [FIN.out]
            exact ⟨rfl, (HB.out.trans ((below_walk _ _).mono HB.out.size)).trans HB6.out⟩
          · have q2 : ¬ (65536 : Int) < (F.length : Int) := by omega
            go_wp2_with first
              | (go_at_call 32; refine (HWR.out _ (HQ.out.below (below_walk _ _)) (by rw [hp_size]; have := HB.out.size; omega)).mono ?_; rintro r w6 ⟨rfl, hq6, hb6, ho6⟩; have HQ6 := hid hq6; have HB6 := hid hb6; have HO6 := hid ((HO.out.below (below_walk wr (.cells #[.string (mk x), .string (mk y), .int .i64 z] 35))).oth ho6 HNB.out); clear hq6 hb6 ho6)
              | (go_at_call 33; refine (HLN.out _ HQ6.out).mono ?_; rintro r w7 ⟨rfl, h7⟩; have h7 := h7.symm; subst h7)
            exact ⟨⟨k + 1, by simp, by omega, by rw [HF.out]; exact HQ6.out, by rw [HF.out]; omega, HO6.out, (HB.out.trans ((below_walk _ _).mono HB.out.size)).trans HB6.out⟩, by simp [intOf]; omega⟩
        · have q1 : ¬ (k : Int) < (L.length : Int) := by omega
          obtain rfl : k = L.length := by omega
          rw [List.take_length] at HQ hql
          have s1 := sl_from l to hto
          obtain ⟨F, HF⟩ : ∃ F, Hid (L.flatMap wlP = F) := ⟨_, rfl⟩
          obtain ⟨D, HD⟩ : ∃ D, Hid (l.drop to = D) := ⟨_, rfl⟩
          have hdl : D.length ≤ 65536 := by rw [← HD.out, List.length_drop]; omega
          rw [HF.out] at HQ hql
          rw [HD.out] at s1
          have HW3 := HW2.out
          rw [HF.out, HD.out] at HW3
          have HW3 := hid HW3
          have HWS := hid (fun W hQ hs => wstr_big w.heap.size b F D W hQ (by omega) (by omega) hs)
          have HLN := hid (fun W hQ => blen_any w.heap.size b (F ++ D) W hQ)
          have HST := hid (fun W hQ hs => bstr_any w.heap.size b (F ++ D) W hQ hs)
          obtain ⟨G, HG⟩ : ∃ G, Hid (F ++ D = G) := ⟨_, rfl⟩
          rw [HG.out] at HW3 HWS HLN HST
          by_cases hlong : 65536 < G.length
          · have q2 : (65536 : Int) < (G.length : Int) := by omega
            rw [if_pos hlong] at HW3
            go_wp2_with first
              | (go_at_call 25; refine (HEN.out _ _ (HT.out.below HB.out) HO.out.incs).mono ?_; rintro r w6 ⟨rfl, hb6⟩; have HB6 := hid hb6; have HQ6 := hid (HQ.out.below hb6); have HC6 := hid (HB.out.trans (hb6.mono HB.out.size)); clear hb6)
              | (go_at_call 34; refine (HWS.out _ HQ6.out HC6.out.size).mono ?_; rintro r w7 ⟨rfl, hq7, hb7, _⟩; have HQ7 := hid hq7; have HC7 := hid (HC6.out.trans hb7); clear hq7 hb7)
              | (go_at_call 33; refine (HLN.out _ HQ7.out).mono ?_; rintro r w8 ⟨rfl, h8⟩; have h8 := h8.symm; subst h8)
            go_ret2
            rw [HW3.out]
            exact ⟨rfl, HC7.out⟩
          · have q2 : ¬ (65536 : Int) < (G.length : Int) := by omega
            rw [if_neg hlong] at HW3
            go_wp2_with first
              | (go_at_call 25; refine (HEN.out _ _ (HT.out.below HB.out) HO.out.incs).mono ?_; rintro r w6 ⟨rfl, hb6⟩; have HB6 := hid hb6; have HQ6 := hid (HQ.out.below hb6); have HC6 := hid (HB.out.trans (hb6.mono HB.out.size)); clear hb6)
              | (go_at_call 34; refine (HWS.out _ HQ6.out HC6.out.size).mono ?_; rintro r w7 ⟨rfl, hq7, hb7, _⟩; have HQ7 := hid hq7; have HC7 := hid (HC6.out.trans hb7); clear hq7 hb7)
              | (go_at_call 33; refine (HLN.out _ HQ7.out).mono ?_; rintro r w8 ⟨rfl, h8⟩; have h8 := h8.symm; subst h8)
              | (go_at_call 35; refine (HST.out _ HQ7.out HC7.out.size).mono ?_; rintro r w9 ⟨rfl, hb9⟩; have HC9 := hid (HC7.out.trans hb9); clear hb9)
            go_ret2
            rw [HW3.out]
            exact ⟨rfl, HC9.out⟩

theorem with_any (l : List UInt8) (v : Value) (L : List (List UInt8 × List UInt8 × Int)) (hn : L.length ≤ 140737488355328) (hp : ∀ x ∈ L, x.1.length ≤ 140737488355328 ∧ x.2.1.length ≤ 140737488355328) (w : World) (hT : Tabs w) (h : Incs w v L) :
    Calls Tryd.prog 17 #[.string (mk l), v] w fun r w' => r = .returned (.tuple #[.string (mk (wiP l L).1), .int .i64 (wiP l L).2]) ∧ Below w.heap.size w w' := by
  by_cases he : (isP l).2.2.1 = 0
  · exact with_ok l v L hn hp w hT h he
  · have e : wiP l L = ([], (isP l).2.2.1) := by unfold wiP; rw [if_pos he]
    rw [e]
    exact with_err l v w hT he

end Go.Proofs.YtlpengaclkidiaaDoor

/- Many lines; what is put in is found. -/
namespace Go.Proofs.YtlpengaclkidiaaDoor
open Go.RowKit

/-- no include begins here -/
def NI (l : List UInt8) : Prop := (plP l 0 0).2 ≠ 0
/-- where the includes of lines stand -/
def plc : Nat → List (List UInt8 × List UInt8 × Int) → List (List UInt8 × List UInt8 × Nat)
  | _, [] => []
  | o, x :: L => (x.1, x.2.1, o) :: plc (o + (wlP x).length) L
theorem plc_sh (h : Nat) : ∀ (L : List (List UInt8 × List UInt8 × Int)) (o : Nat), (plc o L).map (fun x => (x.1, x.2.1, h + x.2.2)) = plc (h + o) L
  | [], _ => rfl
  | x :: L, o => by
    show (x.1, x.2.1, h + o) :: (plc (o + (wlP x).length) L).map _ = _
    rw [plc_sh h L (o + (wlP x).length), ← Nat.add_assoc]
    rfl
theorem plc_len : ∀ (L : List (List UInt8 × List UInt8 × Int)) (o : Nat), (plc o L).length = L.length
  | [], _ => rfl
  | x :: L, o => by
    show (plc (o + (wlP x).length) L).length + 1 = L.length + 1
    rw [plc_len L]
theorem plc_get : ∀ (L : List (List UInt8 × List UInt8 × Int)) (o i : Nat), i < L.length → ((toI (plc o L)).getD i noI).1 = (L.getD i noI).1 ∧ ((toI (plc o L)).getD i noI).2.1 = (L.getD i noI).2.1
  | [], _, i, h => by simp at h
  | x :: L, o, 0, _ => ⟨rfl, rfl⟩
  | x :: L, o, i + 1, h => by
    have := plc_get L (o + (wlP x).length) i (by simpa using h)
    exact this

theorem pl_gap {l : List UInt8} {p a b : Nat} (hl : l.length ≤ 65536) (ha : a ≤ l.length) (hb : b ≤ l.length) (hf : frP l a = frP l b) : plP l p a = plP l p b := by
  have ht : tkP l a = tkP l b := by unfold tkP; rw [hf]
  have hn : nxP l (a : Int) = nxP l (b : Int) := by rw [nx_eq hl ha, nx_eq hl hb, ht, hf]
  unfold plP
  rw [hn]
theorem fr_nl (R : List UInt8) : frP (10 :: R) 0 = frP (10 :: R) 1 := by
  unfold frP
  rw [List.drop_zero, gap_blank (by decide), List.drop_one, List.tail_cons]
  omega
theorem ni_nl {R : List UInt8} (h : NI R) (hl : (10 :: R).length ≤ 65536) : NI (10 :: R) := by
  unfold NI
  rw [pl_gap hl (Nat.zero_le _) (by simp) (fr_nl R)]
  exact pl_sh_no (P := [10]) (X := R) (a := 0) hl (Nat.zero_le _) h
theorem wl_end (x : List UInt8 × List UInt8 × Int) : ∃ W, wlP x = W ++ [10] ∧ W.length = (wlP x).length - 1 := by
  refine ⟨wl1 ++ quP x.1 ++ wl2 ++ x.2.1 ++ [59], ?_, ?_⟩
  · unfold wlP
    rw [show wl3 = [59] ++ [10] from rfl]
    simp only [List.append_assoc]
  · unfold wlP
    rw [show wl3 = [59] ++ [10] from rfl]
    simp only [List.length_append, List.length_cons, List.length_nil]
    omega

theorem lines_in {R : List UInt8} (hR : NI R) : ∀ (L : List (List UInt8 × List UInt8 × Int)) (q : List UInt8), (q = [] ∨ q = [10]) → L.all okI = true → (q ++ (L.flatMap wlP ++ R)).length ≤ 65536 →
    scP (q ++ (L.flatMap wlP ++ R)) 0 = (plc q.length L, if L = [] then 0 else q.length + (L.flatMap wlP).length - 1, 0, 0) := by
  intro L
  induction L with
  | nil =>
    intro q hq _ hl
    have hni : NI (q ++ R) := by
      rcases hq with rfl | rfl
      · exact hR
      · exact ni_nl hR hl
    rw [if_pos rfl]
    exact sc_end (t := (plP (q ++ R) 0 0).1) (e := (plP (q ++ R) 0 0).2) rfl hni
  | cons x L2 ih =>
    intro q hq hok hl
    rw [List.all_cons, Bool.and_eq_true] at hok
    have hY : (x :: L2).flatMap wlP ++ R = wlP x ++ (L2.flatMap wlP ++ R) := by rw [List.flatMap_cons, List.append_assoc]
    rw [hY] at hl ⊢
    have hl2 : (wlP x ++ (L2.flatMap wlP ++ R)).length ≤ 65536 := by rw [List.length_append] at hl; omega
    obtain ⟨h0, h1⟩ := line_in hok.1 (L2.flatMap wlP ++ R) hl2
    have hwl := wl_len hok.1
    obtain ⟨W, hW, hWl⟩ := wl_end x
    obtain ⟨Y, hYe⟩ : ∃ Y, wlP x ++ (L2.flatMap wlP ++ R) = Y := ⟨_, rfl⟩
    have hYl : Y.length = (wlP x).length + (L2.flatMap wlP ++ R).length := by rw [← hYe, List.length_append]
    rw [hYe] at h0 h1 hl hl2 ⊢
    have p0 : plP (q ++ Y) 0 0 = ((4, q.length, q.length + 7), 0) := by
      have s := pl_sh (P := q) (X := Y) hl (Nat.zero_le _) h0
      rw [Nat.add_zero] at s
      rw [← s]
      rcases hq with rfl | rfl
      · rfl
      · exact pl_gap hl (Nat.zero_le _) (by simp) (fr_nl Y)
    have i0 := in_sh (P := q) (X := Y) hl (by omega) h1
    have hqY : (q ++ Y).length = q.length + Y.length := List.length_append
    rw [sc_step hl (by omega) (by omega) p0 i0]
    have hP : q ++ Y = (q ++ W) ++ (10 :: (L2.flatMap wlP ++ R)) := by rw [← hYe, hW]; simp [List.append_assoc]
    have hPl : (q ++ W).length = q.length + ((wlP x).length - 1) := by rw [List.length_append, hWl]
    have i2 := ih [10] (Or.inr rfl) hok.2 (by
      have := hl
      rw [hP, List.length_append] at this
      exact Nat.le_trans (Nat.le_add_left _ _) this)
    have s2 := sc_sh (P := q ++ W) (X := 10 :: (L2.flatMap wlP ++ R)) (by rw [← hP]; exact hl) _ 0 (Nat.zero_le _) rfl _ _ i2
    rw [← hP, Nat.add_zero, hPl] at s2
    rw [s2]
    unfold jnP
    rw [if_neg (by simp), plc_sh]
    have e1 : q.length + ((wlP x).length - 1) + [(10 : UInt8)].length = q.length + (wlP x).length := by simp only [List.length_singleton]; omega
    rw [e1]
    simp only [Prod.mk.injEq, and_true]
    refine ⟨rfl, ?_⟩
    rw [if_neg (show ¬ (x :: L2 = []) from fun e => by cases e), List.flatMap_cons, List.length_append]
    by_cases h2 : L2 = []
    · rw [if_pos h2, h2]
      simp only [List.flatMap_nil, List.length_nil]
      omega
    · rw [if_neg h2]
      simp only [List.length_singleton]
      omega

/-- what stands behind the includes of a source begins with none -/
theorem rest_ni {l : List UInt8} (he : (isP l).2.2.1 = 0) : NI (l.drop (isP l).2.1) ∧ (isP l).2.2.2 = 0 := by
  have hl := is_short he
  have hto := is_to l
  have e : isP l = scP l 0 := by unfold isP; rw [if_neg (by omega)]
  have hf := sc_form hl (a := 0) (Nat.zero_le _)
  rw [e] at he hto ⊢
  obtain ⟨L, to, er, g, hq⟩ : ∃ L to er g, scP l 0 = (L, to, er, g) := ⟨_, _, _, _, rfl⟩
  rw [hq] at hf he hto ⊢
  simp only at he hto ⊢
  subst he
  unfold jnP at hf
  simp only [ne_eq, not_true_eq_false, if_false, List.nil_append, Prod.mk.injEq, true_and] at hf
  subst hf
  refine ⟨?_, rfl⟩
  have hs := sc_stop hl _ 0 (Nat.zero_le _) rfl L to hq
  intro h0
  apply hs
  have hx : l.take to ++ l.drop to = l := List.take_append_drop _ _
  have hlt : (l.take to).length = to := by rw [List.length_take]; omega
  have := pl_sh (P := l.take to) (X := l.drop to) (p := 0) (a := 0) (k := (plP (l.drop to) 0 0).1.1) (f := (plP (l.drop to) 0 0).1.2.1) (m := (plP (l.drop to) 0 0).1.2.2) (by rw [hx]; exact hl) (Nat.zero_le _) (by rw [← h0])
  rw [hx, hlt, Nat.add_zero] at this
  rw [this]
theorem ni_is {l : List UInt8} (hl : l.length ≤ 65536) (h : NI l) : isP l = ([], 0, 0, 0) := by
  unfold isP
  rw [if_neg (by omega)]
  exact sc_end (t := (plP l 0 0).1) (e := (plP l 0 0).2) rfl h
theorem wi_none {l : List UInt8} (he : (isP l).2.2.1 = 0) : wiP l [] = (l.drop (isP l).2.1, 0) := by
  have hl := is_short he
  unfold wiP
  rw [he, if_neg (by simp), if_neg (by simp), List.flatMap_nil, List.nil_append, if_neg (by rw [List.length_drop]; omega)]
/-- With, and what it put in -/
theorem back_p {l : List UInt8} {L : List (List UInt8 × List UInt8 × Int)} {M : List UInt8} (h : wiP l L = (M, 0)) :
    M.length ≤ 65536 ∧ isP M = (plc 0 L, if L = [] then 0 else (L.flatMap wlP).length - 1, 0, 0) ∧
    ∃ N, wiP M [] = (N, 0) ∧ N.length = M.length - (if L = [] then 0 else (L.flatMap wlP).length - 1) ∧ isP N = ([], 0, 0, 0) ∧ wiP N [] = (N, 0) := by
  unfold wiP at h
  split at h
  · rename_i h1
    simp only [Prod.mk.injEq] at h
    exact absurd h.2 h1
  · rename_i h1
    have he : (isP l).2.2.1 = 0 := Decidable.not_not.1 h1
    split at h
    · simp only [Prod.mk.injEq] at h; omega
    · rename_i h2
      split at h
      · simp only [Prod.mk.injEq] at h; omega
      · rename_i h3
        simp only [Prod.mk.injEq, and_true] at h
        obtain ⟨hni, _⟩ := rest_ni he
        have hok : L.all okI = true := by simpa using h2
        obtain ⟨D, hD⟩ : ∃ D, l.drop (isP l).2.1 = D := ⟨_, rfl⟩
        rw [hD] at h h3 hni
        have hM : M.length ≤ 65536 := by rw [← h]; omega
        have hin := lines_in hni L [] (Or.inl rfl) hok (by rw [List.nil_append]; omega)
        rw [List.nil_append, h] at hin
        simp only [List.length_nil, Nat.zero_add] at hin
        have hiM : isP M = (plc 0 L, if L = [] then 0 else (L.flatMap wlP).length - 1, 0, 0) := by unfold isP; rw [if_neg (by omega)]; exact hin
        have hMl : M.length = (L.flatMap wlP).length + D.length := by rw [← h, List.length_append]
        refine ⟨hM, hiM, M.drop (if L = [] then 0 else (L.flatMap wlP).length - 1), ?_, by rw [List.length_drop], ?_⟩
        · have := wi_none (l := M) (by rw [hiM])
          rw [hiM] at this
          exact this
        · have hN : NI (M.drop (if L = [] then 0 else (L.flatMap wlP).length - 1)) ∧ (M.drop (if L = [] then 0 else (L.flatMap wlP).length - 1)).length ≤ 65536 := by
            refine ⟨?_, by rw [List.length_drop]; omega⟩
            have := rest_ni (l := M) (by rw [hiM])
            rw [hiM] at this
            exact this.1
          have i1 := ni_is hN.2 hN.1
          refine ⟨i1, ?_⟩
          have := wi_none (l := M.drop (if L = [] then 0 else (L.flatMap wlP).length - 1)) (by rw [i1])
          rw [i1] at this
          simpa using this
theorem wi_err {l : List UInt8} {L : List (List UInt8 × List UInt8 × Int)} (h : (wiP l L).2 ≠ 0) : (wiP l L).1 = [] := by
  unfold wiP at h ⊢
  split
  · rfl
  · rename_i h1
    rw [if_neg h1] at h
    split
    · rfl
    · rename_i h2
      rw [if_neg h2] at h
      split
      · rfl
      · rename_i h3
        rw [if_neg h3] at h
        exact absurd rfl h

end Go.Proofs.YtlpengaclkidiaaDoor

/- ScanBack answers true. -/
namespace Go.Proofs.YtlpengaclkidiaaDoor
open Go.RowKit

theorem incs_nil (w : World) : Incs w (.slice none 0 0) [] := Or.inl ⟨_, _, rfl, rfl, fun _ => rfl⟩

set_option maxRecDepth 20000 in
set_option maxHeartbeats 4000000 in
theorem back13_any (w : World) (l : List UInt8) (v : Value) (L : List (List UInt8 × List UInt8 × Int)) (hn : L.length ≤ 140737488355328) (hp : ∀ x ∈ L, x.1.length ≤ 140737488355328 ∧ x.2.1.length ≤ 140737488355328) (hT : Tabs w) (h : Incs w v L) :
    Calls Tryd.prog 6 #[.string (mk l), v] w fun e w' => e = .returned (.bool true) ∧ Below w.heap.size w w' := by
  have HAL := hid (alive_any w hT)
  have H1 := hid (fun W hT h => with_any l v L hn hp W hT h)
  have HT := hid hT
  have HIN := hid h
  obtain ⟨ao, c, rfl⟩ := h.shape
  by_cases he : (wiP l L).2 = 0
  · obtain ⟨M, HM⟩ : ∃ M, Hid (wiP l L = (M, 0)) := ⟨(wiP l L).1, Prod.ext rfl he⟩
    obtain ⟨hMl, hiM, N, hwM, hNl, hiN, hwN⟩ := back_p HM.out
    rw [HM.out] at H1
    simp only at H1
    have H2 := hid (fun W hT => incls_any M W hT)
    have H3 := hid (fun W hT => with_any M (.slice none 0 0) [] (by simp) (fun x hx => by cases hx) W hT (incs_nil W))
    have H4 := hid (fun W hT => with_any N (.slice none 0 0) [] (by simp) (fun x hx => by cases hx) W hT (incs_nil W))
    have H5 := hid (fun W hT => incls_any N W hT)
    have H6 := hid (fun W hT => head_any N W hT)
    have H7 := hid (fun W hT => head_any M W hT)
    have HLL : (toI (plc 0 L)).length = L.length := by rw [toI_len, plc_len]
    have HS := hid (fun v1 W h1 h2 => rsameF (toI (plc 0 L)) L v1 (.slice ao L.length c) W h1 h2 HLL (fun i hi => plc_get L 0 i (by rw [HLL] at hi; exact hi)) (by rw [HLL]; omega))
    rw [hiM] at H2 H7
    rw [hwM] at H3
    rw [hwN] at H4
    rw [hiN] at H5 H6
    obtain ⟨hd, HHD⟩ : ∃ hd, Hid ((if L = [] then 0 else (L.flatMap wlP).length - 1) = hd) := ⟨_, rfl⟩
    have hhd : hd ≤ M.length := by
      have := is_to M
      rw [hiM] at this
      simp only at this
      rw [HHD.out] at this
      exact this
    rw [HHD.out] at H7 hNl
    simp only at H2 H3 H4 H5 H6 H7
    obtain ⟨P, HP⟩ : ∃ P, Hid (toI (plc 0 L) = P) := ⟨_, rfl⟩
    rw [HP.out] at H2 HS HLL
    have hzM := mk_size M
    have hzN := mk_size N
    have n1 : ∀ W, (binOp .eql 25 (.agg #[.int .i64 0, .int .i64 0]) (.agg #[.int .i64 0, .int .i64 0])).run Tryd.prog W = .ok (.bool true) W := fun W => fault_eql 0 0 0 0 W
    have f1 : ((mk N).toList == (mk N).toList) = true := by simp
    have q1 : ((N.length : Int) == (M.length : Int) - (hd : Int)) = true := by rw [beq_iff_eq]; omega
    have q2 : (M.length : Int) - (hd : Int) ≤ 65536 := by omega
    have q3 : (0 : Int) ≤ (M.length : Int) - (hd : Int) := by omega
    clear hNl
    have H2 : Hid (∀ W, Tabs W → Calls Tryd.prog 8 #[.string (mk M)] W fun e w' => ∃ v, e = .returned (.tuple #[v, .agg #[.int .i64 0, .int .i64 0]]) ∧ OwnN w' W.heap.size v P ∧ Below W.heap.size W w') := H2
    have H5 : Hid (∀ W, Tabs W → Calls Tryd.prog 8 #[.string (mk N)] W fun e w' => ∃ v, e = .returned (.tuple #[v, .agg #[.int .i64 0, .int .i64 0]]) ∧ OwnN w' W.heap.size v [] ∧ Below W.heap.size W w') := H5
    have H6 : Hid (∀ W, Tabs W → Calls Tryd.prog 11 #[.string (mk N)] W fun e w' => e = .returned (.int .i64 0) ∧ Below W.heap.size W w') := H6
    clear hT h hp he hiM hwM hwN hiN hMl
    go_enter Tryd.func6, Tryd.ntmps6
    go_upto_region 3 with (go_at_call 13; refine HAL.out.mono ?_; rintro r w1 ⟨rfl, hb⟩; have HB1 := hid hb; clear hb)
    go_upto_region 6 with (go_at_call 17; refine (H1.out _ (HT.out.below HB1.out) (HIN.out.below HB1.out)).mono ?_; rintro r w2 ⟨rfl, hb⟩; have HB2 := hid (HB1.out.trans (hb.mono HB1.out.size)); clear hb)
    go_upto_region 7 with (go_at_call 8; refine (H2.out _ (HT.out.below HB2.out)).mono ?_; rintro r w3 ⟨v1, rfl, ho, hb⟩; have HO3 := hid ho; have HB3 := hid (HB2.out.trans (hb.mono HB2.out.size)); obtain ⟨sa1, sc1, hv⟩ := ho.shape; rw [HLL] at hv; subst hv; clear ho hb)
    have HB4 := hid (HB3.out.trans ((below_walk w3 (.cells #[.int .i64 0, .int .i64 0] 25)).mono HB3.out.size))
    have HO4 := hid (HO3.out.below (below_walk w3 (.cells #[.int .i64 0, .int .i64 0] 25)))
    have HF4 := hid (hp_new w3 (.cells #[.int .i64 0, .int .i64 0] 25))
    generalize w3.alloc (.cells #[.int .i64 0, .int .i64 0] 25) = w4 at *
    obtain ⟨g1, HG1⟩ : ∃ g, Hid (w3.heap.size = g) := ⟨_, rfl⟩
    rw [HG1.out] at HF4
    rw [HG1.out]
    go_upto_region 8 with (go_at_call 17; refine (H3.out _ (HT.out.below HB4.out)).mono ?_; rintro r w5 ⟨rfl, hb⟩; have HB5 := hid (HB4.out.trans (hb.mono HB4.out.size)); have HO5 := hid (HO4.out.below hb); have HF5 := hid ((hb.block g1 (hp_lt HF4.out)).trans HF4.out); clear hb)
    go_upto_region 9 with (go_at_call 17; refine (H4.out _ (HT.out.below HB5.out)).mono ?_; rintro r w6 ⟨rfl, hb⟩; have HB6 := hid (HB5.out.trans (hb.mono HB5.out.size)); have HO6 := hid (HO5.out.below hb); have HF6 := hid ((hb.block g1 (hp_lt HF5.out)).trans HF5.out); clear hb)
    go_upto_region 10 with (go_at_call 8; refine (H5.out _ (HT.out.below HB6.out)).mono ?_; rintro r w7 ⟨v2, rfl, ho, hb⟩; have HB7 := hid (HB6.out.trans (hb.mono HB6.out.size)); have HO7 := hid (HO6.out.below hb); have HF7 := hid ((hb.block g1 (hp_lt HF6.out)).trans HF6.out); obtain ⟨sa2, sc2, hv⟩ := ho.shape; subst hv; clear ho hb)
    have HB8 := hid (HB7.out.trans ((below_walk w7 (.cells #[.int .i64 0, .int .i64 0] 25)).mono HB7.out.size))
    have HO8 := hid (HO7.out.below (below_walk w7 (.cells #[.int .i64 0, .int .i64 0] 25)))
    have HF8 := hid (((below_walk w7 (.cells #[.int .i64 0, .int .i64 0] 25)).block g1 (hp_lt HF7.out)).trans HF7.out)
    have HK8 := hid (hp_new w7 (.cells #[.int .i64 0, .int .i64 0] 25))
    generalize w7.alloc (.cells #[.int .i64 0, .int .i64 0] 25) = w8 at *
    obtain ⟨g2, HG2⟩ : ∃ g, Hid (w7.heap.size = g) := ⟨_, rfl⟩
    rw [HG2.out] at HK8
    rw [HG2.out]
    have c0 : w8.cell? ⟨g1, 0, none⟩ = some (.int .i64 0) := by rw [cell_of_row _ _ _ _ _ _ HF8.out]; rfl
    have c1 : w8.cell? ⟨g1, 1, none⟩ = some (.int .i64 0) := by rw [cell_of_row _ _ _ _ _ _ HF8.out]; rfl
    have k0 : ∀ q, (w8.drewN q).cell? ⟨g2, 0, none⟩ = some (.int .i64 0) := fun q => by show w8.cell? _ = _; rw [cell_of_row _ _ _ _ _ _ HK8.out]; rfl
    have k1 : ∀ q, (w8.drewN q).cell? ⟨g2, 1, none⟩ = some (.int .i64 0) := fun q => by show w8.cell? _ = _; rw [cell_of_row _ _ _ _ _ _ HK8.out]; rfl
    go_wp2_with (go_at_call 10; refine (HS.out _ _ HO8.out.incs (HIN.out.below HB8.out)).mono ?_; rintro r w9 ⟨rfl, q, rfl⟩)
    refine (H6.out (w8.drewN q) (HT.out.below (below_drewN HB8.out q))).mono ?_
    rintro r wa ⟨rfl, hb⟩
    have HBa : Hid (Below w.heap.size w wa) := hid ((below_drewN HB8.out q).trans (hb.mono HB8.out.size))
    clear hb H6 k0 k1
    go_wp2_with (go_at_call 11; refine (H7.out _ (HT.out.below HBa.out)).mono ?_; rintro r wb ⟨rfl, hb⟩; have HBb := hid (HBa.out.trans (hb.mono HBa.out.size)); clear hb)
    go_ret
    exact ⟨rfl, HBb.out⟩
  · have hs := wi_err he
    obtain ⟨e, HE⟩ : ∃ e, Hid ((wiP l L).2 = e) := ⟨_, rfl⟩
    rw [hs, HE.out] at H1
    rw [HE.out] at he
    have he0 : ¬ e = 0 := he
    have f1 : ((mk []).toList == []) = true := by rw [tl_mk]; rfl
    have f2 : (mk []).toList.isEmpty = true := by rw [tl_mk]; rfl
    clear hT h hp hs he
    go_enter Tryd.func6, Tryd.ntmps6
    go_upto_region 3 with (go_at_call 13; refine HAL.out.mono ?_; rintro r w1 ⟨rfl, hb⟩; have HB1 := hid hb; clear hb)
    go_wp2_with (go_at_call 17; refine (H1.out _ (HT.out.below HB1.out) (HIN.out.below HB1.out)).mono ?_; rintro r w2 ⟨rfl, hb⟩; have HB2 := hid (HB1.out.trans (hb.mono HB1.out.size)); clear hb)
    go_ret
    exact ⟨rfl, HB2.out⟩

end Go.Proofs.YtlpengaclkidiaaDoor

/- The document's Quote, and LexQuotes. -/
namespace Go.Proofs.YtlpengaclkidiaaDoor
open Go.RowKit

/-- append(own, bytes...), as one step of a region that draws its order -/
theorem step_app_src {ops : Array Oper} {o : Oper} {act : Act} {w : World} {K : Act → World → Prop} {Q : Exit → Act → World → Prop} {E : Prop} (hgd : o.guard = none) (s x : Operand)
    (ho : o.op = .call { callee := .builtin .append, args := #[s, x], argTypes := #[66, 66] })
    (base : Nat) (v : Value) (bs : List UInt8) (hs : act.eval s = v) (hown : OwnB w base v bs) (vx : Value) (cs : List UInt8) (hx : act.eval x = vx) (hsrc : Src w vx cs)
    (hlen : bs.length + cs.length ≤ 140737488355327) (hbase : base ≤ w.heap.size)
    (h : ∀ v' w', OwnB w' base v' (bs ++ cs) → w.grownBy w' v.ownBlock → K (act.put o.dst v') w') :
    if Region.wanted o (yielded ops act.tmps) = true then Oper.wp Tryd.prog o act w K Q else E := by
  have hw : Region.wanted o (yielded ops act.tmps) = true := by simp [Region.wanted, hgd]
  rw [if_pos hw]
  obtain ⟨i0, hi, hz0, hz1, hz2⟩ := info_parts Tryd.infoU8
  obtain ⟨_, ⟨rfl, rfl⟩ | ⟨ad, cap, rfl, h1, h2, hlt, hc⟩⟩ := hsrc
  · have hrun := run_append_owned_none (P := Tryd.prog) (w := w) base 66 o.type 5 i0 1 Tryd.underlying66 hi v bs.length (bytesV bs) hown
    unfold Oper.wp
    simp [execOp, ho, resolve, invoke, builtin, hs, hx, hrun, Result.andThen]
    exact h v w (by simpa using hown) (gb_refl _ _)
  · obtain ⟨v', w', hrun, r1, r2, _⟩ := run_append_own (P := Tryd.prog) w base 66 o.type 5 i0 (.int .u8 0) 1 1 Tryd.underlying66 hi hz0 hz1 hz2 rfl (by decide) v bs.length (bytesV bs) hown ad cs.length cap (bytesV cs) (by simp [bytesV]) (src_cells hc) (bytesV_one cs) (by unfold maxLen; omega) (by omega) hbase
    unfold Oper.wp
    simp [execOp, ho, resolve, invoke, builtin, hs, hx, hrun, Result.andThen]
    exact h v' w' (by unfold OwnB; rw [bytesV_append, List.length_append]; exact r1) r2

set_option maxHeartbeats 1000000 in

theorem src_l2 (w : World) (x y : UInt8) : Src (w.alloc (.cells #[.int .u8 (x.toNat : Nat), .int .u8 (y.toNat : Nat)] 5)) (.slice (some ⟨w.heap.size, 0, none⟩) 2 2) [x, y] := src_made w [x, y] (by simp)
theorem src_nl (w : World) : Src (w.alloc (.cells #[.int .u8 92, .int .u8 110] 5)) (.slice (some ⟨w.heap.size, 0, none⟩) 2 2) [92, 110] := src_made w [92, 110] (by simp)
theorem src_tb (w : World) : Src (w.alloc (.cells #[.int .u8 92, .int .u8 116] 5)) (.slice (some ⟨w.heap.size, 0, none⟩) 2 2) [92, 116] := src_made w [92, 116] (by simp)
theorem src_qq (w : World) : Src (w.alloc (.cells #[.int .u8 92, .int .u8 34] 5)) (.slice (some ⟨w.heap.size, 0, none⟩) 2 2) [92, 34] := src_made w [92, 34] (by simp)
theorem src_bb (w : World) : Src (w.alloc (.cells #[.int .u8 92, .int .u8 92] 5)) (.slice (some ⟨w.heap.size, 0, none⟩) 2 2) [92, 92] := src_made w [92, 92] (by simp)
theorem src_q1 (w : World) : Src (w.alloc (.cells #[.int .u8 34] 5)) (.slice (some ⟨w.heap.size, 0, none⟩) 1 1) [34] := src_made w [34] (by simp)
theorem src_cd (w : World) (x y : UInt8) : Src (w.alloc (.cells #[.int .u8 92, .int .u8 120, .int .u8 (x.toNat : Nat), .int .u8 (y.toNat : Nat)] 5)) (.slice (some ⟨w.heap.size, 0, none⟩) 4 4) [92, 120, x, y] := src_made w [92, 120, x, y] (by simp)
theorem own_q1 (w : World) : OwnB (w.alloc (.cells #[.int .u8 34] 5)) w.heap.size (.slice (some ⟨w.heap.size, 0, none⟩) 1 1) [34] :=
  World.ownsRow_lit w #[.int .u8 34] 1 (Nat.le_refl _) (by decide) rfl

set_option maxHeartbeats 4000000 in
theorem rquote_any (v : List UInt8) (hv : v.length ≤ 4096) (w : World) :
    Calls Tryd.prog 36 #[.string (mk v)] w fun e w' => e = .returned (.tuple #[.string (mk (quP v)), .int .i64 0]) ∧ Below w.heap.size w w' := by
  have hsz := mk_size v
  have q1 : ¬ (4096 : Int) < (v.length : Int) := by omega
  go_enter Tryd.func36, Tryd.ntmps36
  go_wp2
  go_loopw [5, 6] (fun x i wr => ∃ k : Nat, i = .int .i64 k ∧ k ≤ v.length ∧ OwnB wr w.heap.size x (34 :: (v.take k).flatMap qpP) ∧ Below w.heap.size w wr) (fun _ i _ => v.length - (intOf i).toNat)
  case atStart => exact ⟨0, rfl, Nat.zero_le _, own_q1 w, below_walk _ _⟩
  case round =>
    obtain ⟨k, rfl, hk, HO, HB⟩ := hrel
    have HO : Hid (OwnB wr w.heap.size _ (34 :: (v.take k).flatMap qpP)) := HO
    have HB : Hid (Below w.heap.size w wr) := HB
    have hfl := flat_len (v.take k)
    rw [List.length_take] at hfl
    obtain ⟨sa, sc, hsh⟩ := HO.out.shape
    subst hsh
    obtain ⟨n0, HN0⟩ : ∃ n, Hid ((34 :: (v.take k).flatMap qpP).length = n) := ⟨_, rfl⟩
    by_cases hlt : k < v.length
    · have q2 : (k : Int) < (v.length : Int) := by omega
      have i1 := at_mk v k hlt
      obtain ⟨c, HC⟩ : ∃ c : UInt8, Hid (v.getD k 0 = c) := ⟨_, rfl⟩
      rw [HC.out] at i1
      have hE : 34 :: (v.take k).flatMap qpP ++ qpP c = 34 :: (v.take (k + 1)).flatMap qpP := by
        rw [List.take_succ_eq_append_getElem hlt, List.flatMap_append]
        have : v[k] = c := by have := HC.out; simpa [List.getD_eq_getElem?_getD, hlt] using this
        rw [this]
        simp
      by_cases h10 : c = 10
      · subst h10
        have HE : Hid (34 :: (v.take k).flatMap qpP ++ [92, 110] = 34 :: (v.take (k + 1)).flatMap qpP) := hE
        have i1 : ∀ W, (Instr.index 9 (.string (mk v)) (.int .i64 (k : Int))).run Tryd.prog W = .ok (.int .u8 10) W := i1
        clear hE
        rw [HN0.out]
        rw [HN0.out] at HO
        go_wp2_with (refine app_src (by rfl) (.tmp 35) (.tmp 36) (by rfl) w.heap.size _ (34 :: (v.take k).flatMap qpP) (by rfl) (HO.out.below (below_walk _ _)) _ [92, 110] (by rfl) (src_nl _) (by simp only [List.length_cons, List.length_nil]; omega) (by rw [hp_size]; have := HB.out.size; omega) ?_
                     intro v' w4 ho hg
                     rw [HE.out] at ho
                     have HO4 := hid ho
                     have HB4 : Hid (Below w.heap.size w w4) := Below.grown (HB.out.alloc HB.out.size _) hg (by rw [hp_size]; have := HB.out.size; omega) (fun q hq => (HO.out.lt q hq).1)
                     obtain ⟨sa2, sc2, hv2⟩ := ho.shape
                     subst hv2
                     obtain ⟨N, HN⟩ : ∃ N, Hid ((34 :: (v.take (k + 1)).flatMap qpP).length = N) := ⟨_, rfl⟩
                     rw [HN.out]
                     rw [HN.out] at HO4
                     clear ho hg)
        exact ⟨⟨k + 1, by simp, by omega, HO4.out, HB4.out⟩, by simp [intOf]; omega⟩
      · have n1 : ¬ (c.toNat : Int) = 10 := fun e => h10 ((u8_eq (n := 10) (by omega)).1 e)
        by_cases h9 : c = 9
        · subst h9
          have HE : Hid (34 :: (v.take k).flatMap qpP ++ [92, 116] = 34 :: (v.take (k + 1)).flatMap qpP) := hE
          have i1 : ∀ W, (Instr.index 9 (.string (mk v)) (.int .i64 (k : Int))).run Tryd.prog W = .ok (.int .u8 9) W := i1
          clear hE n1 h10
          rw [HN0.out]
          rw [HN0.out] at HO
          go_wp2_with (refine app_src (by rfl) (.tmp 41) (.tmp 42) (by rfl) w.heap.size _ (34 :: (v.take k).flatMap qpP) (by rfl) (HO.out.below (below_walk _ _)) _ [92, 116] (by rfl) (src_tb _) (by simp only [List.length_cons, List.length_nil]; omega) (by rw [hp_size]; have := HB.out.size; omega) ?_
                       intro v' w4 ho hg
                       rw [HE.out] at ho
                       have HO4 := hid ho
                       have HB4 : Hid (Below w.heap.size w w4) := Below.grown (HB.out.alloc HB.out.size _) hg (by rw [hp_size]; have := HB.out.size; omega) (fun q hq => (HO.out.lt q hq).1)
                       obtain ⟨sa2, sc2, hv2⟩ := ho.shape
                       subst hv2
                       obtain ⟨N, HN⟩ : ∃ N, Hid ((34 :: (v.take (k + 1)).flatMap qpP).length = N) := ⟨_, rfl⟩
                       rw [HN.out]
                       rw [HN.out] at HO4
                       clear ho hg)
          exact ⟨⟨k + 1, by simp, by omega, HO4.out, HB4.out⟩, by simp [intOf]; omega⟩
        · have n2 : ¬ (c.toNat : Int) = 9 := fun e => h9 ((u8_eq (n := 9) (by omega)).1 e)
          by_cases hq : c = 34
          · subst hq
            have HE : Hid (34 :: (v.take k).flatMap qpP ++ [92, 34] = 34 :: (v.take (k + 1)).flatMap qpP) := hE
            have i1 : ∀ W, (Instr.index 9 (.string (mk v)) (.int .i64 (k : Int))).run Tryd.prog W = .ok (.int .u8 34) W := i1
            clear hE n1 n2 h10 h9
            rw [HN0.out]
            rw [HN0.out] at HO
            go_wp2_with (refine app_src (by rfl) (.tmp 51) (.tmp 53) (by rfl) w.heap.size _ (34 :: (v.take k).flatMap qpP) (by rfl) (HO.out.below (below_walk _ _)) _ [92, 34] (by rfl) (src_qq _) (by simp only [List.length_cons, List.length_nil]; omega) (by rw [hp_size]; have := HB.out.size; omega) ?_
                         intro v' w4 ho hg
                         rw [HE.out] at ho
                         have HO4 := hid ho
                         have HB4 : Hid (Below w.heap.size w w4) := Below.grown (HB.out.alloc HB.out.size _) hg (by rw [hp_size]; have := HB.out.size; omega) (fun q hq => (HO.out.lt q hq).1)
                         obtain ⟨sa2, sc2, hv2⟩ := ho.shape
                         subst hv2
                         obtain ⟨N, HN⟩ : ∃ N, Hid ((34 :: (v.take (k + 1)).flatMap qpP).length = N) := ⟨_, rfl⟩
                         rw [HN.out]
                         rw [HN.out] at HO4
                         clear ho hg)
            exact ⟨⟨k + 1, by simp, by omega, HO4.out, HB4.out⟩, by simp [intOf]; omega⟩
          · by_cases hb : c = 92
            · subst hb
              have HE : Hid (34 :: (v.take k).flatMap qpP ++ [92, 92] = 34 :: (v.take (k + 1)).flatMap qpP) := hE
              have i1 : ∀ W, (Instr.index 9 (.string (mk v)) (.int .i64 (k : Int))).run Tryd.prog W = .ok (.int .u8 92) W := i1
              clear hE n1 n2 h10 h9 hq
              rw [HN0.out]
              rw [HN0.out] at HO
              go_wp2_with (refine app_src (by rfl) (.tmp 51) (.tmp 53) (by rfl) w.heap.size _ (34 :: (v.take k).flatMap qpP) (by rfl) (HO.out.below (below_walk _ _)) _ [92, 92] (by rfl) (src_bb _) (by simp only [List.length_cons, List.length_nil]; omega) (by rw [hp_size]; have := HB.out.size; omega) ?_
                           intro v' w4 ho hg
                           rw [HE.out] at ho
                           have HO4 := hid ho
                           have HB4 : Hid (Below w.heap.size w w4) := Below.grown (HB.out.alloc HB.out.size _) hg (by rw [hp_size]; have := HB.out.size; omega) (fun q hq => (HO.out.lt q hq).1)
                           obtain ⟨sa2, sc2, hv2⟩ := ho.shape
                           subst hv2
                           obtain ⟨N, HN⟩ : ∃ N, Hid ((34 :: (v.take (k + 1)).flatMap qpP).length = N) := ⟨_, rfl⟩
                           rw [HN.out]
                           rw [HN.out] at HO4
                           clear ho hg)
              exact ⟨⟨k + 1, by simp, by omega, HO4.out, HB4.out⟩, by simp [intOf]; omega⟩
            · have n3 : ((c.toNat : Int) == 34) = false := by simp only [beq_eq_false_iff_ne, ne_eq]; exact fun e => hq ((u8_eq (n := 34) (by omega)).1 e)
              have n4 : ((c.toNat : Int) == 92) = false := by simp only [beq_eq_false_iff_ne, ne_eq]; exact fun e => hb ((u8_eq (n := 92) (by omega)).1 e)
              cases hp : plB c with
              | true =>
                have hQ : qpP c = [c] := by unfold qpP; rw [if_neg h10, if_neg h9, if_neg (by rintro (e | e); exact hq e; exact hb e), if_pos hp]
                rw [hQ] at hE
                have HE := hid hE
                have hpz : 32 ≤ (c.toNat : Int) ∧ (c.toNat : Int) ≤ 126 := by
                  unfold plB plI at hp
                  have := of_decide_eq_true hp
                  omega
                obtain ⟨p1, p2⟩ := hpz
                clear hE hQ hp h10 h9 hq hb
                rw [HN0.out]
                rw [HN0.out] at HO
                go_wp2_with (refine app_src (by rfl) (.tmp 62) (.tmp 64) (by rfl) w.heap.size _ (34 :: (v.take k).flatMap qpP) (by rfl) (HO.out.below (below_walk _ _)) _ [c] (by rfl) (src_made _ [c] (by simp)) (by simp only [List.length_cons, List.length_nil]; omega) (by rw [hp_size]; have := HB.out.size; omega) ?_
                             intro v' w4 ho hg
                             rw [HE.out] at ho
                             have HO4 := hid ho
                             have HB4 : Hid (Below w.heap.size w w4) := Below.grown (HB.out.alloc HB.out.size _) hg (by rw [hp_size]; have := HB.out.size; omega) (fun q hq => (HO.out.lt q hq).1)
                             obtain ⟨sa2, sc2, hv2⟩ := ho.shape
                             subst hv2
                             obtain ⟨N, HN⟩ : ∃ N, Hid ((34 :: (v.take (k + 1)).flatMap qpP).length = N) := ⟨_, rfl⟩
                             rw [HN.out]
                             rw [HN.out] at HO4
                             clear ho hg)
                exact ⟨⟨k + 1, by simp, by omega, HO4.out, HB4.out⟩, by simp [intOf]; omega⟩
              | false =>
                have hQ : qpP c = [92, 120, hexQ (c.toNat / 16), hexQ (c.toNat % 16)] := by unfold qpP; rw [if_neg h10, if_neg h9, if_neg (by rintro (e | e); exact hq e; exact hb e), if_neg (by rw [hp]; decide)]
                have hpz : ¬ 32 ≤ (c.toNat : Int) ∨ (32 ≤ (c.toNat : Int) ∧ ¬ (c.toNat : Int) ≤ 126) := by
                  unfold plB plI at hp
                  have h0 := of_decide_eq_false hp
                  have a1 : ¬ (c.toNat : Int) = 34 := by simpa using n3
                  have a2 : ¬ (c.toNat : Int) = 92 := by simpa using n4
                  omega
                rw [hQ] at hE
                obtain ⟨q, HQ1⟩ : ∃ q, Hid (q = c.toNat / 16) := ⟨_, rfl⟩
                obtain ⟨r, HR1⟩ : ∃ r, Hid (r = c.toNat % 16) := ⟨_, rfl⟩
                rw [← HQ1.out, ← HR1.out] at hE
                have HE := hid hE
                have hc := c.toNat_lt
                have hq16 : q < 16 := by rw [HQ1.out]; omega
                have hr16 : r < 16 := by rw [HR1.out]; omega
                have e1 : ((c.toNat : Nat) : Int) / 2 ^ 4 = (q : Int) := by rw [HQ1.out]; omega
                have e1' : ((c.toNat : Nat) : Int) / 16 = (q : Int) := by rw [HQ1.out]; omega
                have e2 : bits .and .u8 ((c.toNat : Nat) : Int) 15 = (r : Int) := by
                  have := u8_and_nat c.toNat 15 (by omega) (by omega)
                  rw [show (15 : Nat) = 2 ^ 4 - 1 from rfl, Nat.and_two_pow_sub_one_eq_mod, ← show (15 : Nat) = 2 ^ 4 - 1 from rfl] at this
                  rw [HR1.out]
                  exact this
                have j1 := fun W => index_dq W q hq16
                have j2 := fun W => index_dq W r hr16
                have HLN := hid (show (34 :: (v.take k).flatMap qpP).length + [92, 120, hexQ q, hexQ r].length ≤ 140737488355327 by simp only [List.length_cons, List.length_nil]; omega)
                have HOX := hid (fun (W : World) (o : Obj) (hW : W.heap = wr.heap) => ((show OwnB W w.heap.size (.slice sa n0 sc) (34 :: (v.take k).flatMap qpP) by have := HO.out; rw [HN0.out] at this; unfold OwnB World.ownsRow at this ⊢; rw [hW]; exact this).below (below_walk W o) : OwnB (W.alloc o) w.heap.size (.slice sa n0 sc) (34 :: (v.take k).flatMap qpP)))
                have HSZ2 := hid (show w.heap.size ≤ wr.heap.size + 1 from Nat.le_succ_of_le HB.out.size)
                clear hE hQ hp h10 h9 hq hb hc hfl
                rw [HN0.out]
                rw [HN0.out] at HO
                rcases hpz with p1 | ⟨p1, p2⟩
                all_goals go_wp2_with fail
                all_goals go_region_law ((refine step_app_src (by rfl) (.tmp 21) (.tmp 30) (by rfl) w.heap.size _ (34 :: (v.take k).flatMap qpP) (by rfl) (by exact HOX.out _ _ rfl) _ [92, 120, hexQ q, hexQ r] (by rfl) (by exact src_cd _ _ _) HLN.out (by show w.heap.size ≤ (wr.alloc _).heap.size; rw [hp_size]; exact HSZ2.out) ?_; intro v5 w5 ho5 hg5; have HO5 := hid ho5; have HG5 := hid hg5; clear ho5 hg5))
                all_goals
                  have HB5 : Hid (Below w.heap.size w w5) := by
                    have hb := HB.out
                    exact ((show Below w.heap.size w wr.drew from ⟨hb.os, hb.tape, hb.output, hb.size, hb.block⟩).alloc hb.size _).grown HG5.out (by rw [hp_size]; exact HSZ2.out) (fun j hj => (HO.out.lt j hj).1)
                  rw [HE.out] at HO5
                  clear HG5
                  obtain ⟨sa2, sc2, hv2⟩ := HO5.out.shape
                  subst hv2
                  obtain ⟨N, HN⟩ : ∃ N, Hid ((34 :: (v.take (k + 1)).flatMap qpP).length = N) := ⟨_, rfl⟩
                  rw [HN.out]
                  rw [HN.out] at HO5
                  go_wp2
                  exact ⟨⟨k + 1, by simp, by omega, HO5.out, HB5.out⟩, by simp [intOf]; omega⟩
    · have q2 : ¬ (k : Int) < (v.length : Int) := by omega
      have hkv : v.take k = v := List.take_of_length_le (by omega)
      rw [hkv] at HN0 HO hfl
      rw [hkv]
      rw [HN0.out]
      rw [HN0.out] at HO
      clear hkv
      go_wp2_with (refine app_src (by rfl) (.tmp 66) (.tmp 67) (by rfl) w.heap.size _ (34 :: v.flatMap qpP) (by rfl) (HO.out.below (below_walk _ _)) _ [34] (by rfl) (src_q1 _) (by simp only [List.length_cons, List.length_nil]; omega) (by rw [hp_size]; have := HB.out.size; omega) ?_
                   intro v' w4 ho hg
                   have HB4 : Hid (Below w.heap.size w w4) := Below.grown (HB.out.alloc HB.out.size _) hg (by rw [hp_size]; have := HB.out.size; omega) (fun q hq => (HO.out.lt q hq).1)
                   have ho : OwnB w4 w.heap.size v' (quP v) := ho
                   have hql : (quP v).length ≤ 140737488355327 := by unfold quP; rw [List.length_cons, List.length_append]; simp only [List.length_cons, List.length_nil]; omega
                   have r1 := run_str (ho.src hql)
                   have r1 : (convert 66 9 v').run Tryd.prog w4 = .ok (.string (mk (quP v))) w4 := r1
                   obtain ⟨sa2, sc2, hv2⟩ := ho.shape
                   obtain ⟨N, HN⟩ : ∃ N, Hid ((quP v).length = N) := ⟨_, rfl⟩
                   rw [HN.out] at hv2
                   subst hv2
                   clear ho hg hql)
      go_ret2
      exact ⟨rfl, HB4.out⟩

set_option maxHeartbeats 2000000 in
theorem rquote_long (v : List UInt8) (hv : 4096 < v.length) (w : World) :
    Calls Tryd.prog 36 #[.string (mk v)] w fun e w' => e = .returned (.tuple #[.string ⟨#[]⟩, .int .i64 3]) ∧ Below w.heap.size w w' := by
  have hsz := mk_size v
  have q1 : (4096 : Int) < (v.length : Int) := by omega
  go_enter Tryd.func36, Tryd.ntmps36
  go_wp2
  go_ret2
  exact ⟨rfl, Below.refl _ _⟩

end Go.Proofs.YtlpengaclkidiaaDoor

/- The document's With, and ScanPuts. -/
namespace Go.Proofs.YtlpengaclkidiaaDoor
open Go.RowKit

theorem mk_add (l m : List UInt8) : mk l ++ mk m = mk (l ++ m) := by
  apply Go.WideShapes.bytes_inj
  simp [mk, ByteArray.data_append]
theorem str_add (l m : List UInt8) (h : l.length + m.length ≤ 9223372036854775807) (W : World) : (Op.stringOp .add (mk l) (mk m)).run Tryd.prog W = .ok (.string (mk (l ++ m))) W := by
  have hs : ¬ ((((mk l).size + (mk m).size : Nat) : Int) > IntKind.i64.max) := by
    rw [mk_size, mk_size, show IntKind.i64.max = 9223372036854775807 from rfl]
    omega
  simp only [Op.stringOp]
  rw [if_neg hs, mk_add]
  rfl

set_option maxRecDepth 20000 in
set_option maxHeartbeats 8000000 in
theorem rwith_any (l : List UInt8) (hll : l.length ≤ 140737488355328) (v : Value) (L : List (List UInt8 × List UInt8 × Int)) (hn : L.length ≤ 140737488355328) (hp : ∀ x ∈ L, x.1.length ≤ 140737488355328 ∧ x.2.1.length ≤ 140737488355328) (w : World) (h : Incs w v L) :
    Calls Tryd.prog 18 #[.string (mk l), v] w fun r w' => r = .returned (.tuple #[.string (mk (wiP l L).1), .int .i64 (wiP l L).2]) ∧ Below w.heap.size w w' := by
  have HI := hid (rincls_any l w)
  have hto := is_to l
  have hmk := mk_size l
  have HIN := hid h
  have HP := hid hp
  obtain ⟨ao, c, rfl⟩ := h.shape
  obtain ⟨g, HE2⟩ : ∃ e, Hid ((isP l).2.2.2 = e) := ⟨_, rfl⟩
  obtain ⟨L0, HE4⟩ : ∃ e, Hid ((isP l).1 = e) := ⟨_, rfl⟩
  clear h hp
  by_cases he : (isP l).2.2.1 = 0
  · have hl := is_short he
    have hwi : wiP l L = if L.all okI = false then ([], 1) else if 65536 < (L.flatMap wlP ++ l.drop (isP l).2.1).length then ([], 3) else (L.flatMap wlP ++ l.drop (isP l).2.1, 0) := by
      unfold wiP; rw [he, if_neg (by simp)]
    obtain ⟨to, HE3⟩ : ∃ e, Hid ((isP l).2.1 = e) := ⟨_, rfl⟩
    rw [he, HE2.out, HE4.out, HE3.out] at HI
    rw [HE3.out] at hto hwi
    have HWI := hid hwi
    clear hwi he
    go_enter Tryd.func18, Tryd.ntmps18
    go_wp2_with (go_at_call 9; refine HI.out.mono ?_; rintro r w2 ⟨v1, rfl, ho, hb⟩; have HB1 := hid hb; obtain ⟨sa1, sc1, hv⟩ := ho.shape; subst hv; clear ho hb)
    go_loopw [10, 11] (fun s i wr => ∃ k j : Nat, i = .int .i64 k ∧ s = .string (mk ((L.take j).flatMap wlP)) ∧ k ≤ L.length ∧ j ≤ k ∧ AllOk L k ∧ (j = k ∨ 65536 < ((L.take j).flatMap wlP).length) ∧ ((L.take j).flatMap wlP).length ≤ 100000 ∧ Below w.heap.size w wr) (fun _ i _ => L.length - (intOf i).toNat)
    case atStart => exact ⟨0, 0, rfl, rfl, Nat.zero_le _, Nat.le_refl _, fun j hj => by omega, Or.inl rfl, by simp, HB1.out⟩
    case round =>
      clear HB1
      obtain ⟨k, j, rfl, rfl, hk, hjk, hok, hjj, hj5, hb⟩ := hrel
      have HOK := hid hok
      have HB := hid hb
      have HJJ := hid hjj
      clear hok hb hjj
      by_cases hlt : k < L.length
      · have q1 : (k : Int) < (L.length : Int) := by omega
        obtain ⟨g1, o1, hs1, _, e0, e1, e2⟩ := (HIN.out.below HB.out).at k hlt
        subst hs1
        have hpx := HP.out (L.getD k noI) (by rw [List.getD_eq_getElem?_getD, List.getElem?_eq_getElem hlt]; exact List.getElem_mem hlt)
        have HAN := hid (fun (h : okI (L.getD k noI) = false) => all_not hlt h)
        have HFS : Hid (j = k → (L.take j).flatMap wlP ++ wlP (L.getD k noI) = (L.take (k + 1)).flatMap wlP) := fun h => by rw [h]; exact fl_succ L k hlt
        obtain ⟨⟨x, y, z⟩, HX⟩ : ∃ t, Hid (L.getD k noI = t) := ⟨_, rfl⟩
        rw [HX.out] at e0 e1 e2 hpx HAN HFS
        simp only at hpx
        obtain ⟨S, HS⟩ : ∃ S, Hid ((L.take j).flatMap wlP = S) := ⟨_, rfl⟩
        rw [HS.out] at HJJ hj5 HFS
        rw [HS.out]
        have hsz := mk_size S
        by_cases hx : x.length ≤ 4096
        · have HQ := hid (fun W => rquote_any x hx W)
          have hql := qu_len x
          have hfl := flat_len x
          have HWD := hid (fun W => rword_any y hpx.2 W)
          have HJW := hid (rword_js y)
          rw [HJW.out] at HWD
          cases hj : jsP 1 y with
          | false =>
            have FIN : Hid (wiP l L = ([], 1)) := by
              show wiP l L = _
              rw [HWI.out, if_pos (HAN.out (by unfold okI; simp only; rw [hj, Bool.and_false]))]
            rw [hj] at HWD
            obtain ⟨Q, HQE⟩ : ∃ q, Hid (quP x = q) := ⟨_, rfl⟩
            rw [HQE.out] at HQ hql
            clear hj hfl hpx
            go_wp2_with first
              | (go_at_call 36; refine (HQ.out _).mono ?_; rintro r w4 ⟨rfl, hb⟩; have HB4 := hid hb; have u1 := (hb.cell (p := ⟨g1, o1 + k * 3 + 1, none⟩) (by exact World.block_lt_of_cell? wr _ e1)).trans e1; clear hb)
              | (go_at_call 37; refine (HWD.out _).mono ?_; rintro r w5 ⟨rfl, hb⟩; have HB5 := hid hb; clear hb)
            go_ret2
            rw [FIN.out]
            exact ⟨rfl, (HB.out.trans (HB4.out.mono HB.out.size)).trans (HB5.out.mono (Nat.le_trans HB.out.size HB4.out.size))⟩
          | true =>
            have hokx : okI (x, y, z) = true := by unfold okI; simp only; rw [hj, decide_eq_true hx]; rfl
            have NXT : Hid (AllOk L (k + 1)) := fun i hi => by
              rcases Nat.lt_or_ge i k with h | h
              · exact HOK.out i h
              · obtain rfl : i = k := by omega
                rw [HX.out]; exact hokx
            have hwl := wl_len hokx
            have hnm := (okI_len hokx).2.1
            simp only at hnm
            have HWL := hid (show wlP (x, y, z) = wl1 ++ quP x ++ wl2 ++ y ++ wl3 from rfl)
            rw [hj] at HWD
            obtain ⟨Q, HQE⟩ : ∃ q, Hid (quP x = q) := ⟨_, rfl⟩
            rw [HQE.out] at HQ hql HWL
            have hQ : Q.length ≤ 17000 := by omega
            have w1 : wl1.length = 8 := rfl
            have w2' : wl2.length = 4 := rfl
            have w3' : wl3.length = 2 := rfl
            obtain ⟨A1, HA1⟩ : ∃ q, Hid (wl1 ++ Q = q) := ⟨_, rfl⟩
            obtain ⟨A2, HA2⟩ : ∃ q, Hid (A1 ++ wl2 = q) := ⟨_, rfl⟩
            obtain ⟨A3, HA3⟩ : ∃ q, Hid (A2 ++ y = q) := ⟨_, rfl⟩
            obtain ⟨A4, HA4⟩ : ∃ q, Hid (A3 ++ wl3 = q) := ⟨_, rfl⟩
            obtain ⟨A5, HA5⟩ : ∃ q, Hid (S ++ A4 = q) := ⟨_, rfl⟩
            have n1 : A1.length = 8 + Q.length := by rw [← HA1.out, List.length_append, w1]
            have n2 : A2.length = A1.length + 4 := by rw [← HA2.out, List.length_append, w2']
            have n3 : A3.length = A2.length + y.length := by rw [← HA3.out, List.length_append]
            have n4 : A4.length = A3.length + 2 := by rw [← HA4.out, List.length_append, w3']
            have n5 : A5.length = S.length + A4.length := by rw [← HA5.out, List.length_append]
            have t1 : ∀ W, (Op.stringOp .add (⟨#[105, 110, 99, 108, 117, 100, 101, 32]⟩ : ByteArray) (mk Q)).run Tryd.prog W = .ok (.string (mk A1)) W := fun W => by rw [← HA1.out]; exact str_add wl1 Q (by omega) W
            have t2 : ∀ W, (Op.stringOp .add (mk A1) (⟨#[32, 97, 115, 32]⟩ : ByteArray)).run Tryd.prog W = .ok (.string (mk A2)) W := fun W => by rw [← HA2.out]; exact str_add A1 wl2 (by omega) W
            have t3 : ∀ W, (Op.stringOp .add (mk A2) (mk y)).run Tryd.prog W = .ok (.string (mk A3)) W := fun W => by rw [← HA3.out]; exact str_add A2 y (by omega) W
            have t4 : ∀ W, (Op.stringOp .add (mk A3) (⟨#[59, 10]⟩ : ByteArray)).run Tryd.prog W = .ok (.string (mk A4)) W := fun W => by rw [← HA4.out]; exact str_add A3 wl3 (by omega) W
            have t5 : ∀ W, (Op.stringOp .add (mk S) (mk A4)).run Tryd.prog W = .ok (.string (mk A5)) W := fun W => by rw [← HA5.out]; exact str_add S A4 (by omega) W
            have HA := hid (show A4 = wlP (x, y, z) by rw [HWL.out, ← HA4.out, ← HA3.out, ← HA2.out, ← HA1.out])
            by_cases hsl : S.length ≤ 65536
            · have hjk2 : j = k := by
                rcases HJJ.out with h | h
                · exact h
                · omega
              have HF2 : Hid (A5 = (L.take (k + 1)).flatMap wlP) := by
                show A5 = _
                rw [← HFS.out hjk2, ← HA5.out, HA.out]
              have q2 : (S.length : Int) ≤ 65536 := by omega
              have hN : ((L.take (k + 1)).flatMap wlP).length ≤ 100000 := by rw [← HF2.out]; omega
              clear hj hokx hwl hfl hpx hql w1 w2' w3' n1 n2 n3 n4 n5
              go_wp2_with first
                | (go_at_call 36; refine (HQ.out _).mono ?_; rintro r w4 ⟨rfl, hb⟩; have HB4 := hid hb; have u1 := (hb.cell (p := ⟨g1, o1 + k * 3 + 1, none⟩) (by exact World.block_lt_of_cell? wr _ e1)).trans e1; clear hb)
                | (go_at_call 37; refine (HWD.out _).mono ?_; rintro r w5 ⟨rfl, hb⟩; have HB5 := hid hb; have u2 := (hb.cell (p := ⟨g1, o1 + k * 3 + 1, none⟩) (by exact World.block_lt_of_cell? w4 _ u1)).trans u1; clear hb)
              exact ⟨⟨k + 1, k + 1, by simp, by rw [← HF2.out], by omega, Nat.le_refl _, NXT.out, Or.inl rfl, hN, (HB.out.trans (HB4.out.mono HB.out.size)).trans (HB5.out.mono (Nat.le_trans HB.out.size HB4.out.size))⟩, by simp [intOf]; omega⟩
            · have q2 : ¬ (S.length : Int) ≤ 65536 := by omega
              clear hj hokx hwl hfl hpx hql w1 w2' w3' n1 n2 n3 n4 n5
              go_wp2_with first
                | (go_at_call 36; refine (HQ.out _).mono ?_; rintro r w4 ⟨rfl, hb⟩; have HB4 := hid hb; have u1 := (hb.cell (p := ⟨g1, o1 + k * 3 + 1, none⟩) (by exact World.block_lt_of_cell? wr _ e1)).trans e1; clear hb)
                | (go_at_call 37; refine (HWD.out _).mono ?_; rintro r w5 ⟨rfl, hb⟩; have HB5 := hid hb; clear hb)
              exact ⟨⟨k + 1, j, by simp, by rw [HS.out], by omega, by omega, NXT.out, Or.inr (by rw [HS.out]; omega), by rw [HS.out]; exact hj5, (HB.out.trans (HB4.out.mono HB.out.size)).trans (HB5.out.mono (Nat.le_trans HB.out.size HB4.out.size))⟩, by simp [intOf]; omega⟩
        · have HQ := hid (fun W => rquote_long x (by omega) W)
          have FIN : Hid (wiP l L = ([], 1)) := by
            show wiP l L = _
            rw [HWI.out, if_pos (HAN.out (by unfold okI; simp only; rw [decide_eq_false hx, Bool.false_and]))]
          clear hpx
          go_wp2_with (go_at_call 36; refine (HQ.out _).mono ?_; rintro r w4 ⟨rfl, hb⟩; have HB4 := hid hb; clear hb)
          go_ret2
          rw [FIN.out]
          exact ⟨rfl, HB.out.trans (HB4.out.mono HB.out.size)⟩
      · have q1 : ¬ (k : Int) < (L.length : Int) := by omega
        obtain rfl : k = L.length := by omega
        have HAL := hid HOK.out.all
        have HW2 : Hid (wiP l L = if 65536 < (L.flatMap wlP ++ l.drop to).length then ([], 3) else (L.flatMap wlP ++ l.drop to, 0)) := by
          show wiP l L = _
          rw [HWI.out, HAL.out, if_neg (by simp)]
        have s1 := sl_from l to hto
        have HFL := hid (fl_le L j)
        have hdl : (l.drop to).length ≤ 65536 := by rw [List.length_drop]; omega
        obtain ⟨D, HD⟩ : ∃ D, Hid (l.drop to = D) := ⟨_, rfl⟩
        rw [HD.out] at s1 HW2 hdl
        have HFE := hid (fun (h : j = L.length) => show (L.take j).flatMap wlP = L.flatMap wlP by rw [h, List.take_length])
        obtain ⟨S, HS⟩ : ∃ S, Hid ((L.take j).flatMap wlP = S) := ⟨_, rfl⟩
        rw [HS.out] at HJJ hj5 HFL HFE
        rw [HS.out]
        obtain ⟨G, HG⟩ : ∃ G, Hid (S ++ D = G) := ⟨_, rfl⟩
        have ng : G.length = S.length + D.length := by rw [← HG.out, List.length_append]
        have t1 : ∀ W, (Op.stringOp .add (mk S) (mk D)).run Tryd.prog W = .ok (.string (mk G)) W := fun W => by rw [← HG.out]; exact str_add S D (by omega) W
        have hsz := mk_size G
        by_cases hlong : 65536 < G.length
        · have q2 : (65536 : Int) < (G.length : Int) := by omega
          have FIN : Hid (wiP l L = ([], 3)) := by
            show wiP l L = _
            rw [HW2.out, if_pos (by rw [List.length_append]; have := HFL.out; omega)]
          go_wp2
          go_ret2
          rw [FIN.out]
          exact ⟨rfl, HB.out⟩
        · have q2 : ¬ (65536 : Int) < (G.length : Int) := by omega
          have hje : j = L.length := by
            rcases HJJ.out with h | h
            · exact h
            · omega
          have FIN : Hid (wiP l L = (G, 0)) := by
            show wiP l L = _
            rw [HW2.out, ← HFE.out hje, HG.out, if_neg hlong]
          go_wp2
          go_ret2
          rw [FIN.out]
          exact ⟨rfl, HB.out⟩
  · have e : wiP l L = ([], (isP l).2.2.1) := by unfold wiP; rw [if_pos he]
    rw [e]
    obtain ⟨er, HE1⟩ : ∃ e, Hid ((isP l).2.2.1 = e) := ⟨_, rfl⟩
    obtain ⟨to, HE3⟩ : ∃ e, Hid ((isP l).2.1 = e) := ⟨_, rfl⟩
    rw [HE1.out, HE2.out, HE4.out, HE3.out] at HI
    rw [HE1.out] at he
    rw [HE1.out]
    have he0 : ¬ er = 0 := he
    clear he e
    go_enter Tryd.func18, Tryd.ntmps18
    go_wp2_with (go_at_call 9; refine HI.out.mono ?_; rintro r w2 ⟨v1, rfl, ho, hb⟩; have HB1 := hid hb; obtain ⟨sa1, sc1, hv⟩ := ho.shape; subst hv; clear ho hb)
    go_ret2
    exact ⟨rfl, HB1.out⟩

set_option maxRecDepth 20000 in
set_option maxHeartbeats 2000000 in
theorem puts_any (w : World) (l : List UInt8) (hll : l.length ≤ 140737488355328) (v : Value) (L : List (List UInt8 × List UInt8 × Int)) (hn : L.length ≤ 140737488355328) (hp : ∀ x ∈ L, x.1.length ≤ 140737488355328 ∧ x.2.1.length ≤ 140737488355328) (hT : Tabs w) (h : Incs w v L) :
    Calls Tryd.prog 5 #[.string (mk l), v] w fun e w' => e = .returned (.bool true) ∧ Below w.heap.size w w' := by
  have H1 := hid (with_any l v L hn hp w hT h)
  have H2 := hid (fun W hW => rwith_any l hll v L hn hp W hW)
  obtain ⟨s, HE1⟩ : ∃ e, Hid ((wiP l L).1 = e) := ⟨_, rfl⟩
  obtain ⟨e, HE2⟩ : ∃ e, Hid ((wiP l L).2 = e) := ⟨_, rfl⟩
  rw [HE1.out, HE2.out] at H1 H2
  have f1 : ((mk s).toList == (mk s).toList) = true := by simp
  have HAL := hid alive_any
  have HT := hid hT
  have HIN := hid h
  clear hT h hp
  obtain ⟨ao, c, rfl⟩ := HIN.out.shape
  go_enter Tryd.func5, Tryd.ntmps5
  go_wp2_with first
    | (go_at_call 17; refine H1.out.mono ?_; rintro r w2 ⟨rfl, hb⟩; have HB2 := hid hb; clear hb)
    | (go_at_call 18; refine (H2.out _ (HIN.out.below HB2.out)).mono ?_; rintro r w3 ⟨rfl, hb⟩; have HB3 := hid (HB2.out.trans (hb.mono HB2.out.size)); clear hb)
    | (go_at_call 13; refine (HAL.out _ (HT.out.below HB3.out)).mono ?_; rintro r w4 ⟨rfl, hb4⟩)
  go_ret
  exact ⟨rfl, HB3.out.trans (hb4.mono HB3.out.size)⟩

end Go.Proofs.YtlpengaclkidiaaDoor

/- ScanStops answers true. -/
namespace Go.Proofs.YtlpengaclkidiaaDoor
open Go.RowKit

def kCo : List UInt8 := [99, 111, 110, 115, 116]
theorem ni_const (B : List UInt8) (hl : (kCo ++ 32 :: B).length ≤ 65536) : NI (kCo ++ 32 :: B) := by
  have hn : nmT kCo = true := by decide +kernel
  have hg : gapP (kCo ++ 32 :: B) = 0 := gap_none (nm_head hn)
  have ht : tokP ((kCo ++ 32 :: B).drop 0) = (4, 5, 0) := by
    rw [List.drop_zero, tok_word hn (fun c hc => by simp only [List.head?_cons, Option.some.injEq] at hc; subst hc; decide), if_pos (by decide)]
    rfl
  have hx := nx_at (a := 0) hl (List.drop_zero) (Nat.zero_le _) hg ht
  have ht : ttP (kCo ++ 32 :: B) 0 5 = kCo := rfl
  unfold NI plP
  rw [hx, if_neg (by simp)]
  simp only [Nat.add_zero, Nat.zero_add]
  rw [ht, if_neg (by decide)]
  decide
/-- With of "const ", and more behind it -/
theorem stops_p {L : List (List UInt8 × List UInt8 × Int)} {M : List UInt8} (h : wiP (kCo ++ [32]) L = (M, 0)) (B : List UInt8) (hl : (M ++ B).length ≤ 65536) :
    isP M = (plc 0 L, if L = [] then 0 else (L.flatMap wlP).length - 1, 0, 0) ∧ isP (M ++ B) = (plc 0 L, if L = [] then 0 else (L.flatMap wlP).length - 1, 0, 0) := by
  obtain ⟨h1, h2, _⟩ := back_p h
  refine ⟨h2, ?_⟩
  have h0 : isP (kCo ++ [32]) = ([], 0, 0, 0) := by decide +kernel
  unfold wiP at h
  rw [h0] at h
  simp only [ne_eq, not_true_eq_false, if_false, List.drop_zero] at h
  split at h
  · simp only [Prod.mk.injEq] at h; omega
  · rename_i hok
    have hok : L.all okI = true := by simpa using hok
    split at h
    · simp only [Prod.mk.injEq] at h; omega
    · simp only [Prod.mk.injEq, and_true] at h
      have hM : M ++ B = L.flatMap wlP ++ (kCo ++ 32 :: B) := by rw [← h]; simp [List.append_assoc]
      rw [hM] at hl ⊢
      have hR : (kCo ++ 32 :: B).length ≤ 65536 := by rw [List.length_append] at hl; omega
      have hin := lines_in (ni_const B hR) L [] (Or.inl rfl) hok (by rw [List.nil_append]; exact hl)
      rw [List.nil_append] at hin
      simp only [List.length_nil, Nat.zero_add] at hin
      unfold isP
      rw [if_neg (by omega)]
      exact hin

set_option maxRecDepth 20000 in
set_option maxHeartbeats 4000000 in
theorem stops_any (w : World) (v : Value) (L : List (List UInt8 × List UInt8 × Int)) (B : List UInt8) (hB : B.length ≤ 140737488355328) (hn : L.length ≤ 140737488355328) (hp : ∀ x ∈ L, x.1.length ≤ 140737488355328 ∧ x.2.1.length ≤ 140737488355328) (hT : Tabs w) (h : Incs w v L) :
    Calls Tryd.prog 7 #[v, .string (mk B)] w fun e w' => e = .returned (.bool true) ∧ Below w.heap.size w w' := by
  have HAL := hid (alive_any w hT)
  have H1 := hid (fun W hT h => with_any (kCo ++ [32]) v L hn hp W hT h)
  have HT := hid hT
  have HIN := hid h
  have hzB := mk_size B
  obtain ⟨ao, c, rfl⟩ := h.shape
  by_cases he : (wiP (kCo ++ [32]) L).2 = 0
  · obtain ⟨M, HM⟩ : ∃ M, Hid (wiP (kCo ++ [32]) L = (M, 0)) := ⟨(wiP (kCo ++ [32]) L).1, Prod.ext rfl he⟩
    have hMl := (back_p HM.out).1
    have hzM := mk_size M
    rw [HM.out] at H1
    simp only at H1
    have H1 : Hid (∀ W, Tabs W → Incs W (.slice ao L.length c) L → Calls Tryd.prog 17 #[.string ⟨#[99, 111, 110, 115, 116, 32]⟩, .slice ao L.length c] W fun r w' => r = .returned (.tuple #[.string (mk M), .int .i64 0]) ∧ Below W.heap.size W w') := H1
    by_cases hlong : 65536 < M.length + B.length
    · have q1 : (65536 : Int) < (M.length : Int) + (B.length : Int) := by omega
      have q2 : (M.length : Int) + (B.length : Int) ≤ 9223372036854775807 := by omega
      clear hT h hp he
      go_enter Tryd.func7, Tryd.ntmps7
      go_upto_region 3 with (go_at_call 13; refine HAL.out.mono ?_; rintro r w1 ⟨rfl, hb⟩; have HB1 := hid hb; clear hb)
      go_wp2_with (go_at_call 17; refine (H1.out _ (HT.out.below HB1.out) (HIN.out.below HB1.out)).mono ?_; rintro r w2 ⟨rfl, hb⟩; have HB2 := hid (HB1.out.trans (hb.mono HB1.out.size)); clear hb)
      go_ret
      exact ⟨rfl, HB2.out⟩
    · have q1 : ¬ (65536 : Int) < (M.length : Int) + (B.length : Int) := by omega
      obtain ⟨hiM, hiX⟩ := stops_p HM.out B (by rw [List.length_append]; omega)
      have sa : ∀ W, (Op.stringOp .add (mk M) (mk B)).run Tryd.prog W = .ok (.string (mk (M ++ B))) W := fun W => str_add M B (by omega) W
      obtain ⟨X, HX⟩ : ∃ X, Hid (M ++ B = X) := ⟨_, rfl⟩
      rw [HX.out] at sa hiX
      have H2 := hid (fun W hT => incls_any M W hT)
      have H3 := hid (fun W hT => incls_any X W hT)
      have H4 := hid (fun W hT => head_any X W hT)
      have H5 := hid (fun W hT => head_any M W hT)
      have HLL : (toI (plc 0 L)).length = L.length := by rw [toI_len, plc_len]
      have HS := hid (fun v1 W h1 h2 => rsameF (toI (plc 0 L)) L v1 (.slice ao L.length c) W h1 h2 HLL (fun i hi => plc_get L 0 i (by rw [HLL] at hi; exact hi)) (by rw [HLL]; omega))
      have HST := hid (fun v1 v2 W h1 h2 => rsameT (toI (plc 0 L)) v1 v2 W h1 h2 (by rw [HLL]; omega))
      rw [hiM] at H2 H5
      rw [hiX] at H3 H4
      obtain ⟨hd, HHD⟩ : ∃ hd, Hid ((if L = [] then 0 else (L.flatMap wlP).length - 1) = hd) := ⟨_, rfl⟩
      rw [HHD.out] at H4 H5
      simp only at H2 H3 H4 H5
      obtain ⟨P, HP⟩ : ∃ P, Hid (toI (plc 0 L) = P) := ⟨_, rfl⟩
      rw [HP.out] at H2 H3 HS HST HLL
      have n1 : ∀ W, (binOp .eql 25 (.agg #[.int .i64 0, .int .i64 0]) (.agg #[.int .i64 0, .int .i64 0])).run Tryd.prog W = .ok (.bool true) W := fun W => fault_eql 0 0 0 0 W
      have H2 : Hid (∀ W, Tabs W → Calls Tryd.prog 8 #[.string (mk M)] W fun e w' => ∃ v, e = .returned (.tuple #[v, .agg #[.int .i64 0, .int .i64 0]]) ∧ OwnN w' W.heap.size v P ∧ Below W.heap.size W w') := H2
      have H3 : Hid (∀ W, Tabs W → Calls Tryd.prog 8 #[.string (mk X)] W fun e w' => ∃ v, e = .returned (.tuple #[v, .agg #[.int .i64 0, .int .i64 0]]) ∧ OwnN w' W.heap.size v P ∧ Below W.heap.size W w') := H3
      clear hT h hp he hiM hiX
      go_enter Tryd.func7, Tryd.ntmps7
      go_upto_region 3 with (go_at_call 13; refine HAL.out.mono ?_; rintro r w1 ⟨rfl, hb⟩; have HB1 := hid hb; clear hb)
      go_upto_region 6 with (go_at_call 17; refine (H1.out _ (HT.out.below HB1.out) (HIN.out.below HB1.out)).mono ?_; rintro r w2 ⟨rfl, hb⟩; have HB2 := hid (HB1.out.trans (hb.mono HB1.out.size)); clear hb)
      go_upto_region 7 with (go_at_call 8; refine (H2.out _ (HT.out.below HB2.out)).mono ?_; rintro r w3 ⟨v1, rfl, ho, hb⟩; have HO3 := hid ho; have HB3 := hid (HB2.out.trans (hb.mono HB2.out.size)); obtain ⟨sa1, sc1, hv⟩ := ho.shape; rw [HLL] at hv; subst hv; clear ho hb)
      have HB4 := hid (HB3.out.trans ((below_walk w3 (.cells #[.int .i64 0, .int .i64 0] 25)).mono HB3.out.size))
      have HO4 := hid (HO3.out.below (below_walk w3 (.cells #[.int .i64 0, .int .i64 0] 25)))
      have HF4 := hid (hp_new w3 (.cells #[.int .i64 0, .int .i64 0] 25))
      generalize w3.alloc (.cells #[.int .i64 0, .int .i64 0] 25) = w4 at *
      obtain ⟨g1, HG1⟩ : ∃ g, Hid (w3.heap.size = g) := ⟨_, rfl⟩
      rw [HG1.out] at HF4
      rw [HG1.out]
      go_upto_region 8 with (go_at_call 8; refine (H3.out _ (HT.out.below HB4.out)).mono ?_; rintro r w7 ⟨v2, rfl, ho, hb⟩; have HP7 := hid ho; have HB7 := hid (HB4.out.trans (hb.mono HB4.out.size)); have HO7 := hid (HO4.out.below hb); have HF7 := hid ((hb.block g1 (hp_lt HF4.out)).trans HF4.out); obtain ⟨sa2, sc2, hv⟩ := ho.shape; rw [HLL] at hv; subst hv; clear ho hb)
      have HB8 := hid (HB7.out.trans ((below_walk w7 (.cells #[.int .i64 0, .int .i64 0] 25)).mono HB7.out.size))
      have HO8 := hid (HO7.out.below (below_walk w7 (.cells #[.int .i64 0, .int .i64 0] 25)))
      have HP8 := hid (HP7.out.below (below_walk w7 (.cells #[.int .i64 0, .int .i64 0] 25)))
      have HF8 := hid (((below_walk w7 (.cells #[.int .i64 0, .int .i64 0] 25)).block g1 (hp_lt HF7.out)).trans HF7.out)
      have HK8 := hid (hp_new w7 (.cells #[.int .i64 0, .int .i64 0] 25))
      generalize w7.alloc (.cells #[.int .i64 0, .int .i64 0] 25) = w8 at *
      obtain ⟨g2, HG2⟩ : ∃ g, Hid (w7.heap.size = g) := ⟨_, rfl⟩
      rw [HG2.out] at HK8
      rw [HG2.out]
      have c0 : w8.cell? ⟨g1, 0, none⟩ = some (.int .i64 0) := by rw [cell_of_row _ _ _ _ _ _ HF8.out]; rfl
      have c1 : w8.cell? ⟨g1, 1, none⟩ = some (.int .i64 0) := by rw [cell_of_row _ _ _ _ _ _ HF8.out]; rfl
      have k0 : w8.cell? ⟨g2, 0, none⟩ = some (.int .i64 0) := by rw [cell_of_row _ _ _ _ _ _ HK8.out]; rfl
      have k1 : w8.cell? ⟨g2, 1, none⟩ = some (.int .i64 0) := by rw [cell_of_row _ _ _ _ _ _ HK8.out]; rfl
      go_wp2_with (go_at_call 10; refine (HST.out _ _ _ HO8.out.incs HP8.out.incs).mono ?_; clear HST; rintro r w9 ⟨rfl, q, rfl⟩)
      have bq : Below w8.heap.size w8 (w8.drewN q) := below_drewN (Below.refl _ _) _
      refine (HS.out _ (w8.drewN q) (HO8.out.below bq).incs (HIN.out.below (below_drewN HB8.out q))).mono ?_
      rintro r wx ⟨rfl, q2, rfl⟩
      have HBx : Hid (Below w.heap.size w ((w8.drewN q).drewN q2)) := hid (below_drewN (below_drewN HB8.out q) q2)
      clear bq HS c0 c1 k0 k1
      generalize (w8.drewN q).drewN q2 = wy at *
      go_wp2_with (go_at_call 11; refine (H4.out _ (HT.out.below HBx.out)).mono ?_; clear H4; rintro r wa ⟨rfl, hb⟩; have HBa := hid (HBx.out.trans (hb.mono HBx.out.size)); clear hb)
      refine (H5.out wa (HT.out.below HBa.out)).mono ?_
      rintro r wb ⟨rfl, hb⟩
      have HBb := hid (HBa.out.trans (hb.mono HBa.out.size))
      clear hb H5
      go_wp2
      go_ret
      exact ⟨rfl, HBb.out⟩
  · obtain ⟨e, HE⟩ : ∃ e, Hid ((wiP (kCo ++ [32]) L).2 = e) := ⟨(wiP (kCo ++ [32]) L).2, hid rfl⟩
    obtain ⟨s, HSS⟩ : ∃ s, Hid ((wiP (kCo ++ [32]) L).1 = s) := ⟨(wiP (kCo ++ [32]) L).1, hid rfl⟩
    rw [HSS.out, HE.out] at H1
    rw [HE.out] at he
    have he0 : ¬ e = 0 := he
    have he1 : (e == 0) = false := by rw [beq_eq_false_iff_ne]; exact he
    have H1 : Hid (∀ W, Tabs W → Incs W (.slice ao L.length c) L → Calls Tryd.prog 17 #[.string ⟨#[99, 111, 110, 115, 116, 32]⟩, .slice ao L.length c] W fun r w' => r = .returned (.tuple #[.string (mk s), .int .i64 e]) ∧ Below W.heap.size W w') := H1
    clear hT h hp he
    go_enter Tryd.func7, Tryd.ntmps7
    go_upto_region 3 with (go_at_call 13; refine HAL.out.mono ?_; rintro r w1 ⟨rfl, hb⟩; have HB1 := hid hb; clear hb)
    go_wp2_with (go_at_call 17; refine (H1.out _ (HT.out.below HB1.out) (HIN.out.below HB1.out)).mono ?_; rintro r w2 ⟨rfl, hb⟩; have HB2 := hid (HB1.out.trans (hb.mono HB1.out.size)); clear hb)
    go_ret
    exact ⟨rfl, HB2.out⟩

end Go.Proofs.YtlpengaclkidiaaDoor

/- Includes out of their reading, in the full form. -/
namespace Go.Proofs.YtlpengaclkidiaaDoor
open Go.ChangeShapes Go.WideShapes Go.ChangeAt Go.RowKit

theorem cellsInc : Tryd.prog.cellsOf 35 = 3 := by kernel_rfl
theorem cellsInt : Tryd.prog.cellsOf 3 = 1 := by kernel_rfl
theorem cellsStr : Tryd.prog.cellsOf 9 = 1 := by kernel_rfl
theorem bytesInc : Tryd.prog.bytesOf 35 = 40 := by kernel_rfl
theorem three_of {α : Type} {l : List α} (h : l.length = 3) : ∃ a b c, l = [a, b, c] := by
  match l, h with
  | [a, b, c], _ => exact ⟨a, b, c, rfl⟩
theorem addr_plain {w : World} {a : Addr} {v : Value} (h : w.cell? a = some v) : a = ⟨a.block, a.off, none⟩ := by
  obtain ⟨b, o, sp⟩ := a
  cases sp with
  | none => rfl
  | some s =>
    unfold World.cell? at h
    split at h <;> simp at h
theorem add_plain (b o j : Nat) : (⟨b, o, none⟩ : Addr).add j = ⟨b, o + j, none⟩ := by
  by_cases h : j = 0
  · subst h; simp [Addr.add]
  · simp [Addr.add, h]
theorem list_of {α : Type} {P : Nat → α → Prop} : ∀ {n : Nat}, (∀ i, i < n → ∃ x, P i x) → ∃ l : List α, l.length = n ∧ ∀ j x, l[j]? = some x → P j x
  | 0, _ => ⟨[], rfl, by intro j x h; simp at h⟩
  | n + 1, h => by
    obtain ⟨l, hl, hp⟩ := list_of (n := n) (fun i hi => h i (by omega))
    obtain ⟨x, hx⟩ := h n (by omega)
    refine ⟨l ++ [x], by simp [hl], fun j y hj => ?_⟩
    rcases Nat.lt_or_ge j n with hjn | hjn
    · rw [List.getElem?_append_left (by omega)] at hj
      exact hp j y hj
    · rw [List.getElem?_append_right (by omega)] at hj
      have : j - l.length = 0 := by
        rcases Nat.eq_zero_or_pos (j - l.length) with h0 | h0
        · exact h0
        · rw [List.getElem?_eq_none (by simp; omega)] at hj; cases hj
      rw [this] at hj
      simp at hj
      subst hj
      obtain rfl : j = n := by omega
      exact hx
theorem weightsAll_mem {H : Type} {P : Program} {e : TypeId} : ∀ {l : List (DataW H)} {d : DataW H}, d ∈ l → ∀ n ∈ d.weights P e, n ∈ DataW.weightsAll P e l
  | d' :: r, d, hd, n, hn => by
    simp only [DataW.weightsAll, List.mem_append]
    rcases List.mem_cons.1 hd with rfl | h
    · exact Or.inl hn
    · exact Or.inr (weightsAll_mem h n hn)


section
variable {H : Type} {enc : TypeId × Value → H} {W : World} {spare : Nat → Bool} {held : Bool}
theorem sized_at {ts : List TypeId} {ds : List (DataW H)} (h : ((DataW.weightsEach Tryd.prog ts ds).all fun x => decide (x ≤ reachBytes)) = true) {j : Nat} {t : TypeId} {d : DataW H} (ht : ts[j]? = some t) (hd : ds[j]? = some d) : ∀ x ∈ d.weights Tryd.prog t, x ≤ reachBytes :=
  fun x hx => of_decide_eq_true (List.all_eq_true.1 h _ (DataW.weights_mem_each ht hd x hx))

/-- one entry -/
theorem inc_w {fuel : Nat} {cs : List Value} {x : DataW H × List MemPlace} (h : DataW.trod enc Tryd.prog W 0 spare held fuel 35 cs = some x) (hk : ∀ n ∈ x.1.weights Tryd.prog 35, n ≤ reachBytes) :
    ∃ e : List UInt8 × List UInt8 × Int, cs = icC e ∧ e.1.length ≤ reachBytes ∧ e.2.1.length ≤ reachBytes := by
  obtain ⟨y0, y1, y2, n, hx, hl, t0, t1, t2⟩ := Go.Deep.trod_struct3 Tryd.underlying35 h
  rw [cellsInc] at hl
  obtain ⟨a, b, c, rfl⟩ := three_of hl
  simp only [cellsStr, cellsInt] at t0 t1 t2
  obtain ⟨s0, e0, f0, _⟩ := DataW.trod_string Tryd.underlying9 t0
  obtain ⟨s2, e1, f2, _⟩ := DataW.trod_string Tryd.underlying9 t1
  obtain ⟨K, e2, f1⟩ := DataW.trod_int Tryd.underlying3 t2
  simp at e0 e1 e2
  subst e0 e1 e2
  rw [hx, f0, f2] at hk
  refine ⟨(bl s0, bl s2, K), by unfold icC; rw [mk_bl, mk_bl], ?_, ?_⟩
  · refine hk _ ?_
    simp [DataW.weights, DataW.weightsEach, Tryd.underlying35, bl_eq]
  · refine hk _ ?_
    simp [DataW.weights, DataW.weightsEach, Tryd.underlying35, bl_eq]

set_option maxRecDepth 100000 in
theorem incs_w {ao : Option Addr} {n c : Nat} {d : DataW H} {pl : List MemPlace} (h : DataW.Trod enc Tryd.prog W 0 spare held 22 (.slice ao n c) d pl) (hk : ∀ x ∈ d.weights Tryd.prog 22, x ≤ reachBytes) :
    ∃ es : List (List UInt8 × List UInt8 × Int), Incs W (.slice ao n c) es ∧ (∀ x ∈ es, x.1.length ≤ 140737488355328 ∧ x.2.1.length ≤ 140737488355328) ∧ es.length ≤ 3518437208883 := by
  have hr : reachBytes < 2 ^ 47 := reachBytes_lt
  obtain ⟨fuel, hf⟩ := h
  rcases Go.Deep.open_slice Tryd.underlying22 hf with ⟨hcs, _⟩ | ⟨a, len, cap, m, n', D, Pl, hcs, _, hl, hm, hmm, hx, hel⟩
  · simp [Value.cells] at hcs
    obtain ⟨rfl, rfl, rfl⟩ := hcs
    exact ⟨[], Or.inl ⟨_, _, rfl, rfl, fun _ => rfl⟩, fun e h => (by cases h), by simp⟩
  · simp [Value.cells] at hcs
    obtain ⟨rfl, rfl, rfl⟩ := hcs
    have hlm : n ≤ m := by rw [hmm]; split <;> omega
    rw [cellsInc] at hel
    simp only [Prod.mk.injEq] at hx
    obtain ⟨rfl, _⟩ := hx
    have hn : n ≤ 3518437208883 := by
      have := hk (((List.range n).map D).length * Tryd.prog.bytesOf 35 + ((List.range (m - n)).map fun j => D (n + j)).length * Tryd.prog.bytesOf 35) (by simp [DataW.weights, Tryd.underlying22, Nat.add_mul])
      rw [bytesInc] at this
      simp at this
      omega
    have hw : ∀ i, i < n → ∀ x ∈ (D i).weights Tryd.prog 35, x ≤ reachBytes := fun i hi x hxm => hk x (by
      simp only [DataW.weights, Tryd.underlying22, List.mem_cons, List.mem_append]
      exact Or.inr (Or.inl (weightsAll_mem (List.mem_map.2 ⟨i, List.mem_range.2 hi, rfl⟩) x hxm)))
    obtain ⟨es, hes, hp⟩ := list_of (P := fun i (e : List UInt8 × List UInt8 × Int) => W.cell? (a.add (i * 3)) = some (.string (mk e.1)) ∧ W.cell? ((a.add (i * 3)).add 1) = some (.string (mk e.2.1)) ∧ W.cell? ((a.add (i * 3)).add 2) = some (.int .i64 e.2.2) ∧ e.1.length ≤ reachBytes ∧ e.2.1.length ≤ reachBytes) (n := n) (by
      intro i hi
      obtain ⟨cs', hc, ht⟩ := hel i (by omega)
      obtain ⟨e, rfl, hb⟩ := inc_w ht (hw i hi)
      have hh := World.cells?_some hc
      exact ⟨e, by simpa [Addr.add, icC] using hh.2.2 0 (by omega), by simpa [icC] using hh.2.2 1 (by omega), by simpa [icC] using hh.2.2 2 (by omega), hb⟩)
    refine ⟨es, ?_, ?_, by omega⟩
    · rcases Nat.eq_zero_or_pos n with rfl | hpos
      · exact Or.inl ⟨_, _, rfl, List.length_eq_zero_iff.1 hes, fun e => by cases e⟩
      · have hg : ∀ j, j < n → es[j]? = some (es.getD j noI) := fun j hj => by rw [List.getD_eq_getElem?_getD, List.getElem?_eq_getElem (show j < es.length by omega)]; rfl
        have h0 := (hp 0 _ (hg 0 hpos)).1
        have ha : a = ⟨a.block, a.off, none⟩ := addr_plain (v := .string (mk (es.getD 0 noI).1)) (by simpa [Addr.add] using h0)
        have hlt : a.block < W.heap.size := World.block_lt_of_cell? W a (u := .string (mk (es.getD 0 noI).1)) (by simpa [Addr.add] using h0)
        generalize a.block = g at ha hlt
        generalize a.off = o at ha
        subst ha
        refine Or.inr ⟨g, o, c, by rw [hes], hlt, by rw [hes]; exact hl, fun j hj => ?_⟩
        obtain ⟨c0, c1, c2, _⟩ := hp j _ (hg j (by omega))
        simp only [add_plain] at c0 c1 c2
        exact ⟨c0, c1, c2⟩
    · intro e he
      obtain ⟨j, hj, rfl⟩ := List.mem_iff_getElem.1 he
      have h1 := (hp j _ (List.getElem?_eq_getElem hj)).2.2.2
      omega
end

end Go.Proofs.YtlpengaclkidiaaDoor

/- From what the rows list of the program's tables of texts to what the walks ask of the world. -/
namespace Go.Proofs.YtlpengaclkidiaaDoor
open Go.RowKit

def strD {H : Type} (ts : List (List UInt8)) : DataW H := .agg (ts.map fun t => .lit (.string t))
theorem cells_of_strs {H : Type} {enc : TypeId × Value → H} {P : Program} {w : World} {base : Nat} {sp : Nat → Bool} {held : Bool} {fuel : Nat} {t e : TypeId} {n : Nat} {cs : List Value} {ts : List (List UInt8)} {p : List MemPlace}
    (ht : P.underlying t = some (.array n e)) (he : P.underlying e = some .string) (hce : P.cellsOf e = 1) (hct : P.cellsOf t = n)
    (h : DataW.trod enc P w base sp held fuel t cs = some (strD ts, p)) : cs = strV ts := by
  cases fuel with
  | zero => simp [DataW.trod] at h
  | succ fuel =>
    simp only [DataW.trod, ht, hce, hct, Nat.mul_one] at h
    split at h
    · rename_i hl
      obtain ⟨xs, hm, hx⟩ := Option.map_eq_some_iff.1 h
      have hxs : xs.map (·.1) = ts.map fun z => (DataW.lit (.string z) : DataW H) := by
        have := congrArg Prod.fst hx
        simpa [strD] using this
      have hxl : xs.length = n := by simpa using Lib.mapM_length hm
      have hzl : ts.length = n := by
        have := congrArg List.length hxs
        simp at this
        omega
      apply List.ext_getElem?
      intro i
      by_cases hi : i < n
      · obtain ⟨b, hb, hf⟩ := Lib.mapM_at hm i i (by simp [hi])
        obtain ⟨s, hc, rfl, _⟩ := DataW.trod_string he hf
        have h1 : cs[i]? = some (.string s) := by
          have := congrArg (·[0]?) hc
          simpa [List.getElem?_take, List.getElem?_drop] using this
        have h2 : (xs.map (·.1))[i]? = some (DataW.lit (.string s.data.toList) : DataW H) := by simp [hb]
        rw [hxs] at h2
        simp only [List.getElem?_map, Option.map_eq_some_iff, DataW.lit.injEq, Lit.string.injEq] at h2
        obtain ⟨z', hz', he'⟩ := h2
        rw [h1]
        simp only [strV, List.getElem?_map, hz', Option.map_some, Option.some.injEq, Value.string.injEq]
        rw [he', ← bl_eq, mk_bl]
      · rw [List.getElem?_eq_none (by omega), List.getElem?_eq_none (by rw [strV_length]; omega)]
    · cases h
theorem strs_of_reads {P : Program} {w : World} {name : String} {d : DataW Unit} (hr : Lib.VarReads P w name d) (ts : List (List UInt8)) (g0 : Nat) (t e : TypeId) (n : Nat) (hg : P.globalNamed name = some g0) (hty : (P.globals[g0]?).map (·.type) = some t)
    (ht : P.underlying t = some (.array n e)) (he : P.underlying e = some .string) (hce : P.cellsOf e = 1) (hct : P.cellsOf t = n) (hd : d = strD ts) : w.rangeAt g0 0 (strV ts) ∧ g0 < w.heap.size := by
  obtain ⟨g, t', cs, fuel, p, h1, h2, h3, h4⟩ := hr
  obtain rfl : g0 = g := by rw [hg] at h1; exact Option.some.inj h1
  obtain rfl : t = t' := by rw [hty] at h2; exact Option.some.inj h2
  subst hd
  have hcs := cells_of_strs ht he hce hct h4
  unfold World.var? at h3
  rw [hg] at h3
  simp only [Option.bind_some] at h3
  cases hb : w.heap[g0]? with
  | none => rw [hb] at h3; cases h3
  | some o =>
    rw [hb] at h3
    refine ⟨?_, hp_lt hb⟩
    intro j v hv
    rw [Nat.zero_add]
    cases o with
    | cells C ty fr =>
      simp only [Option.some.injEq] at h3
      subst h3
      rw [cell_of_row w g0 j _ _ _ hb]
      have : C.toList[j]? = some v := by rw [hcs]; exact hv
      simpa using this
    | _ => cases h3

end Go.Proofs.YtlpengaclkidiaaDoor
